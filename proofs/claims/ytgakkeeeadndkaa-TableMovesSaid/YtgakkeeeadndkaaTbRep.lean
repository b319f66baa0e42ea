/-
  Layer 10: how the code's table lies in memory: a block for the table, one for what its closure counts, the list's.
-/
import Derived.Test.YtgakkeeeadndkaaTbDraw
import Derived.Test.YtgakkeeeadndkaaRange
set_option linter.unusedVariables false
namespace Go.Proofs.Ytgakkeeeadndkaa
open Go.RowKit

section
variable {V V' w : World} {q : Nat} {l : List Kv} {F : Nat → Prop} {key : ByteArray}
theorem skA_put (h : (skA q l).p V F) (vs : ByteArray) (s : Int) (hl : l.length ≤ 1000000000) (hs1 : -9223372036854775808 ≤ s) (hs2 : s ≤ 9223372036854775807) (hks : key.size ≤ 281474976710656) :
    Calls Try.prog 56 #[pt q, .string key, .string vs, .int .i64 s] V fun e w' => (∃ v, e = .returned v) ∧ ∃ F', (skA q (kputI l key (.string vs) s)).p w' F' ∧ Grow F V w' ∧ ∀ k, F' k → nF F V w' k := by
  obtain ⟨h', L, g, hR, rfl, hF⟩ := h
  refine (sk_put z9 q h' L g key vs s V hR (by rw [kvs_len] at hl; exact hl) hs1 hs2 hks).mono ?_
  rintro e w' ⟨rfl, L', g', hR', e2, hG, hN⟩
  exact ⟨⟨_, rfl⟩, skF q h' L', ⟨h', L', g', hR', e2, fun k => Iff.rfl⟩, hG.mono (fun k e => (hF k).2 e), fun k e => (hN k e).imp (fun e => (hF k).2 e) id⟩
theorem skA_drop (h : (skA q l).p V F) (key : ByteArray) (hl : l.length ≤ 1000000000) :
    Calls Try.prog 51 #[pt q, .string key] V fun e w' => (∃ v, e = .returned v) ∧ ∃ F', (skA q (kdrop l key)).p w' F' ∧ Grow F V w' ∧ ∀ k, F' k → nF F V w' k := by
  obtain ⟨h', L, g, hR, rfl, hF⟩ := h
  refine (sk_drop z9 q h' L g key V hR (by rw [kvs_len] at hl; exact hl)).mono ?_
  rintro e w' ⟨rfl, L', g', hR', e2, hG, hN⟩
  exact ⟨⟨_, rfl⟩, skF q h' L', ⟨h', L', g', hR', e2, fun k => Iff.rfl⟩, hG.mono (fun k e => (hF k).2 e), fun k e => (hN k e).imp (fun e => (hF k).2 e) id⟩
theorem skA_get (h : (skA q l).p V F) (key : ByteArray) : Calls Try.prog 42 #[pt q, .string key] V fun e w' => e = .returned (.tuple #[kval z9 l key, .bool (khas l key)]) ∧ Below V.heap.size V w' := by
  obtain ⟨h', L, g, hR, rfl, hF⟩ := h
  exact sk_get z9 rfl q h' L g key V hR
theorem skA_first (h : (skA q l).p V F) (key : ByteArray) : Calls Try.prog 45 #[pt q, .string key] V fun e w' => e = .returned (firstV l key) ∧ Below V.heap.size V w' := by
  obtain ⟨h', L, g, hR, rfl, hF⟩ := h
  exact sk_first z9 q h' L g key V hR
theorem skA_last (h : (skA q l).p V F) (key : ByteArray) : Calls Try.prog 48 #[pt q, .string key] V fun e w' => e = .returned (lastV l key) ∧ Below V.heap.size V w' := by
  obtain ⟨h', L, g, hR, rfl, hF⟩ := h
  exact sk_last z9 q h' L g key V hR
theorem skA_len (h : (skA q l).p V F) : Calls Try.prog 41 #[pt q] V fun e w' => e = .returned (.int .i64 (l.length : Int)) ∧ w' = V := by
  obtain ⟨h', L, g, hR, rfl, hF⟩ := h
  exact sk_len z9 q h' L g V hR
theorem skA_sor (h : (skA q l).p V F) : Sor l := by
  obtain ⟨h', L, g, hR, rfl, hF⟩ := h
  exact hR.sor
/-- A block of cells. -/
def Cel (V : World) (F : Nat → Prop) : Prop := ∀ k, F k → ∃ o, V.heap[k]? = some o ∧ o.isCells = true
theorem Blk.cel {g : Nat} {t : TypeId} {cs : Array Value} (h : Blk V g t cs) : ∃ o, V.heap[g]? = some o ∧ o.isCells = true := ⟨_, h, rfl⟩
theorem skA_cel (h : (skA q l).p V F) : Cel V F := by
  obtain ⟨h', L, g, hR, rfl, hF⟩ := h
  intro k e
  rcases (hF k).1 e with e | e | e
  · subst e; exact hR.mem.obj.cel
  · subst e; exact hR.mem.head.cel
  · obtain ⟨x, hx, rfl⟩ := List.mem_map.1 e
    exact (hR.mem.node x hx).cel
end

abbrev fnT (s : Nat) : Value := .func (.func 49) #[] #[pt s]
structure TbP (V : World) (p q s : Nat) (m : Int) (l : List Kv) (F2 : Nat → Prop) : Prop where
  obj : Blk V p 65 #[pt q, fnT s]
  st : Blk V s 79 #[.int .u64 m]
  sk : (skA q l).p V F2
  strs : Strs l
  ne : p ≠ s
  ap : ∀ k, F2 k → k ≠ p ∧ k ≠ s
def tbF (p s : Nat) (F2 : Nat → Prop) : Nat → Prop := fun k => k = p ∨ k = s ∨ F2 k
section
variable {V V' w : World} {p q s : Nat} {m : Int} {l l' : List Kv} {F F2 F2' : Nat → Prop}
theorem TbP.on (h : TbP V p q s m l F2) (hs : V.heap.size ≤ V'.heap.size) (hk : ∀ k, tbF p s F2 k → V'.heap[k]? = V.heap[k]?) : TbP V' p q s m l F2 :=
  ⟨(hk p (.inl rfl)).trans h.obj, (hk s (.inr (.inl rfl))).trans h.st, (skA q l).on h.sk hs (fun k e => hk k (.inr (.inr e))), h.strs, h.ne, h.ap⟩
theorem TbP.lt (h : TbP V p q s m l F2) {k : Nat} (e : tbF p s F2 k) : k < V.heap.size := by
  rcases e with rfl | rfl | e
  · exact h.obj.lt
  · exact h.st.lt
  · exact (skA q l).lt h.sk k e
theorem TbP.below (h : TbP V p q s m l F2) (hb : Below V.heap.size V V') : TbP V' p q s m l F2 := h.on hb.size (fun k e => hb.block k (h.lt e))
theorem TbP.cel (h : TbP V p q s m l F2) : Cel V (tbF p s F2) := by
  intro k e
  rcases e with rfl | rfl | e
  · exact h.obj.cel
  · exact h.st.cel
  · exact skA_cel h.sk k e
theorem TbP.setM (h : TbP V p q s m l F2) (m' : Int) : TbP (V.setCell ⟨s, 0, none⟩ (.int .u64 m')) p q s m' l F2 ∧ Grow (tbF p s F2) V (V.setCell ⟨s, 0, none⟩ (.int .u64 m')) := by
  refine ⟨⟨(heap_setNe h.ne _).trans h.obj, h.st.set_ 0 _, (skA q l).on h.sk (by simp [World.setCell]) (fun k e => heap_setNe (h.ap k e).2 _), h.strs, h.ne, h.ap⟩, (Grow.refl _ _).set (.inr (.inl rfl) |> .inl) _⟩
/-- The list turns. -/
theorem TbP.turn (h : TbP V p q s m l F2) (hg : Grow F2 V V') (hs : (skA q l').p V' F2') (hn : ∀ k, F2' k → nF F2 V V' k) (ht : Strs l') :
    TbP V' p q s m l' F2' ∧ Grow (tbF p s F2) V V' ∧ ∀ k, tbF p s F2' k → nF (tbF p s F2) V V' k := by
  have h1 := h.obj.lt
  have h2 := h.st.lt
  refine ⟨⟨(hg.block p h1 (fun e => (h.ap p e).1 rfl)).trans h.obj, (hg.block s h2 (fun e => (h.ap s e).2 rfl)).trans h.st, hs, ht, h.ne, fun k e => ?_⟩, hg.mono (fun k e => .inr (.inr e)), fun k e => ?_⟩
  · rcases hn k e with e | e
    · exact h.ap k e
    · exact ⟨by omega, by omega⟩
  · rcases e with e | e | e
    · exact .inl (.inl e)
    · exact .inl (.inr (.inl e))
    · exact (hn k e).imp (fun e => .inr (.inr e)) id
end
/-- The code's table, as rows. -/
def tbA (p : Nat) (r : List Rw) : As where
  p V F := ∃ q s m l F2, TbP V p q s m l F2 ∧ tab l = r ∧ ∀ k, F k ↔ tbF p s F2 k
  on {V V' F} h hs hk := by
    obtain ⟨q, s, m, l, F2, h1, e, hF⟩ := h
    exact ⟨q, s, m, l, F2, h1.on hs (fun k e => hk k ((hF k).2 e)), e, hF⟩
  lt {V F} h k e := by
    obtain ⟨q, s, m, l, F2, h1, _, hF⟩ := h
    exact h1.lt ((hF k).1 e)
theorem tbA_cel {V : World} {p : Nat} {r : List Rw} {F : Nat → Prop} (h : (tbA p r).p V F) : Cel V F := by
  obtain ⟨q, s, m, l, F2, h1, _, hF⟩ := h
  exact fun k e => h1.cel k ((hF k).1 e)
theorem tbA_sor {V : World} {p : Nat} {r : List Rw} {F : Nat → Prop} (h : (tbA p r).p V F) : RSor r := by
  obtain ⟨q, s, m, l, F2, h1, rfl, hF⟩ := h
  exact (tab_sor l).2 (skA_sor h1.sk)
/-- What a call makes of a table. -/
def TbTurns (p : Nat) (r' : List Rw) (F : Nat → Prop) (V w' : World) : Prop := ∃ F', (tbA p r').p w' F' ∧ Grow F V w' ∧ ∀ k, F' k → nF F V w' k
theorem TbTurns.trans {p : Nat} {r1 r2 : List Rw} {F : Nat → Prop} {V V1 V2 : World} (h : TbTurns p r1 F V V1) (h2 : ∀ F1, (tbA p r1).p V1 F1 → TbTurns p r2 F1 V1 V2) : TbTurns p r2 F V V2 := by
  obtain ⟨F1, a1, g1, n1⟩ := h
  obtain ⟨F2, a2, g2, n2⟩ := h2 F1 a1
  refine ⟨F2, a2, g1.trans (g2.mono n1), fun k e => ?_⟩
  rw [← nF_trans g1.size g2.size]
  exact (n2 k e).imp (n1 k) id
theorem TbTurns.refl {p : Nat} {r : List Rw} {F : Nat → Prop} {V : World} (h : (tbA p r).p V F) : TbTurns p r F V V := ⟨F, h, Grow.refl _ _, fun k e => .inl e⟩
theorem TbTurns.below {p : Nat} {r : List Rw} {F : Nat → Prop} {V V' : World} (h : (tbA p r).p V F) (hb : Below V.heap.size V V') : TbTurns p r F V V' :=
  ⟨F, (tbA p r).on h hb.size (fun k e => hb.block k ((tbA p r).lt h k e)), Grow.of_below hb, fun k e => .inl e⟩
end Go.Proofs.Ytgakkeeeadndkaa
