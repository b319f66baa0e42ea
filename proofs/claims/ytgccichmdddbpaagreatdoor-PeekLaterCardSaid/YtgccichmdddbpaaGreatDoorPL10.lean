/-
  Layer 10: how the code's table lies in memory: a block for the table, one for what its closure counts, the list's.
  Layer 10, the code: New, put, change, checkBatch, Apply, Get, Len.
  Layer 10, the code: change, checkBatch, Apply, Get, Len.
  Layer 10, the code: checkBatch, Apply, Get, Len.
-/
import Derived.Test.YtgccichmdddbpaaGreatDoorPL08
import Derived.Test.YtgccichmdddbpaaGreatDoorPL09
import Derived.Test.YtgccichmdddbpaaGreatDoorPL06
import Derived.Deep.RegionHeld3
import Derived.StillTailTactics
set_option linter.unusedVariables false
namespace Go.Proofs.YtgccichmdddbpaaGreatDoor
open Go.RowKit

section
variable {V V' w : World} {q : Nat} {l : List Kv} {F : Nat → Prop} {key : ByteArray}
theorem skA_put (h : (skA q l).p V F) (vs : ByteArray) (s : Int) (hl : l.length ≤ 1000000000) (hs1 : -9223372036854775808 ≤ s) (hs2 : s ≤ 9223372036854775807) (hks : key.size ≤ 281474976710656) :
    Calls Tryz.prog 164 #[pt q, .string key, .string vs, .int .i64 s] V fun e w' => (∃ v, e = .returned v) ∧ ∃ F', (skA q (kputI l key (.string vs) s)).p w' F' ∧ Grow F V w' ∧ ∀ k, F' k → nF F V w' k := by
  obtain ⟨h', L, g, hR, rfl, hF⟩ := h
  refine (sk_put z9 q h' L g key vs s V hR (by rw [kvs_len] at hl; exact hl) hs1 hs2 hks).mono ?_
  rintro e w' ⟨rfl, L', g', hR', e2, hG, hN⟩
  exact ⟨⟨_, rfl⟩, skF q h' L', ⟨h', L', g', hR', e2, fun k => Iff.rfl⟩, hG.mono (fun k e => (hF k).2 e), fun k e => (hN k e).imp (fun e => (hF k).2 e) id⟩
theorem skA_drop (h : (skA q l).p V F) (key : ByteArray) (hl : l.length ≤ 1000000000) :
    Calls Tryz.prog 109 #[pt q, .string key] V fun e w' => (∃ v, e = .returned v) ∧ ∃ F', (skA q (kdrop l key)).p w' F' ∧ Grow F V w' ∧ ∀ k, F' k → nF F V w' k := by
  obtain ⟨h', L, g, hR, rfl, hF⟩ := h
  refine (sk_drop z9 q h' L g key V hR (by rw [kvs_len] at hl; exact hl)).mono ?_
  rintro e w' ⟨rfl, L', g', hR', e2, hG, hN⟩
  exact ⟨⟨_, rfl⟩, skF q h' L', ⟨h', L', g', hR', e2, fun k => Iff.rfl⟩, hG.mono (fun k e => (hF k).2 e), fun k e => (hN k e).imp (fun e => (hF k).2 e) id⟩
theorem skA_get (h : (skA q l).p V F) (key : ByteArray) : Calls Tryz.prog 70 #[pt q, .string key] V fun e w' => e = .returned (.tuple #[kval z9 l key, .bool (khas l key)]) ∧ Below V.heap.size V w' := by
  obtain ⟨h', L, g, hR, rfl, hF⟩ := h
  exact sk_get z9 rfl q h' L g key V hR
theorem skA_first (h : (skA q l).p V F) (key : ByteArray) : Calls Tryz.prog 108 #[pt q, .string key] V fun e w' => e = .returned (firstV l key) ∧ Below V.heap.size V w' := by
  obtain ⟨h', L, g, hR, rfl, hF⟩ := h
  exact sk_first z9 q h' L g key V hR
theorem skA_sor (h : (skA q l).p V F) : Sor l := by
  obtain ⟨h', L, g, hR, rfl, hF⟩ := h
  exact hR.sor
/-- A block of cells. -/
def Cel (V : World) (F : Nat → Prop) : Prop := ∀ k, F k → ∃ o, V.heap[k]? = some o ∧ o.isCells = true
theorem Blk.cel {g : Nat} {t : TypeId} {cs : Array Value} (h : Blk V g t cs) : ∃ o, V.heap[g]? = some o ∧ o.isCells = true := ⟨_, h, rfl⟩
theorem skA_cel (h : (skA q l).p V F) : Cel V F := by
  obtain ⟨h', L, g, hR, rfl, hF⟩ := h
  intro k e
  rcases (hF k).1 e with e | e | e
  · subst e; exact hR.mem.obj.cel
  · subst e; exact hR.mem.head.cel
  · obtain ⟨x, hx, rfl⟩ := List.mem_map.1 e
    exact (hR.mem.node x hx).cel
end

abbrev fnT (s : Nat) : Value := .func (.func 132) #[] #[pt s]
structure TbP (V : World) (p q s : Nat) (m : Int) (l : List Kv) (F2 : Nat → Prop) : Prop where
  obj : Blk V p 154 #[pt q, fnT s]
  st : Blk V s 196 #[.int .u64 m]
  sk : (skA q l).p V F2
  strs : Strs l
  ne : p ≠ s
  ap : ∀ k, F2 k → k ≠ p ∧ k ≠ s
def tbF (p s : Nat) (F2 : Nat → Prop) : Nat → Prop := fun k => k = p ∨ k = s ∨ F2 k
section
variable {V V' w : World} {p q s : Nat} {m : Int} {l l' : List Kv} {F F2 F2' : Nat → Prop}
theorem TbP.on (h : TbP V p q s m l F2) (hs : V.heap.size ≤ V'.heap.size) (hk : ∀ k, tbF p s F2 k → V'.heap[k]? = V.heap[k]?) : TbP V' p q s m l F2 :=
  ⟨(hk p (.inl rfl)).trans h.obj, (hk s (.inr (.inl rfl))).trans h.st, (skA q l).on h.sk hs (fun k e => hk k (.inr (.inr e))), h.strs, h.ne, h.ap⟩
theorem TbP.lt (h : TbP V p q s m l F2) {k : Nat} (e : tbF p s F2 k) : k < V.heap.size := by
  rcases e with rfl | rfl | e
  · exact h.obj.lt
  · exact h.st.lt
  · exact (skA q l).lt h.sk k e
theorem TbP.below (h : TbP V p q s m l F2) (hb : Below V.heap.size V V') : TbP V' p q s m l F2 := h.on hb.size (fun k e => hb.block k (h.lt e))
theorem TbP.cel (h : TbP V p q s m l F2) : Cel V (tbF p s F2) := by
  intro k e
  rcases e with rfl | rfl | e
  · exact h.obj.cel
  · exact h.st.cel
  · exact skA_cel h.sk k e
theorem TbP.setM (h : TbP V p q s m l F2) (m' : Int) : TbP (V.setCell ⟨s, 0, none⟩ (.int .u64 m')) p q s m' l F2 ∧ Grow (tbF p s F2) V (V.setCell ⟨s, 0, none⟩ (.int .u64 m')) := by
  refine ⟨⟨(heap_setNe h.ne _).trans h.obj, h.st.set_ 0 _, (skA q l).on h.sk (by simp [World.setCell]) (fun k e => heap_setNe (h.ap k e).2 _), h.strs, h.ne, h.ap⟩, (Grow.refl _ _).set (.inr (.inl rfl) |> .inl) _⟩
/-- The list turns. -/
theorem TbP.turn (h : TbP V p q s m l F2) (hg : Grow F2 V V') (hs : (skA q l').p V' F2') (hn : ∀ k, F2' k → nF F2 V V' k) (ht : Strs l') :
    TbP V' p q s m l' F2' ∧ Grow (tbF p s F2) V V' ∧ ∀ k, tbF p s F2' k → nF (tbF p s F2) V V' k := by
  have h1 := h.obj.lt
  have h2 := h.st.lt
  refine ⟨⟨(hg.block p h1 (fun e => (h.ap p e).1 rfl)).trans h.obj, (hg.block s h2 (fun e => (h.ap s e).2 rfl)).trans h.st, hs, ht, h.ne, fun k e => ?_⟩, hg.mono (fun k e => .inr (.inr e)), fun k e => ?_⟩
  · rcases hn k e with e | e
    · exact h.ap k e
    · exact ⟨by omega, by omega⟩
  · rcases e with e | e | e
    · exact .inl (.inl e)
    · exact .inl (.inr (.inl e))
    · exact (hn k e).imp (fun e => .inr (.inr e)) id
end
/-- The code's table, as rows. -/
def tbA (p : Nat) (r : List Rw) : As where
  p V F := ∃ q s m l F2, TbP V p q s m l F2 ∧ tab l = r ∧ ∀ k, F k ↔ tbF p s F2 k
  on {V V' F} h hs hk := by
    obtain ⟨q, s, m, l, F2, h1, e, hF⟩ := h
    exact ⟨q, s, m, l, F2, h1.on hs (fun k e => hk k ((hF k).2 e)), e, hF⟩
  lt {V F} h k e := by
    obtain ⟨q, s, m, l, F2, h1, _, hF⟩ := h
    exact h1.lt ((hF k).1 e)
theorem tbA_cel {V : World} {p : Nat} {r : List Rw} {F : Nat → Prop} (h : (tbA p r).p V F) : Cel V F := by
  obtain ⟨q, s, m, l, F2, h1, _, hF⟩ := h
  exact fun k e => h1.cel k ((hF k).1 e)
theorem tbA_sor {V : World} {p : Nat} {r : List Rw} {F : Nat → Prop} (h : (tbA p r).p V F) : RSor r := by
  obtain ⟨q, s, m, l, F2, h1, rfl, hF⟩ := h
  exact (tab_sor l).2 (skA_sor h1.sk)
/-- What a call makes of a table. -/
def TbTurns (p : Nat) (r' : List Rw) (F : Nat → Prop) (V w' : World) : Prop := ∃ F', (tbA p r').p w' F' ∧ Grow F V w' ∧ ∀ k, F' k → nF F V w' k
theorem TbTurns.trans {p : Nat} {r1 r2 : List Rw} {F : Nat → Prop} {V V1 V2 : World} (h : TbTurns p r1 F V V1) (h2 : ∀ F1, (tbA p r1).p V1 F1 → TbTurns p r2 F1 V1 V2) : TbTurns p r2 F V V2 := by
  obtain ⟨F1, a1, g1, n1⟩ := h
  obtain ⟨F2, a2, g2, n2⟩ := h2 F1 a1
  refine ⟨F2, a2, g1.trans (g2.mono n1), fun k e => ?_⟩
  rw [← nF_trans g1.size g2.size]
  exact (n2 k e).imp (n1 k) id
theorem TbTurns.refl {p : Nat} {r : List Rw} {F : Nat → Prop} {V : World} (h : (tbA p r).p V F) : TbTurns p r F V V := ⟨F, h, Grow.refl _ _, fun k e => .inl e⟩
theorem TbTurns.below {p : Nat} {r : List Rw} {F : Nat → Prop} {V V' : World} (h : (tbA p r).p V F) (hb : Below V.heap.size V V') : TbTurns p r F V V' :=
  ⟨F, (tbA p r).on h hb.size (fun k e => hb.block k ((tbA p r).lt h k e)), Grow.of_below hb, fun k e => .inl e⟩
end Go.Proofs.YtgccichmdddbpaaGreatDoor
set_option linter.unusedVariables false
namespace Go.Proofs.YtgccichmdddbpaaGreatDoor
open Go.RowKit

set_option maxRecDepth 100000 in
theorem tb_drawing (seed : Int) (w : World) : Calls Tryz.prog 88 #[.int .i64 seed] w fun e w' => e = .returned (fnT w.heap.size) ∧ ∃ m, w' = w.alloc (.cells #[.int .u64 m] 196) := by
  go_enter Tryz.func88, Tryz.ntmps88
  go_wp2_with fail
  go_ret
  exact ⟨rfl, _, rfl⟩
set_option maxRecDepth 100000 in
theorem tb_list (p q : Nat) (w : World) (h : w.cell? ⟨p, 0, none⟩ = some (pt q)) : Calls Tryz.prog 69 #[pt p] w fun e w' => e = .returned (pt q) ∧ w' = w := by
  go_enter Tryz.func69, Tryz.ntmps69
  go_wp2_with fail
  go_ret
  exact ⟨rfl, rfl⟩
set_option maxRecDepth 100000 in
theorem tb_isNone (p q : Nat) (w : World) (h : w.cell? ⟨p, 0, none⟩ = some (pt q)) : Calls Tryz.prog 60 #[pt p] w fun e w' => e = .returned (.bool false) ∧ w' = w := by
  have LI := Lib.hid (tb_list p q w h)
  clear h
  go_enter Tryz.func60, Tryz.ntmps60
  go_wp2_with (first | (go_at_call 69; refine LI.out.mono ?_; rintro e w2 ⟨rfl, hw⟩; obtain rfl : w = w2 := hw.symm))
  go_ret
  exact ⟨rfl, rfl⟩
set_option maxRecDepth 100000 in
set_option maxHeartbeats 4000000 in
theorem tb_new (seed : Int) (w : World) : Calls Tryz.prog 41 #[.int .i64 seed] w fun e w' => ∃ p F, e = .returned (pt p) ∧ (tbA p []).p w' F ∧ (∀ k, F k → w.heap.size ≤ k) ∧ Below w.heap.size w w' := by
  have SN := Lib.hid (sk_new w)
  go_enter Tryz.func41, Tryz.ntmps41
  go_wp2_with (first
    | (go_at_call 87; refine SN.out.mono ?_; rintro e w2 ⟨rfl, hR, hb, hs⟩; have HR := Lib.hid hR; have HB := Lib.hid hb; have HS := Lib.hid hs; clear hR hb hs)
    | (go_at_call 88; refine (tb_drawing _ _).mono ?_; rintro e w3 ⟨rfl, m, hw3⟩; have HX := Lib.hid hw3; clear hw3))
  go_ret
  have hs := HS.out
  have b1 := nbl w2 (.cells #[.int .u64 m] 196)
  have hk2 : Blk (w2.alloc (.cells #[.int .u64 m] 196)) w2.heap.size 196 #[.int .u64 m] := Blk.new w2 _ _
  have hR1 := HR.out.below b1
  have hX := HX.out
  rw [← hX] at b1 hk2 hR1
  have hsX : w3.heap.size = w2.heap.size + 1 := by rw [hX]; simp
  clear HX hX
  have b2 := nbl w3 (.cells #[pt (w.heap.size + 1), fnT w2.heap.size] 154)
  have hk3 := Blk.new w3 154 #[pt (w.heap.size + 1), fnT w2.heap.size]
  have hk2b := hk2.below b2 hk2.lt
  have hR2 := hR1.below b2
  refine ⟨w3.heap.size, _, rfl, ⟨w.heap.size + 1, w2.heap.size, _, [], skF (w.heap.size + 1) w.heap.size [], ⟨hk3, hk2b, ⟨_, [], _, hR2, rfl, fun k => Iff.rfl⟩, fun x hx => (nomatch hx), by omega, fun k e => ?_⟩, rfl, fun k => Iff.rfl⟩, fun k e => ?_, bst (bst HB.out b1) b2⟩
  · rcases e with e | e | e
    · omega
    · omega
    · cases e
  · rcases e with e | e | e
    · omega
    · omega
    · rcases e with e | e | e
      · omega
      · omega
      · cases e
section
variable {V V' w : World} {p q s : Nat} {m : Int} {l l' : List Kv} {F F2 F2' : Nat → Prop}
/-- Where put stands. -/
def PS (V0 : World) (p q s : Nat) (F2 : Nat → Prop) (l : List Kv) (V : World) : Prop := ∃ m, TbP V p q s m l F2 ∧ Grow (tbF p s F2) V0 V
theorem PS.cells {V0 : World} (h : PS V0 p q s F2 l V) : V.cell? ⟨p, 0, none⟩ = some (pt q) ∧ V.cell? ⟨p, 1, none⟩ = some (fnT s) := by
  obtain ⟨m, h1, _⟩ := h
  exact ⟨h1.obj.cell 0, h1.obj.cell 1⟩
theorem PS.draw {V0 : World} (h : PS V0 p q s F2 l V) : Calls Tryz.prog 132 #[pt s] V fun e w' => ∃ n : Int, e = .returned (.int .i64 n) ∧ (1 ≤ n ∧ n ≤ 16) ∧ PS V0 p q s F2 l w' ∧ (w'.cell? ⟨p, 0, none⟩ = some (pt q) ∧ w'.cell? ⟨p, 1, none⟩ = some (fnT s)) := by
  obtain ⟨m, h1, h2⟩ := h
  refine (tb_draw s m V h1.st).mono ?_
  rintro e w' ⟨n, m', rfl, hn, rfl⟩
  have h3 : PS V0 p q s F2 l (V.setCell ⟨s, 0, none⟩ (.int .u64 m')) := ⟨m', (h1.setM m').1, h2.set (.inl (.inr (.inl rfl))) _⟩
  exact ⟨n, rfl, hn, h3, h3.cells⟩
theorem PS.put {V0 : World} (h : PS V0 p q s F2 l V) (k v : ByteArray) (n : Int) (hl : l.length ≤ 1000000000) (hn : 1 ≤ n ∧ n ≤ 16) (hks : k.size ≤ 281474976710656) :
    Calls Tryz.prog 164 #[pt q, .string k, .string v, .int .i64 n] V fun e w' => (∃ u, e = .returned u) ∧ TbTurns p (rone (tab l) ⟨k, v, false⟩) (tbF p s F2) V0 w' ∧ (w'.cell? ⟨p, 0, none⟩ = some (pt q) ∧ w'.cell? ⟨p, 1, none⟩ = some (fnT s)) := by
  obtain ⟨m, h1, h2⟩ := h
  refine (skA_put h1.sk v n hl (by omega) (by omega) hks).mono ?_
  rintro e w' ⟨hu, F', hp, hg, hN⟩
  have he : kputI l k (.string v) n = kput l k (.string v) n.toNat := by unfold kputI; rw [if_pos hn]
  rw [he] at hp
  obtain ⟨h3, h4, h5⟩ := h1.turn hg hp hN (h1.strs.put k v _)
  refine ⟨hu, ⟨tbF p s F', ⟨q, s, m, _, F', h3, by rw [tab_put], fun k => Iff.rfl⟩, h2.trans (h4.mono (fun k e => .inl e)), fun k e => ?_⟩, h3.obj.cell 0, h3.obj.cell 1⟩
  rcases h5 k e with e | e
  · exact .inl e
  · exact .inr ⟨Nat.le_trans h2.size e.1, e.2⟩
set_option maxRecDepth 100000 in
set_option maxHeartbeats 4000000 in
theorem tb_put (h : TbP V p q s m l F2) (k v : ByteArray) (hl : l.length ≤ 1000000000) (hks : k.size ≤ 281474976710656) :
    Calls Tryz.prog 110 #[pt p, .string k, .string v] V fun e w' => (∃ u, e = .returned u) ∧ TbTurns p (rone (tab l) ⟨k, v, false⟩) (tbF p s F2) V w' ∧ w'.cell? ⟨p, 0, none⟩ = some (pt q) := by
  have hP : PS V p q s F2 l V.drew := ⟨m, h.below ⟨rfl, rfl, rfl, Nat.le_refl _, fun _ _ => rfl⟩, (Grow.refl _ _).drewN 1⟩
  have hS := hP.cells
  have c0 : V.cell? ⟨p, 0, none⟩ = some (pt q) := h.obj.cell 0
  have c1 : V.cell? ⟨p, 1, none⟩ = some (fnT s) := h.obj.cell 1
  have HL := Lib.hid hl
  have HK := Lib.hid hks
  clear h hl hks
  go_enter Tryz.func110, Tryz.ntmps110
  go_region_held3 (fun W => W.cell? ⟨p, 0, none⟩ = some (pt q) ∧ W.cell? ⟨p, 1, none⟩ = some (fnT s))
    (first | with_reducible assumption | with_reducible exact hS)
    (first
      | (go_at_call 132; (with_reducible refine (PS.draw (by with_reducible assumption)).mono ?_); rintro e w8 ⟨n8, rfl, hn8, hP8, hS8⟩)
      | (go_at_call 164; (with_reducible refine (PS.put (by with_reducible assumption) _ _ _ HL.out (by with_reducible assumption) HK.out).mono ?_); rintro e w9 ⟨⟨u9, rfl⟩, hT9, hS9⟩))
  all_goals
    go_wp2_with fail
    go_end0
    exact ⟨⟨_, rfl⟩, hT9, hS9.1⟩
end
end Go.Proofs.YtgccichmdddbpaaGreatDoor
set_option linter.unusedVariables false
namespace Go.Proofs.YtgccichmdddbpaaGreatDoor
open Go.RowKit

/-- A list of changes in memory. -/
def OAt (w : World) (A : Option Addr) (n : Nat) (l : List Op_) : Prop :=
  l.length = n ∧ (0 < n → ∃ b o, A = some ⟨b, o, none⟩ ∧ ∀ i (h : i < l.length), w.cell? ⟨b, o + i * 3, none⟩ = some (.string (l[i]'h).key) ∧ w.cell? ⟨b, o + i * 3 + 1, none⟩ = some (.string (l[i]'h).value) ∧ w.cell? ⟨b, o + i * 3 + 2, none⟩ = some (.bool (l[i]'h).del))
theorem OAt.keep {w w' : World} {A : Option Addr} {n : Nat} {l : List Op_} (h : OAt w A n l) (hk : ∀ a v, w.cell? a = some v → InF (fun k => k = a.block) A → w'.cell? a = some v) : OAt w' A n l := by
  refine ⟨h.1, fun h0 => ?_⟩
  obtain ⟨b, o, rfl, hc⟩ := h.2 h0
  have hin : ∀ j, InF (fun k => k = (⟨b, j, none⟩ : Addr).block) (some ⟨b, o, none⟩) := fun j a e => by injection e with e; subst e; rfl
  exact ⟨b, o, rfl, fun i hi => ⟨hk _ _ (hc i hi).1 (hin _), hk _ _ (hc i hi).2.1 (hin _), hk _ _ (hc i hi).2.2 (hin _)⟩⟩
theorem OAt.below {w w' : World} {A : Option Addr} {n : Nat} {l : List Op_} (h : OAt w A n l) (hb : Below w.heap.size w w') : OAt w' A n l := h.keep fun a v e _ => by rw [hb.cell (World.block_lt_of_cell? w _ e), e]
theorem OAt.nil (w : World) (A : Option Addr) : OAt w A 0 [] := ⟨rfl, fun h => absurd h (Nat.lt_irrefl _)⟩
theorem any_take_succ {α : Type} (p : α → Bool) (l : List α) (k : Nat) (h : k < l.length) (h0 : (l.take k).any p = false) : (l.take (k + 1)).any p = p (l[k]'h) := by
  rw [List.take_succ_eq_append_getElem h, List.any_append, h0]; simp
theorem any_of_get {α : Type} (p : α → Bool) (l : List α) (k : Nat) (h : k < l.length) (hp : p (l[k]'h) = true) : l.any p = true := List.any_eq_true.2 ⟨_, List.getElem_mem h, hp⟩

/-- Where change stands: the table, the change in its box. -/
structure CS (V0 : World) (p q s : Nat) (F2 : Nat → Prop) (l : List Kv) (g : Nat) (k v : ByteArray) (d : Bool) (V : World) : Prop where
  tb : ∃ m, TbP V p q s m l F2
  gr : Grow (tbF p s F2) V0 V
  bx : Blk V g 93 #[.string k, .string v, .bool d]
  ge : V0.heap.size ≤ g
  lt : ∀ k, tbF p s F2 k → k < V0.heap.size
abbrev CC (p q g : Nat) (k v : ByteArray) (V : World) : Prop := V.cell? ⟨p, 0, none⟩ = some (pt q) ∧ V.cell? ⟨g, 0, none⟩ = some (.string k) ∧ V.cell? ⟨g, 1, none⟩ = some (.string v)
section
variable {V V' V0 w : World} {p q s g : Nat} {m : Int} {l l' : List Kv} {F F2 F2' : Nat → Prop} {k v : ByteArray} {d : Bool}
theorem CS.cells (h : CS V0 p q s F2 l g k v d V) : CC p q g k v V := by
  obtain ⟨m, h1⟩ := h.tb
  exact ⟨h1.obj.cell 0, h.bx.cell 0, h.bx.cell 1⟩
theorem CS.below (h : CS V0 p q s F2 l g k v d V) (hb : Below V.heap.size V V') : CS V0 p q s F2 l g k v d V' := by
  obtain ⟨m, h1⟩ := h.tb
  exact ⟨⟨m, h1.below hb⟩, h.gr.trans (Grow.of_below hb), h.bx.below hb h.bx.lt, h.ge, h.lt⟩
theorem CS.apart (h : CS V0 p q s F2 l g k v d V) : ¬ tbF p s F2 g := fun e => by
  have := h.lt g e
  have := h.ge
  omega
theorem CS.clone (h : CS V0 p q s F2 l g k v d V) (hv : v.size ≤ 281474976710656) : Calls Tryz.prog 126 #[.string v] V fun e w' => e = .returned (.string v) ∧ CS V0 p q s F2 l g k v d w' ∧ CC p q g k v w' := by
  refine (Tryz.stringslite_Clone v V hv).mono ?_
  rintro e w' ⟨rfl, hb⟩
  have h2 := h.below hb
  exact ⟨rfl, h2, h2.cells⟩
theorem CS.done (h : CS V0 p q s F2 l g k v d V) {r : List Rw} (ht : TbTurns p r (tbF p s F2) V V') (hp : V'.cell? ⟨p, 0, none⟩ = some (pt q)) : TbTurns p r (tbF p s F2) V0 V' ∧ CC p q g k v V' := by
  obtain ⟨F', a, gr, n⟩ := ht
  have hb := (gr.block g h.bx.lt h.apart).trans h.bx
  refine ⟨⟨F', a, h.gr.trans (gr.mono (fun k e => .inl e)), fun k e => ?_⟩, hp, Blk.cell hb 0, Blk.cell hb 1⟩
  rcases n k e with e | e
  · exact .inl e
  · exact .inr ⟨Nat.le_trans h.gr.size e.1, e.2⟩
theorem CS.drop (h : CS V0 p q s F2 l g k v d V) (hl : l.length ≤ 1000000000) : Calls Tryz.prog 109 #[pt q, .string k] V fun e w' => (∃ u, e = .returned u) ∧ TbTurns p (rone (tab l) ⟨k, v, true⟩) (tbF p s F2) V0 w' ∧ CC p q g k v w' := by
  obtain ⟨m, h1⟩ := h.tb
  refine (skA_drop h1.sk k hl).mono ?_
  rintro e w' ⟨hu, F', hp, hg, hN⟩
  obtain ⟨h3, h4, h5⟩ := h1.turn hg hp hN (h1.strs.drop k)
  exact ⟨hu, h.done ⟨tbF p s F', ⟨q, s, m, _, F', h3, by rw [tab_drop _ _ v], fun k => Iff.rfl⟩, h4, h5⟩ (h3.obj.cell 0)⟩
theorem CS.put (h : CS V0 p q s F2 l g k v d V) (hl : l.length ≤ 1000000000) (hks : k.size ≤ 281474976710656) : Calls Tryz.prog 110 #[pt p, .string k, .string v] V fun e w' => (∃ u, e = .returned u) ∧ TbTurns p (rone (tab l) ⟨k, v, false⟩) (tbF p s F2) V0 w' ∧ CC p q g k v w' := by
  obtain ⟨m, h1⟩ := h.tb
  refine (tb_put h1 k v hl hks).mono ?_
  rintro e w' ⟨hu, ht, hc⟩
  exact ⟨hu, h.done ht hc⟩
set_option maxRecDepth 100000 in
theorem str_clone (h : CS V0 p q s F2 l g k v d V) (hv : v.size ≤ 281474976710656) : Calls Tryz.prog 75 #[.string v] V fun e w' => e = .returned (.string v) ∧ CS V0 p q s F2 l g k v d w' ∧ CC p q g k v w' := by
  have CL := Lib.hid (h.clone hv)
  clear h
  go_enter Tryz.func75, Tryz.ntmps75
  go_wp2_with (first | (go_at_call 126; refine CL.out.mono ?_; rintro e w2 ⟨rfl, h2, h3⟩))
  go_ret
  exact ⟨rfl, h2, h3⟩
set_option maxRecDepth 100000 in
set_option maxHeartbeats 4000000 in
theorem tb_change (h : TbP V p q s m l F2) (k v : ByteArray) (d : Bool) (hl : l.length ≤ 1000000000) (hks : k.size ≤ 281474976710656) (hvs : v.size ≤ 281474976710656) :
    Calls Tryz.prog 62 #[pt p, .agg #[.string k, .string v, .bool d]] V fun e w' => (∃ u, e = .returned u) ∧ TbTurns p (rone (tab l) ⟨k, v, d⟩) (tbF p s F2) V w' := by
  have hb1 := nbl V (.cells #[.string k, .string v, .bool d] 93)
  have hC : CS V p q s F2 l V.heap.size k v d (V.alloc (.cells #[.string k, .string v, .bool d] 93)).drew :=
    CS.below (V := V.alloc (.cells #[.string k, .string v, .bool d] 93)) ⟨⟨m, h.below hb1⟩, Grow.of_below hb1, Blk.new _ _ _, Nat.le_refl _, fun k e => h.lt e⟩ ⟨rfl, rfl, rfl, Nat.le_refl _, fun _ _ => rfl⟩
  have hS : CC p q V.heap.size k v (V.alloc (.cells #[.string k, .string v, .bool d] 93)).drew := hC.cells
  have hS0 : CC p q V.heap.size k v (V.alloc (.cells #[.string k, .string v, .bool d] 93)) := hC.cells
  have hd : (V.alloc (.cells #[.string k, .string v, .bool d] 93)).cell? ⟨V.heap.size, 2, none⟩ = some (.bool d) := (Blk.new V _ _).cell 2
  have HL := Lib.hid hl
  have HK := Lib.hid hks
  have HV := Lib.hid hvs
  clear h hb1 hl hks hvs
  cases d with
  | true =>
    go_enter Tryz.func62, Tryz.ntmps62
    go_wp2_with fail
    obtain ⟨s0, s1, s2⟩ := hS0
    generalize V.alloc (.cells #[.string k, .string v, .bool true] 93) = X at *
    generalize V.heap.size = g at *
    go_region_held3 (fun W => W.cell? ⟨p, 0, none⟩ = some (pt q) ∧ W.cell? ⟨g, 0, none⟩ = some (.string k) ∧ W.cell? ⟨g, 1, none⟩ = some (.string v))
      (first | with_reducible assumption | with_reducible exact hS)
      (first
        | (go_at_call 109; (with_reducible refine (CS.drop (by with_reducible assumption) HL.out).mono ?_); rintro e w9 ⟨⟨u9, rfl⟩, hT9, hS9⟩))
    all_goals
      go_wp2_with fail
      refine bodyPost_ret (results_none rfl _ _ _) rfl ?_
      exact ⟨⟨_, rfl⟩, hT9⟩
  | false =>
    go_enter Tryz.func62, Tryz.ntmps62
    go_wp2_with fail
    obtain ⟨s0, s1, s2⟩ := hS0
    generalize V.alloc (.cells #[.string k, .string v, .bool false] 93) = X at *
    generalize V.heap.size = g at *
    go_region_held3 (fun W => W.cell? ⟨p, 0, none⟩ = some (pt q) ∧ W.cell? ⟨g, 0, none⟩ = some (.string k) ∧ W.cell? ⟨g, 1, none⟩ = some (.string v))
      (first | with_reducible assumption | with_reducible exact hS)
      (first
        | (go_at_call 75; (with_reducible refine (str_clone (by with_reducible assumption) HV.out).mono ?_); rintro e w8 ⟨rfl, hC8, hS8⟩)
        | (go_at_call 110; (with_reducible refine (CS.put (by with_reducible assumption) HL.out HK.out).mono ?_); rintro e w9 ⟨⟨u9, rfl⟩, hT9, hS9⟩))
    all_goals
      go_wp2_with fail
      go_end0
      exact ⟨⟨_, rfl⟩, hT9⟩
end
end Go.Proofs.YtgccichmdddbpaaGreatDoor
set_option linter.unusedVariables false
namespace Go.Proofs.YtgccichmdddbpaaGreatDoor
open Go.RowKit

theorem chk_any {l : List Op_} (h : ¬ 128 < l.length) (ha : l.any opBad = true) : chk l = 2 := by unfold chk; rw [if_neg h, if_pos ha]
set_option maxRecDepth 100000 in
set_option maxHeartbeats 4000000 in
theorem tb_check (A : Option Addr) (n c : Nat) (l : List Op_) (w : World) (hx : OAt w A n l) (hn : n ≤ 9223372036854775807) :
    Calls Tryz.prog 61 #[.slice A n c] w fun e w' => e = .returned (.int .i64 (chk l)) ∧ Below w.heap.size w w' := by
  have hl := hx.1
  have HX := Lib.hid hx
  clear hx
  by_cases hbig : 128 < n
  · have he : chk l = 5 := by unfold chk; rw [if_pos (by omega)]
    rw [he]
    go_enter Tryz.func61, Tryz.ntmps61
    go_wp2
    go_ret
    exact ⟨rfl, Below.refl _ _⟩
  · go_enter Tryz.func61, Tryz.ntmps61
    go_wp2
    go_loopw [4, 10] (fun _ i wr => ∃ k : Nat, k ≤ n ∧ i = .int .i64 k ∧ Hid ((l.take k).any opBad = false) ∧ Hid (Below w.heap.size w wr)) (fun _ i _ => n - (intOf i).toNat)
    case atStart => exact ⟨0, Nat.zero_le _, rfl, Lib.hid rfl, Lib.hid (Below.refl _ _)⟩
    case round =>
      obtain ⟨j, hj, rfl, HM, HB⟩ := hrel
      by_cases hlt : j < n
      · obtain ⟨b, o, rfl, hc⟩ := (HX.out.below HB.out).2 (by omega)
        obtain ⟨c0, c1, c2⟩ := hc j (by omega)
        have hs := any_take_succ opBad l j (by omega) HM.out
        have ha := any_of_get opBad l j (by omega)
        obtain ⟨⟨key, value, del⟩, hg⟩ : ∃ q, l[j]'(by omega) = q := ⟨_, rfl⟩
        rw [hg] at c0 c1 c2 hs ha
        clear hc
        have hb : opBad ⟨key, value, del⟩ = (key.toList.isEmpty || (del && !value.toList.isEmpty)) := rfl
        rw [hb] at hs ha
        have BAD := Lib.hid (fun (h : (key.toList.isEmpty || (del && !value.toList.isEmpty)) = true) => chk_any (by omega) (ha h))
        have HS := Lib.hid hs
        clear hb hs ha
        have YES := Lib.hid (fun (V : World) (h : Below wr.heap.size wr V) => (show Below w.heap.size w V from HB.out.trans (h.mono HB.out.size)))
        cases hk : key.toList.isEmpty with
        | true =>
          have hk' : key.toList = [] := by simpa using hk
          have he := BAD.out (by rw [hk]; rfl)
          have HE := Lib.hid he
          clear BAD HS he
          go_wp2
          go_ret
          exact ⟨by rw [HE.out]; rfl, YES.out _ (nbl _ _)⟩
        | false =>
          have hk' : ¬ key.toList = [] := fun e => by rw [e] at hk; cases hk
          cases del with
          | false =>
            have hs := HS.out
            rw [hk] at hs
            have HS2 := Lib.hid hs
            clear BAD HS hs
            go_wp2
            go_roundw
            case rel => exact ⟨j + 1, by omega, by go_num, HS2, Lib.hid (YES.out _ (nbl _ _))⟩
            case measure => simp [intOf]; omega
          | true =>
            cases hv : value.toList.isEmpty with
            | true =>
              have hv' : value.toList = [] := by simpa using hv
              have hs := HS.out
              rw [hk, hv] at hs
              have HS2 := Lib.hid hs
              clear BAD HS hs
              go_wp2
              go_roundw
              case rel => exact ⟨j + 1, by omega, by go_num, HS2, Lib.hid (YES.out _ (nbl _ _))⟩
              case measure => simp [intOf]; omega
            | false =>
              have hv' : ¬ value.toList = [] := fun e => by rw [e] at hv; cases hv
              have he := BAD.out (by rw [hk, hv]; rfl)
              have HE := Lib.hid he
              clear BAD HS he
              go_wp2
              go_ret
              exact ⟨by rw [HE.out]; rfl, YES.out _ (nbl _ _)⟩
      · obtain rfl : j = n := by omega
        have hm := HM.out
        rw [List.take_of_length_le (by omega)] at hm
        have he : chk l = 0 := by
          unfold chk
          rw [if_neg (by omega), if_neg (by rw [hm]; decide)]
        have HE := Lib.hid he
        clear he hm
        go_wp2
        go_ret
        exact ⟨by rw [HE.out]; rfl, HB.out⟩
section
variable {V V' w : World} {p : Nat} {r : List Rw} {F : Nat → Prop}
theorem tbA_list (h : (tbA p r).p V F) : ∃ q, V.cell? ⟨p, 0, none⟩ = some (pt q) := by
  obtain ⟨q, s, m, l, F2, h1, _, _⟩ := h
  exact ⟨q, h1.obj.cell 0⟩
theorem tbA_below (h : (tbA p r).p V F) (hb : Below V.heap.size V V') : (tbA p r).p V' F := (tbA p r).on h hb.size (fun k e => hb.block k ((tbA p r).lt h k e))
theorem rfold_succ (r : List Rw) (l : List Op_) {k : Nat} (h : k < l.length) : (l.take (k + 1)).foldl rone r = rone ((l.take k).foldl rone r) (l[k]'h) := by
  rw [List.take_succ_eq_append_getElem h, List.foldl_append]
  rfl
theorem tb_changeA (h : (tbA p r).p V F) (o : Op_) (hl : r.length ≤ 1000000000) (ho : o.key.size ≤ 140737488351233 ∧ o.value.size ≤ 140737488351233) :
    Calls Tryz.prog 62 #[pt p, .agg #[.string o.key, .string o.value, .bool o.del]] V fun e w' => (∃ u, e = .returned u) ∧ TbTurns p (rone r o) F V w' := by
  obtain ⟨q, s, m, l, F2, h1, rfl, hF⟩ := h
  refine (tb_change h1 o.key o.value o.del (by rw [tab_len] at hl; exact hl) (by omega) (by omega)).mono ?_
  rintro e w' ⟨hu, F', a, g, n⟩
  exact ⟨hu, F', a, g.mono (fun k e => (hF k).2 e), fun k e => (n k e).imp (fun e => (hF k).2 e) id⟩
set_option maxRecDepth 100000 in
set_option maxHeartbeats 4000000 in
theorem tb_apply (h : (tbA p r).p V F) (A : Option Addr) (n c : Nat) (l : List Op_) (hop : ∀ W, Grow F V W → OAt W A n l) (hn : n ≤ 9223372036854775807) {N : Nat} (hr : ROk N r) (hN : N ≤ 999999000) (hs : OSz l) :
    Calls Tryz.prog 19 #[pt p, .slice A n c] V fun e w' => e = .returned (.int .i64 (chk l)) ∧ TbTurns p (rapp r l) F V w' := by
  obtain ⟨q, hq⟩ := tbA_list h
  have IN := Lib.hid (tb_isNone p q V hq)
  have CH := Lib.hid (tb_check A n c l V (hop V (Grow.refl _ _)) hn)
  have hln := (hop V (Grow.refl _ _)).1
  have H := Lib.hid h
  have HOP := Lib.hid hop
  clear h hop hq
  by_cases hc : chk l = 0
  · obtain ⟨h128, hbad⟩ := chk_ok hc
    rw [hc] at CH
    have e0 : rapp r l = l.foldl rone r := by unfold rapp; rw [if_pos hc]
    rw [hc, e0]
    have HST := Lib.hid (fun (k : Nat) (hk : k < l.length) => (show ((l.take k).foldl rone r).length ≤ 1000000000 from by
      have := (hr.fold (l := l.take k) (fun o ho => hbad o (List.mem_of_mem_take ho)) (fun o ho => hs o (List.mem_of_mem_take ho))).len
      rw [List.length_take] at this
      omega))
    have HSZ := Lib.hid hs
    have HLN := Lib.hid hln
    clear hr hbad hs hc e0
    go_enter Tryz.func19, Tryz.ntmps19
    go_wp2_with (first
      | (go_at_call 60; refine IN.out.mono ?_; rintro e w2 ⟨rfl, hw⟩; obtain rfl : V = w2 := hw.symm)
      | (go_at_call 61; refine CH.out.mono ?_; rintro e w3 ⟨rfl, hb3⟩))
    have T0 := Lib.hid (show TbTurns p ((l.take 0).foldl rone r) F V w3 from TbTurns.below H.out hb3)
    clear hb3 IN CH
    go_loopw [7, 17] (fun _ i wr => ∃ k : Nat, k ≤ n ∧ i = .int .i64 k ∧ Hid (TbTurns p ((l.take k).foldl rone r) F V wr)) (fun _ i _ => n - (intOf i).toNat)
    case atStart => exact ⟨0, Nat.zero_le _, rfl, T0⟩
    case round =>
      obtain ⟨k, hk, rfl, HT⟩ := hrel
      by_cases hlt : k < n
      · obtain ⟨F', hA, hG, hN2⟩ := HT.out
        have hlt2 : k < l.length := by omega
        obtain ⟨b, o, rfl, hcc⟩ := (HOP.out wr hG).2 (by omega)
        obtain ⟨c0, c1, c2⟩ := hcc k hlt2
        have hb4 := nbl wr (.cells #[.string (l[k]'hlt2).key, .string (l[k]'hlt2).value, .bool (l[k]'hlt2).del] 93)
        have CHG := Lib.hid (tb_changeA (tbA_below hA hb4) (l[k]'hlt2) (HST.out k hlt2) (HSZ.out _ (List.getElem_mem hlt2)))
        have HSC := Lib.hid (rfold_succ r l hlt2)
        have HT4 := Lib.hid (HT.out.trans (fun F1 a1 => TbTurns.below a1 hb4))
        have HX := Lib.hid (fun (w5 : World) (ht : TbTurns p (rone ((l.take k).foldl rone r) (l[k]'hlt2)) F' (wr.alloc (.cells #[.string (l[k]'hlt2).key, .string (l[k]'hlt2).value, .bool (l[k]'hlt2).del] 93)) w5) => (show TbTurns p ((l.take (k + 1)).foldl rone r) F V w5 from by
          rw [HSC.out]
          obtain ⟨F5, a5, g5, n5⟩ := ht
          have hs1 := hG.size
          have g1 := hG.trans (Grow.of_below hb4)
          have hs4 := hb4.size
          refine ⟨F5, a5, g1.trans (g5.mono (fun k e => ?_)), fun k e => ?_⟩
          · rcases hN2 k e with e | e
            · exact .inl e
            · exact .inr ⟨e.1, by omega⟩
          · rcases n5 k e with e | e
            · rcases hN2 k e with e | e
              · exact .inl e
              · exact .inr ⟨e.1, by have := g5.size; omega⟩
            · exact .inr ⟨by omega, e.2⟩))
        clear hcc hA hG hN2 hb4 HSC HT4
        generalize (l[k]'hlt2) = op at *
        obtain ⟨key, value, del⟩ := op
        simp only at c0 c1 c2 CHG HX
        go_wp2_with (first
          | (go_at_call 62; refine CHG.out.mono ?_; rintro e w5 ⟨⟨u5, rfl⟩, hT5⟩))
        go_roundw
        case rel => exact ⟨k + 1, by omega, by go_num, Lib.hid (HX.out _ hT5)⟩
        case measure => simp [intOf]; omega
      · obtain rfl : k = n := by omega
        have ht := HT.out
        rw [List.take_of_length_le (by have := HLN.out; omega)] at ht
        have HT1 := Lib.hid ht
        clear ht
        go_wp2_with fail
        go_ret
        exact ⟨rfl, HT1.out⟩
  · have e0 : rapp r l = r := by unfold rapp; rw [if_neg hc]
    rw [e0]
    have hne : (((chk l : Nat) : Int) != 0) = true := by simpa using hc
    clear hr hs
    generalize chk l = e at *
    go_enter Tryz.func19, Tryz.ntmps19
    go_wp2_with (first
      | (go_at_call 60; refine IN.out.mono ?_; rintro e w2 ⟨rfl, hw⟩; obtain rfl : V = w2 := hw.symm)
      | (go_at_call 61; refine CH.out.mono ?_; rintro e w3 ⟨rfl, hb3⟩))
    go_ret
    exact ⟨rfl, TbTurns.below H.out hb3⟩
set_option maxRecDepth 100000 in
theorem tb_get (h : (tbA p r).p V F) (key : ByteArray) :
    Calls Tryz.prog 25 #[pt p, .string key] V fun e w' => e = .returned (.tuple #[.string (rval r key), .bool (rhas r key)]) ∧ Below V.heap.size V w' := by
  obtain ⟨q, s, m, l, F2, h1, rfl, hF⟩ := h
  have LI := Lib.hid (tb_list p q V (h1.obj.cell 0))
  have GE := Lib.hid (skA_get h1.sk key)
  rw [tab_val h1.strs] at GE
  rw [tab_has]
  clear h1 hF
  go_enter Tryz.func25, Tryz.ntmps25
  go_wp2_with (first
    | (go_at_call 69; refine LI.out.mono ?_; rintro e w2 ⟨rfl, hw⟩; obtain rfl : V = w2 := hw.symm)
    | (go_at_call 70; refine GE.out.mono ?_; rintro e w3 ⟨rfl, hb3⟩))
  go_ret2
  exact ⟨rfl, hb3⟩
end
end Go.Proofs.YtgccichmdddbpaaGreatDoor
