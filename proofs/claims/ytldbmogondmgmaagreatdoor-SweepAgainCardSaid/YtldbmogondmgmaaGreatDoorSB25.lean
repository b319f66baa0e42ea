/-
  Layer 11: how changes, writes, intents and records lie in memory; what is looked through by a function.
  Layer 11, the code's pen: numbers and texts, one behind the other.
  Layer 11, the code's pen: its calls, as a walk takes them.
  Layer 11, the code's reader: numbers, texts, flags, one behind the other.
  Layer 11, the code's reader: nums, str, flag, stamps, isDone, newReader.
  Layer 11, the code's reader: stamps, isDone, newReader.
  Layer 11, the code's reader as a walk takes it; many.
  Layer 11, the code: the function literals of TakeIntent, TakeRecord.
  Layer 11, the code: what may be: numbers, keys, values; the functions that look at one change, one write, one stamp.
  Layer 11: what each looks through, by a function that is handed in: slices.IndexFunc, ContainsFunc, each; areStamps, areChanges, areWrites.
  Layer 11, the code: CheckIntent, CheckRecord.
  Layer 11, the code: TakeIntent, TakeRecord.
  Layer 11, the code: TakeVersion, TakeStamp.
-/
import Derived.Test.YtldbmogondmgmaaGreatDoorSB23
import Derived.Test.YtldbmogondmgmaaGreatDoorSB01
import Derived.Test.YtldbmogondmgmaaGreatDoorSB24
import Derived.Maps.AppendAt
import Derived.Lib.ConvBytes
import Derived.Test.YtldbmogondmgmaaGreatDoorSB03
set_option linter.unusedVariables false
namespace Go.Proofs.YtldbmogondmgmaaGreatDoor
open Go.RowKit

/-- Changes in memory; writes; numbers. -/
def ChAt (w : World) (A : Option Addr) (n : Nat) (l : List Ch) : Prop :=
  l.length = n ∧ (0 < n → ∃ b o, A = some ⟨b, o, none⟩ ∧ ∀ i (h : i < l.length), w.cell? ⟨b, o + i * 3, none⟩ = some (.int .i64 (l[i]'h).q) ∧ w.cell? ⟨b, o + i * 3 + 1, none⟩ = some (.string (l[i]'h).s) ∧ w.cell? ⟨b, o + i * 3 + 2, none⟩ = some (.bool (l[i]'h).d))
def WtAt (w : World) (A : Option Addr) (n : Nat) (l : List Wt) : Prop :=
  l.length = n ∧ (0 < n → ∃ b o, A = some ⟨b, o, none⟩ ∧ ∀ i (h : i < l.length), w.cell? ⟨b, o + i * 2, none⟩ = some (.string (l[i]'h).k) ∧ w.cell? ⟨b, o + i * 2 + 1, none⟩ = some (.int .i64 (l[i]'h).q))
def IAt (w : World) (A : Option Addr) (n : Nat) (l : List Int) : Prop :=
  l.length = n ∧ (0 < n → ∃ b o, A = some ⟨b, o, none⟩ ∧ ∀ i (h : i < l.length), w.cell? ⟨b, o + i, none⟩ = some (.int .i64 (l[i]'h)))
theorem ChAt.keep {w w' : World} {A : Option Addr} {n : Nat} {l : List Ch} (h : ChAt w A n l) (hk : ∀ a, A = some a → ∀ j v, w.cell? ⟨a.block, j, none⟩ = some v → w'.cell? ⟨a.block, j, none⟩ = some v) : ChAt w' A n l := by
  refine ⟨h.1, fun hn => ?_⟩
  obtain ⟨b, o, e, hc⟩ := h.2 hn
  refine ⟨b, o, e, fun i hi => ?_⟩
  obtain ⟨h1, h2, h3⟩ := hc i hi
  exact ⟨hk _ e _ _ h1, hk _ e _ _ h2, hk _ e _ _ h3⟩
theorem WtAt.keep {w w' : World} {A : Option Addr} {n : Nat} {l : List Wt} (h : WtAt w A n l) (hk : ∀ a, A = some a → ∀ j v, w.cell? ⟨a.block, j, none⟩ = some v → w'.cell? ⟨a.block, j, none⟩ = some v) : WtAt w' A n l := by
  refine ⟨h.1, fun hn => ?_⟩
  obtain ⟨b, o, e, hc⟩ := h.2 hn
  refine ⟨b, o, e, fun i hi => ?_⟩
  obtain ⟨h1, h2⟩ := hc i hi
  exact ⟨hk _ e _ _ h1, hk _ e _ _ h2⟩
theorem IAt.keep {w w' : World} {A : Option Addr} {n : Nat} {l : List Int} (h : IAt w A n l) (hk : ∀ a, A = some a → ∀ j v, w.cell? ⟨a.block, j, none⟩ = some v → w'.cell? ⟨a.block, j, none⟩ = some v) : IAt w' A n l := by
  refine ⟨h.1, fun hn => ?_⟩
  obtain ⟨b, o, e, hc⟩ := h.2 hn
  exact ⟨b, o, e, fun i hi => hk _ e _ _ (hc i hi)⟩
theorem kept_below {w w' : World} (hb : Below w.heap.size w w') (p : Addr) (v : Value) (h : w.cell? p = some v) : w'.cell? p = some v := (hb.cell (World.block_lt_of_cell? w _ h)).trans h
theorem ChAt.below {w w' : World} {A : Option Addr} {n : Nat} {l : List Ch} (h : ChAt w A n l) (hb : Below w.heap.size w w') : ChAt w' A n l := h.keep fun _ _ _ _ hv => kept_below hb _ _ hv
theorem WtAt.below {w w' : World} {A : Option Addr} {n : Nat} {l : List Wt} (h : WtAt w A n l) (hb : Below w.heap.size w w') : WtAt w' A n l := h.keep fun _ _ _ _ hv => kept_below hb _ _ hv
theorem IAt.below {w w' : World} {A : Option Addr} {n : Nat} {l : List Int} (h : IAt w A n l) (hb : Below w.heap.size w w') : IAt w' A n l := h.keep fun _ _ _ _ hv => kept_below hb _ _ hv
theorem ChAt.nil (w : World) (A : Option Addr) : ChAt w A 0 [] := ⟨rfl, fun h => absurd h (by omega)⟩
theorem WtAt.nil (w : World) (A : Option Addr) : WtAt w A 0 [] := ⟨rfl, fun h => absurd h (by omega)⟩

end Go.Proofs.YtldbmogondmgmaaGreatDoor
set_option linter.unusedVariables false
set_option linter.unusedSimpArgs false
set_option maxRecDepth 100000
namespace Go.Proofs.YtldbmogondmgmaaGreatDoor
open Go.RowKit

/-- What a call makes of a thing on the blocks F. -/
def ATurn (A' : As) (F : Nat → Prop) (V V' : World) : Prop := ∃ F', A'.p V' F' ∧ Grow F V V' ∧ ∀ k, F' k → nF F V V' k
theorem ATurn.refl {A : As} {F : Nat → Prop} {V : World} (h : A.p V F) : ATurn A F V V := ⟨F, h, Grow.refl F V, fun k e => .inl e⟩
theorem nF_nF {F F1 : Nat → Prop} {V V1 V2 : World} (h1 : V.heap.size ≤ V1.heap.size) (h2 : V1.heap.size ≤ V2.heap.size) (hs : ∀ k, F1 k → nF F V V1 k) : ∀ k, nF F1 V1 V2 k → nF F V V2 k := by
  rintro k (e | e)
  · rcases hs k e with e | e
    · exact .inl e
    · exact .inr ⟨e.1, by omega⟩
  · exact .inr ⟨by omega, e.2⟩
theorem ATurn.trans {A1 A2 : As} {F : Nat → Prop} {V V1 V2 : World} (h : ATurn A1 F V V1) (h2 : ∀ F1, A1.p V1 F1 → (∀ k, F1 k → nF F V V1 k) → ATurn A2 F1 V1 V2) : ATurn A2 F V V2 := by
  obtain ⟨F1, a1, a2, a3⟩ := h
  obtain ⟨F2, b1, b2, b3⟩ := h2 F1 a1 a3
  exact ⟨F2, b1, a2.trans (b2.mono a3), fun k e => nF_nF a2.size b2.size a3 k (b3 k e)⟩
theorem ATurn.below {A1 : As} {F : Nat → Prop} {V V1 V2 : World} (h : ATurn A1 F V V1) (hb : Below V1.heap.size V1 V2) : ATurn A1 F V V2 :=
  h.trans fun F1 a1 _ => ⟨F1, A1.on a1 hb.size (fun k e => hb.block k (A1.lt a1 k e)), Grow.of_below hb, fun k e => .inl e⟩
theorem ATurn.pre {A1 : As} {F : Nat → Prop} {V0 V V1 : World} (hb : Below V0.heap.size V0 V) (h : ATurn A1 F V V1) (hF : ∀ k, F k → k < V0.heap.size) : ATurn A1 F V0 V1 := by
  obtain ⟨F1, a1, a2, a3⟩ := h
  exact ⟨F1, a1, (Grow.of_below (F := F) hb).trans (a2.mono fun k e => .inl e), nF_nF hb.size a2.size (fun k e => .inl e) |> fun f k e => f k (a3 k e)⟩
theorem own_block_ge {V : World} {B : Nat} {v : Value} {xs : List UInt8} (h : Own V B v xs) : ∀ k, v.ownBlock = some k → B ≤ k ∧ k < V.heap.size := by
  intro k e
  rcases h.2 with ⟨rfl, _⟩ | ⟨q, cap, cur, rfl, hq, hh, _⟩
  · cases e
  · have e3 : some q = some k := e
    injection e3 with e3
    subst e3
    exact ⟨hq, (Array.getElem?_eq_some_iff.1 hh).1⟩
end Go.Proofs.YtldbmogondmgmaaGreatDoor
set_option linter.unusedVariables false
set_option linter.unusedSimpArgs false
set_option maxRecDepth 100000
namespace Go.Proofs.YtldbmogondmgmaaGreatDoor
open Go.RowKit

theorem IAt.lit (V : World) (ns : List Int) (t : TypeId) : IAt (V.alloc (.cells (ns.map (Value.int .i64)).toArray t)) (some ⟨V.heap.size, 0, none⟩) ns.length ns := by
  refine ⟨rfl, fun _ => ⟨_, _, rfl, fun i hi => ?_⟩⟩
  simp [hi]
section
variable {w V : World} {T : List As} {g : Nat} {xs : List UInt8}
end
end Go.Proofs.YtldbmogondmgmaaGreatDoor
set_option linter.unusedVariables false
set_option linter.unusedSimpArgs false
set_option maxRecDepth 100000
namespace Go.Proofs.YtldbmogondmgmaaGreatDoor
open Go.RowKit

/-- A reader: what is left (in memory that is newer than its block, or older and nobody's), or that it is bad. -/
def rdA (g : Nat) (s : Rst) : As where
  p V F := ∃ (A : Option Addr) (n c : Nat) (l : List UInt8), Blk V g 186 #[.slice A n c, .bool s.isNone] ∧ At V A n l ∧ n ≤ c ∧ c ≤ 9223372036854775807 ∧ l.length ≤ 2048 ∧ (∀ b, s = some b → b = l) ∧ (∀ a, A = some a → a.block ≠ g) ∧ ∀ k, F k ↔ (k = g ∨ ∃ a, A = some a ∧ 0 < n ∧ a.block = k)
  on {V V' F} h _ hk := by
    obtain ⟨A, n, c, l, h1, h2, h3, h4, h5, h6, h7, h8⟩ := h
    refine ⟨A, n, c, l, (hk _ ((h8 _).2 (.inl rfl))).trans h1, ⟨h2.1, fun hn => ?_⟩, h3, h4, h5, h6, h7, h8⟩
    obtain ⟨b, o, e, hc⟩ := h2.2 hn
    refine ⟨b, o, e, fun i hi => ?_⟩
    have hb := hk b ((h8 b).2 (.inr ⟨_, e, hn, rfl⟩))
    have := hc i hi
    unfold World.cell? at this ⊢
    simp only at this ⊢
    rw [hb]
    exact this
  lt {V F} h k e := by
    obtain ⟨A, n, c, l, h1, h2, h3, h4, h5, h6, h7, h8⟩ := h
    rcases (h8 k).1 e with rfl | ⟨a, ha, hn, rfl⟩
    · exact h1.lt
    · obtain ⟨b, o, e2, hc⟩ := h2.2 hn
      rw [ha] at e2
      cases e2
      exact World.block_lt_of_cell? V _ (hc 0 (by have := h2.1; omega))
/-- A block whose cells are set, one behind the other. -/
def sets (cs : Array Value) : List (Nat × Value) → Array Value
  | [] => cs
  | p :: l => sets (cs.setIfInBounds p.1 p.2) l
/-- What a reader reads: numbers. -/
def pns : Nat → Rst → List Nat × Rst
  | 0, s => ([], s)
  | k + 1, s => ((pn s).1 :: (pns k (pn s).2).1, (pns k (pn s).2).2)
/-- Pointers in memory. -/
def PAt (w : World) (A : Option Addr) (n : Nat) (x : Nat) (is : List Nat) : Prop :=
  is.length = n ∧ (0 < n → ∃ b o, A = some ⟨b, o, none⟩ ∧ ∀ i (h : i < is.length), w.cell? ⟨b, o + i, none⟩ = some (.pointer (some ⟨x, is[i]'h, none⟩)))
theorem rdNeed (g : Nat) (V : World) (A : Option Addr) (n c : Nat) (b d : Bool) (hB : Blk V g 186 #[.slice A n c, .bool b]) :
    Calls Tryz.prog 111 #[pt g, .bool d] V fun e w' => e = .returned (.tuple #[]) ∧ Blk w' g 186 #[.slice A n c, .bool (b || !d)] ∧ Grow (fun k => k = g) V w' := by
  have v0 := hB.cell 0
  have v1 := hB.cell 1
  have vf := hB.frozen 1
  simp at v0 v1
  have HS := Lib.hid (hB.set_ 1 (.bool true))
  have HG := Lib.hid ((Grow.refl (fun k => k = g) V).set (p := ⟨g, 1, none⟩) (.inl rfl) (.bool true))
  have HB := Lib.hid hB
  have HR := Lib.hid (Grow.refl (fun k => k = g) V)
  clear hB
  cases d
  · go_enter Tryz.func111, Tryz.ntmps111
    go_wp2
    go_end0
    exact ⟨rfl, by simpa using HS.out, HG.out⟩
  · go_enter Tryz.func111, Tryz.ntmps111
    go_wp2
    go_end0
    exact ⟨rfl, by simpa using HB.out, HR.out⟩
/-! ### two things, as one -/
def bothA (A B : As) : As where
  p V F := ∃ F1 F2, A.p V F1 ∧ B.p V F2 ∧ (∀ k, F1 k → ¬ F2 k) ∧ ∀ k, F k ↔ F1 k ∨ F2 k
  on {V V' F} h hs hk := by
    obtain ⟨F1, F2, h1, h2, h3, h4⟩ := h
    exact ⟨F1, F2, A.on h1 hs (fun k e => hk k ((h4 k).2 (.inl e))), B.on h2 hs (fun k e => hk k ((h4 k).2 (.inr e))), h3, h4⟩
  lt {V F} h k e := by
    obtain ⟨F1, F2, h1, h2, h3, h4⟩ := h
    rcases (h4 k).1 e with e | e
    · exact A.lt h1 k e
    · exact B.lt h2 k e
theorem Has.both {w V : World} {A B : As} {T : List As} (h : Has w (A :: B :: T) V) : Has w (bothA A B :: T) V := by
  obtain ⟨⟨F, ⟨F1, F2, h1, ⟨F3, F4, h2, h5, h6, h7⟩, h3, h4⟩, h8⟩, h9⟩ := h
  refine ⟨⟨F, ⟨fun k => F1 k ∨ F3 k, F4, ⟨F1, F3, h1, h2, fun k e e2 => h3 k e ((h7 k).2 (.inl e2)), fun k => Iff.rfl⟩, h5, fun k e e2 => ?_, fun k => ?_⟩, h8⟩, h9⟩
  · rcases e with e | e
    · exact h3 k e ((h7 k).2 (.inr e2))
    · exact h6 k e e2
  · rw [h4, h7, or_assoc]
theorem Has.unboth {w V : World} {A B : As} {T : List As} (h : Has w (bothA A B :: T) V) : Has w (A :: B :: T) V := by
  obtain ⟨⟨F, ⟨F1, F2, ⟨F3, F4, h1, h2, h3, h4⟩, h5, h6, h7⟩, h8⟩, h9⟩ := h
  refine ⟨⟨F, ⟨F3, fun k => F4 k ∨ F2 k, h1, ⟨F4, F2, h2, h5, fun k e e2 => h6 k ((h4 k).2 (.inr e)) e2, fun k => Iff.rfl⟩, fun k e e2 => ?_, fun k => ?_⟩, h8⟩, h9⟩
  · rcases e2 with e2 | e2
    · exact h3 k e e2
    · exact h6 k ((h4 k).2 (.inl e)) e2
  · rw [h7, h4, or_assoc]
/-- One number, or text, taken: what a reader is behind it, and the block that was written. -/
theorem rd_put {V w1 w3 : World} {g x i m c' : Nat} {A' : Option Addr} {t : TypeId} {cs : Array Value} {u : Value} {rest : List UInt8} {s s' : Rst} {F : Nat → Prop} (h : (bothA (rdA g s) (blkA x t cs)).p V F) (hb : Below V.heap.size V w1)
    (ho : Own w1 V.heap.size (.slice A' m c') rest) (hm : m ≤ c') (hc : c' ≤ 9223372036854775807) (hl : rest.length ≤ 2048)
    (hB : Blk w3 g 186 #[.slice A' m c', .bool s'.isNone]) (hG : Grow (fun k => k = g) ((w1.setCell ⟨x, i, none⟩ u).setCell ⟨g, 0, none⟩ (.slice A' m c')) w3) (hs : ∀ b, s' = some b → b = rest) :
    ATurn (bothA (rdA g s') (blkA x t (cs.setIfInBounds i u))) F V w3 := by
  obtain ⟨F1, F2, ⟨A, n, c, l, h1, h2, h3, h4, h5, h6, h7, h8⟩, ⟨hx, hx2⟩, hd, hF⟩ := h
  have hgx : g ≠ x := fun e => hd g ((h8 g).2 (.inl rfl)) ((hx2 g).2 e)
  have hgl := h1.lt
  have hxl := hx.lt
  have hx1 := hx.below hb hxl
  have hx3 : Blk w3 x t (cs.setIfInBounds i u) := by
    have e1 := hx1.set_ i u
    have e2 : Blk ((w1.setCell ⟨x, i, none⟩ u).setCell ⟨g, 0, none⟩ (.slice A' m c')) x t (cs.setIfInBounds i u) := by
      unfold Blk at e1 ⊢
      rw [World.setCell, Array.getElem?_modify, if_neg hgx]
      exact e1
    exact (hG.block x e2.lt (fun e => hgx e.symm)).trans e2
  have hsz : ((w1.setCell ⟨x, i, none⟩ u).setCell ⟨g, 0, none⟩ (.slice A' m c')).heap.size = w1.heap.size := by simp [World.setCell]
  have hgr : Grow F V w3 := by
    have g1 : Grow F V ((w1.setCell ⟨x, i, none⟩ u).setCell ⟨g, 0, none⟩ (.slice A' m c')) :=
      ((Grow.of_below (F := F) hb).set (p := ⟨x, i, none⟩) (.inl ((hF x).2 (.inr ((hx2 x).2 rfl)))) u).set (p := ⟨g, 0, none⟩) (.inl ((hF g).2 (.inl ((h8 g).2 (.inl rfl))))) _
    exact g1.trans (hG.mono fun k e => .inl (e ▸ (hF g).2 (.inl ((h8 g).2 (.inl rfl)))))
  have hge : ∀ a, A' = some a → 0 < m → V.heap.size ≤ a.block ∧ a.block < w1.heap.size := by
    intro a ha hm0
    have hk := own_block_ge ho
    obtain ⟨b, o, e, _⟩ := ho.at_.2 hm0
    obtain ⟨q, e2, e3, e4⟩ := ho.some_ hm0
    rw [ha] at e2
    cases e2
    exact ⟨e3, e4⟩
  have hge0 : ∀ a, A' = some a → V.heap.size ≤ a.block := by
    intro a ha
    rcases ho.2 with ⟨e, _⟩ | ⟨q, cap, cur, e, hq, _⟩
    · injection e with e _ _
      rw [ha] at e
      cases e
    · injection e with e _ _
      rw [ha] at e
      cases e
      exact hq
  have hat : At w3 A' m rest := by
    have e0 := ho.at_
    refine ⟨e0.1, fun hn => ?_⟩
    obtain ⟨b, o, e, hc⟩ := e0.2 hn
    have hb2 := hge _ e hn
    simp only at hb2
    refine ⟨b, o, e, fun j hj => ?_⟩
    have := hc j hj
    have e5 : w3.heap[b]? = w1.heap[b]? := by
      rw [hG.block b (by rw [hsz]; omega) (by omega)]
      simp only [World.setCell, Array.getElem?_modify]
      rw [if_neg (by omega), if_neg (by omega)]
    unfold World.cell? at this ⊢
    simp only at this ⊢
    rw [e5]
    exact this
  refine ⟨fun k => (k = g ∨ ∃ a, A' = some a ∧ 0 < m ∧ a.block = k) ∨ k = x, ⟨_, fun k => k = x, ⟨A', m, c', rest, hB, hat, hm, hc, hl, hs, fun a ha => by have := hge0 a ha; omega, fun k => Iff.rfl⟩, ⟨hx3, fun k => Iff.rfl⟩, fun k e e2 => ?_, fun k => Iff.rfl⟩, hgr, fun k e => ?_⟩
  · subst e2
    rcases e with e | ⟨a, ha, hm0, e⟩
    · exact hgx e.symm
    · have := hge a ha hm0
      omega
  · rcases e with (e | ⟨a, ha, hm0, e⟩) | e
    · exact .inl (e ▸ (hF g).2 (.inl ((h8 g).2 (.inl rfl))))
    · have := hge a ha hm0
      have := hG.size
      exact .inr (by omega)
    · exact .inl (e ▸ (hF x).2 (.inr ((hx2 x).2 rfl)))
end Go.Proofs.YtldbmogondmgmaaGreatDoor
set_option linter.unusedVariables false
set_option linter.unusedSimpArgs false
set_option maxRecDepth 100000
namespace Go.Proofs.YtldbmogondmgmaaGreatDoor
open Go.RowKit

theorem sets_snoc (cs : Array Value) : ∀ (l : List (Nat × Value)) (p : Nat × Value), sets cs (l ++ [p]) = (sets cs l).setIfInBounds p.1 p.2
  | [], p => rfl
  | q :: l, p => by
    show sets (cs.setIfInBounds q.1 q.2) (l ++ [p]) = _
    rw [sets_snoc]
    rfl
abbrev ivs (is : List Nat) (vs : List Nat) : List (Nat × Value) := (is.zip vs).map fun p => (p.1, Value.int .i64 (p.2 : Int))
theorem pns_snoc : ∀ (k : Nat) (s : Rst), pns (k + 1) s = ((pns k s).1 ++ [(pn (pns k s).2).1], (pn (pns k s).2).2)
  | 0, s => rfl
  | k + 1, s => by
    rw [pns, pns_snoc k, pns]
    rfl
theorem pn_noneR {s : Rst} (h : (pn s).2 ≠ none) : s ≠ none := by
  rintro rfl
  exact h rfl
theorem tk_le (b : List UInt8) : (tk b).1 ≤ 9007199254740991 := by
  rcases tk_cases b with e | e | ⟨l, rest, e1, e2, e3, e4, e5⟩
  · rw [e]; simp
  · rw [e]; simp
  · rw [e5]; exact e4

theorem ivs_snoc : ∀ (is vs : List Nat) (v : Nat) (h : vs.length < is.length), ivs is (vs ++ [v]) = ivs is vs ++ [(is[vs.length]'h, Value.int .i64 (v : Int))]
  | [], vs, v, h => by simp at h
  | a :: is, [], v, h => by simp [ivs]
  | a :: is, b :: vs, v, h => by
    have := ivs_snoc is vs v (by simpa using h)
    simp only [ivs, List.cons_append, List.zip_cons_cons, List.map_cons] at this ⊢
    rw [this]
    rfl
theorem sets_keep : ∀ (l : List (Nat × Value)) (cs : Array Value) (i : Nat) (u : Int), (∀ p ∈ l, ∃ z, p.2 = Value.int .i64 z) → cs[i]? = some (.int .i64 u) → ∃ z, (sets cs l)[i]? = some (.int .i64 z)
  | [], cs, i, u, _, h => ⟨u, h⟩
  | p :: l, cs, i, u, hp, h => by
    obtain ⟨z, hz⟩ := hp p List.mem_cons_self
    have hp' := fun q hq => hp q (List.mem_cons_of_mem _ hq)
    by_cases he : p.1 = i
    · refine sets_keep l (cs.setIfInBounds p.1 p.2) i z hp' ?_
      have hlt : i < cs.size := (Array.getElem?_eq_some_iff.1 h).1
      rw [he, Array.getElem?_setIfInBounds_self_of_lt hlt, hz]
    · refine sets_keep l (cs.setIfInBounds p.1 p.2) i u hp' ?_
      rw [Array.getElem?_setIfInBounds_ne he]
      exact h
theorem sets_int {is vs : List Nat} {cs : Array Value} {i : Nat} {u : Int} (h : cs[i]? = some (.int .i64 u)) : ∃ z, (sets cs (ivs is vs))[i]? = some (.int .i64 z) :=
  sets_keep _ cs i u (fun p hp => by obtain ⟨q, _, rfl⟩ := List.mem_map.1 hp; exact ⟨_, rfl⟩) h
set_option maxHeartbeats 2000000 in
theorem rdNums (g x : Nat) (t : TypeId) (cs : Array Value) (s : Rst) (A : Option Addr) (n c : Nat) (is : List Nat) (V : World) (F : Nat → Prop) (hP : (bothA (rdA g s) (blkA x t cs)).p V F) (hI : PAt V A n x is) (hA : ∀ a, A = some a → ¬ F a.block)
    (hn : n ≤ 1000) (hi : ∀ i ∈ is, ∃ u, cs[i]? = some (.int .i64 u)) :
    Calls Tryz.prog 47 #[pt g, .slice A n c] V fun e w' => e = .returned (.tuple #[]) ∧ ∃ vs : List Nat, vs.length = n ∧ (∀ v ∈ vs, v ≤ 9007199254740991) ∧ ((pns n s).2 ≠ none → vs = (pns n s).1) ∧ ATurn (bothA (rdA g (pns n s).2) (blkA x t (sets cs (ivs is vs)))) F V w' := by
  have HI := Lib.hid hI
  have HA := Lib.hid hA
  have HC := Lib.hid hi
  have hT := Lib.hid (ATurn.refl hP)
  clear hI hA hP hi
  go_enter Tryz.func47, Tryz.ntmps47
  go_wp2
  go_loopw [9] (fun i wr => ∃ (j : Nat) (vs : List Nat), j ≤ n ∧ i = .int .i64 j ∧ Hid (vs.length = j ∧ (∀ v ∈ vs, v ≤ 9007199254740991) ∧ ((pns j s).2 ≠ none → vs = (pns j s).1) ∧ ATurn (bothA (rdA g (pns j s).2) (blkA x t (sets cs (ivs is vs)))) F V wr)) (fun i _ => n - (intOf i).toNat)
  case atStart => exact ⟨0, [], Nat.zero_le _, rfl, rfl, fun v hv => (nomatch hv), fun _ => rfl, by simpa [ivs, sets, pns] using hT.out⟩
  case round =>
    obtain ⟨j, vs, hj, rfl, HH⟩ := hrel
    have hl := HI.out.1
    by_cases hlt : j < n
    · have hjl : j < is.length := by omega
      obtain ⟨q1, q2, q3, F1, b1, b4, b5⟩ := HH.out
      have hIw : PAt wr A n x is := by
        refine ⟨HI.out.1, fun hn => ?_⟩
        obtain ⟨b, o, e, hc⟩ := HI.out.2 hn
        refine ⟨b, o, e, fun i hi => ?_⟩
        have h1 := hc i hi
        have hlt := World.block_lt_of_cell? V _ h1
        have := b4.block b hlt (HA.out _ e)
        unfold World.cell? at h1 ⊢
        simp only at h1 ⊢
        rw [this]
        exact h1
      obtain ⟨b, o, rfl, hc⟩ := hIw.2 (by omega)
      have h1 := hc j hjl
      obtain ⟨u, hu⟩ := HC.out _ (List.getElem_mem hjl)
      have hsn := pns_snoc j s
      generalize hst : (pns j s).2 = st at *
      generalize hvl : (pns j s).1 = vl at *
      have hb1 := b1
      obtain ⟨F2, F3, ⟨A1, n1, c1, l1, d1, d2, d3, d4, d5, d6, d7, d8⟩, ⟨f1, f2⟩, f3, f4⟩ := b1
      have g0 := d1.cell 0
      have g1 := d1.cell 1
      simp at g0 g1
      rcases htk : tk l1 with ⟨v, rest, xx⟩
      have hv : v ≤ 9007199254740991 := by have := tk_le l1; rw [htk] at this; exact this
      have hrl : rest.length ≤ l1.length := by have := tk_rest l1; rw [htk] at this; exact this
      have HQ := Lib.hid (takeNum_any A1 n1 c1 l1 rest v xx wr d2 d3 d4 (by have := d2.1; omega) htk)
      have hE : (pn st).2.isNone = (st.isNone || !((xx : Int) == 0)) ∧ (∀ b, (pn st).2 = some b → b = rest) ∧ ((pn st).2 ≠ none → (pn st).1 = v) := by
        cases st with
        | none => exact ⟨rfl, fun b hb => (nomatch hb), fun h => absurd rfl h⟩
        | some l2 =>
          obtain rfl := d6 _ rfl
          unfold pn
          simp only [htk]
          by_cases h0 : xx = 0
          · subst h0
            exact ⟨rfl, fun b hb => by simpa using hb.symm, fun _ => rfl⟩
          · rw [if_neg h0]
            exact ⟨by simp [h0], fun b hb => (nomatch hb), fun h => absurd rfl h⟩
      obtain ⟨ix, hix⟩ : ∃ ix, is[j]'hjl = ix := ⟨_, rfl⟩
      rw [hix] at h1 hu
      obtain ⟨u2, hu2⟩ := sets_int (is := is) (vs := vs) hu
      have hiv := ivs_snoc is vs v (by omega)
      rw [show is[vs.length]'(by omega) = ix by rw [← hix]; congr 1] at hiv
      have hgx : g ≠ x := fun e => f3 g ((d8 g).2 (.inl rfl)) ((f2 g).2 e)
      have HB := Lib.hid d1
      have HXb := Lib.hid f1
      have hcx := f1.cell ix
      rw [hu2] at hcx
      have HPn := Lib.hid (show (pns (j + 1) s).2 = (pn st).2 ∧ (pns (j + 1) s).1 = vl ++ [(pn st).1] by rw [hsn]; exact ⟨rfl, rfl⟩)
      have HTr := Lib.hid (show Grow F V wr ∧ (∀ k, F1 k → nF F V wr k) from ⟨b4, b5⟩)
      have HBoth := Lib.hid hb1
      have HEE := Lib.hid hE
      have HIV := Lib.hid hiv
      have hd5 : rest.length ≤ 2048 := by omega
      have Q1 := Lib.hid q1
      have Q2 := Lib.hid q2
      have Q3 := Lib.hid q3
      clear hc hIw hsn hst hvl HH b4 b5 hb1 d2 d3 d4 d5 d6 d7 d8 f1 f2 f3 f4 hE hiv q1 q2 q3 htk hrl hu hu2 d1 hix
      go_wp2_with (first
        | (go_at_call 110; refine HQ.out.mono ?_; rintro e w1 ⟨Ar, mr, cr, rfl, hor, hr1, hr2, hb1⟩
           have hB1 := HB.out.below hb1 HB.out.lt
           have hX1 := HXb.out.below hb1 HXb.out.lt
           have x1 : w1.cell? ⟨x, ix, none⟩ = some (.int .i64 u2) := (hb1.cell (p := ⟨x, ix, none⟩) HXb.out.lt).trans hcx
           have x2 := hX1.frozen ix
           have hB2 : Blk (w1.setCell ⟨x, ix, none⟩ (.int .i64 (v : Int))) g 186 #[.slice A1 n1 c1, .bool st.isNone] := by
             unfold Blk at hB1 ⊢
             rw [World.setCell, Array.getElem?_modify, if_neg (fun e => hgx e.symm)]
             exact hB1
           have y0 := hB2.cell 0
           have y2 := hB2.frozen 0
           simp at y0
           have hB3 : Blk ((w1.setCell ⟨x, ix, none⟩ (.int .i64 (v : Int))).setCell ⟨g, 0, none⟩ (.slice Ar mr cr)) g 186 #[.slice Ar mr cr, .bool st.isNone] := hB2.set_ 0 _
           clear hB1 hX1 hB2)
        | (go_at_call 111; refine (rdNeed g _ Ar mr cr st.isNone _ hB3).mono ?_; rintro e w3 ⟨rfl, hB4, hG4⟩))
      rw [← HEE.out.1] at hB4
      go_roundw
      case rel =>
        obtain ⟨b4, b5⟩ := HTr.out
        obtain ⟨F5, p1, p2, p3⟩ := rd_put HBoth.out hb1 hor hr1 hr2 hd5 hB4 hG4 HEE.out.2.1
        refine ⟨j + 1, vs ++ [v], by omega, by go_num, Lib.hid ⟨by rw [List.length_append, Q1.out]; rfl, fun z hz => ?_, fun hne => ?_, F5, ?_, b4.trans (p2.mono b5), fun k e => nF_nF b4.size p2.size b5 k (p3 k e)⟩⟩
        · rcases List.mem_append.1 hz with hz | hz
          · exact Q2.out z hz
          · have := List.mem_singleton.1 hz
            omega
        · rw [HPn.out.1] at hne
          rw [HPn.out.2, Q3.out (pn_noneR hne), HEE.out.2.2 hne]
        · rw [HPn.out.1, HIV.out, sets_snoc]
          exact p1
      case measure => simp [intOf]; omega
    · have hjn : j = n := by omega
      have HE := Lib.hid HH.out
      subst hjn
      clear HH
      go_wp2
      go_end0
      exact ⟨rfl, vs, HE.out⟩

/-- The reader alone: what a call that reads leaves. -/
theorem rd_put1 {V w1 w3 : World} {g m c' : Nat} {A' : Option Addr} {rest : List UInt8} {s s' : Rst} {F : Nat → Prop} (h : (rdA g s).p V F) (hb : Below V.heap.size V w1)
    (ho : Own w1 V.heap.size (.slice A' m c') rest) (hm : m ≤ c') (hc : c' ≤ 9223372036854775807) (hl : rest.length ≤ 2048)
    (hB : Blk w3 g 186 #[.slice A' m c', .bool s'.isNone]) (hG : Grow (fun k => k = g) (w1.setCell ⟨g, 0, none⟩ (.slice A' m c')) w3) (hs : ∀ b, s' = some b → b = rest) :
    ATurn (rdA g s') F V w3 := by
  obtain ⟨A, n, c, l, h1, h2, h3, h4, h5, h6, h7, h8⟩ := h
  have hgl := h1.lt
  have hsz : (w1.setCell ⟨g, 0, none⟩ (.slice A' m c')).heap.size = w1.heap.size := by simp [World.setCell]
  have hgr : Grow F V w3 :=
    ((Grow.of_below (F := F) hb).set (p := ⟨g, 0, none⟩) (.inl ((h8 g).2 (.inl rfl))) _).trans (hG.mono fun k e => .inl (e ▸ (h8 g).2 (.inl rfl)))
  have hge : ∀ a, A' = some a → 0 < m → V.heap.size ≤ a.block ∧ a.block < w1.heap.size := by
    intro a ha hm0
    obtain ⟨q, e2, e3, e4⟩ := ho.some_ hm0
    rw [ha] at e2
    cases e2
    exact ⟨e3, e4⟩
  have hge0 : ∀ a, A' = some a → V.heap.size ≤ a.block := by
    intro a ha
    rcases ho.2 with ⟨e, _⟩ | ⟨q, cap, cur, e, hq, _⟩
    · injection e with e _ _
      rw [ha] at e
      cases e
    · injection e with e _ _
      rw [ha] at e
      cases e
      exact hq
  have hat : At w3 A' m rest := by
    have e0 := ho.at_
    refine ⟨e0.1, fun hn => ?_⟩
    obtain ⟨b, o, e, hc⟩ := e0.2 hn
    have hb2 := hge _ e hn
    simp only at hb2
    refine ⟨b, o, e, fun j hj => ?_⟩
    have := hc j hj
    have e5 : w3.heap[b]? = w1.heap[b]? := by
      rw [hG.block b (by rw [hsz]; omega) (by omega)]
      simp only [World.setCell, Array.getElem?_modify]
      rw [if_neg (by omega)]
    unfold World.cell? at this ⊢
    simp only at this ⊢
    rw [e5]
    exact this
  refine ⟨fun k => (k = g ∨ ∃ a, A' = some a ∧ 0 < m ∧ a.block = k), ⟨A', m, c', rest, hB, hat, hm, hc, hl, hs, fun a ha => by have := hge0 a ha; omega, fun k => Iff.rfl⟩, hgr, fun k e => ?_⟩
  rcases e with e | ⟨a, ha, hm0, e⟩
  · exact .inl (e ▸ (h8 g).2 (.inl rfl))
  · have := hge a ha hm0
    have := hG.size
    exact .inr (by omega)
set_option maxHeartbeats 2000000 in
theorem rdStr (g : Nat) (s : Rst) (V : World) (F : Nat → Prop) (hP : (rdA g s).p V F) :
    Calls Tryz.prog 48 #[pt g] V fun e w' => ∃ t : ByteArray, e = .returned (.string t) ∧ ((ps s).2 ≠ none → t = (ps s).1) ∧ ATurn (rdA g (ps s).2) F V w' := by
  have HP := Lib.hid hP
  obtain ⟨A1, n1, c1, l1, d1, d2, d3, d4, d5, d6, d7, d8⟩ := hP
  have g0 := d1.cell 0
  simp at g0
  rcases htk : tsx l1 64 with ⟨t, rest, xx⟩
  have hrl : rest.length ≤ l1.length := by have := tsx_rest l1 64; rw [htk] at this; exact this
  have HQ := Lib.hid (takeStr_any A1 n1 c1 64 l1 t rest xx V d2 d3 d4 (by have := d2.1; omega) htk)
  have hE : (ps s).2.isNone = (s.isNone || !((xx : Int) == 0)) ∧ (∀ b, (ps s).2 = some b → b = rest) ∧ ((ps s).2 ≠ none → (⟨t.toArray⟩ : ByteArray) = (ps s).1) := by
    cases s with
    | none => exact ⟨rfl, fun b hb => (nomatch hb), fun h => absurd rfl h⟩
    | some l2 =>
      obtain rfl := d6 _ rfl
      unfold ps
      simp only [htk]
      by_cases h0 : xx = 0
      · subst h0
        exact ⟨rfl, fun b hb => by simpa using hb.symm, fun _ => rfl⟩
      · rw [if_neg h0]
        exact ⟨by simp [h0], fun b hb => (nomatch hb), fun h => absurd rfl h⟩
  have HB := Lib.hid d1
  have HEE := Lib.hid hE
  have hd5 : rest.length ≤ 2048 := by omega
  clear d2 d3 d4 d5 d6 d7 d8 hE htk hrl d1
  go_enter Tryz.func48, Tryz.ntmps48
  go_wp2_with (first
    | (go_at_call 112; refine HQ.out.mono ?_; rintro e w1 ⟨Ar, mr, cr, rfl, hor, hr1, hr2, hb1⟩
       have hB1 := HB.out.below hb1 HB.out.lt
       have y0 := hB1.cell 0
       have y2 := hB1.frozen 0
       simp at y0
       have hB3 : Blk (w1.setCell ⟨g, 0, none⟩ (.slice Ar mr cr)) g 186 #[.slice Ar mr cr, .bool s.isNone] := hB1.set_ 0 _
       clear hB1)
    | (go_at_call 111; refine (rdNeed g _ Ar mr cr s.isNone _ hB3).mono ?_; rintro e w3 ⟨rfl, hB4, hG4⟩))
  rw [← HEE.out.1] at hB4
  go_ret
  exact ⟨_, rfl, HEE.out.2.2, rd_put1 HP.out hb1 hor hr1 hr2 hd5 hB4 hG4 HEE.out.2.1⟩
theorem rd_need {V w' : World} {g : Nat} {A : Option Addr} {n c : Nat} {s s' : Rst} {F : Nat → Prop} (h : (rdA g s).p V F) (h0 : Blk V g 186 #[.slice A n c, .bool s.isNone]) (hB : Blk w' g 186 #[.slice A n c, .bool s'.isNone]) (hG : Grow (fun k => k = g) V w') (hs : ∀ b, s' = some b → s = some b) :
    ATurn (rdA g s') F V w' := by
  obtain ⟨A1, n1, c1, l, h1, h2, h3, h4, h5, h6, h7, h8⟩ := h
  have e := h1.symm.trans h0
  simp at e
  obtain ⟨rfl, rfl, rfl⟩ := e
  refine ⟨F, ⟨A1, n1, c1, l, hB, ⟨h2.1, fun hn => ?_⟩, h3, h4, h5, fun b hb => h6 b (hs b hb), h7, h8⟩, hG.mono fun k e => (h8 k).2 (.inl e), fun k e => .inl e⟩
  obtain ⟨b, o, e, hc⟩ := h2.2 hn
  refine ⟨b, o, e, fun j hj => ?_⟩
  have := hc j hj
  have hlt := World.block_lt_of_cell? V _ this
  have hne := h7 _ e
  have e5 := hG.block b hlt hne
  unfold World.cell? at this ⊢
  simp only at this ⊢
  rw [e5]
  exact this
theorem bothA_mk {V : World} {A B : As} {F F2 : Nat → Prop} (hA : A.p V F) (hB : B.p V F2) (hd : ∀ k, F k → ¬ F2 k) : (bothA A B).p V (fun k => F k ∨ F2 k) := ⟨F, F2, hA, hB, hd, fun k => Iff.rfl⟩
/-- A thing, with a block that the call has made beside it, behind a call that turned both: the thing. -/
theorem ATurn.drop {V V1 V2 : World} {A A2 B2 : As} {F F2 : Nat → Prop} (hA : A.p V F) (hb : Below V.heap.size V V1) (hF2 : ∀ k, F2 k → V.heap.size ≤ k ∧ k < V1.heap.size) (h : ATurn (bothA A2 B2) (fun k => F k ∨ F2 k) V1 V2) :
    ∃ F3 F4, A2.p V2 F3 ∧ B2.p V2 F4 ∧ (∀ k, F3 k → ¬ F4 k) ∧ Grow F V V2 ∧ (∀ k, F3 k → nF F V V2 k) ∧ ∀ k, F4 k → nF F V V2 k := by
  obtain ⟨F1, ⟨F3, F4, a1, a2, a3, a4⟩, b1, b2⟩ := h
  have hs : ∀ k, nF (fun k => F k ∨ F2 k) V1 V2 k → nF F V V2 k := by
    rintro k ((e | e) | e)
    · exact .inl e
    · exact .inr ⟨(hF2 k e).1, by have := b1.size; have := (hF2 k e).2; omega⟩
    · exact .inr ⟨by have := hb.size; omega, e.2⟩
  refine ⟨F3, F4, a1, a2, a3, (Grow.of_below (F := F) hb).trans (b1.mono fun k e => e.elim .inl fun e => .inr (hF2 k e)), fun k e => hs k (b2 k ((a4 k).2 (.inl e))), fun k e => hs k (b2 k ((a4 k).2 (.inr e)))⟩
set_option maxHeartbeats 2000000 in
theorem rdFlag (g : Nat) (s : Rst) (V : World) (F : Nat → Prop) (hP : (rdA g s).p V F) :
    Calls Tryz.prog 52 #[pt g] V fun e w' => ∃ d : Bool, e = .returned (.bool d) ∧ ((pf s).2 ≠ none → d = (pf s).1) ∧ ATurn (rdA g (pf s).2) F V w' := by
  have hlt := (rdA g s).lt hP
  have hb1 := nbl V (.cells #[.int .i64 0] 3)
  have hb2 := hb1.alloc (by simp) (.cells #[.pointer (some ⟨V.heap.size, 0, none⟩)] 114)
  have hX : Blk ((V.alloc (.cells #[.int .i64 0] 3)).alloc (.cells #[.pointer (some ⟨V.heap.size, 0, none⟩)] 114)) V.heap.size 3 #[.int .i64 0] := (Blk.new V _ _).below (nbl _ _) (by simp)
  have hR : (rdA g s).p ((V.alloc (.cells #[.int .i64 0] 3)).alloc (.cells #[.pointer (some ⟨V.heap.size, 0, none⟩)] 114)) F := (rdA g s).on hP hb2.size fun k e => hb2.block k (hlt k e)
  have hQ := rdNums g V.heap.size 3 #[.int .i64 0] s (some ⟨V.heap.size + 1, 0, none⟩) 1 1 [0] _ _ (bothA_mk (B := blkA V.heap.size 3 #[.int .i64 0]) hR ⟨hX, fun k => Iff.rfl⟩ (fun k e e2 => by have := hlt k e; omega))
    ⟨rfl, fun _ => ⟨V.heap.size + 1, 0, rfl, fun i hi => by
      have : i = 0 := by simp at hi; omega
      subst this
      simp⟩⟩
    (fun a ha e => by
      cases ha
      rcases e with e | e
      · have := hlt _ e; simp at this; omega
      · simp at e) (by omega) (fun i hi => by simp at hi; subst hi; exact ⟨0, rfl⟩)
  have HQ := Lib.hid hQ
  have HP := Lib.hid hP
  have HB := Lib.hid hb2
  clear hX hR hQ hb1 hb2 hP
  go_enter Tryz.func52, Tryz.ntmps52
  go_wp2_with (first
    | (go_at_call 47; refine HQ.out.mono ?_; rintro e w1 ⟨rfl, vs, hvl, hvb, hvs, ht⟩
       obtain ⟨v, rfl⟩ : ∃ v, vs = [v] := by
         match vs, hvl with
         | [v], _ => exact ⟨v, rfl⟩
       obtain ⟨F3, F4, a1, ⟨a2, _⟩, a3, a4, a5, a6⟩ := ht.drop HP.out HB.out (fun k e => by subst e; exact ⟨Nat.le_refl _, by simp; omega⟩)
       have e1 : (pns 1 s).2 = (pn s).2 := rfl
       rw [e1] at a1 hvs
       have a0 := a1
       obtain ⟨A1, n1, c1, l1, d1, d2, d3, d4, d5, d6, d7, d8⟩ := a1
       have x0 := a2.cell 0
       simp [sets, ivs] at x0
       have hgx : V.heap.size ≠ g := fun e => by have := HP.out; obtain ⟨_, _, _, _, q1, _⟩ := this; have := q1.lt; omega
       have HX := Lib.hid a2
       clear a2 d2 d3 d4 d5 d6 d7 d8)
    | (go_at_call 111; refine (rdNeed g _ A1 n1 c1 _ _ d1).mono ?_; rintro e w3 ⟨rfl, hB4, hG4⟩
       have hX3 : Blk w3 V.heap.size 3 #[.int .i64 (v : Int)] := (hG4.block _ HX.out.lt hgx).trans HX.out
       have x3 := hX3.cell 0
       simp at x3))
  have hN : ((pn s).2.isNone || !decide ((v : Int) ≤ 1)) = (pf s).2.isNone ∧ ((pf s).2 ≠ none → ((v : Int) == 1) = (pf s).1) ∧ (∀ b, (pf s).2 = some b → (pn s).2 = some b) := by
    unfold pf
    rcases hp : pn s with ⟨u, o⟩
    rw [hp] at hvs
    cases o with
    | none => exact ⟨by simp, fun h => absurd (by simp) h, fun b hb => by simp at hb⟩
    | some r =>
      have e := hvs (by simp)
      have e2 : (pns 1 s).1 = [u] := by show [(pn s).1] = _; rw [hp]
      rw [e2] at e
      obtain rfl : v = u := by simpa using e
      by_cases h1 : 1 < v
      · simp [h1]
        omega
      · simp [h1]
        constructor
        · omega
        · rw [Bool.eq_iff_iff]
          simp
          omega
  rw [hN.1] at hB4
  go_ret
  obtain ⟨F5, p1, p2, p3⟩ := rd_need a0 d1 hB4 hG4 hN.2.2
  exact ⟨_, rfl, hN.2.1, F5, p1, a4.trans (p2.mono a5), nF_nF a4.size p2.size a5 |> fun f k e => f k (p3 k e)⟩
end Go.Proofs.YtldbmogondmgmaaGreatDoor
set_option linter.unusedVariables false
set_option linter.unusedSimpArgs false
set_option maxRecDepth 100000
namespace Go.Proofs.YtldbmogondmgmaaGreatDoor
open Go.RowKit

theorem rdDone (g : Nat) (s : Rst) (V : World) (F : Nat → Prop) (hP : (rdA g s).p V F) :
    Calls Tryz.prog 53 #[pt g] V fun e w' => e = .returned (.bool (decide (s = some []))) ∧ w' = V := by
  obtain ⟨A, n, c, l, d1, d2, d3, d4, d5, d6, d7, d8⟩ := hP
  have g0 := d1.cell 0
  have g1 := d1.cell 1
  simp at g0 g1
  have hl := d2.1
  cases s with
  | none =>
    clear d1 d2 d8
    go_enter Tryz.func53, Tryz.ntmps53
    go_wp2
    go_ret
    exact ⟨rfl, rfl⟩
  | some l2 =>
    obtain rfl := d6 _ rfl
    have hd : decide (some l2 = some ([] : List UInt8)) = ((n : Int) == 0) := by
      rw [← hl]
      cases l2 <;> simp
      omega
    have HD := Lib.hid hd
    clear d1 d2 d8 hd
    go_enter Tryz.func53, Tryz.ntmps53
    go_wp2
    go_ret
    exact ⟨by rw [HD.out]; rfl, rfl⟩
theorem newRd (t : ByteArray) (V : World) (ht : t.size ≤ 225000000000000) :
    Calls Tryz.prog 46 #[.string t] V fun e w' => ∃ g, e = .returned (pt g) ∧ Below V.heap.size V w' ∧ ∃ F, (rdA g (if t.size ≤ 2048 then some (sb t) else none)).p w' F ∧ ∀ k, F k → V.heap.size ≤ k := by
  by_cases h : t.size ≤ 2048
  · rw [if_pos h]
    have hW := bytesWorld_below V 5 t
    have hA := bytesWorld_at V 5 t
    have kc := fun w => Lib.run_convert_string_bytes (P := Tryz.prog) w 9 160 5 t Tryz.underlying9 Tryz.underlying160 Tryz.underlying5
    have hc1 := grownCap_ge V t.size 0 5
    have hc2 := grownCap_le_maxLen V t.size 0 5 (by unfold maxLen; omega)
    have hc3 : maxLen ≤ 9223372036854775807 := by decide
    have hsz : (Lib.bytesWorld V 5 t).heap.size = V.heap.size + 1 := Lib.bytesWorld_size V 5 t
    have HA := Lib.hid hA
    have HW := Lib.hid hW
    have kc0 := kc V
    clear hA hW kc
    go_enter Tryz.func46, Tryz.ntmps46
    go_wp2
    go_ret
    refine ⟨V.heap.size + 1, by first | rfl | (simp [hsz]; done), HW.out.alloc HW.out.size _, fun k => (k = V.heap.size + 1 ∨ ∃ a, some (⟨V.heap.size, 0, none⟩ : Addr) = some a ∧ 0 < t.size ∧ a.block = k), ⟨some ⟨V.heap.size, 0, none⟩, t.size, grownCap V t.size 0 5, sb t, ?_, HA.out.alloc _, hc1, by omega, by rw [sb_len]; exact h, fun b hb => by simpa using hb.symm, fun a ha => by cases ha; simp, fun k => Iff.rfl⟩, fun k e => ?_⟩
    · rw [← hsz]
      exact Blk.new _ _ _
    · rcases e with e | ⟨a, ha, _, e⟩
      · omega
      · cases ha
        simp at e
        omega
  · rw [if_neg h]
    go_enter Tryz.func46, Tryz.ntmps46
    go_wp2
    go_ret
    refine ⟨_, rfl, nbl V _, fun k => k = V.heap.size, ⟨none, 0, 0, [], Blk.new V _ _, ⟨rfl, fun h0 => absurd h0 (by omega)⟩, Nat.le_refl _, by omega, by simp, fun b hb => (nomatch hb), fun a ha => (nomatch ha), fun k => ⟨.inl, fun e => e.elim id (fun ⟨a, ha, _⟩ => nomatch ha)⟩⟩, fun k e => Nat.le_of_eq e.symm⟩
end Go.Proofs.YtldbmogondmgmaaGreatDoor
set_option linter.unusedVariables false
set_option linter.unusedSimpArgs false
set_option maxRecDepth 100000
namespace Go.Proofs.YtldbmogondmgmaaGreatDoor
open Go.RowKit

section
variable {w V : World} {T : List As} {g x : Nat} {s : Rst} {t : TypeId} {cs : Array Value}
theorem Has.acallE {α : Type} {A : As} {A' : α → As} {Q : α → Ending → Prop} (h : Has w (A :: T) V) {W : World} {f : FuncId} {args : Array Value}
    (hc : ∀ F, A.p V F → Calls Tryz.prog f args W fun e w' => ∃ a, Q a e ∧ ATurn (A' a) F V w') :
    Calls Tryz.prog f args W fun e w' => ∃ a, Q a e ∧ Has w (A' a :: T) w' := by
  obtain ⟨F, h1, _, h2⟩ := h.step
  refine (hc F h1).mono ?_
  rintro e w' ⟨a, hq, F', h3, h4, h5⟩
  exact ⟨a, hq, h2 w' (A' a) F' h4 h3 h5⟩
theorem Has.rdNew (h : Has w T V) (u : ByteArray) (ht : u.size ≤ 225000000000000) :
    Calls Tryz.prog 46 #[.string u] V fun e w' => ∃ g, e = .returned (pt g) ∧ Has w (rdA g (if u.size ≤ 2048 then some (sb u) else none) :: T) w' := by
  refine (newRd u V ht).mono ?_
  rintro e w' ⟨g, rfl, hb, F, h1, h2⟩
  exact ⟨g, rfl, h.new hb h1 h2⟩
theorem Has.rdStr (h : Has w (rdA g s :: T) V) :
    Calls Tryz.prog 48 #[pt g] V fun e w' => ∃ u : ByteArray, (e = .returned (.string u) ∧ ((ps s).2 ≠ none → u = (ps s).1)) ∧ Has w (rdA g (ps s).2 :: T) w' :=
  h.acallE (A' := fun _ => rdA g (ps s).2) fun F hP => (Go.Proofs.YtldbmogondmgmaaGreatDoor.rdStr g s V F hP).mono fun e w' ⟨u, h1, h2, h3⟩ => ⟨u, ⟨h1, h2⟩, h3⟩
theorem Has.rdFlag (h : Has w (rdA g s :: T) V) :
    Calls Tryz.prog 52 #[pt g] V fun e w' => ∃ d : Bool, (e = .returned (.bool d) ∧ ((pf s).2 ≠ none → d = (pf s).1)) ∧ Has w (rdA g (pf s).2 :: T) w' :=
  h.acallE (A' := fun _ => rdA g (pf s).2) fun F hP => (Go.Proofs.YtldbmogondmgmaaGreatDoor.rdFlag g s V F hP).mono fun e w' ⟨u, h1, h2, h3⟩ => ⟨u, ⟨h1, h2⟩, h3⟩
theorem Has.rdDone (h : Has w (rdA g s :: T) V) :
    Calls Tryz.prog 53 #[pt g] V fun e w' => e = .returned (.bool (decide (s = some []))) ∧ w' = V := by
  obtain ⟨F, h1, _⟩ := h.get
  exact Go.Proofs.YtldbmogondmgmaaGreatDoor.rdDone g s V F h1
theorem pat_lit (V : World) (x : Nat) (is : List Nat) (t : TypeId) : PAt (V.alloc (.cells (is.map fun i => Value.pointer (some ⟨x, i, none⟩)).toArray t)) (some ⟨V.heap.size, 0, none⟩) is.length x is := by
  refine ⟨rfl, fun _ => ⟨_, _, rfl, fun i hi => ?_⟩⟩
  simp [hi]
theorem Has.rdNums (h : Has w (rdA g s :: blkA x t cs :: T) V) (is : List Nat) {b : Nat} (hb : b = V.heap.size) {pcs : Array Value} {k : Nat} {pt' : TypeId} (hcs : pcs = (is.map fun i => Value.pointer (some ⟨x, i, none⟩)).toArray) (hk : k = is.length)
    (hn : is.length ≤ 1000) (hi : ∀ i ∈ is, ∃ u, cs[i]? = some (.int .i64 u)) :
    Calls Tryz.prog 47 #[pt g, .slice (some ⟨b, 0, none⟩) k k] (V.alloc (.cells pcs pt')) fun e w' => ∃ vs : List Nat, (e = .returned (.tuple #[]) ∧ vs.length = is.length ∧ (∀ v ∈ vs, v ≤ 9007199254740991) ∧ ((pns is.length s).2 ≠ none → vs = (pns is.length s).1)) ∧ Has w (rdA g (pns is.length s).2 :: blkA x t (sets cs (ivs is vs)) :: T) w' := by
  subst hb hcs hk
  have h2 := h.both.acallE (A' := fun vs : List Nat => bothA (rdA g (pns is.length s).2) (blkA x t (sets cs (ivs is vs)))) (Q := fun vs e => e = .returned (.tuple #[]) ∧ vs.length = is.length ∧ (∀ v ∈ vs, v ≤ 9007199254740991) ∧ ((pns is.length s).2 ≠ none → vs = (pns is.length s).1))
    (W := V.alloc (.cells (is.map fun i => Value.pointer (some ⟨x, i, none⟩)).toArray pt')) (f := 47) (args := #[pt g, .slice (some ⟨V.heap.size, 0, none⟩) is.length is.length]) fun F hP => by
    have hlt := (bothA (rdA g s) (blkA x t cs)).lt hP
    refine (Go.Proofs.YtldbmogondmgmaaGreatDoor.rdNums g x t cs s (some ⟨V.heap.size, 0, none⟩) is.length is.length is _ F ((bothA (rdA g s) (blkA x t cs)).on hP (nbl V _).size fun k e => (nbl V _).block k (hlt k e)) (pat_lit V x is pt')
      (fun a ha e => by cases ha; have := hlt _ e; simp at this) hn hi).mono ?_
    rintro e w' ⟨h1, vs, h3, h4, h5, h6⟩
    exact ⟨vs, ⟨h1, h3, h4, h5⟩, h6.pre (nbl V _) hlt⟩
  exact h2.mono fun e w' ⟨vs, hq, hh⟩ => ⟨vs, hq, hh.unboth⟩
theorem Has.rowTurn {E : TypeId} {sz : Nat} {v v' : Value} {n n' : Nat} {xs xs' : List Value} {V' : World} (h : Has w (rowA E sz v n xs :: T) V) (h1 : V'.ownsRow 0 E sz v' n' xs') (hg : V.grownBy V' v.ownBlock) (hob : v'.ownBlock = v.ownBlock ∨ v'.ownBlock = some V.heap.size) :
    Has w (rowA E sz v' n' xs' :: T) V' := by
  obtain ⟨F, a1, _, a2⟩ := h.step
  refine a2 V' _ (fun k => v'.ownBlock = some k) (Grow.by_ hg fun k e => (a1.2 k).2 e) ⟨h1, fun k => Iff.rfl⟩ fun k e => ?_
  have hlt : k < V'.heap.size := (rowA E sz v' n' xs').lt (V := V') (F := fun k => v'.ownBlock = some k) ⟨h1, fun k => Iff.rfl⟩ k e
  rcases hob with hob | hob
  · exact .inl ((a1.2 k).2 (hob ▸ e))
  · rw [hob] at e
    injection e with e
    exact .inr ⟨by omega, hlt⟩
theorem Has.rowOf {E : TypeId} {sz : Nat} {v : Value} {n : Nat} {xs : List Value} (h : Has w (rowA E sz v n xs :: T) V) : V.ownsRow 0 E sz v n xs := by
  obtain ⟨F, a1, _⟩ := h.get
  exact a1.1
end

end Go.Proofs.YtldbmogondmgmaaGreatDoor
set_option linter.unusedVariables false
set_option linter.unusedSimpArgs false
set_option maxRecDepth 100000
namespace Go.Proofs.YtldbmogondmgmaaGreatDoor
open Go.RowKit

section
variable {w V V' : World} {l T : List As} {A : As} {F : Nat → Prop} {g : Nat}
theorem Sep.memL (h : Sep V l F) (hm : A ∈ l) : ∃ F1, A.p V F1 ∧ ∀ k, F1 k → F k := by
  induction l generalizing F with
  | nil => cases hm
  | cons B l ih =>
    obtain ⟨F1, F2, h1, h2, h3, h4⟩ := h
    rcases List.mem_cons.1 hm with rfl | hm
    · exact ⟨F1, h1, fun k e => (h4 k).2 (.inl e)⟩
    · obtain ⟨F3, h5, h6⟩ := ih h2 hm
      exact ⟨F3, h5, fun k e => (h4 k).2 (.inr (h6 k e))⟩
end
end Go.Proofs.YtldbmogondmgmaaGreatDoor
set_option linter.unusedVariables false
set_option linter.unusedSimpArgs false
set_option maxRecDepth 100000
namespace Go.Proofs.YtldbmogondmgmaaGreatDoor
open Go.RowKit

theorem isKey_c (s : ByteArray) (b : Bool) (h : isK s = b) (w : World) : Calls Tryz.prog 107 #[.string s] w fun e w' => e = .returned (.bool b) ∧ w = w' := by
  have hb : ((if 1 ≤ s.size ∧ s.size ≤ 32 then 0 else 2 : Int) == 0) = b := by
    subst h
    unfold isK
    by_cases h1 : 1 ≤ s.size ∧ s.size ≤ 32
    · rw [if_pos h1, decide_eq_true h1]; rfl
    · rw [if_neg h1, decide_eq_false h1]; rfl
  have HC := Lib.hid (check s)
  generalize (if 1 ≤ s.size ∧ s.size ≤ 32 then 0 else 2 : Int) = x at hb HC
  have HB := Lib.hid hb
  clear hb h
  go_enter Tryz.func107, Tryz.ntmps107
  go_wp2_with fail
  refine (HC.out _).mono ?_
  rintro e w1 ⟨rfl, rfl⟩
  go_wp2
  go_ret
  exact ⟨congrArg (fun b => Ending.returned (Value.bool b)) HB.out, rfl⟩
theorem empty_iff (s : ByteArray) : (s.toList == ([] : List UInt8)) = decide (s.size = 0) := by
  rw [Lib.toList_data, ← sb_len]
  show (sb s == []) = _
  generalize sb s = l
  cases l <;> rfl
theorem empty_is (s : ByteArray) : s.toList.isEmpty = decide (s.size = 0) := by
  rw [Lib.toList_data, ← sb_len]
  show (sb s).isEmpty = _
  generalize sb s = l
  cases l <;> rfl
/-! ### one change, one write, one stamp -/
end Go.Proofs.YtldbmogondmgmaaGreatDoor
set_option linter.unusedVariables false
set_option maxRecDepth 100000
namespace Go.Proofs.YtldbmogondmgmaaGreatDoor
open Go.RowKit


end Go.Proofs.YtldbmogondmgmaaGreatDoor
set_option linter.unusedVariables false
set_option linter.unusedSimpArgs false
set_option maxRecDepth 100000
namespace Go.Proofs.YtldbmogondmgmaaGreatDoor
open Go.RowKit

/-! ### plain texts -/
def ansT (ok : Bool) (l : List UInt8) : Ending := .returned (.tuple #[.string (if ok then ⟨l.toArray⟩ else ⟨#[]⟩), .int .i64 (if ok then 0 else 2)])
theorem ansT_t (l : List UInt8) : ansT true l = .returned (.tuple #[.string ⟨l.toArray⟩, .int .i64 0]) := rfl
end Go.Proofs.YtldbmogondmgmaaGreatDoor
set_option linter.unusedVariables false
set_option linter.unusedSimpArgs false
set_option maxRecDepth 100000
namespace Go.Proofs.YtldbmogondmgmaaGreatDoor
open Go.RowKit

theorem Has.apart {w V : World} {l : List As} {A : Option Addr} {n c s m g : Nat} {E t : TypeId} {xs : List Value} {cs : Array Value} (h : Has w (rowA E s (.slice A n c) m xs :: l) V) (hm : blkA g t cs ∈ l) : ∀ a, A = some a → a.block ≠ g := by
  obtain ⟨⟨F, ⟨F1, F2, h1, h2, h3, h4⟩, _⟩, _⟩ := h
  obtain ⟨F3, a1, a2⟩ := h2.memL hm
  intro a ha e
  subst ha
  exact h3 g ((h1.2 g).2 (by rw [← e]; rfl)) (a2 g ((a1.2 g).2 rfl))
end Go.Proofs.YtldbmogondmgmaaGreatDoor
set_option linter.unusedVariables false
set_option linter.unusedSimpArgs false
set_option maxRecDepth 100000
namespace Go.Proofs.YtldbmogondmgmaaGreatDoor
open Go.RowKit

theorem Blk.all2 {w : World} {g : Nat} {t : TypeId} {c0 c1 v0 v1 : Value} (h : Blk w g t #[c0, c1]) : Blk ((w.setCell ⟨g, 0, none⟩ v0).setCell ⟨g, 1, none⟩ v1) g t #[v0, v1] := by
  have := (h.set_ 0 v0).set_ 1 v1
  simpa using this
def AnsV (o : Option (ByteArray × Bool)) : Ending :=
  match o with
  | none => .returned (.tuple #[.string ⟨#[]⟩, .bool false, .int .i64 4])
  | some x => .returned (.tuple #[.string x.1, .bool x.2, .int .i64 0])
theorem s0_long (t : ByteArray) {s0 : Rst} (hs0 : (if t.size ≤ 2048 then some (sb t) else none) = s0) : (s0 = some (sb t)) ∨ (s0 = none ∧ 2048 < (sb t).length) := by
  by_cases hz : t.size ≤ 2048
  · rw [if_pos hz] at hs0; exact .inl hs0.symm
  · rw [if_neg hz] at hs0; exact .inr ⟨hs0.symm, by rw [sb_len]; omega⟩
theorem tkV_of {b : List UInt8} {d : Bool} (hd : (pf (some b)).2 ≠ none → d = (pf (some b)).1) : tkV b = if d = true then (if (ps (pf (some b)).2).2 = some [] then some ((ps (pf (some b)).2).1, true) else none) else if (pf (some b)).2 = some [] then some (⟨#[]⟩, false) else none := by
  unfold tkV
  simp only
  cases h : (pf (some b)).2 with
  | none => cases (pf (some b)).1 <;> cases d <;> simp [ps_none]
  | some r =>
    rw [hd (by rw [h]; simp)]
set_option maxHeartbeats 1000000 in
theorem takeV_c (t : ByteArray) (w : World) (ht : t.size ≤ 225000000000000) :
    Calls Tryz.prog 29 #[.string t] w fun e w' => e = AnsV (tkV (sb t)) ∧ Below w.heap.size w w' := by
  have HN := Lib.hid ((Has.nil (Below.refl w.heap.size w)).rdNew t ht)
  obtain ⟨s0, hs0⟩ : ∃ s0 : Rst, (if t.size ≤ 2048 then some (sb t) else none) = s0 := ⟨_, rfl⟩
  rw [hs0] at HN
  have HS := Lib.hid (s0_long t hs0)
  clear hs0
  go_enter Tryz.func29, Tryz.ntmps29
  go_wp2_with (first
    | (go_at_call 46; refine HN.out.mono ?_; rintro e w1 ⟨g, rfl, h1⟩; have H1 := Lib.hid h1; clear h1 HN)
    | (go_at_call 52; refine H1.out.rdFlag.mono ?_; rintro e w2 ⟨d, ⟨rfl, hd⟩, h2⟩; have H2 := Lib.hid h2; clear h2 H1)
    | (go_at_call 48; refine H2.out.rdStr.mono ?_; rintro e w3 ⟨u, ⟨rfl, hu⟩, h3⟩; have H3 := Lib.hid h3; clear h3)
    | (go_at_call 53; first | (refine H3.out.rdDone.mono ?_; rintro e w6 ⟨rfl, rfl⟩; have hb3 := H3.out.bel) | (refine H2.out.rdDone.mono ?_; rintro e w6 ⟨rfl, rfl⟩; have hb3 := H2.out.bel)))
  all_goals go_ret3
  all_goals refine ⟨?_, hb3⟩
  · have e1 : d = true := by assumption
    have e2 : (!decide ((ps (pf s0).2).2 = some [])) = true := by assumption
    have hne : ¬ (ps (pf s0).2).2 = some [] := by simpa using e2
    rcases HS.out with rfl | ⟨rfl, hl⟩
    · rw [tkV_of hd, if_pos e1, if_neg hne]; rfl
    · rw [tkV_long hl]; rfl
  · have e1 : d = true := by assumption
    have e2 : (!decide ((ps (pf s0).2).2 = some [])) = false := by assumption
    have he : (ps (pf s0).2).2 = some [] := by simpa using e2
    rcases HS.out with rfl | ⟨rfl, hl⟩
    · rw [tkV_of hd, if_pos e1, if_pos he, ← hu (by rw [he]; simp)]; rfl
    · cases he
  · have e1 : d = false := by assumption
    have e2 : (!decide ((pf s0).2 = some [])) = true := by assumption
    have hne : ¬ (pf s0).2 = some [] := by simpa using e2
    rcases HS.out with rfl | ⟨rfl, hl⟩
    · rw [tkV_of hd, if_neg (by rw [e1]; simp), if_neg hne]; rfl
    · rw [tkV_long hl]; rfl
  · have e1 : d = false := by assumption
    have e2 : (!decide ((pf s0).2 = some [])) = false := by assumption
    have he : (pf s0).2 = some [] := by simpa using e2
    rcases HS.out with rfl | ⟨rfl, hl⟩
    · rw [tkV_of hd, if_neg (by rw [e1]; simp), if_pos he]; rfl
    · cases he
end Go.Proofs.YtldbmogondmgmaaGreatDoor
