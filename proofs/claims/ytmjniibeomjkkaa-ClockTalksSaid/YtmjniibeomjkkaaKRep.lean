/-
  Layer 6: how the document's own clock lies in memory; what one block's change leaves.
-/
import Derived.Test.YtmjniibeomjkkaaKMath
import Derived.Test.YtmjniibeomjkkaaSBlk
set_option linter.unusedVariables false
namespace Go.Proofs.Ytmjniibeomjkkaa
open Go.RowKit

/-! ### only one block, and new ones, have changed -/
section
variable {w w1 w2 : World} {g : Nat} {r : Option Nat}
theorem onto_refl (w : World) (r : Option Nat) : w.grownBy w r := World.grownBy.refl w r
theorem onto_trans (h1 : w.grownBy w1 r) (h2 : w1.grownBy w2 r) : w.grownBy w2 r :=
  ⟨h2.os.trans h1.os, h2.tape.trans h1.tape, h2.output.trans h1.output, Nat.le_trans h1.size h2.size, fun k hk hr => (h2.block k (Nat.lt_of_lt_of_le hk h1.size) hr).trans (h1.block k hk hr)⟩
theorem onto_below (hb : Below w.heap.size w w1) : w.grownBy w1 r := ⟨hb.os, hb.tape, hb.output, hb.size, fun k hk _ => hb.block k hk⟩
theorem onto_drewN (h : w.grownBy w1 r) (n : Nat) : w.grownBy (w1.drewN n) r := onto_trans h (onto_below (below_drewN (Below.refl _ w1) n))
theorem onto_set (h : w.grownBy w1 (some g)) (i : Nat) (v : Value) : w.grownBy (w1.setCell ⟨g, i, none⟩ v) (some g) :=
  onto_trans h ⟨rfl, rfl, rfl, by rw [World.setCell]; simp, fun k _ hk => by
    simp only [World.setCell, Array.getElem?_modify]
    rw [if_neg (fun e => hk (by rw [e]))]⟩
theorem onto_far (h : w.grownBy w1 r) {x : Nat} (hx : w.heap.size ≤ x) (i : Nat) (v : Value) : w.grownBy (w1.setCell ⟨x, i, none⟩ v) r :=
  ⟨h.os, h.tape, h.output, by rw [World.setCell]; simp only [Array.size_modify]; exact h.size, fun k hk hr => by
    simp only [World.setCell, Array.getElem?_modify]
    rw [if_neg (by omega)]
    exact h.block k hk hr⟩
end

/-- The document's clock, in a block. -/
def rcells (c : Ck) : Array Value := #[.int .i64 c.off, .int .i64 c.rd, .int .i64 c.fst, .int .i64 c.most, .int .i64 c.s1, .int .i64 c.s2]
def RClk (w : World) (g : Nat) (c : Ck) : Prop := w.heap[g]? = some (.cells (rcells c) 38 (0, 0)) ∧ c.ok
section
variable {w w' : World} {g g' : Nat} {c : Ck}
theorem RClk.lt (h : RClk w g c) : g < w.heap.size := (Array.getElem?_eq_some_iff.1 h.1).1
theorem RClk.keep (h : RClk w g c) (hb : w'.heap[g]? = w.heap[g]?) : RClk w' g c := ⟨hb.trans h.1, h.2⟩
theorem RClk.below (h : RClk w g c) (hb : Below w.heap.size w w') : RClk w' g c := h.keep (hb.block g h.lt)
theorem RClk.other (h : RClk w g c) (hb : w.grownBy w' (some g')) (hn : g ≠ g') : RClk w' g c := h.keep (hb.block g h.lt (fun e => hn (Option.some.inj e)))
theorem RClk.cell (h : RClk w g c) (i : Nat) : w.cell? ⟨g, i, none⟩ = (rcells c)[i]? := cell_of_row w g i (rcells c) 38 (0, 0) h.1
theorem RClk.fz (h : RClk w g c) (i : Nat) : w.frozen? ⟨g, i, none⟩ = false := by
  obtain ⟨h, _⟩ := h
  simp [World.frozen?, h]
theorem RClk.far (h : RClk w g c) {x : Nat} (hx : g ≠ x) (i : Nat) (v : Value) : RClk (w.setCell ⟨x, i, none⟩ v) g c := h.keep (by
  simp only [World.setCell, Array.getElem?_modify]
  rw [if_neg (fun e => hx e.symm)])
theorem RClk.put (h : RClk w g c) (i : Nat) (v : Value) {c' : Ck} (hc : (rcells c).setIfInBounds i v = rcells c') (ho : c'.ok) : RClk (w.setCell ⟨g, i, none⟩ v) g c' := by
  refine ⟨?_, ho⟩
  have h1 := h.1
  simp only [World.setCell, Array.getElem?_modify, if_true, h1, Option.map_some]
  rw [← hc]
  rfl
theorem RClk.puts (h : RClk w g c) (x y : Int) (ho : ({ c with s1 := x, s2 := y } : Ck).ok) : RClk ((w.setCell ⟨g, 4, none⟩ (.int .i64 x)).setCell ⟨g, 5, none⟩ (.int .i64 y)) g { c with s1 := x, s2 := y } := by
  refine ⟨?_, ho⟩
  have h1 := h.1
  simp only [World.setCell, Array.getElem?_modify, if_true, h1, Option.map_some]
  rfl
end
end Go.Proofs.Ytmjniibeomjkkaa
