/-
  Layer 5: stamps in blocks: how they are kept, and handed back.
-/
import Derived.Test.YtnjfabgajebfeaaSOk
import Derived.Handy
set_option linter.unusedVariables false
namespace Go.Proofs.Ytnjfabgajebfeaa
open Go.RowKit

/-- A block that holds a stamp. -/
def Box (w : World) (g : Nat) (a b : Int) : Prop := w.heap[g]? = some (.cells #[.int .i64 a, .int .i64 b] 23 (0, 0))
section
variable {w w' : World} {g g' : Nat} {a b c d : Int}
theorem Box.lt (h : Box w g a b) : g < w.heap.size := by
  rcases Nat.lt_or_ge g w.heap.size with h0 | h0
  · exact h0
  · unfold Box at h
    rw [Array.getElem?_eq_none h0] at h
    cases h
theorem Box.c0 (h : Box w g a b) : w.cell? ⟨g, 0, none⟩ = some (.int .i64 a) := cell_of_row w g 0 #[.int .i64 a, .int .i64 b] 23 (0, 0) h
theorem Box.c1 (h : Box w g a b) : w.cell? ⟨g, 1, none⟩ = some (.int .i64 b) := cell_of_row w g 1 #[.int .i64 a, .int .i64 b] 23 (0, 0) h
theorem Box.fz (h : Box w g a b) (i : Nat) : w.frozen? ⟨g, i, none⟩ = false := by
  unfold Box at h
  simp [World.frozen?, h]
theorem Box.new (w : World) (a b : Int) : Box (w.alloc (.cells #[.int .i64 a, .int .i64 b] 23)) w.heap.size a b := heap_alloc_new w _
theorem Box.new' (w : World) (a b : Int) (h : g = w.heap.size) : Box (w.alloc (.cells #[.int .i64 a, .int .i64 b] 23)) g a b := h ▸ Box.new w a b
theorem Box.keep (h : Box w g a b) (hb : Below w.heap.size w w') : Box w' g a b := (hb.block g h.lt).trans h
theorem Box.alloc (h : Box w g a b) (o : Obj) : Box (w.alloc o) g a b := h.keep ((Below.refl _ _).alloc (Nat.le_refl _) _)
theorem Box.put0 (h : Box w g a b) (x : Int) : Box (w.setCell ⟨g, 0, none⟩ (.int .i64 x)) g x b := by
  unfold Box at *
  simp [World.setCell, Array.getElem?_modify, h]
theorem Box.put1 (h : Box w g a b) (x : Int) : Box (w.setCell ⟨g, 1, none⟩ (.int .i64 x)) g a x := by
  unfold Box at *
  simp [World.setCell, Array.getElem?_modify, h]
theorem Box.far (h : Box w g a b) (hg : g ≠ g') (i : Nat) (u : Value) : Box (w.setCell ⟨g', i, none⟩ u) g a b := by
  unfold Box at *
  simp only [World.setCell, Array.getElem?_modify]
  rw [if_neg (fun e => hg e.symm)]
  exact h
end

theorem ret_one {fn : Func} {R : Ending → World → Prop} {a : Act} {w : World} {p : Tmp} {g : Nat} {x y : Int} (hr : fn.results = #[.cell p 23]) (hp : a.tmps.getD p undef = .pointer (some ⟨g, 0, none⟩))
    (hB : Box w g x y) (hd : a.defers = []) (hR : R (.returned (sv x y)) w) : bodyPost Try.prog fn R .ret a w := by
  refine bodyPost_ret ?_ hd hR
  have hp' : a.tmps[p]?.getD undef = .pointer (some ⟨g, 0, none⟩) := by simpa using hp
  simp [results, hr, hp', asAddr, run_loadVar_row w g 23 23 _ (0, 0) _ hB Try.underlying23 rfl (by kernel_rfl)]
theorem ret_two {fn : Func} {R : Ending → World → Prop} {a : Act} {w : World} {p u : Tmp} {g : Nat} {x y : Int} (hr : fn.results = #[.cell p 23, .tmp u]) (hp : a.tmps.getD p undef = .pointer (some ⟨g, 0, none⟩))
    (hB : Box w g x y) (hd : a.defers = []) (hR : R (.returned (.tuple #[sv x y, a.tmps.getD u undef])) w) : bodyPost Try.prog fn R .ret a w := by
  refine bodyPost_ret ?_ hd hR
  have hp' : a.tmps[p]?.getD undef = .pointer (some ⟨g, 0, none⟩) := by simpa using hp
  simp [results, hr, hp', asAddr, run_loadVar_row w g 23 23 _ (0, 0) _ hB Try.underlying23 rfl (by kernel_rfl)]
end Go.Proofs.Ytnjfabgajebfeaa
