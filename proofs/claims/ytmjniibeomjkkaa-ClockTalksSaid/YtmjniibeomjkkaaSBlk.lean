/-
  Layer 5: stamps in blocks: how they are kept, and handed back.
-/
import Derived.Test.YtmjniibeomjkkaaSOk
import Derived.Handy
set_option linter.unusedVariables false
namespace Go.Proofs.Ytmjniibeomjkkaa
open Go.RowKit

/-- A block that holds a stamp. -/
def Box (w : World) (g : Nat) (a b : Int) : Prop := w.heap[g]? = some (.cells #[.int .i64 a, .int .i64 b] 32 (0, 0))
section
variable {w w' : World} {g g' : Nat} {a b c d : Int}
theorem Box.lt (h : Box w g a b) : g < w.heap.size := by
  rcases Nat.lt_or_ge g w.heap.size with h0 | h0
  · exact h0
  · unfold Box at h
    rw [Array.getElem?_eq_none h0] at h
    cases h
theorem Box.c0 (h : Box w g a b) : w.cell? ⟨g, 0, none⟩ = some (.int .i64 a) := cell_of_row w g 0 #[.int .i64 a, .int .i64 b] 32 (0, 0) h
theorem Box.c1 (h : Box w g a b) : w.cell? ⟨g, 1, none⟩ = some (.int .i64 b) := cell_of_row w g 1 #[.int .i64 a, .int .i64 b] 32 (0, 0) h
theorem Box.fz (h : Box w g a b) (i : Nat) : w.frozen? ⟨g, i, none⟩ = false := by
  unfold Box at h
  simp [World.frozen?, h]
theorem Box.new (w : World) (a b : Int) : Box (w.alloc (.cells #[.int .i64 a, .int .i64 b] 32)) w.heap.size a b := heap_alloc_new w _
theorem Box.new' (w : World) (a b : Int) (h : g = w.heap.size) : Box (w.alloc (.cells #[.int .i64 a, .int .i64 b] 32)) g a b := h ▸ Box.new w a b
theorem Box.keep (h : Box w g a b) (hb : Below w.heap.size w w') : Box w' g a b := (hb.block g h.lt).trans h
theorem Box.alloc (h : Box w g a b) (o : Obj) : Box (w.alloc o) g a b := h.keep ((Below.refl _ _).alloc (Nat.le_refl _) _)
theorem Box.put0 (h : Box w g a b) (x : Int) : Box (w.setCell ⟨g, 0, none⟩ (.int .i64 x)) g x b := by
  unfold Box at *
  simp [World.setCell, Array.getElem?_modify, h]
theorem Box.put1 (h : Box w g a b) (x : Int) : Box (w.setCell ⟨g, 1, none⟩ (.int .i64 x)) g a x := by
  unfold Box at *
  simp [World.setCell, Array.getElem?_modify, h]
theorem Box.far (h : Box w g a b) (hg : g ≠ g') (i : Nat) (u : Value) : Box (w.setCell ⟨g', i, none⟩ u) g a b := by
  unfold Box at *
  simp only [World.setCell, Array.getElem?_modify]
  rw [if_neg (fun e => hg e.symm)]
  exact h
end

theorem ret_one {fn : Func} {R : Ending → World → Prop} {a : Act} {w : World} {p : Tmp} {g : Nat} {x y : Int} (hr : fn.results = #[.cell p 32]) (hp : a.tmps.getD p undef = .pointer (some ⟨g, 0, none⟩))
    (hB : Box w g x y) (hd : a.defers = []) (hR : R (.returned (sv x y)) w) : bodyPost Try.prog fn R .ret a w := by
  refine bodyPost_ret ?_ hd hR
  have hp' : a.tmps[p]?.getD undef = .pointer (some ⟨g, 0, none⟩) := by simpa using hp
  simp [results, hr, hp', asAddr, run_loadVar_row w g 32 32 _ (0, 0) _ hB Try.underlying32 rfl (by kernel_rfl)]
theorem ret_two {fn : Func} {R : Ending → World → Prop} {a : Act} {w : World} {p u : Tmp} {g : Nat} {x y : Int} (hr : fn.results = #[.cell p 32, .tmp u]) (hp : a.tmps.getD p undef = .pointer (some ⟨g, 0, none⟩))
    (hB : Box w g x y) (hd : a.defers = []) (hR : R (.returned (.tuple #[sv x y, a.tmps.getD u undef])) w) : bodyPost Try.prog fn R .ret a w := by
  refine bodyPost_ret ?_ hd hR
  have hp' : a.tmps[p]?.getD undef = .pointer (some ⟨g, 0, none⟩) := by simpa using hp
  simp [results, hr, hp', asAddr, run_loadVar_row w g 32 32 _ (0, 0) _ hB Try.underlying32 rfl (by kernel_rfl)]

/-- Two stamps in the first two blocks of a call. -/
abbrev SS (w : World) (a b c d : Int) (V : World) : Prop :=
  V.cell? ⟨w.heap.size, 0, none⟩ = some (.int .i64 a) ∧ V.cell? ⟨w.heap.size, 1, none⟩ = some (.int .i64 b) ∧ V.cell? ⟨w.heap.size + 1, 0, none⟩ = some (.int .i64 c) ∧ V.cell? ⟨w.heap.size + 1, 1, none⟩ = some (.int .i64 d) ∧ Below w.heap.size w V
theorem SS.keep {w V V' : World} {a b c d : Int} (h : SS w a b c d V) (hb : Below V.heap.size V V') : SS w a b c d V' :=
  ⟨(hb.cell (World.block_lt_of_cell? V _ h.1)).trans h.1, (hb.cell (World.block_lt_of_cell? V _ h.2.1)).trans h.2.1, (hb.cell (World.block_lt_of_cell? V _ h.2.2.1)).trans h.2.2.1,
    (hb.cell (World.block_lt_of_cell? V _ h.2.2.2.1)).trans h.2.2.2.1, h.2.2.2.2.trans (hb.mono h.2.2.2.2.size)⟩
theorem SS.drew {w V : World} {a b c d : Int} (h : SS w a b c d V) : SS w a b c d V.drew := ⟨h.1, h.2.1, h.2.2.1, h.2.2.2.1, h.2.2.2.2.drew⟩
theorem SS.new (w : World) (a b c d : Int) : SS w a b c d ((w.alloc (.cells #[.int .i64 a, .int .i64 b] 32)).alloc (.cells #[.int .i64 c, .int .i64 d] 32)) := by
  have hA := (Box.new w a b).alloc (.cells #[.int .i64 c, .int .i64 d] 32)
  have hB := Box.new' (g := w.heap.size + 1) (w.alloc (.cells #[.int .i64 a, .int .i64 b] 32)) c d (by simp)
  exact ⟨hA.c0, hA.c1, hB.c0, hB.c1, ((Below.refl w.heap.size w).alloc (Nat.le_refl _) _).alloc (by simp) _⟩
/-- A contract that keeps them. -/
theorem SS.call {w V : World} {a b c d : Int} {f : FuncId} {args : Array Value} {v : Value} (h : SS w a b c d V) (hc : Calls Try.prog f args V fun e V' => e = .returned v ∧ Below V.heap.size V V') :
    Calls Try.prog f args V fun e V' => e = .returned v ∧ SS w a b c d V' := hc.mono fun _ _ hh => ⟨hh.1, h.keep hh.2⟩

end Go.Proofs.Ytmjniibeomjkkaa
