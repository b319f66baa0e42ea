/-
  Layer 5: stamps in blocks: how they are kept, and handed back.
  Layer 5, the code that landed: cmp's functions, compare.
  Layer 5, the code that landed: compare.
  Layer 5, the code: Check, Less, Next, Prev, Later.
  Layer 5, the document's answers: Check, Less, Two, Next, Prev, Later.
-/
import Derived.Test.YtiafmbfeigcinaaDoorZ03
import Derived.Handy
import Derived.Deep.RegionWith
import Derived.Deep.RegionHeld3
set_option linter.unusedVariables false
namespace Go.Proofs.YtiafmbfeigcinaaDoor
open Go.RowKit

/-- A block that holds a stamp. -/
def Box (w : World) (g : Nat) (a b : Int) : Prop := w.heap[g]? = some (.cells #[.int .i64 a, .int .i64 b] 23 (0, 0))
section
variable {w w' : World} {g g' : Nat} {a b c d : Int}
theorem Box.lt (h : Box w g a b) : g < w.heap.size := by
  rcases Nat.lt_or_ge g w.heap.size with h0 | h0
  · exact h0
  · unfold Box at h
    rw [Array.getElem?_eq_none h0] at h
    cases h
theorem Box.c0 (h : Box w g a b) : w.cell? ⟨g, 0, none⟩ = some (.int .i64 a) := cell_of_row w g 0 #[.int .i64 a, .int .i64 b] 23 (0, 0) h
theorem Box.c1 (h : Box w g a b) : w.cell? ⟨g, 1, none⟩ = some (.int .i64 b) := cell_of_row w g 1 #[.int .i64 a, .int .i64 b] 23 (0, 0) h
theorem Box.fz (h : Box w g a b) (i : Nat) : w.frozen? ⟨g, i, none⟩ = false := by
  unfold Box at h
  simp [World.frozen?, h]
theorem Box.new (w : World) (a b : Int) : Box (w.alloc (.cells #[.int .i64 a, .int .i64 b] 23)) w.heap.size a b := heap_alloc_new w _
theorem Box.new' (w : World) (a b : Int) (h : g = w.heap.size) : Box (w.alloc (.cells #[.int .i64 a, .int .i64 b] 23)) g a b := h ▸ Box.new w a b
theorem Box.keep (h : Box w g a b) (hb : Below w.heap.size w w') : Box w' g a b := (hb.block g h.lt).trans h
theorem Box.alloc (h : Box w g a b) (o : Obj) : Box (w.alloc o) g a b := h.keep ((Below.refl _ _).alloc (Nat.le_refl _) _)
theorem Box.put0 (h : Box w g a b) (x : Int) : Box (w.setCell ⟨g, 0, none⟩ (.int .i64 x)) g x b := by
  unfold Box at *
  simp [World.setCell, Array.getElem?_modify, h]
theorem Box.put1 (h : Box w g a b) (x : Int) : Box (w.setCell ⟨g, 1, none⟩ (.int .i64 x)) g a x := by
  unfold Box at *
  simp [World.setCell, Array.getElem?_modify, h]
theorem Box.far (h : Box w g a b) (hg : g ≠ g') (i : Nat) (u : Value) : Box (w.setCell ⟨g', i, none⟩ u) g a b := by
  unfold Box at *
  simp only [World.setCell, Array.getElem?_modify]
  rw [if_neg (fun e => hg e.symm)]
  exact h
end

theorem ret_one {fn : Func} {R : Ending → World → Prop} {a : Act} {w : World} {p : Tmp} {g : Nat} {x y : Int} (hr : fn.results = #[.cell p 23]) (hp : a.tmps.getD p undef = .pointer (some ⟨g, 0, none⟩))
    (hB : Box w g x y) (hd : a.defers = []) (hR : R (.returned (sv x y)) w) : bodyPost Tryd.prog fn R .ret a w := by
  refine bodyPost_ret ?_ hd hR
  have hp' : a.tmps[p]?.getD undef = .pointer (some ⟨g, 0, none⟩) := by simpa using hp
  simp [results, hr, hp', asAddr, run_loadVar_row w g 23 23 _ (0, 0) _ hB Tryd.underlying23 rfl (by kernel_rfl)]
theorem ret_two {fn : Func} {R : Ending → World → Prop} {a : Act} {w : World} {p u : Tmp} {g : Nat} {x y : Int} (hr : fn.results = #[.cell p 23, .tmp u]) (hp : a.tmps.getD p undef = .pointer (some ⟨g, 0, none⟩))
    (hB : Box w g x y) (hd : a.defers = []) (hR : R (.returned (.tuple #[sv x y, a.tmps.getD u undef])) w) : bodyPost Tryd.prog fn R .ret a w := by
  refine bodyPost_ret ?_ hd hR
  have hp' : a.tmps[p]?.getD undef = .pointer (some ⟨g, 0, none⟩) := by simpa using hp
  simp [results, hr, hp', asAddr, run_loadVar_row w g 23 23 _ (0, 0) _ hB Tryd.underlying23 rfl (by kernel_rfl)]

/-- Two stamps in the first two blocks of a call. -/
abbrev SS (w : World) (a b c d : Int) (V : World) : Prop :=
  V.cell? ⟨w.heap.size, 0, none⟩ = some (.int .i64 a) ∧ V.cell? ⟨w.heap.size, 1, none⟩ = some (.int .i64 b) ∧ V.cell? ⟨w.heap.size + 1, 0, none⟩ = some (.int .i64 c) ∧ V.cell? ⟨w.heap.size + 1, 1, none⟩ = some (.int .i64 d) ∧ Below w.heap.size w V
theorem SS.keep {w V V' : World} {a b c d : Int} (h : SS w a b c d V) (hb : Below V.heap.size V V') : SS w a b c d V' :=
  ⟨(hb.cell (World.block_lt_of_cell? V _ h.1)).trans h.1, (hb.cell (World.block_lt_of_cell? V _ h.2.1)).trans h.2.1, (hb.cell (World.block_lt_of_cell? V _ h.2.2.1)).trans h.2.2.1,
    (hb.cell (World.block_lt_of_cell? V _ h.2.2.2.1)).trans h.2.2.2.1, h.2.2.2.2.trans (hb.mono h.2.2.2.2.size)⟩
theorem SS.drew {w V : World} {a b c d : Int} (h : SS w a b c d V) : SS w a b c d V.drew := ⟨h.1, h.2.1, h.2.2.1, h.2.2.2.1, h.2.2.2.2.drew⟩
theorem SS.new (w : World) (a b c d : Int) : SS w a b c d ((w.alloc (.cells #[.int .i64 a, .int .i64 b] 23)).alloc (.cells #[.int .i64 c, .int .i64 d] 23)) := by
  have hA := (Box.new w a b).alloc (.cells #[.int .i64 c, .int .i64 d] 23)
  have hB := Box.new' (g := w.heap.size + 1) (w.alloc (.cells #[.int .i64 a, .int .i64 b] 23)) c d (by simp)
  exact ⟨hA.c0, hA.c1, hB.c0, hB.c1, ((Below.refl w.heap.size w).alloc (Nat.le_refl _) _).alloc (by simp) _⟩
/-- A contract that keeps them. -/
theorem SS.call {w V : World} {a b c d : Int} {f : FuncId} {args : Array Value} {v : Value} (h : SS w a b c d V) (hc : Calls Tryd.prog f args V fun e V' => e = .returned v ∧ Below V.heap.size V V') :
    Calls Tryd.prog f args V fun e V' => e = .returned v ∧ SS w a b c d V' := hc.mono fun _ _ hh => ⟨hh.1, h.keep hh.2⟩

end Go.Proofs.YtiafmbfeigcinaaDoor
set_option linter.unusedVariables false
namespace Go.Proofs.YtiafmbfeigcinaaDoor
open Go.RowKit

/-- What cmp.Compare tells; what compare tells of two stamps. -/
def cpi (a b : Int) : Int := if a < b then -1 else if b < a then 1 else 0
def cpS (x y : Int × Int) : Int := if cpi x.1 y.1 = 0 then cpi x.2 y.2 else cpi x.1 y.1
theorem cpi_lt (a b : Int) : cpi a b < 0 ↔ a < b := by unfold cpi; (repeat' split) <;> omega
theorem cpi_gt (a b : Int) : 0 < cpi a b ↔ b < a := by unfold cpi; (repeat' split) <;> omega
theorem cpi_eq (a b : Int) : cpi a b = 0 ↔ a = b := by unfold cpi; (repeat' split) <;> omega
theorem cpS_lt (x y : Int × Int) : cpS x y < 0 ↔ lt x y = true := by
  have := cpi_lt x.1 y.1; have := cpi_lt x.2 y.2; have := cpi_eq x.1 y.1; have := cpi_gt x.1 y.1
  rw [lt_iff]; unfold cpS; split <;> omega
theorem cpS_gt (x y : Int × Int) : 0 < cpS x y ↔ lt y x = true := by
  have := cpi_lt x.1 y.1; have := cpi_gt x.2 y.2; have := cpi_eq x.1 y.1; have := cpi_gt x.1 y.1
  rw [lt_iff]; unfold cpS; split <;> omega



end Go.Proofs.YtiafmbfeigcinaaDoor
set_option linter.unusedVariables false
namespace Go.Proofs.YtiafmbfeigcinaaDoor
open Go.RowKit

theorem pair_cells (V : World) (u v : Int) (t : TypeId) (k : World) (hk : k = V.alloc (.cells #[.int .i64 u, .int .i64 v] t)) :
    k.cell? ⟨V.heap.size, 0, none⟩ = some (.int .i64 u) ∧ k.cell? ⟨V.heap.size, 0 + 1, none⟩ = some (.int .i64 v) := by
  subst hk
  have hC := heap_alloc_new V (.cells #[.int .i64 u, .int .i64 v] t)
  exact ⟨cell_of_row _ _ 0 _ _ (0, 0) hC, cell_of_row _ _ 1 _ _ (0, 0) hC⟩

end Go.Proofs.YtiafmbfeigcinaaDoor
set_option linter.unusedVariables false
namespace Go.Proofs.YtiafmbfeigcinaaDoor
open Go.RowKit

theorem check_c (a b : Int) (w : World) :
    Calls Tryd.prog 56 #[sv a b] w fun e w' => e = .returned (.int .i64 (ck a b)) ∧ Below w.heap.size w w' := by
  go_enter Tryd.func56, Tryd.ntmps56
  go_wp2
  all_goals go_ret
  all_goals refine ⟨congrArg (fun v => Ending.returned (Value.int .i64 v)) ?_, (Below.refl _ _).alloc (Nat.le_refl _) _⟩
  all_goals unfold ck
  all_goals first | (rw [if_pos (may_iff.2 (by omega))]) | (rw [if_neg (by rw [may_iff]; omega)])




theorem check_ok : CheckOk := check_c
end Go.Proofs.YtiafmbfeigcinaaDoor
set_option linter.unusedVariables false
namespace Go.Proofs.YtiafmbfeigcinaaDoor
open Go.RowKit

theorem refCheck5 (a b : Int) (w : World) :
    Calls Tryd.prog 33 #[sv a b] w fun e w' => e = .returned (.int .i64 (ck a b)) ∧ Below w.heap.size w w' := by
  go_enter Tryd.func33, Tryd.ntmps33
  go_wp2
  all_goals go_ret
  all_goals refine ⟨congrArg (fun v => Ending.returned (Value.int .i64 v)) ?_, (Below.refl _ _).alloc (Nat.le_refl _) _⟩
  all_goals unfold ck
  all_goals first | (rw [if_pos (may_iff.2 (by omega))]) | (rw [if_neg (by rw [may_iff]; omega)])





end Go.Proofs.YtiafmbfeigcinaaDoor
