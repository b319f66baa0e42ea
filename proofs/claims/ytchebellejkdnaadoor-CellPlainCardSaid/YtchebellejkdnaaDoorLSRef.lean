/-
  Layer 5, the document's answers: Check, Less, Two, Next, Prev, Later.
-/
import Derived.Test.YtchebellejkdnaaDoorZ11
set_option linter.unusedVariables false
namespace Go.Proofs.YtchebellejkdnaaDoor
open Go.RowKit

theorem refCheck5 (a b : Int) (w : World) :
    Calls Tryd.prog 58 #[sv a b] w fun e w' => e = .returned (.int .i64 (ck a b)) ∧ Below w.heap.size w w' := by
  go_enter Tryd.func58, Tryd.ntmps58
  go_wp2
  all_goals go_ret
  all_goals refine ⟨congrArg (fun v => Ending.returned (Value.int .i64 v)) ?_, (Below.refl _ _).alloc (Nat.le_refl _) _⟩
  all_goals unfold ck
  all_goals first | (rw [if_pos (may_iff.2 (by omega))]) | (rw [if_neg (by rw [may_iff]; omega)])





end Go.Proofs.YtchebellejkdnaaDoor
