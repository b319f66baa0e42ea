/-
  StampSteps: the walk, of the code that landed.
-/
import Derived.Test.YtnjfabgajebfeaaVStampSteps
import Derived.Test.YtnjfabgajebfeaaSCode
set_option linter.unusedVariables false
namespace Go.Proofs.Ytnjfabgajebfeaa
open Go.RowKit

theorem stampSteps_walk (a b : Int) (k : Int) (w : World) (ha : -9223372036854775808 ≤ a ∧ a ≤ 9223372036854775807) (hb : -9223372036854775808 ≤ b ∧ b ≤ 9223372036854775807) (hk : -9223372036854775808 ≤ k ∧ k ≤ 9223372036854775807) :
    Calls Try.prog 5 #[sv a b, .int .i64 k] w fun e w' => e = .returned (.bool true) ∧ Below w.heap.size w w' :=
  stampSteps_w less_ok nextS_ok prev_ok later_ok a b k w ha hb hk

end Go.Proofs.Ytnjfabgajebfeaa
