/-
  StampChecks: the walk, of the code that landed.
-/
import Derived.Test.YtnjfabgajebfeaaVStampChecks
import Derived.Test.YtnjfabgajebfeaaSCode
set_option linter.unusedVariables false
namespace Go.Proofs.Ytnjfabgajebfeaa
open Go.RowKit

theorem stampChecks_walk (a b c d : Int) (w : World) (ha : -9223372036854775808 ≤ a ∧ a ≤ 9223372036854775807) (hb : -9223372036854775808 ≤ b ∧ b ≤ 9223372036854775807) (hc : -9223372036854775808 ≤ c ∧ c ≤ 9223372036854775807) (hd : -9223372036854775808 ≤ d ∧ d ≤ 9223372036854775807) :
    Calls Try.prog 3 #[sv a b, sv c d] w fun e w' => e = .returned (.bool true) ∧ Below w.heap.size w w' :=
  stampChecks_w check_ok less_ok nextS_ok prev_ok later_ok a b c d w ha hb hc hd

end Go.Proofs.Ytnjfabgajebfeaa
