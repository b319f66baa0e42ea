/-
  StampKeeps: the walk, of the code that landed.
-/
import Derived.Test.YtnjfabgajebfeaaVStampKeeps
import Derived.Test.YtnjfabgajebfeaaSCode
set_option linter.unusedVariables false
namespace Go.Proofs.Ytnjfabgajebfeaa
open Go.RowKit

theorem stampKeeps_walk (a b c d i j : Int) (w : World) (ha : -9223372036854775808 ≤ a ∧ a ≤ 9223372036854775807) (hb : -9223372036854775808 ≤ b ∧ b ≤ 9223372036854775807) (hc : -9223372036854775808 ≤ c ∧ c ≤ 9223372036854775807) (hd : -9223372036854775808 ≤ d ∧ d ≤ 9223372036854775807) (hi : -9223372036854775808 ≤ i ∧ i ≤ 9223372036854775807) (hj : -9223372036854775808 ≤ j ∧ j ≤ 9223372036854775807) :
    Calls Try.prog 8 #[sv a b, sv c d, sv i j] w fun e w' => e = .returned (.bool true) ∧ Below w.heap.size w w' :=
  stampKeeps_w less_ok nextS_ok prev_ok later_ok a b c d i j w ha hb hc hd hi hj

end Go.Proofs.Ytnjfabgajebfeaa
