/-
  StampOrder: the walk, of the code that landed.
-/
import Derived.Test.YtnjfabgajebfeaaVStampOrder
import Derived.Test.YtnjfabgajebfeaaSCode
set_option linter.unusedVariables false
namespace Go.Proofs.Ytnjfabgajebfeaa
open Go.RowKit

theorem stampOrder_walk (a b c d x y : Int) (w : World) (ha : -9223372036854775808 ≤ a ∧ a ≤ 9223372036854775807) (hb : -9223372036854775808 ≤ b ∧ b ≤ 9223372036854775807) (hc : -9223372036854775808 ≤ c ∧ c ≤ 9223372036854775807) (hd : -9223372036854775808 ≤ d ∧ d ≤ 9223372036854775807) (hx : -9223372036854775808 ≤ x ∧ x ≤ 9223372036854775807) (hy : -9223372036854775808 ≤ y ∧ y ≤ 9223372036854775807) :
    Calls Try.prog 7 #[sv a b, sv c d, sv x y] w fun e w' => e = .returned (.bool true) ∧ Below w.heap.size w w' :=
  stampOrder_w less_ok nextS_ok prev_ok later_ok a b c d x y w ha hb hc hd hx hy

end Go.Proofs.Ytnjfabgajebfeaa
