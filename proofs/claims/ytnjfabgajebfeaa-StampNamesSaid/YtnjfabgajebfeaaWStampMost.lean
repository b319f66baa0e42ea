/-
  StampMost: the walk, of the code that landed.
-/
import Derived.Test.YtnjfabgajebfeaaVStampMost
import Derived.Test.YtnjfabgajebfeaaSMaxCode
set_option linter.unusedVariables false
namespace Go.Proofs.Ytnjfabgajebfeaa
open Go.RowKit

theorem stampMost_walk (A : Option Addr) (n c : Nat) (l : List (Int × Int)) (w : World) (hx : Stamps w A n l) (hnc : n ≤ c) (hk : c ≤ 8796093022202) (hz : A = none → c = 0)
    (hi : ∀ x ∈ l, (-9223372036854775808 ≤ x.1 ∧ x.1 ≤ 9223372036854775807) ∧ (-9223372036854775808 ≤ x.2 ∧ x.2 ≤ 9223372036854775807)) :
    Calls Try.prog 4 #[.slice A n c] w fun e w' => e = .returned (.bool true) ∧ Below w.heap.size w w' :=
  stampMost_w max_ok less_ok nextS_ok prev_ok later_ok A n c l w hx hnc hk hz hi

end Go.Proofs.Ytnjfabgajebfeaa
