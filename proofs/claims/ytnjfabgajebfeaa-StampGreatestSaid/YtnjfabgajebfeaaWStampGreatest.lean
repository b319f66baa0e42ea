/-
  StampGreatest: the walk, of the code that landed.
-/
import Derived.Test.YtnjfabgajebfeaaVStampGreatest
import Derived.Test.YtnjfabgajebfeaaSMaxCode
set_option linter.unusedVariables false
namespace Go.Proofs.Ytnjfabgajebfeaa
open Go.RowKit

theorem stampGreatest_walk (A : Option Addr) (n c : Nat) (l : List (Int × Int)) (f : Int) (w : World) (hx : Stamps w A n l) (hnc : n ≤ c) (hk : c ≤ 8796093022202) (hz : A = none → c = 0)
    (hi : ∀ x ∈ l, (-9223372036854775808 ≤ x.1 ∧ x.1 ≤ 9223372036854775807) ∧ (-9223372036854775808 ≤ x.2 ∧ x.2 ≤ 9223372036854775807)) (hf : -9223372036854775808 ≤ f ∧ f ≤ 9223372036854775807) :
    Calls Try.prog 9 #[.slice A n c, .int .i64 f] w fun e w' => e = .returned (.bool true) ∧ Below w.heap.size w w' :=
  stampGreatest_w max_ok less_ok nextS_ok prev_ok later_ok A n c l f w hx hnc hk hz hi hf

end Go.Proofs.Ytnjfabgajebfeaa
