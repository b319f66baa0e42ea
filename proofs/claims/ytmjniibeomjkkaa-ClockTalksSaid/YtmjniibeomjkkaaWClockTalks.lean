/-
  ClockTalks: the walk, of the code that landed.
-/
import Derived.Test.YtmjniibeomjkkaaVClockTalks
import Derived.Test.YtmjniibeomjkkaaKNow
set_option linter.unusedVariables false
namespace Go.Proofs.Ytmjniibeomjkkaa
open Go.RowKit

theorem clockTalks_walk (A : Option Addr) (n c : Nat) (w : World) (hx : Rows3 w A n) (hnc : n ≤ c) (hk : c ≤ 8796093022202) :
    Calls Try.prog 6 #[.slice A n c] w fun e w' => e = .returned (.bool true) ∧ Below w.heap.size w w' :=
  clockTalks_w clock_ok A n c w hx hnc (by omega)

end Go.Proofs.Ytmjniibeomjkkaa
