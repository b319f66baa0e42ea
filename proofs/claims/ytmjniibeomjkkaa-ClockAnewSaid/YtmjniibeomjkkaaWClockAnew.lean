/-
  ClockAnew: the walk, of the code that landed.
-/
import Derived.Test.YtmjniibeomjkkaaVClockAnew
import Derived.Test.YtmjniibeomjkkaaKNow
set_option linter.unusedVariables false
namespace Go.Proofs.Ytmjniibeomjkkaa
open Go.RowKit

theorem clockAnew_walk (A : Option Addr) (n c : Nat) (B : Option Addr) (m d : Nat) (w : World) (hx : Dos w A n) (hnc : n ≤ c) (hk : c ≤ 8796093022202) (hy : Dos w B m) (hmd : m ≤ d) (hj : d ≤ 8796093022202) :
    Calls Try.prog 5 #[.slice A n c, .slice B m d] w fun e w' => e = .returned (.bool true) ∧ Below w.heap.size w w' :=
  clockAnew_w clock_ok less_ok A n c B m d w hx hy hnc (by omega) hmd (by omega)

end Go.Proofs.Ytmjniibeomjkkaa
