/-
  ClockRises: the walk, of the code that landed.
-/
import Derived.Test.YtmjniibeomjkkaaVClockRises
import Derived.Test.YtmjniibeomjkkaaKNow
set_option linter.unusedVariables false
namespace Go.Proofs.Ytmjniibeomjkkaa
open Go.RowKit

theorem clockRises_walk (b : Int) (A : Option Addr) (n c : Nat) (w : World) (hb : -9223372036854775808 ≤ b ∧ b ≤ 9223372036854775807) (hx : Dos w A n) (hnc : n ≤ c) (hk : c ≤ 8796093022202) :
    Calls Try.prog 4 #[.int .i64 b, .slice A n c] w fun e w' => e = .returned (.bool true) ∧ Below w.heap.size w w' :=
  clockRises_w clock_ok less_ok max_ok b A n c w hb hx hnc (by omega)

end Go.Proofs.Ytmjniibeomjkkaa
