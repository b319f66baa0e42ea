/-
  ClockPlays: the walk, of the code that landed.
-/
import Derived.Test.YtmjniibeomjkkaaVClockPlays
import Derived.Test.YtmjniibeomjkkaaKNow
set_option linter.unusedVariables false
namespace Go.Proofs.Ytmjniibeomjkkaa
open Go.RowKit

theorem clockPlays_walk (o b : Int) (A : Option Addr) (n c : Nat) (w : World) (ho : -9223372036854775808 ≤ o ∧ o ≤ 9223372036854775807) (hb : -9223372036854775808 ≤ b ∧ b ≤ 9223372036854775807) (hx : Dos w A n) (hnc : n ≤ c) (hk : c ≤ 8796093022202) :
    Calls Try.prog 3 #[.int .i64 o, .int .i64 b, .slice A n c] w fun e w' => e = .returned (.bool true) ∧ Below w.heap.size w w' :=
  clockPlays_w clock_ok o b A n c w ho hb hx hnc (by omega)

end Go.Proofs.Ytmjniibeomjkkaa
