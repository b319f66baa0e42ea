/-
  ClockNames: the walk, of the code that landed.
-/
import Derived.Test.YtmjniibeomjkkaaVClockNames
import Derived.Test.YtmjniibeomjkkaaVClockPlays
import Derived.Test.YtmjniibeomjkkaaKNo
set_option linter.unusedVariables false
namespace Go.Proofs.Ytmjniibeomjkkaa
open Go.RowKit

theorem clockNames_walk (w : World) :
    Calls Try.prog 8 #[] w fun e w' => e = .returned (.bool true) ∧ Below w.heap.size w w' :=
  clockNames_w clock_ok no_ok (fun o b A n c w ho hb hx hnc hk => clockPlays_w clock_ok o b A n c w ho hb hx hnc hk) w

end Go.Proofs.Ytmjniibeomjkkaa
