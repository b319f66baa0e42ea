/-
  FrameMakes: the walk, of the code that landed.
-/
import Derived.Test.YthbegaknlhclpaaVFrameMakes
import Derived.Test.YthbegaknlhclpaaFNext
set_option linter.unusedVariables false
namespace Go.Proofs.Ythbegaknlhclpaa
open Go.RowKit

theorem frameMakes_walk (A : Option Addr) (n c : Nat) (xs : List UInt8) (w : World) (hx : At w A n xs) (hnc : n ≤ c) (hk : c ≤ 140737488351232) (hz : A = none → c = 0) :
    Calls Try.prog 3 #[.slice A n c] w fun e w' => e = .returned (.bool true) ∧ Below w.heap.size w w' :=
  frameMakes_w frame_ok next_ok A n c xs w hx hnc hk hz

end Go.Proofs.Ythbegaknlhclpaa
