/-
  FrameReads: the walk, of the code that landed.
-/
import Derived.Test.YthbegaknlhclpaaVFrameReads
import Derived.Test.YthbegaknlhclpaaFNext
import Derived.Test.YthbegaknlhclpaaFAllN
set_option linter.unusedVariables false
namespace Go.Proofs.Ythbegaknlhclpaa
open Go.RowKit

theorem frameReads_walk (A : Option Addr) (n c : Nat) (xs : List UInt8) (w : World) (hx : At w A n xs) (hnc : n ≤ c) (hk : c ≤ 1048576) (hz : A = none → c = 0) :
    Calls Try.prog 4 #[.slice A n c] w fun e w' => e = .returned (.bool true) ∧ Below w.heap.size w w' :=
  frameReads_w frame_ok next_ok (all_okN next_ok) A n c xs w hx hnc hk hz

end Go.Proofs.Ythbegaknlhclpaa
