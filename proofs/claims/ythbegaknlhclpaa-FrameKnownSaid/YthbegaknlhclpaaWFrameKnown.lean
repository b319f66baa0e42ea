/-
  FrameKnown: the walk, of the code that landed.
-/
import Derived.Test.YthbegaknlhclpaaVFrameKnown
import Derived.Test.YthbegaknlhclpaaFNext
import Derived.Test.YthbegaknlhclpaaFAll
set_option linter.unusedVariables false
namespace Go.Proofs.Ythbegaknlhclpaa
open Go.RowKit

theorem frameKnown_walk (w : World) :
    Calls Try.prog 11 #[] w fun e w' => e = .returned (.bool true) ∧ Below w.heap.size w w' :=
  frameKnown_w frame_ok next_ok (all_ok next_ok) w

end Go.Proofs.Ythbegaknlhclpaa
