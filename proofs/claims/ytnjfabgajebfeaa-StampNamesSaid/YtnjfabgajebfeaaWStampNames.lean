/-
  StampNames: the walk, of the code that landed.
-/
import Derived.Test.YtnjfabgajebfeaaVStampNames
import Derived.Test.YtnjfabgajebfeaaWStampChecks
import Derived.Test.YtnjfabgajebfeaaWStampSteps
import Derived.Test.YtnjfabgajebfeaaWStampNear
import Derived.Test.YtnjfabgajebfeaaWStampMost
set_option linter.unusedVariables false
namespace Go.Proofs.Ytnjfabgajebfeaa
open Go.RowKit

theorem stampNames_walk (w : World) :
    Calls Try.prog 10 #[] w fun e w' => e = .returned (.bool true) ∧ Below w.heap.size w w' :=
  stampNames_w less_ok nextS_ok prev_ok later_ok (fun a b c d w ha hb hc hd => stampChecks_walk a b c d w ha hb hc hd) (fun a b k w ha hb hk => stampSteps_walk a b k w ha hb hk) (fun a b c d w ha hb hc hd => stampNear_walk a b c d w ha hb hc hd)
    (fun w => stampMost_walk none 0 0 [] w (Stamps.nil w none) (by omega) (by omega) (fun _ => rfl) (fun x hx => by cases hx)) w

end Go.Proofs.Ytnjfabgajebfeaa
