/-
  Layer 9: SkipKnown, as its frame takes it.
-/
import Derived.Test.YtcpbcoeccplliaaVSkipKnown
set_option linter.unusedVariables false
namespace Go.Proofs.Ytcpbcoeccplliaa
open Go.RowKit
theorem skipKnown_walk (w : World) : Calls Try.prog 10 #[] w fun e w' => e = .returned (.bool true) ∧ Below w.heap.size w w' := skipKnown_w w
end Go.Proofs.Ytcpbcoeccplliaa
