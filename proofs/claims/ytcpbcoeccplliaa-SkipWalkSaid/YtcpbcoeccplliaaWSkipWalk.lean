/-
  Layer 9: SkipWalk, as its frame takes it.
-/
import Derived.Test.YtcpbcoeccplliaaVSkipWalk
set_option linter.unusedVariables false
namespace Go.Proofs.Ytcpbcoeccplliaa
open Go.RowKit
theorem skipWalk_walk (A0 : Option Addr) (n0 c0 : Nat) (w : World) (h0 : ∃ l : List Sd9, SdAt w A0 n0 l ∧ ∀ i (h : i < l.length), (l[i]'h).ok) (l0 : n0 ≤ c0) (k0 : c0 ≤ 9223372036854775807) :
    Calls Try.prog 6 #[.slice A0 n0 c0] w fun e w' => e = .returned (.bool true) ∧ Below w.heap.size w w' := by
  obtain ⟨l, hl, hok⟩ := h0
  exact skipWalk_w A0 n0 c0 w l hl hok (by omega)
end Go.Proofs.Ytcpbcoeccplliaa
