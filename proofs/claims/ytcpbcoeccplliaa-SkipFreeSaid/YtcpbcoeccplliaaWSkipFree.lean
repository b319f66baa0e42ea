/-
  Layer 9: SkipFree, as its frame takes it.
-/
import Derived.Test.YtcpbcoeccplliaaVSkipFree
set_option linter.unusedVariables false
namespace Go.Proofs.Ytcpbcoeccplliaa
open Go.RowKit
theorem skipFree_walk (A0 : Option Addr) (n0 c0 : Nat) (s1 : ByteArray) (a2 : Int) (w : World) (h0 : ∃ l : List Sd9, SdAt w A0 n0 l ∧ ∀ i (h : i < l.length), (l[i]'h).ok) (l0 : n0 ≤ c0) (k0 : c0 ≤ 9223372036854775807) (k1 : s1.size ≤ 140737488351232) (i2 : -9223372036854775808 ≤ a2 ∧ a2 ≤ 9223372036854775807) :
    Calls Try.prog 8 #[.slice A0 n0 c0, .string s1, .int .i64 a2] w fun e w' => e = .returned (.bool true) ∧ Below w.heap.size w w' := by
  obtain ⟨l, hl, hok⟩ := h0
  exact skipFree_w A0 n0 c0 s1 a2 w l hl hok (by omega)
end Go.Proofs.Ytcpbcoeccplliaa
