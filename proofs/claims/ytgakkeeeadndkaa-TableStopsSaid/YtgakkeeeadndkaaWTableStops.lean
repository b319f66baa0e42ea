/-
  Layer 10: TableStops, as its frame takes it.
-/
import Derived.Test.YtgakkeeeadndkaaVTableStops
set_option linter.unusedVariables false
namespace Go.Proofs.Ytgakkeeeadndkaa
open Go.RowKit
theorem tableStops_walk (A0 : Option Addr) (n0 c0 : Nat) (a1 : Int) (w : World) (h0 : ∃ l : List (List Op_), BAt w A0 n0 l ∧ ∀ b ∈ l, OSz b ∧ b.length * 40 ≤ 140737488351232) (l0 : n0 ≤ c0) (k0 : c0 ≤ 9223372036854775807) (i1 : -9223372036854775808 ≤ a1 ∧ a1 ≤ 9223372036854775807) :
    Calls Try.prog 10 #[.slice A0 n0 c0, .int .i64 a1] w fun e w' => e = .returned (.bool true) ∧ Below w.heap.size w w' := by
  obtain ⟨l, hl, hok⟩ := h0
  exact tableStops_w A0 n0 c0 a1 w l hl (fun b hb => (hok b hb).1) (by omega) i1
end Go.Proofs.Ytgakkeeeadndkaa
