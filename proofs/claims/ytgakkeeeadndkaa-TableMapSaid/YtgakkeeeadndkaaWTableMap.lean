/-
  Layer 10: TableMap, as its frame takes it.
-/
import Derived.Test.YtgakkeeeadndkaaVTableMap
set_option linter.unusedVariables false
namespace Go.Proofs.Ytgakkeeeadndkaa
open Go.RowKit
theorem tableMap_walk (a0 : Int) (A1 : Option Addr) (n1 c1 : Nat) (w : World) (i0 : -9223372036854775808 ≤ a0 ∧ a0 ≤ 9223372036854775807) (h0 : ∃ l : List (List Op_), BAt w A1 n1 l ∧ ∀ b ∈ l, OSz b ∧ b.length * 40 ≤ 140737488351232) (l1 : n1 ≤ c1) (k1 : c1 ≤ 9223372036854775807) :
    Calls Try.prog 6 #[.int .i64 a0, .slice A1 n1 c1] w fun e w' => e = .returned (.bool true) ∧ Below w.heap.size w w' := by
  obtain ⟨l, hl, hok⟩ := h0
  exact tableMap_w a0 A1 n1 c1 w l hl (fun b hb => (hok b hb).1) (by omega)
end Go.Proofs.Ytgakkeeeadndkaa
