/-
  Layer 10: TableMoves, as its frame takes it.
-/
import Derived.Test.YtgakkeeeadndkaaVTableMoves
set_option linter.unusedVariables false
namespace Go.Proofs.Ytgakkeeeadndkaa
open Go.RowKit
theorem tableMoves_walk (A0 : Option Addr) (n0 c0 : Nat) (s1 s2 : ByteArray) (w : World) (h0 : ∃ l : List (List Op_), BAt w A0 n0 l ∧ ∀ b ∈ l, OSz b ∧ b.length * 40 ≤ 140737488351232) (l0 : n0 ≤ c0) (k0 : c0 ≤ 9223372036854775807) (k1 : s1.size ≤ 140737488351232) (k2 : s2.size ≤ 140737488351232) :
    Calls Try.prog 5 #[.slice A0 n0 c0, .string s1, .string s2] w fun e w' => e = .returned (.bool true) ∧ Below w.heap.size w w' := by
  obtain ⟨l, hl, hok⟩ := h0
  exact tableMoves_w A0 n0 c0 s1 s2 w l hl (fun b hb => (hok b hb).1) (by omega) (by omega) (by omega)
end Go.Proofs.Ytgakkeeeadndkaa
