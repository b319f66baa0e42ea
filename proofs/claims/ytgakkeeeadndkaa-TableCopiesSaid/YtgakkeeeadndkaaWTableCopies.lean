/-
  Layer 10: TableCopies, as its frame takes it.
-/
import Derived.Test.YtgakkeeeadndkaaVTableCopies
set_option linter.unusedVariables false
namespace Go.Proofs.Ytgakkeeeadndkaa
open Go.RowKit
theorem tableCopies_walk (A0 : Option Addr) (n0 c0 : Nat) (A1 : Option Addr) (n1 c1 : Nat) (A2 : Option Addr) (n2 c2 : Nat) (w : World) (h0 : ∃ l : List (List Op_), BAt w A0 n0 l ∧ ∀ b ∈ l, OSz b ∧ b.length * 40 ≤ 140737488351232) (l0 : n0 ≤ c0) (k0 : c0 ≤ 9223372036854775807) (h1 : ∃ l : List Op_, OAt w A1 n1 l ∧ OSz l ∧ l.length * 40 ≤ 140737488351232) (l1 : n1 ≤ c1) (k1 : c1 ≤ 9223372036854775807) (h2 : ∃ l : List Op_, OAt w A2 n2 l ∧ OSz l ∧ l.length * 40 ≤ 140737488351232) (l2 : n2 ≤ c2) (k2 : c2 ≤ 9223372036854775807) :
    Calls Try.prog 9 #[.slice A0 n0 c0, .slice A1 n1 c1, .slice A2 n2 c2] w fun e w' => e = .returned (.bool true) ∧ Below w.heap.size w w' := by
  obtain ⟨l, hl, hok⟩ := h0
  obtain ⟨la, ha, hsa, _⟩ := h1
  obtain ⟨lb, hb, hsb, _⟩ := h2
  exact tableCopies_w A0 A1 A2 n0 n1 n2 c0 c1 c2 w l la lb hl (fun b hb => (hok b hb).1) ha hsa hb hsb (by omega) (by omega) (by omega)
end Go.Proofs.Ytgakkeeeadndkaa
