/-
  Layer 10: TableSeeds, as its frame takes it.
-/
import Derived.Test.YtgakkeeeadndkaaVTableSeeds
set_option linter.unusedVariables false
namespace Go.Proofs.Ytgakkeeeadndkaa
open Go.RowKit
theorem tableSeeds_walk (A0 : Option Addr) (n0 c0 : Nat) (a1 b1 : Int) (s2 : ByteArray) (w : World) (h0 : ∃ l : List (List Op_), BAt w A0 n0 l ∧ ∀ b ∈ l, OSz b ∧ b.length * 40 ≤ 140737488351232) (l0 : n0 ≤ c0) (k0 : c0 ≤ 9223372036854775807) (ia1 : -9223372036854775808 ≤ a1 ∧ a1 ≤ 9223372036854775807) (ib1 : -9223372036854775808 ≤ b1 ∧ b1 ≤ 9223372036854775807) (k2 : s2.size ≤ 140737488351232) :
    Calls Try.prog 7 #[.slice A0 n0 c0, .agg #[.int .i64 a1, .int .i64 b1], .string s2] w fun e w' => e = .returned (.bool true) ∧ Below w.heap.size w w' := by
  obtain ⟨l, hl, hok⟩ := h0
  exact tableSeeds_w A0 n0 c0 a1 b1 s2 w l hl (fun b hb => (hok b hb).1) (by omega)
end Go.Proofs.Ytgakkeeeadndkaa
