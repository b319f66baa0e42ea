/-
  The helper Bring of the statements.
-/
import Derived.Test.YtgakkeeeadndkaaBase
set_option linter.unusedVariables false
namespace Go.Proofs.Ytgakkeeeadndkaa
open Go.RowKit

theorem emod_tmod (i n : Int) (hn : 1 ≤ n) : i % n = if 0 ≤ i.tmod n then i.tmod n else i.tmod n + n := by
  rw [Int.tmod_eq_emod]
  have h1 := Int.emod_nonneg i (b := n) (by omega)
  have h2 := Int.emod_lt_of_pos i (b := n) (by omega)
  by_cases h : 0 ≤ i ∨ n ∣ i
  · rw [if_pos h]
    split <;> omega
  · rw [if_neg h]
    have : (i % n) ≠ 0 := fun h0 => h (.inr (Int.dvd_of_emod_eq_zero h0))
    split <;> omega

set_option maxHeartbeats 400000 in
theorem bring (i n : Int) (w : World) (hn : 1 ≤ n) (hn' : n ≤ 9223372036854775807) :
    Calls Try.prog 29 #[.int .i64 i, .int .i64 n] w fun e w' => e = .returned (.int .i64 (i % n)) ∧ w = w' := by
  have h := emod_tmod i n hn
  have h1 := Int.emod_nonneg i (b := n) (by omega)
  have h2 := Int.emod_lt_of_pos i (b := n) (by omega)
  by_cases hp : 0 ≤ i.tmod n
  · rw [if_pos hp] at h
    have H := Lib.hid h
    clear h h1 h2
    go_enter Try.func29, Try.ntmps29
    go_wp2
    go_ret
    exact ⟨by rw [H.out]; rfl, rfl⟩
  · rw [if_neg hp] at h
    have h3 : i.tmod n + n ≤ 9223372036854775807 := by omega
    have h4 : 0 ≤ i.tmod n + n := by omega
    have H := Lib.hid h
    clear h h1 h2
    go_enter Try.func29, Try.ntmps29
    go_wp2
    go_ret
    exact ⟨by rw [H.out]; rfl, rfl⟩
end Go.Proofs.Ytgakkeeeadndkaa
