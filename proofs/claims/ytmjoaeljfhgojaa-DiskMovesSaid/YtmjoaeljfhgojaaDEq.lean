/-
  Layer 7: lists of numbers that are the same.
-/
import Derived.Test.YtmjoaeljfhgojaaDDeed
set_option linter.unusedVariables false
namespace Go.Proofs.Ytmjoaeljfhgojaa
open Go.RowKit

set_option maxHeartbeats 4000000 in
theorem eqInts_same (A B : Option Addr) (n c d : Nat) (xs : List Int) (w : World) (hx : IAt w A n xs) (hy : IAt w B n xs) (hn : n ≤ 9223372036854775807) :
    Calls Try.prog 17 #[.slice A n c, .slice B n d] w fun e w' => e = .returned (.bool true) ∧ ∃ k, w' = w.drewN k := by
  have hxl := Lib.hid hx.1
  go_enter Try.func17, Try.ntmps17
  go_wp2
  go_loopw [5] (fun i wr => ∃ k : Nat, k ≤ n ∧ i = .int .i64 k ∧ ∃ j, wr = w.drewN j) (fun i _ => n - (intOf i).toNat)
  case atStart => exact ⟨0, Nat.zero_le _, rfl, 0, rfl⟩
  case round =>
    obtain ⟨k, hk, rfl, j, rfl⟩ := hrel
    by_cases hlt : k < n
    · obtain ⟨b, o, rfl, hc⟩ := hx.2 (by omega)
      obtain ⟨b', o', rfl, hc'⟩ := hy.2 (by omega)
      have hxk : k < xs.length := by rw [hxl.out]; exact hlt
      have h1 := hc k hxk
      have h2 := hc' k hxk
      obtain ⟨u, hu⟩ : ∃ u, u = xs[k] := ⟨_, rfl⟩
      rw [← hu] at h1 h2
      have he : (u == u) = true := beq_self_eq_true _
      have he2 : (u != u) = false := by simp
      clear hc hc' hu
      go_wp2_with fail
      go_quiet (fail)
      go_wp2
      go_roundw
      case rel => exact ⟨k + 1, by omega, by go_num, _, rfl⟩
      case measure => simp [intOf]; omega
    · have hge : n ≤ k := by omega
      clear hlt
      go_wp2
      go_ret
      exact ⟨rfl, _, rfl⟩
end Go.Proofs.Ytmjoaeljfhgojaa
