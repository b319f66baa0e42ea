/-
  Layer 5, the code that landed: cmp's functions, compare.
-/
import Derived.Test.YtmjniibeomjkkaaSBlk
import Derived.Deep.RegionWith
import Derived.Deep.RegionHeld3
set_option linter.unusedVariables false
namespace Go.Proofs.Ytmjniibeomjkkaa
open Go.RowKit

/-- What cmp.Compare tells; what compare tells of two stamps. -/
def cpi (a b : Int) : Int := if a < b then -1 else if b < a then 1 else 0
def cpS (x y : Int × Int) : Int := if cpi x.1 y.1 = 0 then cpi x.2 y.2 else cpi x.1 y.1
theorem cpi_lt (a b : Int) : cpi a b < 0 ↔ a < b := by unfold cpi; (repeat' split) <;> omega
theorem cpi_gt (a b : Int) : 0 < cpi a b ↔ b < a := by unfold cpi; (repeat' split) <;> omega
theorem cpi_eq (a b : Int) : cpi a b = 0 ↔ a = b := by unfold cpi; (repeat' split) <;> omega
theorem cpS_lt (x y : Int × Int) : cpS x y < 0 ↔ lt x y = true := by
  have := cpi_lt x.1 y.1; have := cpi_lt x.2 y.2; have := cpi_eq x.1 y.1; have := cpi_gt x.1 y.1
  rw [lt_iff]; unfold cpS; split <;> omega
theorem cpS_gt (x y : Int × Int) : 0 < cpS x y ↔ lt y x = true := by
  have := cpi_lt x.1 y.1; have := cpi_gt x.2 y.2; have := cpi_eq x.1 y.1; have := cpi_gt x.1 y.1
  rw [lt_iff]; unfold cpS; split <;> omega

theorem nan_c (a : Int) (w : World) : Calls Try.prog 47 #[.int .i64 a] w fun e w' => e = .returned (.bool false) ∧ w' = w := by
  have q : (a != a) = false := by simp
  go_enter Try.func47, Try.ntmps47
  go_wp2
  go_ret
  exact ⟨rfl, rfl⟩

theorem cmp_c (a b : Int) (w : World) : Calls Try.prog 45 #[.int .i64 a, .int .i64 b] w fun e w' => e = .returned (.int .i64 (cpi a b)) ∧ w' = w := by
  go_enter Try.func45, Try.ntmps45
  go_wp2_with (go_at_call 47; refine (nan_c _ _).mono ?_; rintro e w' ⟨rfl, rfl⟩)
  all_goals go_ret
  all_goals refine ⟨congrArg (fun v => Ending.returned (Value.int .i64 v)) ?_, rfl⟩
  all_goals (unfold cpi; (repeat' split) <;> omega)

theorem or_c (b o c : Nat) (u v : Int) (w : World) (h0 : w.cell? ⟨b, o, none⟩ = some (.int .i64 u)) (h1 : w.cell? ⟨b, o + 1, none⟩ = some (.int .i64 v)) :
    Calls Try.prog 44 #[.slice (some ⟨b, o, none⟩) 2 c] w fun e w' => e = .returned (.int .i64 (if u = 0 then v else u)) ∧ w' = w := by
  by_cases hu : u = 0
  · subst hu
    by_cases hv : v = 0
    · subst hv
      go_enter Try.func44, Try.ntmps44
      go_wp2
      go_loop [8] (fun i => ∃ k : Nat, k ≤ 2 ∧ i = .int .i64 k) (fun i => 2 - (intOf i).toNat)
      case atStart => exact ⟨0, by omega, rfl⟩
      case round =>
        obtain ⟨k, hk, rfl⟩ := hrel
        by_cases hlt : k < 2
        · have hc : w.cell? ⟨b, o + k, none⟩ = some (.int .i64 0) := by
            rcases (show k = 0 ∨ k = 1 by omega) with rfl | rfl
            · exact h0
            · exact h1
          go_wp2
          all_goals
            go_round
            case rel => exact ⟨k + 1, by omega, by go_num⟩
            case measure => simp [intOf]; omega
        · go_wp2
          go_ret
          exact ⟨rfl, rfl⟩
    · have hv' : (v != 0) = true := by simpa using hv
      go_enter Try.func44, Try.ntmps44
      go_wp2
      go_loop [8] (fun i => ∃ k : Nat, k ≤ 1 ∧ i = .int .i64 k) (fun i => 2 - (intOf i).toNat)
      case atStart => exact ⟨0, by omega, rfl⟩
      case round =>
        obtain ⟨k, hk, rfl⟩ := hrel
        rcases (show k = 0 ∨ k = 1 by omega) with rfl | rfl
        · go_wp2
          go_round
          case rel => exact ⟨1, by omega, by go_num⟩
          case measure => simp [intOf]
        · go_wp2
          go_ret
          exact ⟨rfl, rfl⟩
  · have hu' : (u != 0) = true := by simpa using hu
    go_enter Try.func44, Try.ntmps44
    go_wp2
    go_loop [8] (fun i => i = .int .i64 0) (fun i => 2 - (intOf i).toNat)
    case atStart => rfl
    case round =>
      obtain rfl := hrel
      go_wp2
      go_ret
      exact ⟨rfl, rfl⟩
end Go.Proofs.Ytmjniibeomjkkaa
