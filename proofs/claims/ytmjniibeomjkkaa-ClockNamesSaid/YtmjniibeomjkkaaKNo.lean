/-
  Layer 6, the code: what a clock that is none answers (of the code that landed).
-/
import Derived.Test.YtmjniibeomjkkaaKNow
set_option linter.unusedVariables false
namespace Go.Proofs.Ytmjniibeomjkkaa
open Go.RowKit

theorem no_set (w : World) (v : Value) (r : Int) (h : NoClk w v) : Calls Try.prog 24 #[v, .int .i64 r] w fun e w' => e = .returned (.int .i64 1) ∧ Below w.heap.size w w' := by
  go_enter Try.func24, Try.ntmps24
  go_wp2_with (first | (go_at_call 33; refine (none_yes _ _ h).mono ?_; rintro e w1 ⟨rfl, rfl⟩))
  go_ret
  exact ⟨rfl, Below.refl _ _⟩
theorem no_raise (w : World) (v : Value) (r : Int) (h : NoClk w v) : Calls Try.prog 23 #[v, .int .i64 r] w fun e w' => e = .returned (.int .i64 1) ∧ Below w.heap.size w w' := by
  go_enter Try.func23, Try.ntmps23
  go_wp2_with (first | (go_at_call 33; refine (none_yes _ _ h).mono ?_; rintro e w1 ⟨rfl, rfl⟩))
  go_ret
  exact ⟨rfl, Below.refl _ _⟩
theorem no_ready (w : World) (v : Value) (h : NoClk w v) : Calls Try.prog 12 #[v] w fun e w' => e = .returned (.bool false) ∧ Below w.heap.size w w' := by
  have hd : NoClk w.drew v := h
  go_enter Try.func12, Try.ntmps12
  go_wp2_with fail
  go_quiet ((go_at_call 33; exact Calls.quiet_of_same (none_yes _ _ (by first | exact h | exact hd))))
  go_wp2
  go_ret
  exact ⟨rfl, below_drewN (Below.refl _ _) _⟩
theorem no_reading (w : World) (v : Value) (h : NoClk w v) : Calls Try.prog 14 #[v] w fun e w' => e = .returned (.int .i64 0) ∧ Below w.heap.size w w' := by
  go_enter Try.func14, Try.ntmps14
  go_wp2_with (first | (go_at_call 33; refine (none_yes _ _ h).mono ?_; rintro e w1 ⟨rfl, rfl⟩))
  go_ret
  exact ⟨rfl, Below.refl _ _⟩
theorem no_bound (w : World) (v : Value) (h : NoClk w v) : Calls Try.prog 16 #[v] w fun e w' => e = .returned (.int .i64 0) ∧ Below w.heap.size w w' := by
  go_enter Try.func16, Try.ntmps16
  go_wp2_with (first | (go_at_call 33; refine (none_yes _ _ h).mono ?_; rintro e w1 ⟨rfl, rfl⟩))
  go_ret
  exact ⟨rfl, Below.refl _ _⟩
theorem no_last (w : World) (v : Value) (h : NoClk w v) : Calls Try.prog 15 #[v] w fun e w' => e = .returned (sv 0 0) ∧ Below w.heap.size w w' := by
  have h1 := h.below ((Below.refl w.heap.size w).alloc (Nat.le_refl _) (.cells #[.int .i64 0, .int .i64 0] 32))
  go_enter Try.func15, Try.ntmps15
  go_wp2_with (first | (go_at_call 33; refine (none_yes _ _ h1).mono ?_; rintro e w1 ⟨rfl, rfl⟩))
  exact ret_one rfl rfl (Box.new w 0 0) rfl ⟨rfl, (Below.refl w.heap.size w).alloc (Nat.le_refl _) _⟩
theorem no_now (w : World) (v : Value) (h : NoClk w v) : Calls Try.prog 25 #[v] w fun e w' => e = .returned (.tuple #[sv 0 0, .int .i64 1]) ∧ Below w.heap.size w w' := by
  have h1 := h.below ((Below.refl w.heap.size w).alloc (Nat.le_refl _) (.cells #[.int .i64 0, .int .i64 0] 32))
  go_enter Try.func25, Try.ntmps25
  go_wp2_with (first | (go_at_call 33; refine (none_yes _ _ h1).mono ?_; rintro e w1 ⟨rfl, rfl⟩))
  exact ret_two rfl rfl (Box.new w 0 0) rfl ⟨rfl, (Below.refl w.heap.size w).alloc (Nat.le_refl _) _⟩
theorem no_see (w : World) (v : Value) (a b : Int) (h : NoClk w v) : Calls Try.prog 26 #[v, sv a b] w fun e w' => e = .returned (.int .i64 1) ∧ Below w.heap.size w w' := by
  have h1 := h.below ((Below.refl w.heap.size w).alloc (Nat.le_refl _) (.cells #[.int .i64 a, .int .i64 b] 32))
  go_enter Try.func26, Try.ntmps26
  go_wp2_with (first | (go_at_call 33; refine (none_yes _ _ h1).mono ?_; rintro e w1 ⟨rfl, rfl⟩))
  go_ret
  exact ⟨rfl, (Below.refl w.heap.size w).alloc (Nat.le_refl _) _⟩
theorem no_ok : NoOk := ⟨no_set, no_raise, no_ready, no_now, no_see, no_reading, no_last, no_bound⟩
end Go.Proofs.Ytmjniibeomjkkaa
