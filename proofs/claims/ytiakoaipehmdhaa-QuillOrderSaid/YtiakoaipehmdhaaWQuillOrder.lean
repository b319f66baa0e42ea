/-
  QuillOrder: the walk.
-/
import Derived.Test.YtiakoaipehmdhaaAny
import Derived.Test.YtiakoaipehmdhaaBytes
set_option linter.unusedVariables false
namespace Go.Proofs.Ytiakoaipehmdhaa
open Go.RowKit

theorem compare_lt (n m : Nat) (w : World) (h : n < m) : Calls Try.prog 29 #[.int .i64 n, .int .i64 m] w fun e w' => e = .returned (.int .i64 (-1)) ∧ w = w' := by
  have h' : (n : Int) < (m : Int) := by omega
  go_enter Try.func29, Try.ntmps29
  go_wp2
  go_ret
  exact ⟨rfl, rfl⟩
theorem compare_gt (n m : Nat) (w : World) (h : m < n) : Calls Try.prog 29 #[.int .i64 n, .int .i64 m] w fun e w' => e = .returned (.int .i64 1) ∧ w = w' := by
  have h' : (m : Int) < (n : Int) := by omega
  go_enter Try.func29, Try.ntmps29
  go_wp2
  go_ret
  exact ⟨rfl, rfl⟩
theorem compare_eq (n : Nat) (w : World) : Calls Try.prog 29 #[.int .i64 n, .int .i64 n] w fun e w' => e = .returned (.int .i64 0) ∧ w = w' := by
  go_enter Try.func29, Try.ntmps29
  go_wp2
  go_ret
  exact ⟨rfl, rfl⟩

set_option maxHeartbeats 1000000 in
theorem quillOrder_walk (n m : Int) (w : World) (hn : -9223372036854775808 ≤ n ∧ n ≤ 9223372036854775807) (hm : -9223372036854775808 ≤ m ∧ m ≤ 9223372036854775807) :
    Calls Try.prog 9 #[.int .i64 n, .int .i64 m] w fun e w' => e = .returned (.bool true) ∧ Below w.heap.size w w' := by
  obtain ⟨i, hi, hi53⟩ := number_nat n
  obtain ⟨j, hj, hj53⟩ := number_nat m
  have HI := Lib.hid hi
  have HJ := Lib.hid hj
  clear hi hj
  go_enter Try.func9, Try.ntmps9
  go_wp2_with fail
  refine (works _).mono ?_
  rintro e w1 ⟨rfl, hb⟩
  go_wp2_with fail
  refine (number n _).mono ?_
  rintro e w1' ⟨rfl, rfl⟩
  rw [HI.out]
  go_wp2_with fail
  refine (number m _).mono ?_
  rintro e w1' ⟨rfl, rfl⟩
  rw [HJ.out]
  obtain ⟨p, hp⟩ : ∃ l, l = enc i := ⟨_, rfl⟩
  obtain ⟨q, hq⟩ : ∃ l, l = enc j := ⟨_, rfl⟩
  have HP := Lib.hid hp
  have HQ := Lib.hid hq
  clear hp hq
  go_wp2_with fail
  refine (num_any i p _ hi53 HP.out).mono ?_
  rintro e w2 ⟨A2, m2, c2, rfl, ho2, h21, h22, hb2⟩
  go_wp2_with fail
  refine (num_any j q _ hj53 HQ.out).mono ?_
  rintro e w3 ⟨A3, m3, c3, rfl, ho3, h31, h32, hb3⟩
  have a2 := (ho2.below hb3).at_
  have a3 := ho3.at_
  have hB := (hb.trans (hb2.mono hb.size)).trans (hb3.mono (by have := hb.size; have := hb2.size; omega))
  clear ho2 ho3
  go_wp2_with fail
  refine (bytesCompare A2 A3 m2 m3 c2 c3 p q _ a2 a3).mono ?_
  rintro e w4 ⟨rfl, rfl⟩
  have hcmp := cmp_enc hi53 hj53
  rw [← HP.out, ← HQ.out] at hcmp
  rcases Nat.lt_trichotomy i j with h | h | h
  · rw [if_pos h] at hcmp
    rw [hcmp]
    have hf := hasP_enc hi53 hj53 (by omega)
    rw [← HP.out, ← HQ.out] at hf
    have HF := Lib.hid hf
    have hne : ((i : Int) == (j : Int)) = false := by simp; omega
    clear hcmp hf
    go_wp2_with fail
    refine (compare_lt i j _ h).mono ?_
    rintro e w5 ⟨rfl, rfl⟩
    go_wp2_with fail
    refine (bytesHasPrefix A2 A3 m2 m3 c2 c3 p q _ a2 a3 h21).mono ?_
    rintro e w6 ⟨rfl, rfl⟩
    rw [HF.out]
    go_wp2
    go_ret
    exact ⟨rfl, hB⟩
  · subst h
    rw [if_neg (by omega), if_neg (by omega)] at hcmp
    rw [hcmp]
    have hne : ((i : Int) == (i : Int)) = true := by simp
    clear hcmp
    go_wp2_with fail
    refine (compare_eq i _).mono ?_
    rintro e w5 ⟨rfl, rfl⟩
    go_wp2
    go_ret
    exact ⟨rfl, hB⟩
  · rw [if_neg (by omega), if_pos h] at hcmp
    rw [hcmp]
    have hf := hasP_enc hi53 hj53 (by omega)
    rw [← HP.out, ← HQ.out] at hf
    have HF := Lib.hid hf
    have hne : ((i : Int) == (j : Int)) = false := by simp; omega
    clear hcmp hf
    go_wp2_with fail
    refine (compare_gt i j _ h).mono ?_
    rintro e w5 ⟨rfl, rfl⟩
    go_wp2_with fail
    refine (bytesHasPrefix A2 A3 m2 m3 c2 c3 p q _ a2 a3 h21).mono ?_
    rintro e w6 ⟨rfl, rfl⟩
    rw [HF.out]
    go_wp2
    go_ret
    exact ⟨rfl, hB⟩
end Go.Proofs.Ytiakoaipehmdhaa
