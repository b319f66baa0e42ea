/-
  Layer 5, the code: Check, Less, Next, Prev, Later.
-/
import Derived.Test.YtmjniibeomjkkaaSCmpS
set_option linter.unusedVariables false
namespace Go.Proofs.Ytmjniibeomjkkaa
open Go.RowKit

theorem check_c (a b : Int) (w : World) :
    Calls Try.prog 40 #[sv a b] w fun e w' => e = .returned (.int .i64 (ck a b)) ∧ Below w.heap.size w w' := by
  go_enter Try.func40, Try.ntmps40
  go_wp2
  all_goals go_ret
  all_goals refine ⟨congrArg (fun v => Ending.returned (Value.int .i64 v)) ?_, (Below.refl _ _).alloc (Nat.le_refl _) _⟩
  all_goals unfold ck
  all_goals first | (rw [if_pos (may_iff.2 (by omega))]) | (rw [if_neg (by rw [may_iff]; omega)])

theorem less_c (a b c d : Int) (w : World) :
    Calls Try.prog 21 #[sv a b, sv c d] w fun e w' => e = .returned (.bool (lt (a, b) (c, d))) ∧ Below w.heap.size w w' := by
  have hS0 := SS.new w a b c d
  obtain ⟨i1, i2, i3, i4, hB0⟩ := id hS0
  have hq := cpS_lt (a, b) (c, d)
  generalize hl : lt (a, b) (c, d) = l at hq ⊢
  have C1 := Lib.hid (compare_c a b c d)
  obtain ⟨k, hk⟩ : ∃ k, k = cpS (a, b) (c, d) := ⟨_, rfl⟩
  rw [← hk] at C1 hq
  clear hl hk
  have hd : decide (k < 0) = l := by cases l <;> simp [hq]
  go_enter Try.func21, Try.ntmps21
  go_wp2_with fail
  refine (C1.out _).mono ?_
  rintro e w1 ⟨rfl, hb1⟩
  have hB1 := hB0.trans (hb1.mono hB0.size)
  go_wp2
  go_ret
  exact ⟨rfl, hB1⟩

theorem next_c (a b : Int) (w : World) :
    Calls Try.prog 38 #[sv a b] w fun e w' => e = .returned (.tuple #[sv (nxt a b).1 (nxt a b).2.1, .int .i64 (nxt a b).2.2]) ∧ Below w.heap.size w w' := by
  go_enter Try.func38, Try.ntmps38
  go_wp2_with fail
  have hA := (Box.new w a b).alloc (.cells #[.int .i64 0, .int .i64 0] 32)
  have hR := Box.new' (g := w.heap.size + 1) (w.alloc (.cells #[.int .i64 a, .int .i64 b] 32)) 0 0 (by simp)
  have hb := ((Below.refl w.heap.size w).alloc (Nat.le_refl _) (.cells #[.int .i64 a, .int .i64 b] 32)).alloc (by simp) (.cells #[.int .i64 0, .int .i64 0] 32)
  refine (check_c a b _).mono ?_
  rintro e w1 ⟨rfl, hb1⟩
  replace hA := hA.keep hb1
  replace hR := hR.keep hb1
  replace hb := hb.trans (hb1.mono (by simp; omega))
  clear hb1
  have a0 := hA.c0
  have a1 := hA.c1
  have r0 := hR.c0
  have r1 := hR.c1
  have f0 := hR.fz 0
  have f1 := hR.fz 1
  cases hm : may a b
  · rw [show ck a b = 9 by unfold ck; rw [hm]; rfl]
    have hn := Lib.hid (show nxt a b = (0, 0, 9) by unfold nxt; rw [if_pos hm])
    go_wp2
    exact ret_two rfl rfl ((hR.put0 _).put1 _) rfl ⟨by rw [hn.out]; rfl, (hb.setCell (by simp) _).setCell (by simp) _⟩
  · rw [show ck a b = 0 by unfold ck; rw [hm]; rfl]
    obtain ⟨h1, h2, h3, h4⟩ := may_iff.1 hm
    by_cases h5 : b < 1048575
    · have hn := Lib.hid (show nxt a b = (a, b + 1, 0) by unfold nxt; rw [if_neg (by rw [hm]; simp), if_pos h5])
      clear hm
      go_wp2
      exact ret_two rfl rfl ((hR.put0 _).put1 _) rfl ⟨by rw [hn.out]; rfl, (hb.setCell (by simp) _).setCell (by simp) _⟩
    · by_cases h6 : a < 1099511627776
      · have hn := Lib.hid (show nxt a b = (a + 1, 0, 0) by unfold nxt; rw [if_neg (by rw [hm]; simp), if_neg h5, if_pos h6])
        clear hm
        go_wp2
        exact ret_two rfl rfl ((hR.put0 _).put1 _) rfl ⟨by rw [hn.out]; rfl, (hb.setCell (by simp) _).setCell (by simp) _⟩
      · have hn := Lib.hid (show nxt a b = (0, 0, 5) by unfold nxt; rw [if_neg (by rw [hm]; simp), if_neg h5, if_neg h6])
        clear hm
        go_wp2
        exact ret_two rfl rfl ((hR.put0 _).put1 _) rfl ⟨by rw [hn.out]; rfl, (hb.setCell (by simp) _).setCell (by simp) _⟩


theorem check_ok : CheckOk := check_c
theorem less_ok : LessOk := less_c
theorem nextS_ok : NextSOk := next_c
end Go.Proofs.Ytmjniibeomjkkaa
