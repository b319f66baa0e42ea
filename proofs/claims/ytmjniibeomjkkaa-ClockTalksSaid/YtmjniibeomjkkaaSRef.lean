/-
  Layer 5, the document's answers: Check, Less, Two, Next, Prev, Later.
-/
import Derived.Test.YtmjniibeomjkkaaSBlk
set_option linter.unusedVariables false
namespace Go.Proofs.Ytmjniibeomjkkaa
open Go.RowKit

theorem refCheck5 (a b : Int) (w : World) :
    Calls Try.prog 43 #[sv a b] w fun e w' => e = .returned (.int .i64 (ck a b)) ∧ Below w.heap.size w w' := by
  go_enter Try.func43, Try.ntmps43
  go_wp2
  all_goals go_ret
  all_goals refine ⟨congrArg (fun v => Ending.returned (Value.int .i64 v)) ?_, (Below.refl _ _).alloc (Nat.le_refl _) _⟩
  all_goals unfold ck
  all_goals first | (rw [if_pos (may_iff.2 (by omega))]) | (rw [if_neg (by rw [may_iff]; omega)])

theorem refLess5 (a b c d : Int) (w : World) :
    Calls Try.prog 46 #[sv a b, sv c d] w fun e w' => e = .returned (.bool (lt (a, b) (c, d))) ∧ Below w.heap.size w w' := by
  go_enter Try.func46, Try.ntmps46
  go_wp2
  all_goals go_ret
  all_goals refine ⟨congrArg (fun v => Ending.returned (Value.bool v)) ?_, ((Below.refl _ _).alloc (Nat.le_refl _) _).alloc (by simp) _⟩
  all_goals unfold lt
  all_goals first | exact decide_eq_decide.2 (by simp only; constructor <;> intro _ <;> omega) | exact (decide_eq_true (by simp only; omega)).symm | exact (decide_eq_false (by simp only; omega)).symm

theorem refTwo (a b c d : Int) (w : World) :
    Calls Try.prog 42 #[sv a b, sv c d] w fun e w' => e = .returned (sv (two (a, b) (c, d)).1 (two (a, b) (c, d)).2) ∧ Below w.heap.size w w' := by
  go_enter Try.func42, Try.ntmps42
  go_wp2_with fail
  have hA := ((Box.new w a b).alloc (.cells #[.int .i64 c, .int .i64 d] 32)).alloc (.cells #[.int .i64 0, .int .i64 0] 32)
  have hB := (Box.new' (g := w.heap.size + 1) (w.alloc (.cells #[.int .i64 a, .int .i64 b] 32)) c d (by simp)).alloc (.cells #[.int .i64 0, .int .i64 0] 32)
  have hR := Box.new' (g := w.heap.size + 1 + 1) ((w.alloc (.cells #[.int .i64 a, .int .i64 b] 32)).alloc (.cells #[.int .i64 c, .int .i64 d] 32)) 0 0 (by simp)
  have hb := (((Below.refl w.heap.size w).alloc (Nat.le_refl _) (.cells #[.int .i64 a, .int .i64 b] 32)).alloc (by simp) (.cells #[.int .i64 c, .int .i64 d] 32)).alloc (by simp; omega) (.cells #[.int .i64 0, .int .i64 0] 32)
  refine (refLess5 a b c d _).mono ?_
  rintro e w1 ⟨rfl, hb1⟩
  replace hA := hA.keep hb1
  replace hB := hB.keep hb1
  replace hR := hR.keep hb1
  replace hb := hb.trans (hb1.mono (by simp; omega))
  clear hb1
  have a0 := hA.c0
  have a1 := hA.c1
  have b0 := hB.c0
  have b1 := hB.c1
  have r0 := hR.c0
  have r1 := hR.c1
  have f0 := hR.fz 0
  have f1 := hR.fz 1
  cases h : lt (a, b) (c, d)
  · have ht := Lib.hid (show two (a, b) (c, d) = (a, b) by unfold two; rw [h]; rfl)
    clear h
    go_wp2
    exact ret_one rfl rfl ((hR.put0 _).put1 _) rfl ⟨by rw [ht.out], (hb.setCell (by simp; omega) _).setCell (by simp; omega) _⟩
  · have ht := Lib.hid (show two (a, b) (c, d) = (c, d) by unfold two; rw [h]; rfl)
    clear h
    go_wp2
    exact ret_one rfl rfl ((hR.put0 _).put1 _) rfl ⟨by rw [ht.out], (hb.setCell (by simp; omega) _).setCell (by simp; omega) _⟩

theorem refNext5 (a b : Int) (w : World) :
    Calls Try.prog 41 #[sv a b] w fun e w' => e = .returned (.tuple #[sv (nxt a b).1 (nxt a b).2.1, .int .i64 (nxt a b).2.2]) ∧ Below w.heap.size w w' := by
  go_enter Try.func41, Try.ntmps41
  go_wp2_with fail
  have hA := (Box.new w a b).alloc (.cells #[.int .i64 0, .int .i64 0] 32)
  have hR := Box.new' (g := w.heap.size + 1) (w.alloc (.cells #[.int .i64 a, .int .i64 b] 32)) 0 0 (by simp)
  have hb := ((Below.refl w.heap.size w).alloc (Nat.le_refl _) (.cells #[.int .i64 a, .int .i64 b] 32)).alloc (by simp) (.cells #[.int .i64 0, .int .i64 0] 32)
  refine (refCheck5 a b _).mono ?_
  rintro e w1 ⟨rfl, hb1⟩
  replace hA := hA.keep hb1
  replace hR := hR.keep hb1
  replace hb := hb.trans (hb1.mono (by simp; omega))
  clear hb1
  have a0 := hA.c0
  have a1 := hA.c1
  have r0 := hR.c0
  have r1 := hR.c1
  have f0 := hR.fz 0
  have f1 := hR.fz 1
  cases hm : may a b
  · rw [show ck a b = 9 by unfold ck; rw [hm]; rfl]
    have hn := Lib.hid (show nxt a b = (0, 0, 9) by unfold nxt; rw [if_pos hm])
    go_wp2
    exact ret_two rfl rfl ((hR.put0 _).put1 _) rfl ⟨by rw [hn.out]; rfl, (hb.setCell (by simp) _).setCell (by simp) _⟩
  · rw [show ck a b = 0 by unfold ck; rw [hm]; rfl]
    obtain ⟨h1, h2, h3, h4⟩ := may_iff.1 hm
    by_cases h5 : b < 1048575
    · have hn := Lib.hid (show nxt a b = (a, b + 1, 0) by unfold nxt; rw [if_neg (by rw [hm]; simp), if_pos h5])
      clear hm
      go_wp2
      exact ret_two rfl rfl ((hR.put0 _).put1 _) rfl ⟨by rw [hn.out]; rfl, (hb.setCell (by simp) _).setCell (by simp) _⟩
    · by_cases h6 : a < 1099511627776
      · have hn := Lib.hid (show nxt a b = (a + 1, 0, 0) by unfold nxt; rw [if_neg (by rw [hm]; simp), if_neg h5, if_pos h6])
        clear hm
        go_wp2
        exact ret_two rfl rfl ((hR.put0 _).put1 _) rfl ⟨by rw [hn.out]; rfl, (hb.setCell (by simp) _).setCell (by simp) _⟩
      · have hn := Lib.hid (show nxt a b = (0, 0, 5) by unfold nxt; rw [if_neg (by rw [hm]; simp), if_neg h5, if_neg h6])
        clear hm
        go_wp2
        exact ret_two rfl rfl ((hR.put0 _).put1 _) rfl ⟨by rw [hn.out]; rfl, (hb.setCell (by simp) _).setCell (by simp) _⟩


end Go.Proofs.Ytmjniibeomjkkaa
