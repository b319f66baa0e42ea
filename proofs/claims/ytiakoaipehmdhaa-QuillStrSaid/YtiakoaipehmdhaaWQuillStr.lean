/-
  QuillStr: the walk.
-/
import Derived.Test.YtiakoaipehmdhaaWorks
set_option linter.unusedVariables false
namespace Go.Proofs.Ytiakoaipehmdhaa
open Go.RowKit

set_option maxHeartbeats 1000000 in
theorem quillStr_walk (s : ByteArray) (most : Int) (w : World) (hs : s.size ≤ 140737488351232) (hm : -9223372036854775808 ≤ most ∧ most ≤ 9223372036854775807) :
    Calls Try.prog 5 #[.string s, .int .i64 most] w fun e w' => e = .returned (.bool true) ∧ Below w.heap.size w w' := by
  by_cases h1 : most < 0
  · go_enter Try.func5, Try.ntmps5
    go_wp2_with fail
    refine (str_neg s most _ h1).mono ?_
    rintro e w1 ⟨rfl, rfl⟩
    go_wp2_with fail
    refine (refStr_neg s most _ h1).mono ?_
    rintro e w1 ⟨rfl, rfl⟩
    go_wp2_with fail
    refine (eqBytes _ _ 0 0 _ _ [] [] _ (At.nil _ _) (At.nil _ _) (by omega)).mono ?_
    rintro e w1 ⟨rfl, j, rfl⟩
    rw [show (([] : List UInt8) == []) = true by decide]
    go_wp2_with fail
    refine (works _).mono ?_
    rintro e w1 ⟨rfl, hb⟩
    go_wp2
    go_ret
    exact ⟨rfl, (below_drewN (Below.refl _ _) j).trans (hb.mono (by simp))⟩
  · by_cases h2 : most < (s.size : Int)
    · go_enter Try.func5, Try.ntmps5
      go_wp2_with fail
      refine (str_long s most _ (by omega) h2).mono ?_
      rintro e w1 ⟨rfl, rfl⟩
      go_wp2_with fail
      refine (refStr_long s most _ (by omega) h2).mono ?_
      rintro e w1 ⟨rfl, rfl⟩
      go_wp2_with fail
      refine (eqBytes _ _ 0 0 _ _ [] [] _ (At.nil _ _) (At.nil _ _) (by omega)).mono ?_
      rintro e w1 ⟨rfl, j, rfl⟩
      rw [show (([] : List UInt8) == []) = true by decide]
      go_wp2_with fail
      refine (works _).mono ?_
      rintro e w1 ⟨rfl, hb⟩
      go_wp2
      go_ret
      exact ⟨rfl, (below_drewN (Below.refl _ _) j).trans (hb.mono (by simp))⟩
    · have h3 : (s.size : Int) ≤ most := by omega
      obtain ⟨q, hq⟩ : ∃ q, q = enc s.size ++ sb s := ⟨_, rfl⟩
      have hql : q.length ≤ 140737488351240 := by
        have := enc_len s.size (by omega)
        rw [hq, List.length_append, sb_len]
        omega
      have H1 : ∀ w, Hid (Calls Try.prog 23 #[.string s, .int .i64 most] w fun e w' => ∃ v, e = .returned (.tuple #[v, .int .i64 0]) ∧ Own w' w.heap.size v q ∧ Below w.heap.size w w') := fun w => by
        rw [hq]
        exact str s most w h3 hs
      have H2 : ∀ w, Hid (Calls Try.prog 24 #[.string s, .int .i64 most] w fun e w' => ∃ v, e = .returned (.tuple #[v, .int .i64 0]) ∧ Own w' w.heap.size v q ∧ Below w.heap.size w w') := fun w => by
        rw [hq]
        exact refStr s most w h3 hs
      clear hq
      go_enter Try.func5, Try.ntmps5
      go_wp2_with fail
      refine (H1 _).out.mono ?_
      rintro e w1 ⟨v1, rfl, hown1, hb1⟩
      obtain ⟨A1, c1, rfl, hat1, _, _, _⟩ := hown1.form
      clear hown1
      go_wp2_with fail
      refine (H2 _).out.mono ?_
      rintro e w2 ⟨v2, rfl, hown2, hb2⟩
      obtain ⟨A2, c2, rfl, hat2, _, _, _⟩ := hown2.form
      have hat1' := hat1.below' hb2
      have hb02 := hb1.trans (hb2.mono hb1.size)
      clear hown2 hat1
      go_wp2_with fail
      refine (eqBytes _ _ _ _ _ _ q q _ hat1' hat2 (by omega)).mono ?_
      rintro e w3 ⟨rfl, j, rfl⟩
      rw [show (q == q) = true by simp]
      go_wp2_with fail
      refine (works _).mono ?_
      rintro e w4 ⟨rfl, hb⟩
      have := hb02.size
      go_wp2
      go_ret
      exact ⟨rfl, (below_drewN hb02 j).trans (hb.mono (by simpa using this))⟩
end Go.Proofs.Ytiakoaipehmdhaa
