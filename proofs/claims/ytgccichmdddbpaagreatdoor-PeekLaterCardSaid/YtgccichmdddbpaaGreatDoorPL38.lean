/-
  Layer 12, the document's Top, Same (of what is the same); the statements' less.
  Layer 12: the document's May; the statements' may; put.
-/
import Derived.Test.YtgccichmdddbpaaGreatDoorPL36
import Derived.Test.YtgccichmdddbpaaGreatDoorPL37
import Derived.Test.YtgccichmdddbpaaGreatDoorPL24
import Derived.Test.YtgccichmdddbpaaGreatDoorPL34
import Derived.Test.YtgccichmdddbpaaGreatDoorPL18
set_option linter.unusedVariables false
set_option linter.unusedSimpArgs false
set_option maxRecDepth 100000
namespace Go.Proofs.YtgccichmdddbpaaGreatDoor
open Go.RowKit

set_option maxHeartbeats 2000000 in
theorem rSameF_refl (f : Fd) (A1 A2 : Option Addr) (n1 n2 c1 c2 : Nat) (w : World) (h1 : ChAt w A1 n1 f.it.l) (h2 : ChAt w A2 n2 f.it.l) (hn1 : n1 ≤ 9223372036854775807) (hn2 : n2 ≤ 9223372036854775807) :
    Calls Tryz.prog 30 #[fdv f (.slice A1 n1 c1), fdv f (.slice A2 n2 c2)] w fun e w' => e = .returned (.bool true) ∧ Below w.heap.size w w' := by
  have HG := Lib.hid (bsa (nbl w (.cells (fdc f (.slice A1 n1 c1)) 83)) (.cells (fdc f (.slice A2 n2 c2)) 83))
  have HS := Lib.hid (rSame_c f.it f.it true (by simp) A1 A2 n1 n2 c1 c2 _ (h1.below HG.out) (h2.below HG.out) hn1 hn2)
  clear h1 h2
  go_enter Tryz.func30, Tryz.ntmps30
  go_wp2_with fail
  refine HS.out.mono ?_
  rintro e w1 ⟨rfl, hb1⟩
  go_wp2_with fail
  go_ret
  exact ⟨by simp, bst HG.out hb1⟩
set_option maxHeartbeats 2000000 in
theorem lawLess_c (a b c d : Int) (w : World) : Calls Tryz.prog 37 #[sv a b, sv c d] w fun e w' => e = .returned (.bool (lt (a, b) (c, d))) ∧ Below w.heap.size w w' := by
  have HG := Lib.hid (bsa (nbl w (.cells #[.int .i64 a, .int .i64 b] 26)) (.cells #[.int .i64 c, .int .i64 d] 26))
  unfold lt
  by_cases h1 : a < c
  · rw [decide_eq_true (.inl h1)]
    go_enter Tryz.func37, Tryz.ntmps37
    go_wp2
    go_ret
    exact ⟨by simp, HG.out⟩
  · by_cases h2 : a = c
    · subst h2
      rw [show decide ((a, b).1 < (a, d).1 ∨ (a, b).1 = (a, d).1 ∧ (a, b).2 < (a, d).2) = decide (b < d) by simp]
      have h3 : ¬ a < a := Int.lt_irrefl a
      go_enter Tryz.func37, Tryz.ntmps37
      go_wp2
      go_ret
      exact ⟨by simp, HG.out⟩
    · rw [decide_eq_false (fun h => h.elim h1 (fun h => h2 h.1))]
      have h3 : (a == c) = false := by simpa using h2
      go_enter Tryz.func37, Tryz.ntmps37
      go_wp2
      go_ret
      exact ⟨by simp, HG.out⟩
end Go.Proofs.YtgccichmdddbpaaGreatDoor
set_option linter.unusedVariables false
set_option linter.unusedSimpArgs false
set_option maxRecDepth 100000
namespace Go.Proofs.YtgccichmdddbpaaGreatDoor
open Go.RowKit

set_option maxHeartbeats 4000000 in
theorem rMayX_c (x : Tx) (w : World) : Calls Tryz.prog 77 #[txv x] w fun e w' => e = .returned (.bool (mayX x)) ∧ Below w.heap.size w w' := by
  have HG1 := Lib.hid (nbl w (.cells (txc x) 28))
  have HX := Lib.hid (Blk.new w 28 (txc x))
  have HC1 := Lib.hid (fun W => refCheck5 x.rw x.rl W)
  have HC2 := Lib.hid (fun W => refCheck5 x.lw x.ll W)
  have h1 : (ck x.rw x.rl == 0) = may x.rw x.rl := by unfold ck; cases may x.rw x.rl <;> rfl
  have h2 : (ck x.lw x.ll == 0) = may x.lw x.ll := by unfold ck; cases may x.lw x.ll <;> rfl
  unfold mayX idOk
  generalize may x.rw x.rl = m1 at *
  generalize may x.lw x.ll = m2 at *
  generalize ck x.rw x.rl = k1 at *
  generalize ck x.lw x.ll = k2 at *
  obtain ⟨x0, x1, x2, x3, x4, x5, x6, x7, x8, x9, x10, x11⟩ := x
  simp only at HC1 HC2 HG1 HX ⊢
  by_cases c1 : 1 ≤ x0
  · by_cases c2 : x0 ≤ 9007199254740991
    · by_cases c3 : 0 ≤ x1
      · by_cases c4 : x1 ≤ 9007199254740991
        · rw [decide_eq_true (show 1 ≤ x0 ∧ x0 ≤ 9007199254740991 ∧ 0 ≤ x1 ∧ x1 ≤ 9007199254740991 from ⟨c1, c2, c3, c4⟩)]
          cases m1
          · go_enter Tryz.func77, Tryz.ntmps77
            go_wp2_with fail
            refine (HC1.out _).mono ?_
            rintro e w1 ⟨rfl, hb1⟩
            have g := bst HG1.out hb1
            clear hb1
            go_wp2_with fail
            go_ret
            exact ⟨by simp, g⟩
          · go_enter Tryz.func77, Tryz.ntmps77
            go_wp2_with fail
            refine (HC1.out _).mono ?_
            rintro e w1 ⟨rfl, hb1⟩
            have q := HX.out.below hb1 HX.out.lt
            have t8 := q.cell 8
            have t9 := q.cell 9
            simp at t8 t9
            have g := bst HG1.out hb1
            clear hb1 q
            go_wp2_with fail
            refine (HC2.out _).mono ?_
            rintro e w2 ⟨rfl, hb2⟩
            go_wp2_with fail
            go_ret
            exact ⟨by simp [h2], bst g hb2⟩
        · rw [decide_eq_false (show ¬ (1 ≤ x0 ∧ x0 ≤ 9007199254740991 ∧ 0 ≤ x1 ∧ x1 ≤ 9007199254740991) from fun h => c4 h.2.2.2)]
          go_enter Tryz.func77, Tryz.ntmps77
          go_wp2
          go_ret
          exact ⟨by simp, HG1.out⟩
      · rw [decide_eq_false (show ¬ (1 ≤ x0 ∧ x0 ≤ 9007199254740991 ∧ 0 ≤ x1 ∧ x1 ≤ 9007199254740991) from fun h => c3 h.2.2.1)]
        go_enter Tryz.func77, Tryz.ntmps77
        go_wp2
        go_ret
        exact ⟨by simp, HG1.out⟩
    · rw [decide_eq_false (show ¬ (1 ≤ x0 ∧ x0 ≤ 9007199254740991 ∧ 0 ≤ x1 ∧ x1 ≤ 9007199254740991) from fun h => c2 h.2.1)]
      go_enter Tryz.func77, Tryz.ntmps77
      go_wp2
      go_ret
      exact ⟨by simp, HG1.out⟩
  · rw [decide_eq_false (show ¬ (1 ≤ x0 ∧ x0 ≤ 9007199254740991 ∧ 0 ≤ x1 ∧ x1 ≤ 9007199254740991) from fun h => c1 h.1)]
    go_enter Tryz.func77, Tryz.ntmps77
    go_wp2
    go_ret
    exact ⟨by simp, HG1.out⟩
theorem lawMay_c (x : Tx) (w : World) : Calls Tryz.prog 36 #[txv x] w fun e w' => e = .returned (.bool (mayX x)) ∧ Below w.heap.size w w' := by
  have HC := Lib.hid (rMayX_c x (w.alloc (.cells (txc x) 28)))
  have HG := Lib.hid (nbl w (.cells (txc x) 28))
  generalize mayX x = m at *
  go_enter Tryz.func36, Tryz.ntmps36
  go_wp2_with fail
  refine HC.out.mono ?_
  rintro e w1 ⟨rfl, hb1⟩
  go_wp2_with fail
  go_ret
  exact ⟨rfl, bst HG.out hb1⟩
end Go.Proofs.YtgccichmdddbpaaGreatDoor
