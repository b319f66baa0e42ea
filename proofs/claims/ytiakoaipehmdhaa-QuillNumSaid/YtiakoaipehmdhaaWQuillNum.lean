/-
  QuillNum: the walk.
-/
import Derived.Test.YtiakoaipehmdhaaWorks
set_option linter.unusedVariables false
namespace Go.Proofs.Ytiakoaipehmdhaa
open Go.RowKit

theorem eq_refl_true (l : List UInt8) : (l == l) = true := by simp

set_option maxHeartbeats 2000000 in
theorem quillNum_walk (a : Int) (w : World) (h : -9223372036854775808 ≤ a ∧ a ≤ 9223372036854775807) :
    Calls Try.prog 3 #[.int .i64 a] w fun e w' => e = .returned (.bool true) ∧ Below w.heap.size w w' := by
  by_cases hno : a < 0 ∨ 9007199254740991 < a
  · have HNO := Lib.hid hno
    clear hno
    go_enter Try.func3, Try.ntmps3
    go_wp2_with fail
    refine (num_no a _ HNO.out).mono ?_
    rintro e w1 ⟨rfl, rfl⟩
    go_wp2_with fail
    refine (refNum_no a _ HNO.out).mono ?_
    rintro e w1 ⟨rfl, rfl⟩
    go_wp2_with fail
    refine (eqBytes _ _ 0 0 _ _ [] [] _ (At.nil _ _) (At.nil _ _) (by omega)).mono ?_
    rintro e w1 ⟨rfl, j, rfl⟩
    rw [eq_refl_true]
    go_wp2_with fail
    go_loop [7] (fun y => y = .int .i64 0) (fun _ => 0)
    case atStart => rfl
    case round =>
      obtain rfl := hrel
      go_wp2_with fail
      refine (num_no a _ HNO.out).mono ?_
      rintro e w1 ⟨rfl, rfl⟩
      go_wp2_with fail
      refine (eqBytes _ _ 0 0 _ _ [] [] _ (At.nil _ _) (At.nil _ _) (by omega)).mono ?_
      rintro e w1 ⟨rfl, j', rfl⟩
      rw [eq_refl_true]
      go_wp2_with fail
      refine (works _).mono ?_
      rintro e w1 ⟨rfl, hb⟩
      go_wp2
      go_ret
      exact ⟨rfl, (below_drewN (Below.refl _ _) (j + j')).trans (hb.mono (by simp))⟩
  · obtain ⟨n, rfl⟩ := Int.eq_ofNat_of_zero_le (show 0 ≤ a by omega)
    have hn : n ≤ 9007199254740991 := by omega
    clear hno h
    obtain ⟨q, hq⟩ : ∃ q, q = enc n := ⟨_, rfl⟩
    have hq8 := enc_len n hn
    have hq1 : 0 < (enc n).length := by simp [enc]
    have HQ := Lib.hid hq
    rw [← hq] at hq8 hq1
    have HN : ∀ w, Hid (Calls Try.prog 14 #[.int .i64 n] w fun e w' => ∃ v, e = .returned (.tuple #[v, .int .i64 0]) ∧ Own w' w.heap.size v q ∧ Below w.heap.size w w') := fun w => by
      have := num n w hn
      rw [← hq] at this
      exact this
    have HR : ∀ w, Hid (Calls Try.prog 15 #[.int .i64 n] w fun e w' => ∃ v, e = .returned (.tuple #[v, .int .i64 0]) ∧ Own w' w.heap.size v q ∧ Below w.heap.size w w') := fun w => by
      have := refNum n w hn
      rw [← hq] at this
      exact this
    clear hq
    go_enter Try.func3, Try.ntmps3
    go_wp2_with fail
    refine (HN _).out.mono ?_
    rintro e w1 ⟨v1, rfl, hown1, hb1⟩
    obtain ⟨g, c1, rfl, hg1, hg2⟩ := World.ownsRow.form hown1 hq1
    go_wp2_with fail
    refine (HR _).out.mono ?_
    rintro e w2 ⟨v2, rfl, hown2, hb2⟩
    obtain ⟨g2, c2, rfl, hg3, hg4⟩ := World.ownsRow.form hown2 hq1
    have hat1 := hown1.at_
    have hat2 := hown2.at_
    have hat1' := hat1.below' hb2
    have hown1' : Own w2 w.heap.size (.slice (some ⟨g, 0, none⟩) q.length c1) q := by
      refine hown1.kept (row := none) ⟨hb2.os, hb2.tape, hb2.output, hb2.size, fun k hk _ => hb2.block k hk⟩ (.inr (by simp [Value.ownBlock]))
    obtain ⟨m, hm⟩ : ∃ m, m = q.length := ⟨_, rfl⟩
    rw [← hm] at hq8 hq1 hat1' hat2 hown1' hown2 ⊢
    have HM := Lib.hid hm
    clear hat1 hm hown1
    go_wp2_with fail
    refine (eqBytes _ _ m m _ _ q q _ hat1' hat2 (by omega)).mono ?_
    rintro e w3 ⟨rfl, j, rfl⟩
    rw [eq_refl_true]
    have hb02 : Below w.heap.size w w2 := hb1.trans (hb2.mono hb1.size)
    have hsz1 := hb1.size
    clear hat1' hat2
    go_wp2_with fail
    go_loopw [7] (fun y wr => ∃ (k : Nat) (xs : List UInt8), k ≤ m ∧ y = .int .i64 k ∧ Hid (xs.length = m) ∧ Own wr w.heap.size (.slice (some ⟨g, 0, none⟩) m c1) xs ∧ Own wr w1.heap.size (.slice (some ⟨g2, 0, none⟩) m c2) q ∧ Below w.heap.size w wr)
      (fun y _ => m - (intOf y).toNat)
    case atStart => exact ⟨0, q, Nat.zero_le _, rfl, HM.out.symm, hown1', hown2, below_drewN hb02 j⟩
    case round =>
      obtain ⟨k, xs, hk, rfl, hxl, ho1, ho2, hbw⟩ := hrel
      by_cases hlt : k < m
      · have hxl' := hxl.out
        have ho1' : wr.ownsRow w.heap.size 5 1 (.slice (some ⟨g, 0, none⟩) m c1) m (xs.map bv) := by
          have := ho1
          unfold Own at this
          rw [hxl'] at this
          exact this
        have hc := ho1'.cellAt k (by omega)
        rw [List.getElem?_map, List.getElem?_eq_getElem (show k < xs.length by omega)] at hc
        have hc' : ∃ u, wr.cell? ⟨g, k, none⟩ = some u := ⟨_, hc⟩
        obtain ⟨u, hcu⟩ := hc'
        have hf := ho1'.frozenAt k
        have hst := (ho1'.stored k (bv 0)).1
        have hbn := hbw.setCell (p := ⟨g, k, none⟩) hg1 (bv 0)
        have hy := ownsRow_setCell_below ho2 (a := ⟨g, k, none⟩) hg2 (bv 0)
        have hx' : Own (wr.setCell ⟨g, k, none⟩ (bv 0)) w.heap.size (.slice (some ⟨g, 0, none⟩) m c1) (xs.set k 0) := by
          unfold Own
          rw [List.length_set, hxl', List.map_set]
          exact hst
        have hxl2 : Hid ((xs.set k 0).length = m) := by
          show _ = _
          rw [List.length_set, hxl']
        clear hc hst hxl'
        go_wp2
        go_roundw
        case rel => exact ⟨k + 1, xs.set k 0, by omega, by go_num, hxl2, hx', hy, hbn⟩
        case measure => simp [intOf]; omega
      · have hkm : k = m := by omega
        subst hkm
        have hszw := hbw.size
        have hat2 := ho2.at_
        clear hlt
        go_wp2_with fail
        refine (HN _).out.mono ?_
        rintro e w4 ⟨v4, rfl, hown4, hb4⟩
        obtain ⟨A4, c4, rfl, hat4, _, _, _⟩ := hown4.form
        have hat2' := hat2.below' hb4
        rw [← HM.out] at hat4 ⊢
        have hb5 := hbw.trans (hb4.mono hszw)
        clear hat2 hown4
        go_wp2_with fail
        refine (eqBytes _ _ k k _ _ q q _ hat4 hat2' (by omega)).mono ?_
        rintro e w5 ⟨rfl, j', rfl⟩
        rw [eq_refl_true]
        go_wp2_with fail
        refine (works _).mono ?_
        rintro e w6 ⟨rfl, hb6⟩
        go_wp2
        go_ret
        have := hb5.size
        exact ⟨rfl, (below_drewN hb5 j').trans (hb6.mono (by simpa using this))⟩
end Go.Proofs.Ytiakoaipehmdhaa
