/-
  Layer 14, the statements' helpers: a thing as a change (written by wip/genpotab.py).
-/
import Derived.Test.YtldbmogondmgmaaGreatDoorSS32
set_option linter.unusedVariables false
set_option linter.unusedSimpArgs false
set_option maxRecDepth 100000
namespace Go.Proofs.YtldbmogondmgmaaGreatDoor
open Go.RowKit

set_option maxHeartbeats 8000000 in
theorem thOp14 (x : Th) (A : Option Addr) (n c : Nat) (w : World) (hx : ChAt w A n x.it.l) (hn : n ≤ 9223372036854775807) (hz : TSz x) :
    Calls Tryz.prog 61 #[thv x (.slice A n c)] w (ThP x w) := by
  have g0 := nbl w (.cells (thc x (.slice A n c)) 128)
  have g1 := bsa g0 (.cells #[.string ⟨#[]⟩, .string ⟨#[]⟩, .bool false] 98)
  have kX := (Blk.new w 128 (thc x (.slice A n c))).below (nbl _ (.cells #[.string ⟨#[]⟩, .string ⟨#[]⟩, .bool false] 98)) (by simp)
  have hzz : (w.alloc (.cells (thc x (.slice A n c)) 128)).heap.size = w.heap.size + 1 := by simp
  have kY := Blk.new (w.alloc (.cells (thc x (.slice A n c)) 128)) 98 #[.string ⟨#[]⟩, .string ⟨#[]⟩, .bool false]
  rw [hzz] at kY
  have HL := Lib.hid (hx.below g1)
  have HX := Lib.hid kX
  have HY := Lib.hid kY
  have G1 := Lib.hid g1
  obtain ⟨m, hm⟩ : ∃ m, x.k.tmod 3 = m := ⟨_, rfl⟩
  have m1 : -3 < m := by rw [← hm]; exact Int.lt_tmod_of_pos x.k (by omega)
  have m2 : m < 3 := by rw [← hm]; exact Int.tmod_lt_of_pos x.k (by omega)
  have hk : kd x.k = (m + 3).tmod 3 := by unfold kd; rw [hm]
  have LX := Lib.hid (fun (V : World) (h : Blk V w.heap.size 128 (thc x (.slice A n c))) => (show V.cell? ⟨w.heap.size, 0, none⟩ = some (.int .i64 x.k) ∧ V.cell? ⟨w.heap.size, 1, none⟩ = some (.string x.key) ∧ V.cell? ⟨w.heap.size, 2, none⟩ = some (.string x.value) ∧ V.cell? ⟨w.heap.size, 3, none⟩ = some (.bool x.gone) ∧ V.cell? ⟨w.heap.size, 4, none⟩ = some (.int .i64 x.sw) ∧ V.cell? ⟨w.heap.size, 5, none⟩ = some (.int .i64 x.sl) ∧ V.cell? ⟨w.heap.size, 6, none⟩ = some (.int .i64 x.it.id) ∧ V.cell? ⟨w.heap.size, 7, none⟩ = some (.int .i64 x.it.ep) ∧ V.cell? ⟨w.heap.size, 8, none⟩ = some (.int .i64 x.it.pr) ∧ V.cell? ⟨w.heap.size, 9, none⟩ = some (.string x.it.an) ∧ V.cell? ⟨w.heap.size, 10, none⟩ = some (.int .i64 x.it.sw) ∧ V.cell? ⟨w.heap.size, 11, none⟩ = some (.int .i64 x.it.sl) ∧ V.cell? ⟨w.heap.size, 12, none⟩ = some (.int .i64 x.it.bw) ∧ V.cell? ⟨w.heap.size, 13, none⟩ = some (.int .i64 x.it.bl) ∧ V.cell? ⟨w.heap.size, 14, none⟩ = some (.slice A n c) from ⟨h.cell 0, h.cell 1, h.cell 2, h.cell 3, h.cell 4, h.cell 5, h.cell 6, h.cell 7, h.cell 8, h.cell 9, h.cell 10, h.cell 11, h.cell 12, h.cell 13, h.cell 14⟩))
  clear kX kY g0 g1 hx hzz
  rcases kd_is x.k with h0 | h0 | h0
  all_goals rw [h0] at hk
  all_goals replace hk := hk.symm
  · have hgv : ∃ (vv : ByteArray) (dd : Bool), (if x.gone then ⟨#[]⟩ else x.value) = vv ∧ (!x.gone) = dd := ⟨_, _, rfl, rfl⟩
    obtain ⟨vv, dd, hvv, hdd⟩ := hgv
    have HO2 := Lib.hid (show opOf x = if okV x then some ⟨bs (vkey (sb x.key) x.sw x.sl), bs (txV vv dd), false⟩ else none by unfold opOf; rw [if_pos h0, hvv, hdd])
    have HOK := Lib.hid (show okV x = (decide (x.key.size ≤ 1000) && may x.sw x.sl && isV vv dd) by unfold okV; rw [hvv, hdd])
    by_cases hA : x.key.size ≤ 1000 ∧ may x.sw x.sl = true
    all_goals cases hV : isV vv dd
    · have HKE := Lib.hid (show vkE x.key x.sw x.sl = 0 by unfold vkE; rw [if_pos hA])
      have HVV := Lib.hid hV
      have HO := Lib.hid (show opOf x = if false then some ⟨vkS x.key x.sw x.sl, (if false then bs (txV vv dd) else ⟨#[]⟩), false⟩ else none by
        rw [HO2.out, HOK.out, hV]
        simp)
      cases hg : x.gone
      all_goals (
        rw [hg] at hvv hdd
        simp only [Bool.false_eq_true, if_false, if_true, Bool.not_false, Bool.not_true] at hvv hdd
        subst hvv hdd
        rw [hg] at LX
        clear hA hV HO2 HOK h0)
      all_goals try skip
      · obtain ⟨c0, c1, c2, c3, c4, c5, c6, c7, c8, c9, c10, c11, c12, c13, c14⟩ := LX.out _ HX.out
        go_enter Tryz.func61, Tryz.ntmps61
        go_wp2_with (first
          | (go_at_call 76; refine (rVersionKey x.key x.sw x.sl _).mono ?_; rintro e w1 ⟨rfl, b1⟩; rw [HKE.out]
             obtain ⟨e0, e1, e2, e3, e4, e5, e6, e7, e8, e9, e10, e11, e12, e13, e14⟩ := LX.out _ (HX.out.below b1 HX.out.lt)
             have B1 := Lib.hid b1
             clear b1)
          | (go_at_call 77; refine (rVersion x.value true _).mono ?_; rintro e w2 ⟨he, b2⟩; rw [ansT_form, HVV.out] at he; subst he
             have c2 := bst B1.out b2
             have ky := HY.out.below c2 HY.out.lt
             have y0 := ky.cell 0
             have y1 := ky.cell 1
             have y2 := ky.cell 2
             have f0 := ky.frozen 0
             have f1 := ky.frozen 1
             have f2 := ky.frozen 2
             simp at y0 y1 y2))
        exact ret_op12 rfl rfl ky.all3 rfl (ThP.mk (b := false) HO.out (((bst G1.out c2).setCell (Nat.le_succ _) _).setCell (Nat.le_succ _) _ |>.setCell (Nat.le_succ _) _))
      · obtain ⟨c0, c1, c2, c3, c4, c5, c6, c7, c8, c9, c10, c11, c12, c13, c14⟩ := LX.out _ HX.out
        go_enter Tryz.func61, Tryz.ntmps61
        go_wp2_with (first
          | (go_at_call 76; refine (rVersionKey x.key x.sw x.sl _).mono ?_; rintro e w1 ⟨rfl, b1⟩; rw [HKE.out]
             obtain ⟨e0, e1, e2, e3, e4, e5, e6, e7, e8, e9, e10, e11, e12, e13, e14⟩ := LX.out _ (HX.out.below b1 HX.out.lt)
             have B1 := Lib.hid b1
             clear b1)
          | (go_at_call 77; refine (rVersion ⟨#[]⟩ false _).mono ?_; rintro e w2 ⟨he, b2⟩; rw [ansT_form, HVV.out] at he; subst he
             have c2 := bst B1.out b2
             have ky := HY.out.below c2 HY.out.lt
             have y0 := ky.cell 0
             have y1 := ky.cell 1
             have y2 := ky.cell 2
             have f0 := ky.frozen 0
             have f1 := ky.frozen 1
             have f2 := ky.frozen 2
             simp at y0 y1 y2))
        exact ret_op12 rfl rfl ky.all3 rfl (ThP.mk (b := false) HO.out (((bst G1.out c2).setCell (Nat.le_succ _) _).setCell (Nat.le_succ _) _ |>.setCell (Nat.le_succ _) _))
    · have HKE := Lib.hid (show vkE x.key x.sw x.sl = 0 by unfold vkE; rw [if_pos hA])
      have HVV := Lib.hid hV
      have HO := Lib.hid (show opOf x = if true then some ⟨vkS x.key x.sw x.sl, (if true then bs (txV vv dd) else ⟨#[]⟩), false⟩ else none by
        rw [HO2.out, HOK.out, hV]
        rw [decide_eq_true hA.1, hA.2]; simp [vkS, hA])
      cases hg : x.gone
      all_goals (
        rw [hg] at hvv hdd
        simp only [Bool.false_eq_true, if_false, if_true, Bool.not_false, Bool.not_true] at hvv hdd
        subst hvv hdd
        rw [hg] at LX
        clear hA hV HO2 HOK h0)
      all_goals try skip
      · obtain ⟨c0, c1, c2, c3, c4, c5, c6, c7, c8, c9, c10, c11, c12, c13, c14⟩ := LX.out _ HX.out
        go_enter Tryz.func61, Tryz.ntmps61
        go_wp2_with (first
          | (go_at_call 76; refine (rVersionKey x.key x.sw x.sl _).mono ?_; rintro e w1 ⟨rfl, b1⟩; rw [HKE.out]
             obtain ⟨e0, e1, e2, e3, e4, e5, e6, e7, e8, e9, e10, e11, e12, e13, e14⟩ := LX.out _ (HX.out.below b1 HX.out.lt)
             have B1 := Lib.hid b1
             clear b1)
          | (go_at_call 77; refine (rVersion x.value true _).mono ?_; rintro e w2 ⟨he, b2⟩; rw [ansT_form, HVV.out] at he; subst he
             have c2 := bst B1.out b2
             have ky := HY.out.below c2 HY.out.lt
             have y0 := ky.cell 0
             have y1 := ky.cell 1
             have y2 := ky.cell 2
             have f0 := ky.frozen 0
             have f1 := ky.frozen 1
             have f2 := ky.frozen 2
             simp at y0 y1 y2))
        exact ret_op12 rfl rfl ky.all3 rfl (ThP.mk (b := true) HO.out (((bst G1.out c2).setCell (Nat.le_succ _) _).setCell (Nat.le_succ _) _ |>.setCell (Nat.le_succ _) _))
      · obtain ⟨c0, c1, c2, c3, c4, c5, c6, c7, c8, c9, c10, c11, c12, c13, c14⟩ := LX.out _ HX.out
        go_enter Tryz.func61, Tryz.ntmps61
        go_wp2_with (first
          | (go_at_call 76; refine (rVersionKey x.key x.sw x.sl _).mono ?_; rintro e w1 ⟨rfl, b1⟩; rw [HKE.out]
             obtain ⟨e0, e1, e2, e3, e4, e5, e6, e7, e8, e9, e10, e11, e12, e13, e14⟩ := LX.out _ (HX.out.below b1 HX.out.lt)
             have B1 := Lib.hid b1
             clear b1)
          | (go_at_call 77; refine (rVersion ⟨#[]⟩ false _).mono ?_; rintro e w2 ⟨he, b2⟩; rw [ansT_form, HVV.out] at he; subst he
             have c2 := bst B1.out b2
             have ky := HY.out.below c2 HY.out.lt
             have y0 := ky.cell 0
             have y1 := ky.cell 1
             have y2 := ky.cell 2
             have f0 := ky.frozen 0
             have f1 := ky.frozen 1
             have f2 := ky.frozen 2
             simp at y0 y1 y2))
        exact ret_op12 rfl rfl ky.all3 rfl (ThP.mk (b := true) HO.out (((bst G1.out c2).setCell (Nat.le_succ _) _).setCell (Nat.le_succ _) _ |>.setCell (Nat.le_succ _) _))
    · have HKE := Lib.hid (show vkE x.key x.sw x.sl = 2 by unfold vkE; rw [if_neg hA])
      have HVV := Lib.hid hV
      have HO := Lib.hid (show opOf x = if false then some ⟨vkS x.key x.sw x.sl, (if false then bs (txV vv dd) else ⟨#[]⟩), false⟩ else none by
        rw [HO2.out, HOK.out, hV]
        simp)
      cases hg : x.gone
      all_goals (
        rw [hg] at hvv hdd
        simp only [Bool.false_eq_true, if_false, if_true, Bool.not_false, Bool.not_true] at hvv hdd
        subst hvv hdd
        rw [hg] at LX
        clear hA hV HO2 HOK h0)
      all_goals try skip
      · obtain ⟨c0, c1, c2, c3, c4, c5, c6, c7, c8, c9, c10, c11, c12, c13, c14⟩ := LX.out _ HX.out
        go_enter Tryz.func61, Tryz.ntmps61
        go_wp2_with (first
          | (go_at_call 76; refine (rVersionKey x.key x.sw x.sl _).mono ?_; rintro e w1 ⟨rfl, b1⟩; rw [HKE.out]
             obtain ⟨e0, e1, e2, e3, e4, e5, e6, e7, e8, e9, e10, e11, e12, e13, e14⟩ := LX.out _ (HX.out.below b1 HX.out.lt)
             have B1 := Lib.hid b1
             clear b1)
          | (go_at_call 77; refine (rVersion x.value true _).mono ?_; rintro e w2 ⟨he, b2⟩; rw [ansT_form, HVV.out] at he; subst he
             have c2 := bst B1.out b2
             have ky := HY.out.below c2 HY.out.lt
             have y0 := ky.cell 0
             have y1 := ky.cell 1
             have y2 := ky.cell 2
             have f0 := ky.frozen 0
             have f1 := ky.frozen 1
             have f2 := ky.frozen 2
             simp at y0 y1 y2))
        exact ret_op12 rfl rfl ky.all3 rfl (ThP.mk (b := false) HO.out (((bst G1.out c2).setCell (Nat.le_succ _) _).setCell (Nat.le_succ _) _ |>.setCell (Nat.le_succ _) _))
      · obtain ⟨c0, c1, c2, c3, c4, c5, c6, c7, c8, c9, c10, c11, c12, c13, c14⟩ := LX.out _ HX.out
        go_enter Tryz.func61, Tryz.ntmps61
        go_wp2_with (first
          | (go_at_call 76; refine (rVersionKey x.key x.sw x.sl _).mono ?_; rintro e w1 ⟨rfl, b1⟩; rw [HKE.out]
             obtain ⟨e0, e1, e2, e3, e4, e5, e6, e7, e8, e9, e10, e11, e12, e13, e14⟩ := LX.out _ (HX.out.below b1 HX.out.lt)
             have B1 := Lib.hid b1
             clear b1)
          | (go_at_call 77; refine (rVersion ⟨#[]⟩ false _).mono ?_; rintro e w2 ⟨he, b2⟩; rw [ansT_form, HVV.out] at he; subst he
             have c2 := bst B1.out b2
             have ky := HY.out.below c2 HY.out.lt
             have y0 := ky.cell 0
             have y1 := ky.cell 1
             have y2 := ky.cell 2
             have f0 := ky.frozen 0
             have f1 := ky.frozen 1
             have f2 := ky.frozen 2
             simp at y0 y1 y2))
        exact ret_op12 rfl rfl ky.all3 rfl (ThP.mk (b := false) HO.out (((bst G1.out c2).setCell (Nat.le_succ _) _).setCell (Nat.le_succ _) _ |>.setCell (Nat.le_succ _) _))
    · have HKE := Lib.hid (show vkE x.key x.sw x.sl = 2 by unfold vkE; rw [if_neg hA])
      have HVV := Lib.hid hV
      have HO := Lib.hid (show opOf x = if false then some ⟨vkS x.key x.sw x.sl, (if true then bs (txV vv dd) else ⟨#[]⟩), false⟩ else none by
        rw [HO2.out, HOK.out, hV]
        simp only [Bool.and_true]; rw [if_neg (fun h => hA (by simpa using h))]; simp)
      cases hg : x.gone
      all_goals (
        rw [hg] at hvv hdd
        simp only [Bool.false_eq_true, if_false, if_true, Bool.not_false, Bool.not_true] at hvv hdd
        subst hvv hdd
        rw [hg] at LX
        clear hA hV HO2 HOK h0)
      all_goals try skip
      · obtain ⟨c0, c1, c2, c3, c4, c5, c6, c7, c8, c9, c10, c11, c12, c13, c14⟩ := LX.out _ HX.out
        go_enter Tryz.func61, Tryz.ntmps61
        go_wp2_with (first
          | (go_at_call 76; refine (rVersionKey x.key x.sw x.sl _).mono ?_; rintro e w1 ⟨rfl, b1⟩; rw [HKE.out]
             obtain ⟨e0, e1, e2, e3, e4, e5, e6, e7, e8, e9, e10, e11, e12, e13, e14⟩ := LX.out _ (HX.out.below b1 HX.out.lt)
             have B1 := Lib.hid b1
             clear b1)
          | (go_at_call 77; refine (rVersion x.value true _).mono ?_; rintro e w2 ⟨he, b2⟩; rw [ansT_form, HVV.out] at he; subst he
             have c2 := bst B1.out b2
             have ky := HY.out.below c2 HY.out.lt
             have y0 := ky.cell 0
             have y1 := ky.cell 1
             have y2 := ky.cell 2
             have f0 := ky.frozen 0
             have f1 := ky.frozen 1
             have f2 := ky.frozen 2
             simp at y0 y1 y2))
        exact ret_op12 rfl rfl ky.all3 rfl (ThP.mk (b := false) HO.out (((bst G1.out c2).setCell (Nat.le_succ _) _).setCell (Nat.le_succ _) _ |>.setCell (Nat.le_succ _) _))
      · obtain ⟨c0, c1, c2, c3, c4, c5, c6, c7, c8, c9, c10, c11, c12, c13, c14⟩ := LX.out _ HX.out
        go_enter Tryz.func61, Tryz.ntmps61
        go_wp2_with (first
          | (go_at_call 76; refine (rVersionKey x.key x.sw x.sl _).mono ?_; rintro e w1 ⟨rfl, b1⟩; rw [HKE.out]
             obtain ⟨e0, e1, e2, e3, e4, e5, e6, e7, e8, e9, e10, e11, e12, e13, e14⟩ := LX.out _ (HX.out.below b1 HX.out.lt)
             have B1 := Lib.hid b1
             clear b1)
          | (go_at_call 77; refine (rVersion ⟨#[]⟩ false _).mono ?_; rintro e w2 ⟨he, b2⟩; rw [ansT_form, HVV.out] at he; subst he
             have c2 := bst B1.out b2
             have ky := HY.out.below c2 HY.out.lt
             have y0 := ky.cell 0
             have y1 := ky.cell 1
             have y2 := ky.cell 2
             have f0 := ky.frozen 0
             have f1 := ky.frozen 1
             have f2 := ky.frozen 2
             simp at y0 y1 y2))
        exact ret_op12 rfl rfl ky.all3 rfl (ThP.mk (b := false) HO.out (((bst G1.out c2).setCell (Nat.le_succ _) _).setCell (Nat.le_succ _) _ |>.setCell (Nat.le_succ _) _))
  · have HO2 := Lib.hid (show opOf x = if okI x then some ⟨bs (ikey (sb x.key)), bs (txI x.it), false⟩ else none by unfold opOf; rw [if_neg (by rw [h0]; decide), if_pos h0])
    by_cases hA : x.key.size ≤ 1000
    all_goals cases hV : mayI x.it
    · have HKE := Lib.hid (show ikE x.key = 0 by unfold ikE; rw [if_pos hA])
      have HVV := Lib.hid hV
      have HO := Lib.hid (show opOf x = if false then some ⟨ikS x.key, (if false then bs (txI x.it) else ⟨#[]⟩), false⟩ else none by
        rw [HO2.out]; unfold okI; rw [hV]
        simp)
      clear hA hV HO2 h0
      obtain ⟨c0, c1, c2, c3, c4, c5, c6, c7, c8, c9, c10, c11, c12, c13, c14⟩ := LX.out _ HX.out
      go_enter Tryz.func61, Tryz.ntmps61
      go_wp2_with (first
        | (go_at_call 79; refine (rIntentKey x.key _).mono ?_; rintro e w1 ⟨rfl, b1⟩; rw [HKE.out]
           obtain ⟨e0, e1, e2, e3, e4, e5, e6, e7, e8, e9, e10, e11, e12, e13, e14⟩ := LX.out _ (HX.out.below b1 HX.out.lt)
           have B1 := Lib.hid b1
           have HL1 := Lib.hid (HL.out.below b1)
           clear b1)
        | (go_at_call 97; refine (rIntent_c x.it A n c _ HL1.out hn).mono ?_; rintro e w2 ⟨he, b2⟩; rw [ansT_form, HVV.out] at he; subst he
           have c2 := bst B1.out b2
           have ky := HY.out.below c2 HY.out.lt
           have y0 := ky.cell 0
           have y1 := ky.cell 1
           have y2 := ky.cell 2
           have f0 := ky.frozen 0
           have f1 := ky.frozen 1
           have f2 := ky.frozen 2
           simp at y0 y1 y2))
      exact ret_op12 rfl rfl ky.all3 rfl (ThP.mk (b := false) HO.out (((bst G1.out c2).setCell (Nat.le_succ _) _).setCell (Nat.le_succ _) _ |>.setCell (Nat.le_succ _) _))
    · have HKE := Lib.hid (show ikE x.key = 0 by unfold ikE; rw [if_pos hA])
      have HVV := Lib.hid hV
      have HO := Lib.hid (show opOf x = if true then some ⟨ikS x.key, (if true then bs (txI x.it) else ⟨#[]⟩), false⟩ else none by
        rw [HO2.out]; unfold okI; rw [hV]
        rw [decide_eq_true hA]; simp [ikS, hA])
      clear hA hV HO2 h0
      obtain ⟨c0, c1, c2, c3, c4, c5, c6, c7, c8, c9, c10, c11, c12, c13, c14⟩ := LX.out _ HX.out
      go_enter Tryz.func61, Tryz.ntmps61
      go_wp2_with (first
        | (go_at_call 79; refine (rIntentKey x.key _).mono ?_; rintro e w1 ⟨rfl, b1⟩; rw [HKE.out]
           obtain ⟨e0, e1, e2, e3, e4, e5, e6, e7, e8, e9, e10, e11, e12, e13, e14⟩ := LX.out _ (HX.out.below b1 HX.out.lt)
           have B1 := Lib.hid b1
           have HL1 := Lib.hid (HL.out.below b1)
           clear b1)
        | (go_at_call 97; refine (rIntent_c x.it A n c _ HL1.out hn).mono ?_; rintro e w2 ⟨he, b2⟩; rw [ansT_form, HVV.out] at he; subst he
           have c2 := bst B1.out b2
           have ky := HY.out.below c2 HY.out.lt
           have y0 := ky.cell 0
           have y1 := ky.cell 1
           have y2 := ky.cell 2
           have f0 := ky.frozen 0
           have f1 := ky.frozen 1
           have f2 := ky.frozen 2
           simp at y0 y1 y2))
      exact ret_op12 rfl rfl ky.all3 rfl (ThP.mk (b := true) HO.out (((bst G1.out c2).setCell (Nat.le_succ _) _).setCell (Nat.le_succ _) _ |>.setCell (Nat.le_succ _) _))
    · have HKE := Lib.hid (show ikE x.key = 2 by unfold ikE; rw [if_neg hA])
      have HVV := Lib.hid hV
      have HO := Lib.hid (show opOf x = if false then some ⟨ikS x.key, (if false then bs (txI x.it) else ⟨#[]⟩), false⟩ else none by
        rw [HO2.out]; unfold okI; rw [hV]
        simp)
      clear hA hV HO2 h0
      obtain ⟨c0, c1, c2, c3, c4, c5, c6, c7, c8, c9, c10, c11, c12, c13, c14⟩ := LX.out _ HX.out
      go_enter Tryz.func61, Tryz.ntmps61
      go_wp2_with (first
        | (go_at_call 79; refine (rIntentKey x.key _).mono ?_; rintro e w1 ⟨rfl, b1⟩; rw [HKE.out]
           obtain ⟨e0, e1, e2, e3, e4, e5, e6, e7, e8, e9, e10, e11, e12, e13, e14⟩ := LX.out _ (HX.out.below b1 HX.out.lt)
           have B1 := Lib.hid b1
           have HL1 := Lib.hid (HL.out.below b1)
           clear b1)
        | (go_at_call 97; refine (rIntent_c x.it A n c _ HL1.out hn).mono ?_; rintro e w2 ⟨he, b2⟩; rw [ansT_form, HVV.out] at he; subst he
           have c2 := bst B1.out b2
           have ky := HY.out.below c2 HY.out.lt
           have y0 := ky.cell 0
           have y1 := ky.cell 1
           have y2 := ky.cell 2
           have f0 := ky.frozen 0
           have f1 := ky.frozen 1
           have f2 := ky.frozen 2
           simp at y0 y1 y2))
      exact ret_op12 rfl rfl ky.all3 rfl (ThP.mk (b := false) HO.out (((bst G1.out c2).setCell (Nat.le_succ _) _).setCell (Nat.le_succ _) _ |>.setCell (Nat.le_succ _) _))
    · have HKE := Lib.hid (show ikE x.key = 2 by unfold ikE; rw [if_neg hA])
      have HVV := Lib.hid hV
      have HO := Lib.hid (show opOf x = if false then some ⟨ikS x.key, (if true then bs (txI x.it) else ⟨#[]⟩), false⟩ else none by
        rw [HO2.out]; unfold okI; rw [hV]
        rw [decide_eq_false hA]; simp)
      clear hA hV HO2 h0
      obtain ⟨c0, c1, c2, c3, c4, c5, c6, c7, c8, c9, c10, c11, c12, c13, c14⟩ := LX.out _ HX.out
      go_enter Tryz.func61, Tryz.ntmps61
      go_wp2_with (first
        | (go_at_call 79; refine (rIntentKey x.key _).mono ?_; rintro e w1 ⟨rfl, b1⟩; rw [HKE.out]
           obtain ⟨e0, e1, e2, e3, e4, e5, e6, e7, e8, e9, e10, e11, e12, e13, e14⟩ := LX.out _ (HX.out.below b1 HX.out.lt)
           have B1 := Lib.hid b1
           have HL1 := Lib.hid (HL.out.below b1)
           clear b1)
        | (go_at_call 97; refine (rIntent_c x.it A n c _ HL1.out hn).mono ?_; rintro e w2 ⟨he, b2⟩; rw [ansT_form, HVV.out] at he; subst he
           have c2 := bst B1.out b2
           have ky := HY.out.below c2 HY.out.lt
           have y0 := ky.cell 0
           have y1 := ky.cell 1
           have y2 := ky.cell 2
           have f0 := ky.frozen 0
           have f1 := ky.frozen 1
           have f2 := ky.frozen 2
           simp at y0 y1 y2))
      exact ret_op12 rfl rfl ky.all3 rfl (ThP.mk (b := false) HO.out (((bst G1.out c2).setCell (Nat.le_succ _) _).setCell (Nat.le_succ _) _ |>.setCell (Nat.le_succ _) _))
  · have HO := Lib.hid (show opOf x = if true then some ⟨x.key, x.value, false⟩ else none by unfold opOf; rw [if_neg (by rw [h0]; decide), if_neg (by rw [h0]; decide)]; rfl)
    clear h0
    obtain ⟨c0, c1, c2, c3, c4, c5, c6, c7, c8, c9, c10, c11, c12, c13, c14⟩ := LX.out _ HX.out
    have ky := HY.out.below (Below.refl _ _) HY.out.lt
    have y0 := ky.cell 0
    have y1 := ky.cell 1
    have y2 := ky.cell 2
    have f0 := ky.frozen 0
    have f1 := ky.frozen 1
    have f2 := ky.frozen 2
    simp at y0 y1 y2
    go_enter Tryz.func61, Tryz.ntmps61
    go_wp2_with fail
    exact ret_op12 rfl rfl (by have k := Blk.new (w.alloc (.cells (thc x (.slice A n c)) 128)) 98 #[.string x.key, .string x.value, .bool false]; rw [World.size_alloc] at k; exact k) rfl (ThP.mk (b := true) HO.out (bsa (nbl w _) _))
end Go.Proofs.YtldbmogondmgmaaGreatDoor
