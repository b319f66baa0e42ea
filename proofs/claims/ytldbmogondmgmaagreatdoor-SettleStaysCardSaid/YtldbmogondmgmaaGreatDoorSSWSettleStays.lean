/-
  SettleStays, walked (written by wip/genstays.py).
-/
import Derived.Test.YtldbmogondmgmaaGreatDoorSS38
import Derived.Test.YtldbmogondmgmaaGreatDoorSSSeAwk
import Derived.Test.YtldbmogondmgmaaGreatDoorSSSeRef
import Derived.Test.YtldbmogondmgmaaGreatDoorSS40
import Derived.Test.YtldbmogondmgmaaGreatDoorSS35
set_option linter.unusedVariables false
set_option linter.unusedSimpArgs false
set_option maxRecDepth 100000
namespace Go.Proofs.YtldbmogondmgmaaGreatDoor
open Go.RowKit

theorem run_neSt2 (a b : Int) (V : World) : (binOp .neq 26 (.agg #[.int .i64 a, .int .i64 b]) (.agg #[.int .i64 a, .int .i64 b])).run Tryz.prog V = .ok (.bool false) V := by
  go_simp
theorem askw_txn {W : World} {g : Nat} {key f t : ByteArray} {q : Int} {x : Rc} {v : Value} {y : Tx} {a b c d : Int} (hB : Blk W g 71 (askw key f t q x v y a b c d)) :
    W.rangeAt g 14 (txc y).toList := by
    intro j u hv
    have hj : j < 12 := by
      have := (List.getElem?_eq_some_iff.mp hv).1
      simpa using this
    rw [hB.cell]
    have : j = 0 ∨ j = 1 ∨ j = 2 ∨ j = 3 ∨ j = 4 ∨ j = 5 ∨ j = 6 ∨ j = 7 ∨ j = 8 ∨ j = 9 ∨ j = 10 ∨ j = 11 := by omega
    rcases this with rfl | rfl | rfl | rfl | rfl | rfl | rfl | rfl | rfl | rfl | rfl | rfl <;> exact hv
set_option maxHeartbeats 8000000 in
theorem stays_no (A : Option Addr) (n c : Nat) (l : List Th) (key f t : ByteArray) (q : Int) (x : Rc) (A1 : Option Addr) (n1 c1 : Nat) (y : Tx) (m1 m2 l1 l2 : Int) (w : World) (hx : ThAt w A n l) (hz : ∀ x ∈ l, TSz x) (hn : n ≤ 9223372036854775807) (hw : WtAt w A1 n1 x.l) (hn1 : n1 ≤ 9223372036854775807) (hks : key.size ≤ 140737488351232) (hfs : f.size ≤ 140737488351232) (hts : t.size ≤ 140737488351232) (hM : MaxL w) (y0 : It) (k : Int) (hk : ¬ k = 0) (ho : refC (tabP l) f t y (m1, m2) (l1, l2) = (y0, k)) :
    Calls Tryz.prog 5 #[.slice A n c, .agg (askw key f t q x (.slice A1 n1 c1) y m1 m2 l1 l2)] w fun e w' => e = .returned (.bool true) ∧ Below w.heap.size w w' := by
  have H0 := Lib.hid ((Has.nil (Below.refl w.heap.size w)).newBlk 71 (askw key f t q x (.slice A1 n1 c1) y m1 m2 l1 l2))
  have HX := Lib.hid hx
  have HZ := Lib.hid hz
  have HW := Lib.hid hw
  clear hx hz hw
  obtain ⟨r, hr⟩ : ∃ r, tabP l = r := ⟨_, rfl⟩
  have HRO := Lib.hid (show ROk 7680 r from hr ▸ tabP_ok HZ.out)
  have HTB := Lib.hid (fun (W : World) (hb : Below w.heap.size w W) => tables14_c A n c l W (HX.out.below hb) hn HZ.out)
  rw [hr] at HTB ho
  clear hr
  have HRF := Lib.hid (fun (T2 : List As) (p : Nat) (W : World) (hh : Has w (tbA p r :: T2) W) => ho ▸ seRefresh hh HRO.out (by decide) hM f t (by omega) (by omega) y m1 m2 l1 l2)
  clear ho
  go_enter Tryz.func5, Tryz.ntmps5
  go_wp2_with fail
  refine (HTB.out _ H0.out.bel).mono ?_
  rintro e w1 ⟨p, b, rfl, h1⟩
  have H1 := Lib.hid (show Has w (tbA p r :: rtA b r :: blkA w.heap.size 71 (askw key f t q x (.slice A1 n1 c1) y m1 m2 l1 l2) :: []) w1 from H0.out.join h1)
  clear h1
  have z1 := H1.out.blkAt (g := w.heap.size) (t := 71) (cs := (askw key f t q x (.slice A1 n1 c1) y m1 m2 l1 l2)) (by simp)
  have hlt := Lib.hid (askw_txn z1)
  have a1_1 := z1.cell 1
  have a1_2 := z1.cell 2
  have a1_26 := z1.cell 26
  have a1_27 := z1.cell 27
  have a1_28 := z1.cell 28
  have a1_29 := z1.cell 29
  simp at a1_1 a1_2 a1_26 a1_27 a1_28 a1_29
  clear z1
  go_wp2_with (refine wpList_load_mid rfl 28 _ rfl w.heap.size 14 rfl _ _ hlt.out Tryz.underlying28 rfl (by kernel_rfl) ?_)
  clear hlt
  refine (HRF.out _ _ _ H1.out).mono ?_
  rintro e w2 ⟨⟨A2, n2, c2, rfl, -, -⟩, h2⟩
  have H2 := Lib.hid (h2.newBlk 39 (itc y0 (.slice A2 n2 c2)))
  clear h2 H1
  have hk2 : (k == 0) = false := by simpa using hk
  have HF := H2
  clear hk
  go_wp2_with fail
  refine (awake14 _ (hM.below HF.out.bel)).mono ?_
  rintro e w99 ⟨rfl, hb99⟩
  have hfin := (HF.out.keep hb99).bel
  clear hb99
  go_wp2_with fail
  go_ret
  exact ⟨rfl, hfin⟩
set_option maxHeartbeats 6000000 in
theorem stays_yes (A : Option Addr) (n c : Nat) (l : List Th) (key f t : ByteArray) (q : Int) (x : Rc) (A1 : Option Addr) (n1 c1 : Nat) (y : Tx) (m1 m2 l1 l2 : Int) (w : World) (hx : ThAt w A n l) (hz : ∀ x ∈ l, TSz x) (hn : n ≤ 9223372036854775807) (hw : WtAt w A1 n1 x.l) (hn1 : n1 ≤ 9223372036854775807) (hks : key.size ≤ 140737488351232) (hfs : f.size ≤ 140737488351232) (hts : t.size ≤ 140737488351232) (hM : MaxL w) (y0 : It) (ho : refC (tabP l) f t y (m1, m2) (l1, l2) = (y0, 0)) :
    Calls Tryz.prog 5 #[.slice A n c, .agg (askw key f t q x (.slice A1 n1 c1) y m1 m2 l1 l2)] w fun e w' => e = .returned (.bool true) ∧ Below w.heap.size w w' := by
  have hmix : Tryz.prog.follows .mixedOrders = true := by kernel_rfl
  have H0 := Lib.hid ((Has.nil (Below.refl w.heap.size w)).newBlk 71 (askw key f t q x (.slice A1 n1 c1) y m1 m2 l1 l2))
  have HX := Lib.hid hx
  have HZ := Lib.hid hz
  have HW := Lib.hid hw
  clear hx hz hw
  obtain ⟨r, hr⟩ : ∃ r, tabP l = r := ⟨_, rfl⟩
  have HRO := Lib.hid (show ROk 7680 r from hr ▸ tabP_ok HZ.out)
  have HTB := Lib.hid (fun (W : World) (hb : Below w.heap.size w W) => tables14_c A n c l W (HX.out.below hb) hn HZ.out)
  rw [hr] at HTB ho
  clear hr
  have HRF := Lib.hid (fun (T2 : List As) (p : Nat) (W : World) (hh : Has w (tbA p r :: T2) W) => ho ▸ seRefresh hh HRO.out (by decide) hM f t (by omega) (by omega) y m1 m2 l1 l2)

  go_enter Tryz.func5, Tryz.ntmps5
  go_wp2_with fail
  refine (HTB.out _ H0.out.bel).mono ?_
  rintro e w1 ⟨p, b, rfl, h1⟩
  have H1 := Lib.hid (show Has w (tbA p r :: rtA b r :: blkA w.heap.size 71 (askw key f t q x (.slice A1 n1 c1) y m1 m2 l1 l2) :: []) w1 from H0.out.join h1)
  clear h1
  have z1 := H1.out.blkAt (g := w.heap.size) (t := 71) (cs := (askw key f t q x (.slice A1 n1 c1) y m1 m2 l1 l2)) (by simp)
  have hlt := Lib.hid (askw_txn z1)
  have a1_1 := z1.cell 1
  have a1_2 := z1.cell 2
  have a1_26 := z1.cell 26
  have a1_27 := z1.cell 27
  have a1_28 := z1.cell 28
  have a1_29 := z1.cell 29
  simp at a1_1 a1_2 a1_26 a1_27 a1_28 a1_29
  clear z1
  go_wp2_with (refine wpList_load_mid rfl 28 _ rfl w.heap.size 14 rfl _ _ hlt.out Tryz.underlying28 rfl (by kernel_rfl) ?_)
  clear hlt
  refine (HRF.out _ _ _ H1.out).mono ?_
  rintro e w2 ⟨⟨A2, n2, c2, rfl, -, -⟩, h2⟩
  have H2 := Lib.hid (h2.newBlk 39 (itc y0 (.slice A2 n2 c2)))
  clear h2 H1
  have HSTAY := Lib.hid (fun k hk hin => stays HRO.out.sor ho (k := k) hk hin)
  clear ho
  have z2 := H2.out.blkAt (g := w.heap.size) (t := 71) (cs := (askw key f t q x (.slice A1 n1 c1) y m1 m2 l1 l2)) (by simp)
  have a2_14 := z2.cell 14
  have a2_15 := z2.cell 15
  have a2_16 := z2.cell 16
  have a2_17 := z2.cell 17
  have a2_18 := z2.cell 18
  have a2_19 := z2.cell 19
  have a2_20 := z2.cell 20
  have a2_21 := z2.cell 21
  have a2_22 := z2.cell 22
  have a2_23 := z2.cell 23
  have a2_24 := z2.cell 24
  have a2_25 := z2.cell 25
  have a2_26 := z2.cell 26
  have a2_27 := z2.cell 27
  have a2_28 := z2.cell 28
  have a2_29 := z2.cell 29
  simp at a2_14 a2_15 a2_16 a2_17 a2_18 a2_19 a2_20 a2_21 a2_22 a2_23 a2_24 a2_25 a2_26 a2_27 a2_28 a2_29
  clear z2
  have H3 := Lib.hid (H2.out.newBlk 28 #[.int .i64 0, .int .i64 0, .int .i64 0, .string ⟨#[]⟩, .int .i64 0, .int .i64 0, .int .i64 0, .int .i64 0, .int .i64 0, .int .i64 0, .int .i64 0, .int .i64 0])
  have H4 := Lib.hid (H3.out.newBlk 28 #[.int .i64 0, .int .i64 0, .int .i64 0, .string ⟨#[]⟩, .int .i64 0, .int .i64 0, .int .i64 0, .int .i64 0, .int .i64 0, .int .i64 0, .int .i64 0, .int .i64 0])
  have H5 := Lib.hid (H3.out.newBlk 28 (txc y))
  have H6 := Lib.hid ((H2.out.newBlk 28 (txc y)).newBlk 28 #[.int .i64 0, .int .i64 0, .int .i64 0, .string ⟨#[]⟩, .int .i64 0, .int .i64 0, .int .i64 0, .int .i64 0, .int .i64 0, .int .i64 0, .int .i64 0, .int .i64 0])
  have z3 := H3.out.blkAt (g := w.heap.size) (t := 71) (cs := (askw key f t q x (.slice A1 n1 c1) y m1 m2 l1 l2)) (by simp)
  have a3_14 := z3.cell 14
  have a3_15 := z3.cell 15
  have a3_16 := z3.cell 16
  have a3_17 := z3.cell 17
  have a3_18 := z3.cell 18
  have a3_19 := z3.cell 19
  have a3_20 := z3.cell 20
  have a3_21 := z3.cell 21
  have a3_22 := z3.cell 22
  have a3_23 := z3.cell 23
  have a3_24 := z3.cell 24
  have a3_25 := z3.cell 25
  simp at a3_14 a3_15 a3_16 a3_17 a3_18 a3_19 a3_20 a3_21 a3_22 a3_23 a3_24 a3_25
  clear z3
  have z4 := H4.out.blkAt (g := w.heap.size) (t := 71) (cs := (askw key f t q x (.slice A1 n1 c1) y m1 m2 l1 l2)) (by simp)
  have a4_14 := z4.cell 14
  have a4_15 := z4.cell 15
  have a4_16 := z4.cell 16
  have a4_17 := z4.cell 17
  have a4_18 := z4.cell 18
  have a4_19 := z4.cell 19
  have a4_20 := z4.cell 20
  have a4_21 := z4.cell 21
  have a4_22 := z4.cell 22
  have a4_23 := z4.cell 23
  have a4_24 := z4.cell 24
  have a4_25 := z4.cell 25
  simp at a4_14 a4_15 a4_16 a4_17 a4_18 a4_19 a4_20 a4_21 a4_22 a4_23 a4_24 a4_25
  clear z4
  have z5 := H5.out.blkAt (g := w.heap.size) (t := 71) (cs := (askw key f t q x (.slice A1 n1 c1) y m1 m2 l1 l2)) (by simp)
  have a5_14 := z5.cell 14
  have a5_15 := z5.cell 15
  have a5_16 := z5.cell 16
  have a5_17 := z5.cell 17
  have a5_18 := z5.cell 18
  have a5_19 := z5.cell 19
  have a5_20 := z5.cell 20
  have a5_21 := z5.cell 21
  have a5_22 := z5.cell 22
  have a5_23 := z5.cell 23
  have a5_24 := z5.cell 24
  have a5_25 := z5.cell 25
  simp at a5_14 a5_15 a5_16 a5_17 a5_18 a5_19 a5_20 a5_21 a5_22 a5_23 a5_24 a5_25
  clear z5
  have z6 := H6.out.blkAt (g := w.heap.size) (t := 71) (cs := (askw key f t q x (.slice A1 n1 c1) y m1 m2 l1 l2)) (by simp)
  have a6_14 := z6.cell 14
  have a6_15 := z6.cell 15
  have a6_16 := z6.cell 16
  have a6_17 := z6.cell 17
  have a6_18 := z6.cell 18
  have a6_19 := z6.cell 19
  have a6_20 := z6.cell 20
  have a6_21 := z6.cell 21
  have a6_22 := z6.cell 22
  have a6_23 := z6.cell 23
  have a6_24 := z6.cell 24
  have a6_25 := z6.cell 25
  simp at a6_14 a6_15 a6_16 a6_17 a6_18 a6_19 a6_20 a6_21 a6_22 a6_23 a6_24 a6_25
  clear z6
  go_upto_region 5 with fail
  go_cut [9, 10] from 38 to 133 (fun v u wx => ∃ gA gB, v = .pointer (some ⟨gA, 0, none⟩) ∧ u = .pointer (some ⟨gB, 0, none⟩) ∧ Hid (Has w (tbA p r :: blkA (gA) 28 (txc y) :: blkA (gB) 28 (txc y) :: blkA w2.heap.size 39 (itc y0 (.slice A2 n2 c2)) :: rtA b r :: blkA w.heap.size 71 (askw key f t q x (.slice A1 n1 c1) y m1 m2 l1 l2) :: []) wx))
  case first =>
    go_region
    · have hb := (((H2.out.newBlk 28 (txc y)).newBlk 28 (txc y)).drew).perm (List.perm_middle (l₁ := [_, _, _]))
      simp only [World.size_alloc] at hb
      have HB := Lib.hid (show Has w (tbA p r :: blkA (w2.heap.size + 1) 28 (txc y) :: blkA (w2.heap.size + 1 + 1) 28 (txc y) :: blkA w2.heap.size 39 (itc y0 (.slice A2 n2 c2)) :: rtA b r :: blkA w.heap.size 71 (askw key f t q x (.slice A1 n1 c1) y m1 m2 l1 l2) :: []) (((w2.alloc (.cells (itc y0 (.slice A2 n2 c2)) 39)).alloc (.cells (txc y) 28)).alloc (.cells (txc y) 28)).drew from hb.perm (List.Perm.cons _ (List.Perm.swap _ _ _)))
      clear hb
      (try go_wp2_with fail)
      go_meet
      exact ⟨_, _, rfl, rfl, HB⟩
    · have hb := (((H2.out.newBlk 28 (txc y)).newBlk 28 (txc y)).drew).perm (List.perm_middle (l₁ := [_, _, _]))
      simp only [World.size_alloc] at hb
      have HB := Lib.hid (show Has w (tbA p r :: blkA (w2.heap.size + 1 + 1) 28 (txc y) :: blkA (w2.heap.size + 1) 28 (txc y) :: blkA w2.heap.size 39 (itc y0 (.slice A2 n2 c2)) :: rtA b r :: blkA w.heap.size 71 (askw key f t q x (.slice A1 n1 c1) y m1 m2 l1 l2) :: []) (((w2.alloc (.cells (itc y0 (.slice A2 n2 c2)) 39)).alloc (.cells (txc y) 28)).alloc (.cells (txc y) 28)).drew from hb)
      clear hb
      (try go_wp2_with fail)
      go_meet
      exact ⟨_, _, rfl, rfl, HB⟩
  case rest =>
    obtain ⟨gA, gB, rfl, rfl, HB⟩ := hcut
    clear H2 H3 H4 H5 H6 a2_14 a2_15 a2_16 a2_17 a2_18 a2_19 a2_20 a2_21 a2_22 a2_23 a2_24 a2_25 a2_26 a2_27 a2_28 a2_29 a3_14 a3_15 a3_16 a3_17 a3_18 a3_19 a3_20 a3_21 a3_22 a3_23 a3_24 a3_25 a4_14 a4_15 a4_16 a4_17 a4_18 a4_19 a4_20 a4_21 a4_22 a4_23 a4_24 a4_25 a5_14 a5_15 a5_16 a5_17 a5_18 a5_19 a5_20 a5_21 a5_22 a5_23 a5_24 a5_25 a6_14 a6_15 a6_16 a6_17 a6_18 a6_19 a6_20 a6_21 a6_22 a6_23 a6_24 a6_25
    have zz := HB.out.blkAt (g := gA) (t := 28) (cs := txc y) (by simp)
    have pa4 := zz.cell 4
    have pa5 := zz.cell 5
    have pa8 := zz.cell 8
    have pa9 := zz.cell 9
    have paf8 := zz.frozen 8
    have paf9 := zz.frozen 9
    simp at pa4 pa5 pa8 pa9
    clear zz
    go_upto_region 7 with fail
    have HC := Lib.hid (show Has w (tbA p r :: blkA gA 28 (txc (atRead y)) :: blkA gB 28 (txc y) :: blkA w2.heap.size 39 (itc y0 (.slice A2 n2 c2)) :: rtA b r :: blkA w.heap.size 71 (askw key f t q x (.slice A1 n1 c1) y m1 m2 l1 l2) :: []) _ from ((HB.out.swap.setBlk 8 (.int .i64 y.rw)).setBlk 9 (.int .i64 y.rl)).swap)
    clear HB pa4 pa5 pa8 pa9 paf8 paf9
    have zz := HC.out.blkAt (g := gB) (t := 28) (cs := txc y) (by simp)
    have pb4 := zz.cell 4
    have pb5 := zz.cell 5
    have pbf4 := zz.frozen 4
    have pbf5 := zz.frozen 5
    simp at pb4 pb5
    clear zz
    have zz := HC.out.blkAt (g := w.heap.size) (t := 71) (cs := (askw key f t q x (.slice A1 n1 c1) y m1 m2 l1 l2)) (by simp)
    have pc26 := zz.cell 26
    have pc27 := zz.cell 27
    simp at pc26 pc27
    clear zz
    go_upto_region 8 with fail
    have HD := Lib.hid (show Has w (tbA p r :: blkA gA 28 (txc (atRead y)) :: blkA gB 28 (txc ⟨y.id, y.ep, y.pr, y.an, m1, m2, y.ww, y.wl, y.lw, y.ll, y.bw, y.bl⟩) :: blkA w2.heap.size 39 (itc y0 (.slice A2 n2 c2)) :: rtA b r :: blkA w.heap.size 71 (askw key f t q x (.slice A1 n1 c1) y m1 m2 l1 l2) :: []) _ from (((HC.out.perm (List.perm_middle (l₁ := [_, _]))).setBlk 4 (.int .i64 m1)).setBlk 5 (.int .i64 m2)).perm (List.perm_middle (l₁ := [_, _])).symm)
    clear HC pb4 pb5 pbf4 pbf5 pc26 pc27
    have zz := HD.out.blkAt (g := gB) (t := 28) (cs := txc ⟨y.id, y.ep, y.pr, y.an, m1, m2, y.ww, y.wl, y.lw, y.ll, y.bw, y.bl⟩) (by simp)
    have pb8 := zz.cell 8
    have pb9 := zz.cell 9
    have pbf8 := zz.frozen 8
    have pbf9 := zz.frozen 9
    simp at pb8 pb9
    clear zz
    have zz := HD.out.blkAt (g := w.heap.size) (t := 71) (cs := (askw key f t q x (.slice A1 n1 c1) y m1 m2 l1 l2)) (by simp)
    have pc26 := zz.cell 26
    have pc27 := zz.cell 27
    simp at pc26 pc27
    clear zz
    go_upto_region 9 with fail
    have HE := Lib.hid (show Has w (tbA p r :: blkA gA 28 (txc (atRead y)) :: blkA gB 28 (txc (atTo y (m1, m2))) :: blkA w2.heap.size 39 (itc y0 (.slice A2 n2 c2)) :: rtA b r :: blkA w.heap.size 71 (askw key f t q x (.slice A1 n1 c1) y m1 m2 l1 l2) :: []) _ from (((HD.out.perm (List.perm_middle (l₁ := [_, _]))).setBlk 8 (.int .i64 m1)).setBlk 9 (.int .i64 m2)).perm (List.perm_middle (l₁ := [_, _])).symm)
    clear HD pb8 pb9 pbf8 pbf9 pc26 pc27
    go_wp2_with fail
    have hl := (HE.out.newBlk 9 #[.string ⟨#[97]⟩, .string ⟨#[98]⟩, .string ⟨#[99]⟩, .string ⟨#[100]⟩]).swap
    simp only [World.size_setCell] at hl
    have HL := Lib.hid hl
    clear hl HE
    generalize wc.heap.size = gS at *
    go_loopw [12] (fun i wr => ∃ k : Nat, k ≤ 4 ∧ i = .int .i64 k ∧ Hid (Has w (tbA p r :: blkA gS 9 #[.string ⟨#[97]⟩, .string ⟨#[98]⟩, .string ⟨#[99]⟩, .string ⟨#[100]⟩] :: blkA gA 28 (txc (atRead y)) :: blkA gB 28 (txc (atTo y (m1, m2))) :: blkA w2.heap.size 39 (itc y0 (.slice A2 n2 c2)) :: rtA b r :: blkA w.heap.size 71 (askw key f t q x (.slice A1 n1 c1) y m1 m2 l1 l2) :: []) wr)) (fun i _ => 4 - (intOf i).toNat)
    case atStart => exact ⟨0, Nat.zero_le _, rfl, HL⟩
    case round =>
      clear HL
      obtain ⟨k, hk, rfl, H3⟩ := hrel
      by_cases hlt : k < 4
      · obtain ⟨kq, hkq, hkc⟩ : ∃ kq : ByteArray, isK kq = true ∧ (#[.string ⟨#[97]⟩, .string ⟨#[98]⟩, .string ⟨#[99]⟩, .string ⟨#[100]⟩] : Array Value)[k]? = some (.string kq) := by
          have : k = 0 ∨ k = 1 ∨ k = 2 ∨ k = 3 := by omega
          rcases this with rfl | rfl | rfl | rfl <;> exact ⟨_, by decide, rfl⟩
        have zk := H3.out.blkAt (g := gS) (t := 9) (cs := #[.string ⟨#[97]⟩, .string ⟨#[98]⟩, .string ⟨#[99]⟩, .string ⟨#[100]⟩]) (by simp)
        have ck := zk.cell k
        rw [hkc] at ck
        clear zk
        have zz := H3.out.blkAt (g := w.heap.size) (t := 71) (cs := (askw key f t q x (.slice A1 n1 c1) y m1 m2 l1 l2)) (by simp)
        have pc1 := zz.cell 1
        have pc2 := zz.cell 2
        simp at pc1 pc2
        clear zz
        by_cases hf : Op.bytesLess kq.toList f.toList = true
        · go_wp2_with fail
          go_region
          all_goals go_wp2_with fail
          exact ⟨⟨k + 1, by omega, by go_num, Lib.hid H3.out.drew⟩, by simp [intOf]; omega⟩
        · have hf2 : Op.bytesLess kq.toList f.toList = false := by simpa using hf
          clear hf
          by_cases ht : Op.bytesLess kq.toList t.toList = true
          · have hin : isInP f t kq = true := by unfold isInP slt; rw [hf2, ht]; rfl
            have hksz : kq.size ≤ 281474976710656 := by have := (isK_iff.1 hkq).2; omega
            have hst := HSTAY.out kq hkq hin
            clear hin
            have HG1 := Lib.hid (fun (T2 : List As) (p : Nat) (W : World) (hh : Has w (tbA p r :: T2) W) => pkGet hh HRO.out (by decide) hM kq hksz (atRead y) l1 l2)
            have HG2 := Lib.hid (fun (T2 : List As) (p : Nat) (W : World) (hh : Has w (tbA p r :: T2) W) => pkGet hh HRO.out (by decide) hM kq hksz (atTo y (m1, m2)) l1 l2)
            generalize pgetC r kq (atRead y) (l1, l2) = o1 at *
            generalize pgetC r kq (atTo y (m1, m2)) (l1, l2) = o2 at *
            obtain ⟨F1, k1⟩ := o1
            simp only at hst
            obtain ⟨F2, k2⟩ := o2
            have HST := Lib.hid hst
            clear hst
            go_wp2_with fail
            go_region
            all_goals go_wp2_with fail
            go_cut [13, 14] from 52 to 133 (fun v u wx => ∃ gF A7 n7 c7, v = .pointer (some ⟨gF, 0, none⟩) ∧ u = .int .i64 k1 ∧ Hid (Has w (blkA gF 60 (fdc F1 (.slice A7 n7 c7)) :: tbA p r :: blkA gS 9 #[.string ⟨#[97]⟩, .string ⟨#[98]⟩, .string ⟨#[99]⟩, .string ⟨#[100]⟩] :: blkA gA 28 (txc (atRead y)) :: blkA gB 28 (txc (atTo y (m1, m2))) :: blkA w2.heap.size 39 (itc y0 (.slice A2 n2 c2)) :: rtA b r :: blkA w.heap.size 71 (askw key f t q x (.slice A1 n1 c1) y m1 m2 l1 l2) :: []) wx))
            case first =>
              refine wp_region_held_drew (S := Has w (tbA p r :: blkA gS 9 #[.string ⟨#[97]⟩, .string ⟨#[98]⟩, .string ⟨#[99]⟩, .string ⟨#[100]⟩] :: blkA gA 28 (txc (atRead y)) :: blkA gB 28 (txc (atTo y (m1, m2))) :: blkA w2.heap.size 39 (itc y0 (.slice A2 n2 c2)) :: rtA b r :: blkA w.heap.size 71 (askw key f t q x (.slice A1 n1 c1) y m1 m2 l1 l2) :: [])) hmix (H3.out.drew.drew) (fun hS => ?_)
              simp only [List.size_toArray, List.length_cons, List.length_nil, Nat.reduceAdd, Array.replicate_succ, Array.replicate_zero]
              refine wpAnyH_take (i := 0) (oi := { dst := some 75, op := Op.move (Operand.tmp 5), type := 32, pos := "outright.go:145", after := #[], guard := none }) (v := ?v0mc) rfl (by kernel_rfl) (by kernel_rfl) (by kernel_rfl) (fun _ _ _ h => h) (Or.inl ⟨by rfl, ?hy0mc⟩) (by first | exact hS | assumption) ?rest0mc
              case hy0mc => (intro V2 hSw; (try dsimp only at hSw); go_simp; all_goals (with_reducible rfl))
              try simp only [Act.put, List.setIfInBounds_toArray, List.set_cons_zero, List.set_cons_succ]
              refine wpAnyH_take (i := 1) (oi := { dst := some 76, op := Op.move (Operand.tmp 11), type := 74, pos := "outright.go:145", after := #[], guard := none }) (v := ?v1mc) rfl (by kernel_rfl) (by kernel_rfl) (by kernel_rfl) (fun _ _ _ h => h) (Or.inl ⟨by rfl, ?hy1mc⟩) (by first | exact hS | assumption) ?rest1mc
              case hy1mc => (intro V2 hSw; (try dsimp only at hSw); go_simp; all_goals (with_reducible rfl))
              try simp only [Act.put, List.setIfInBounds_toArray, List.set_cons_zero, List.set_cons_succ]
              refine wpAnyH_take (i := 2) (oi := { dst := some 77, op := Op.move (Operand.tmp 12), type := 3, pos := "outright.go:145", after := #[], guard := none }) (v := ?v2mc) rfl (by kernel_rfl) (by kernel_rfl) (by kernel_rfl) (fun _ _ _ h => h) (Or.inl ⟨by rfl, ?hy2mc⟩) (by first | exact hS | assumption) ?rest2mc
              case hy2mc => (intro V2 hSw; (try dsimp only at hSw); go_simp; all_goals (with_reducible rfl))
              try simp only [Act.put, List.setIfInBounds_toArray, List.set_cons_zero, List.set_cons_succ]
              refine wpAnyH_take (i := 3) (oi := { dst := some 78, op := Op.indexAddr 74 (Operand.tmp 76) (Operand.tmp 77), type := 0, pos := "outright.go:145", after := #[{ on := 1, ground := Ground.data }, { on := 2, ground := Ground.data }], guard := none }) (v := ?v3mc) rfl (by kernel_rfl) (by kernel_rfl) (by kernel_rfl) (fun _ _ _ h => h) (Or.inl ⟨by rfl, ?hy3mc⟩) (by first | exact hS | assumption) ?rest3mc
              case hy3mc => (intro V2 hSw; (try dsimp only at hSw); go_simp; all_goals (with_reducible rfl))
              try simp only [Act.put, List.setIfInBounds_toArray, List.set_cons_zero, List.set_cons_succ]
              refine wpAnyH_take (i := 4) (oi := { dst := some 79, op := Op.load 9 (Operand.tmp 78), type := 9, pos := "outright.go:145", after := #[{ on := 3, ground := Ground.data }], guard := none }) (v := ?v4mc) rfl (by kernel_rfl) (by kernel_rfl) (by kernel_rfl) (fun _ _ _ h => h) (Or.inl ⟨by rfl, ?hy4mc⟩) (by first | exact hS | assumption) ?rest4mc
              case hy4mc => (intro V2 hSw; (try dsimp only at hSw); have zk := hSw.blkAt (g := gS) (t := 9) (cs := #[.string ⟨#[97]⟩, .string ⟨#[98]⟩, .string ⟨#[99]⟩, .string ⟨#[100]⟩]) (by simp); have ck := zk.cell k; rw [hkc] at ck; go_simp; all_goals (with_reducible rfl))
              try simp only [Act.put, List.setIfInBounds_toArray, List.set_cons_zero, List.set_cons_succ]
              refine wpAnyH_take (i := 5) (oi := { dst := some 80, op := Op.load 28 (Operand.tmp 9), type := 28, pos := "outright.go:145", after := #[], guard := none }) (v := ?v5mc) rfl (by kernel_rfl) (by kernel_rfl) (by kernel_rfl) (fun _ _ _ h => h) (Or.inl ⟨by rfl, ?hy5mc⟩) (by first | exact hS | assumption) ?rest5mc
              case hy5mc => (intro V2 hSw; (try dsimp only at hSw); have zk := hSw.blkAt (g := gA) (t := 28) (cs := txc (atRead y)) (by simp); have ck0 := zk.cell 0; have ck1 := zk.cell 1; have ck2 := zk.cell 2; have ck3 := zk.cell 3; have ck4 := zk.cell 4; have ck5 := zk.cell 5; have ck6 := zk.cell 6; have ck7 := zk.cell 7; have ck8 := zk.cell 8; have ck9 := zk.cell 9; have ck10 := zk.cell 10; have ck11 := zk.cell 11; simp at ck0 ck1 ck2 ck3 ck4 ck5 ck6 ck7 ck8 ck9 ck10 ck11; go_simp; all_goals (with_reducible rfl))
              try simp only [Act.put, List.setIfInBounds_toArray, List.set_cons_zero, List.set_cons_succ]
              refine wpAnyH_take (i := 6) (oi := { dst := some 81, op := Op.fieldAddr 71 (Operand.tmp 3) 6, type := 0, pos := "outright.go:145", after := #[], guard := none }) (v := ?v6mc) rfl (by kernel_rfl) (by kernel_rfl) (by kernel_rfl) (fun _ _ _ h => h) (Or.inl ⟨by rfl, ?hy6mc⟩) (by first | exact hS | assumption) ?rest6mc
              case hy6mc => (intro V2 hSw; (try dsimp only at hSw); go_simp; all_goals (with_reducible rfl))
              try simp only [Act.put, List.setIfInBounds_toArray, List.set_cons_zero, List.set_cons_succ]
              refine wpAnyH_take (i := 7) (oi := { dst := some 82, op := Op.load 26 (Operand.tmp 81), type := 26, pos := "outright.go:145", after := #[{ on := 6, ground := Ground.data }], guard := none }) (v := ?v7mc) rfl (by kernel_rfl) (by kernel_rfl) (by kernel_rfl) (fun _ _ _ h => h) (Or.inl ⟨by rfl, ?hy7mc⟩) (by first | exact hS | assumption) ?rest7mc
              case hy7mc => (intro V2 hSw; (try dsimp only at hSw); have zk := hSw.blkAt (g := w.heap.size) (t := 71) (cs := (askw key f t q x (.slice A1 n1 c1) y m1 m2 l1 l2)) (by simp); have ck28 := zk.cell 28; have ck29 := zk.cell 29; simp at ck28 ck29; go_simp; all_goals (with_reducible rfl))
              try simp only [Act.put, List.setIfInBounds_toArray, List.set_cons_zero, List.set_cons_succ]
              refine wpAnyH_ready (rs := [8, 12]) (by kernel_rfl) (by simp) ?_
              refine AllReadyH.cons (o := { dst := some 83, op := Op.call { callee := Callee.value (Operand.func 18), args := #[Operand.tmp 75, Operand.tmp 79, Operand.tmp 80, Operand.tmp 82], argTypes := #[32, 9, 28, 26] }, type := 61, pos := "outright.go:145", after := #[{ on := 0, ground := Ground.data }, { on := 4, ground := Ground.data }, { on := 5, ground := Ground.data }, { on := 7, ground := Ground.data }], guard := none }) rfl (fun K hK => ?_) ?_
              · go_simp
                refine (HG1.out _ _ _ (hS)).mono ?_
                rintro e w7 ⟨⟨A7, n7, c7, rfl, -, -⟩, h7⟩
                have h8 := h7
                refine hK.out _ _ (h8) (fun hS => ?_)
                clear hK K
                try simp only [Act.put, List.setIfInBounds_toArray, List.set_cons_zero, List.set_cons_succ]
                have HXmc0 := Lib.hid h8
                clear h7 h8
                refine wpAnyH_take (i := 9) (oi := { dst := some 74, op := Op.move (Operand.tmp 83), type := 61, pos := "outright.go:145", after := #[{ on := 8, ground := Ground.data }], guard := none }) (v := ?v9mca) rfl (by kernel_rfl) (by kernel_rfl) (by kernel_rfl) (fun _ _ _ h => h) (Or.inl ⟨by rfl, ?hy9mca⟩) (by first | exact hS | assumption) ?rest9mca
                case hy9mca => (intro V2 hSw; (try dsimp only at hSw); go_simp; all_goals (with_reducible rfl))
                try simp only [Act.put, List.setIfInBounds_toArray, List.set_cons_zero, List.set_cons_succ]
                refine wpAnyH_take (i := 10) (oi := { dst := some 84, op := Op.extract (Operand.tmp 74) 0, type := 60, pos := "outright.go:145", after := #[{ on := 9, ground := Ground.data }], guard := none }) (v := ?v10mca) rfl (by kernel_rfl) (by kernel_rfl) (by kernel_rfl) (fun _ _ _ h => h) (Or.inl ⟨by rfl, ?hy10mca⟩) (by first | exact hS | assumption) ?rest10mca
                case hy10mca => (intro V2 hSw; (try dsimp only at hSw); go_simp; all_goals (with_reducible rfl))
                try simp only [Act.put, List.setIfInBounds_toArray, List.set_cons_zero, List.set_cons_succ]
                refine wpAnyH_take (i := 11) (oi := { dst := some 85, op := Op.extract (Operand.tmp 74) 1, type := 42, pos := "outright.go:145", after := #[{ on := 9, ground := Ground.data }, { on := 13, ground := Ground.gcOnly Departure.lateStores }], guard := none }) (v := ?v11mca) rfl (by kernel_rfl) (by kernel_rfl) (by kernel_rfl) (fun _ _ _ h => h) (Or.inl ⟨by rfl, ?hy11mca⟩) (by first | exact hS | assumption) ?rest11mca
                case hy11mca => (intro V2 hSw; (try dsimp only at hSw); go_simp; all_goals (with_reducible rfl))
                try simp only [Act.put, List.setIfInBounds_toArray, List.set_cons_zero, List.set_cons_succ]
                refine wpAnyH_ready (rs := [12]) (by kernel_rfl) (by simp) ?_
                refine AllReadyH.cons (o := { dst := some 13, op := Op.alloc 60, type := 0, pos := "outright.go:145", after := #[], guard := none }) rfl (fun K hK => ?_) AllReadyH.nil
                go_simp
                have hX := (HXmc0.out).newBlk 60 (fdc zF (.slice none 0 0))
                refine hK.out _ _ (hX.tail) (fun hS => ?_)
                clear hK K
                try simp only [Act.put, List.setIfInBounds_toArray, List.set_cons_zero, List.set_cons_succ]
                have HXmc1 := Lib.hid hX
                clear hX
                refine wpAnyH_ready (rs := [13]) (by kernel_rfl) (by simp) ?_
                refine AllReadyH.cons (o := { dst := none, op := Op.store 60 (Operand.tmp 13) (Operand.tmp 84), type := 0, pos := "outright.go:145", after := #[{ on := 12, ground := Ground.data }, { on := 10, ground := Ground.data }, { on := 8, ground := Ground.chain }, { on := 0, ground := Ground.phase }, { on := 1, ground := Ground.phase }, { on := 2, ground := Ground.phase }, { on := 3, ground := Ground.phase }, { on := 4, ground := Ground.phase }, { on := 5, ground := Ground.phase }, { on := 6, ground := Ground.phase }, { on := 7, ground := Ground.phase }, { on := 8, ground := Ground.phase }, { on := 9, ground := Ground.phase }, { on := 10, ground := Ground.phase }, { on := 11, ground := Ground.textOnly Departure.lateStores }, { on := 12, ground := Ground.phase }], guard := none }) rfl (fun K hK => ?_) AllReadyH.nil
                go_simp
                have hY := HXmc0.out.newBlk 60 (fdc F1 (.slice A7 n7 c7))
                refine hK.out _ _ (hY.tail) (fun hS => ?_)
                clear hK K
                try simp only [Act.put, List.setIfInBounds_toArray, List.set_cons_zero, List.set_cons_succ]
                have HXmc2 := Lib.hid hY
                clear hY
                refine wpAnyH_take (i := 14) (oi := { dst := some 14, op := Op.assign (Operand.tmp 85), type := 42, pos := "outright.go:145", after := #[{ on := 11, ground := Ground.data }, { on := 13, ground := Ground.chain }, { on := 0, ground := Ground.phase }, { on := 1, ground := Ground.phase }, { on := 2, ground := Ground.phase }, { on := 3, ground := Ground.phase }, { on := 4, ground := Ground.phase }, { on := 5, ground := Ground.phase }, { on := 6, ground := Ground.phase }, { on := 7, ground := Ground.phase }, { on := 8, ground := Ground.phase }, { on := 9, ground := Ground.phase }, { on := 10, ground := Ground.phase }, { on := 11, ground := Ground.phase }, { on := 12, ground := Ground.phase }, { on := 13, ground := Ground.phase }], guard := none }) (v := ?v14mca) rfl (by kernel_rfl) (by kernel_rfl) (by kernel_rfl) (fun _ _ _ h => h) (Or.inl ⟨by rfl, ?hy14mca⟩) (by first | exact hS | assumption) ?rest14mca
                case hy14mca => (intro V2 hSw; (try dsimp only at hSw); go_simp; all_goals (with_reducible rfl))
                try simp only [Act.put, List.setIfInBounds_toArray, List.set_cons_zero, List.set_cons_succ]
                refine wpAnyH_done (by kernel_rfl) ?_ _
                (try go_wp2_with fail)
                go_meet
                exact ⟨_, _, _, _, rfl, rfl, Lib.hid HXmc2.out⟩
              refine AllReadyH.cons (o := { dst := some 13, op := Op.alloc 60, type := 0, pos := "outright.go:145", after := #[], guard := none }) rfl (fun K hK => ?_) AllReadyH.nil
              go_simp
              have hX := (hS).newBlk 60 (fdc zF (.slice none 0 0))
              refine hK.out _ _ (hX.tail) (fun hS => ?_)
              clear hK K
              try simp only [Act.put, List.setIfInBounds_toArray, List.set_cons_zero, List.set_cons_succ]
              have HXmc0 := Lib.hid hX
              clear hX
              refine wpAnyH_ready (rs := [8]) (by kernel_rfl) (by simp) ?_
              refine AllReadyH.cons (o := { dst := some 83, op := Op.call { callee := Callee.value (Operand.func 18), args := #[Operand.tmp 75, Operand.tmp 79, Operand.tmp 80, Operand.tmp 82], argTypes := #[32, 9, 28, 26] }, type := 61, pos := "outright.go:145", after := #[{ on := 0, ground := Ground.data }, { on := 4, ground := Ground.data }, { on := 5, ground := Ground.data }, { on := 7, ground := Ground.data }], guard := none }) rfl (fun K hK => ?_) AllReadyH.nil
              go_simp
              refine (HG1.out _ _ _ ((HXmc0.out).swap)).mono ?_
              rintro e w7 ⟨⟨A7, n7, c7, rfl, -, -⟩, h7⟩
              have h8 := (h7).swap
              refine hK.out _ _ (h8.tail) (fun hS => ?_)
              clear hK K
              try simp only [Act.put, List.setIfInBounds_toArray, List.set_cons_zero, List.set_cons_succ]
              have HXmc1 := Lib.hid h8
              clear h7 h8
              refine wpAnyH_take (i := 9) (oi := { dst := some 74, op := Op.move (Operand.tmp 83), type := 61, pos := "outright.go:145", after := #[{ on := 8, ground := Ground.data }], guard := none }) (v := ?v9mcb) rfl (by kernel_rfl) (by kernel_rfl) (by kernel_rfl) (fun _ _ _ h => h) (Or.inl ⟨by rfl, ?hy9mcb⟩) (by first | exact hS | assumption) ?rest9mcb
              case hy9mcb => (intro V2 hSw; (try dsimp only at hSw); go_simp; all_goals (with_reducible rfl))
              try simp only [Act.put, List.setIfInBounds_toArray, List.set_cons_zero, List.set_cons_succ]
              refine wpAnyH_take (i := 10) (oi := { dst := some 84, op := Op.extract (Operand.tmp 74) 0, type := 60, pos := "outright.go:145", after := #[{ on := 9, ground := Ground.data }], guard := none }) (v := ?v10mcb) rfl (by kernel_rfl) (by kernel_rfl) (by kernel_rfl) (fun _ _ _ h => h) (Or.inl ⟨by rfl, ?hy10mcb⟩) (by first | exact hS | assumption) ?rest10mcb
              case hy10mcb => (intro V2 hSw; (try dsimp only at hSw); go_simp; all_goals (with_reducible rfl))
              try simp only [Act.put, List.setIfInBounds_toArray, List.set_cons_zero, List.set_cons_succ]
              refine wpAnyH_take (i := 11) (oi := { dst := some 85, op := Op.extract (Operand.tmp 74) 1, type := 42, pos := "outright.go:145", after := #[{ on := 9, ground := Ground.data }, { on := 13, ground := Ground.gcOnly Departure.lateStores }], guard := none }) (v := ?v11mcb) rfl (by kernel_rfl) (by kernel_rfl) (by kernel_rfl) (fun _ _ _ h => h) (Or.inl ⟨by rfl, ?hy11mcb⟩) (by first | exact hS | assumption) ?rest11mcb
              case hy11mcb => (intro V2 hSw; (try dsimp only at hSw); go_simp; all_goals (with_reducible rfl))
              try simp only [Act.put, List.setIfInBounds_toArray, List.set_cons_zero, List.set_cons_succ]
              refine wpAnyH_ready (rs := [13]) (by kernel_rfl) (by simp) ?_
              refine AllReadyH.cons (o := { dst := none, op := Op.store 60 (Operand.tmp 13) (Operand.tmp 84), type := 0, pos := "outright.go:145", after := #[{ on := 12, ground := Ground.data }, { on := 10, ground := Ground.data }, { on := 8, ground := Ground.chain }, { on := 0, ground := Ground.phase }, { on := 1, ground := Ground.phase }, { on := 2, ground := Ground.phase }, { on := 3, ground := Ground.phase }, { on := 4, ground := Ground.phase }, { on := 5, ground := Ground.phase }, { on := 6, ground := Ground.phase }, { on := 7, ground := Ground.phase }, { on := 8, ground := Ground.phase }, { on := 9, ground := Ground.phase }, { on := 10, ground := Ground.phase }, { on := 11, ground := Ground.textOnly Departure.lateStores }, { on := 12, ground := Ground.phase }], guard := none }) rfl (fun K hK => ?_) AllReadyH.nil
              have hX := HXmc1.out
              have kI := hX.blk.1
              have q0 := kI.cell 0
              have q1 := kI.cell 1
              have q2 := kI.cell 2
              have q3 := kI.cell 3
              have q4 := kI.cell 4
              have q5 := kI.cell 5
              have q6 := kI.cell 6
              have q7 := kI.cell 7
              have q8 := kI.cell 8
              have q9 := kI.cell 9
              have q10 := kI.cell 10
              have q11 := kI.cell 11
              have q12 := kI.cell 12
              have q13 := kI.cell 13
              have q14 := kI.cell 14
              have qf0 := kI.frozen 0
              have qf1 := kI.frozen 1
              have qf2 := kI.frozen 2
              have qf3 := kI.frozen 3
              have qf4 := kI.frozen 4
              have qf5 := kI.frozen 5
              have qf6 := kI.frozen 6
              have qf7 := kI.frozen 7
              have qf8 := kI.frozen 8
              have qf9 := kI.frozen 9
              have qf10 := kI.frozen 10
              have qf11 := kI.frozen 11
              have qf12 := kI.frozen 12
              have qf13 := kI.frozen 13
              have qf14 := kI.frozen 14
              simp at q0 q1 q2 q3 q4 q5 q6 q7 q8 q9 q10 q11 q12 q13 q14
              (try simp at qf0 qf1 qf2 qf3 qf4 qf5 qf6 qf7 qf8 qf9 qf10 qf11 qf12 qf13 qf14)
              have hY := Has.all15 (v0 := .string F1.key) (v1 := .string F1.value) (v2 := .bool F1.is_) (v3 := .bool F1.own) (v4 := .int .i64 F1.sw) (v5 := .int .i64 F1.sl) (v6 := .int .i64 F1.it.id) (v7 := .int .i64 F1.it.ep) (v8 := .int .i64 F1.it.pr) (v9 := .string F1.it.an) (v10 := .int .i64 F1.it.sw) (v11 := .int .i64 F1.it.sl) (v12 := .int .i64 F1.it.bw) (v13 := .int .i64 F1.it.bl) (v14 := .slice A7 n7 c7) hX
              go_simp
              refine hK.out _ _ (hY.tail) (fun hS => ?_)
              clear hK K
              try simp only [Act.put, List.setIfInBounds_toArray, List.set_cons_zero, List.set_cons_succ]
              have HXmc2 := Lib.hid hY
              clear hY hX kI
              refine wpAnyH_take (i := 14) (oi := { dst := some 14, op := Op.assign (Operand.tmp 85), type := 42, pos := "outright.go:145", after := #[{ on := 11, ground := Ground.data }, { on := 13, ground := Ground.chain }, { on := 0, ground := Ground.phase }, { on := 1, ground := Ground.phase }, { on := 2, ground := Ground.phase }, { on := 3, ground := Ground.phase }, { on := 4, ground := Ground.phase }, { on := 5, ground := Ground.phase }, { on := 6, ground := Ground.phase }, { on := 7, ground := Ground.phase }, { on := 8, ground := Ground.phase }, { on := 9, ground := Ground.phase }, { on := 10, ground := Ground.phase }, { on := 11, ground := Ground.phase }, { on := 12, ground := Ground.phase }, { on := 13, ground := Ground.phase }], guard := none }) (v := ?v14mcb) rfl (by kernel_rfl) (by kernel_rfl) (by kernel_rfl) (fun _ _ _ h => h) (Or.inl ⟨by rfl, ?hy14mcb⟩) (by first | exact hS | assumption) ?rest14mcb
              case hy14mcb => (intro V2 hSw; (try dsimp only at hSw); go_simp; all_goals (with_reducible rfl))
              try simp only [Act.put, List.setIfInBounds_toArray, List.set_cons_zero, List.set_cons_succ]
              refine wpAnyH_done (by kernel_rfl) ?_ _
              (try go_wp2_with fail)
              go_meet
              exact ⟨_, _, _, _, rfl, rfl, Lib.hid HXmc2.out⟩
            case rest =>
              obtain ⟨gF, A7, n7, c7, rfl, rfl, HY1⟩ := hcut
              clear H3 HG1
              have zk := HY1.out.blkAt (g := gS) (t := 9) (cs := #[.string ⟨#[97]⟩, .string ⟨#[98]⟩, .string ⟨#[99]⟩, .string ⟨#[100]⟩]) (by simp)
              have ck := zk.cell k
              rw [hkc] at ck
              clear zk
              go_upto_region 15 with fail
              go_cut [15, 16] from 52 to 133 (fun v u wx => ∃ gH A8 n8 c8, v = .pointer (some ⟨gH, 0, none⟩) ∧ u = .int .i64 k2 ∧ Hid (Has w (blkA gH 60 (fdc F2 (.slice A8 n8 c8)) :: blkA gF 60 (fdc F1 (.slice A7 n7 c7)) :: tbA p r :: blkA gS 9 #[.string ⟨#[97]⟩, .string ⟨#[98]⟩, .string ⟨#[99]⟩, .string ⟨#[100]⟩] :: blkA gA 28 (txc (atRead y)) :: blkA gB 28 (txc (atTo y (m1, m2))) :: blkA w2.heap.size 39 (itc y0 (.slice A2 n2 c2)) :: rtA b r :: blkA w.heap.size 71 (askw key f t q x (.slice A1 n1 c1) y m1 m2 l1 l2) :: []) wx))
              case first =>
                refine wp_region_held_drew (S := Has w (blkA gF 60 (fdc F1 (.slice A7 n7 c7)) :: tbA p r :: blkA gS 9 #[.string ⟨#[97]⟩, .string ⟨#[98]⟩, .string ⟨#[99]⟩, .string ⟨#[100]⟩] :: blkA gA 28 (txc (atRead y)) :: blkA gB 28 (txc (atTo y (m1, m2))) :: blkA w2.heap.size 39 (itc y0 (.slice A2 n2 c2)) :: rtA b r :: blkA w.heap.size 71 (askw key f t q x (.slice A1 n1 c1) y m1 m2 l1 l2) :: [])) hmix (HY1.out.drew) (fun hS => ?_)
                simp only [List.size_toArray, List.length_cons, List.length_nil, Nat.reduceAdd, Array.replicate_succ, Array.replicate_zero]
                refine wpAnyH_take (i := 0) (oi := { dst := some 87, op := Op.move (Operand.tmp 5), type := 32, pos := "outright.go:146", after := #[], guard := none }) (v := ?v0nc) rfl (by kernel_rfl) (by kernel_rfl) (by kernel_rfl) (fun _ _ _ h => h) (Or.inl ⟨by rfl, ?hy0nc⟩) (by first | exact hS | assumption) ?rest0nc
                case hy0nc => (intro V2 hSw; (try dsimp only at hSw); go_simp; all_goals (with_reducible rfl))
                try simp only [Act.put, List.setIfInBounds_toArray, List.set_cons_zero, List.set_cons_succ]
                refine wpAnyH_take (i := 1) (oi := { dst := some 88, op := Op.move (Operand.tmp 11), type := 74, pos := "outright.go:146", after := #[], guard := none }) (v := ?v1nc) rfl (by kernel_rfl) (by kernel_rfl) (by kernel_rfl) (fun _ _ _ h => h) (Or.inl ⟨by rfl, ?hy1nc⟩) (by first | exact hS | assumption) ?rest1nc
                case hy1nc => (intro V2 hSw; (try dsimp only at hSw); go_simp; all_goals (with_reducible rfl))
                try simp only [Act.put, List.setIfInBounds_toArray, List.set_cons_zero, List.set_cons_succ]
                refine wpAnyH_take (i := 2) (oi := { dst := some 89, op := Op.move (Operand.tmp 12), type := 3, pos := "outright.go:146", after := #[], guard := none }) (v := ?v2nc) rfl (by kernel_rfl) (by kernel_rfl) (by kernel_rfl) (fun _ _ _ h => h) (Or.inl ⟨by rfl, ?hy2nc⟩) (by first | exact hS | assumption) ?rest2nc
                case hy2nc => (intro V2 hSw; (try dsimp only at hSw); go_simp; all_goals (with_reducible rfl))
                try simp only [Act.put, List.setIfInBounds_toArray, List.set_cons_zero, List.set_cons_succ]
                refine wpAnyH_take (i := 3) (oi := { dst := some 90, op := Op.indexAddr 74 (Operand.tmp 88) (Operand.tmp 89), type := 0, pos := "outright.go:146", after := #[{ on := 1, ground := Ground.data }, { on := 2, ground := Ground.data }], guard := none }) (v := ?v3nc) rfl (by kernel_rfl) (by kernel_rfl) (by kernel_rfl) (fun _ _ _ h => h) (Or.inl ⟨by rfl, ?hy3nc⟩) (by first | exact hS | assumption) ?rest3nc
                case hy3nc => (intro V2 hSw; (try dsimp only at hSw); go_simp; all_goals (with_reducible rfl))
                try simp only [Act.put, List.setIfInBounds_toArray, List.set_cons_zero, List.set_cons_succ]
                refine wpAnyH_take (i := 4) (oi := { dst := some 91, op := Op.load 9 (Operand.tmp 90), type := 9, pos := "outright.go:146", after := #[{ on := 3, ground := Ground.data }], guard := none }) (v := ?v4nc) rfl (by kernel_rfl) (by kernel_rfl) (by kernel_rfl) (fun _ _ _ h => h) (Or.inl ⟨by rfl, ?hy4nc⟩) (by first | exact hS | assumption) ?rest4nc
                case hy4nc => (intro V2 hSw; (try dsimp only at hSw); have zk := hSw.blkAt (g := gS) (t := 9) (cs := #[.string ⟨#[97]⟩, .string ⟨#[98]⟩, .string ⟨#[99]⟩, .string ⟨#[100]⟩]) (by simp); have ck := zk.cell k; rw [hkc] at ck; go_simp; all_goals (with_reducible rfl))
                try simp only [Act.put, List.setIfInBounds_toArray, List.set_cons_zero, List.set_cons_succ]
                refine wpAnyH_take (i := 5) (oi := { dst := some 92, op := Op.load 28 (Operand.tmp 10), type := 28, pos := "outright.go:146", after := #[], guard := none }) (v := ?v5nc) rfl (by kernel_rfl) (by kernel_rfl) (by kernel_rfl) (fun _ _ _ h => h) (Or.inl ⟨by rfl, ?hy5nc⟩) (by first | exact hS | assumption) ?rest5nc
                case hy5nc => (intro V2 hSw; (try dsimp only at hSw); have zk := hSw.blkAt (g := gB) (t := 28) (cs := txc (atTo y (m1, m2))) (by simp); have ck0 := zk.cell 0; have ck1 := zk.cell 1; have ck2 := zk.cell 2; have ck3 := zk.cell 3; have ck4 := zk.cell 4; have ck5 := zk.cell 5; have ck6 := zk.cell 6; have ck7 := zk.cell 7; have ck8 := zk.cell 8; have ck9 := zk.cell 9; have ck10 := zk.cell 10; have ck11 := zk.cell 11; simp at ck0 ck1 ck2 ck3 ck4 ck5 ck6 ck7 ck8 ck9 ck10 ck11; go_simp; all_goals (with_reducible rfl))
                try simp only [Act.put, List.setIfInBounds_toArray, List.set_cons_zero, List.set_cons_succ]
                refine wpAnyH_take (i := 6) (oi := { dst := some 93, op := Op.fieldAddr 71 (Operand.tmp 3) 6, type := 0, pos := "outright.go:146", after := #[], guard := none }) (v := ?v6nc) rfl (by kernel_rfl) (by kernel_rfl) (by kernel_rfl) (fun _ _ _ h => h) (Or.inl ⟨by rfl, ?hy6nc⟩) (by first | exact hS | assumption) ?rest6nc
                case hy6nc => (intro V2 hSw; (try dsimp only at hSw); go_simp; all_goals (with_reducible rfl))
                try simp only [Act.put, List.setIfInBounds_toArray, List.set_cons_zero, List.set_cons_succ]
                refine wpAnyH_take (i := 7) (oi := { dst := some 94, op := Op.load 26 (Operand.tmp 93), type := 26, pos := "outright.go:146", after := #[{ on := 6, ground := Ground.data }], guard := none }) (v := ?v7nc) rfl (by kernel_rfl) (by kernel_rfl) (by kernel_rfl) (fun _ _ _ h => h) (Or.inl ⟨by rfl, ?hy7nc⟩) (by first | exact hS | assumption) ?rest7nc
                case hy7nc => (intro V2 hSw; (try dsimp only at hSw); have zk := hSw.blkAt (g := w.heap.size) (t := 71) (cs := (askw key f t q x (.slice A1 n1 c1) y m1 m2 l1 l2)) (by simp); have ck28 := zk.cell 28; have ck29 := zk.cell 29; simp at ck28 ck29; go_simp; all_goals (with_reducible rfl))
                try simp only [Act.put, List.setIfInBounds_toArray, List.set_cons_zero, List.set_cons_succ]
                refine wpAnyH_ready (rs := [8, 12]) (by kernel_rfl) (by simp) ?_
                refine AllReadyH.cons (o := { dst := some 95, op := Op.call { callee := Callee.value (Operand.func 18), args := #[Operand.tmp 87, Operand.tmp 91, Operand.tmp 92, Operand.tmp 94], argTypes := #[32, 9, 28, 26] }, type := 61, pos := "outright.go:146", after := #[{ on := 0, ground := Ground.data }, { on := 4, ground := Ground.data }, { on := 5, ground := Ground.data }, { on := 7, ground := Ground.data }], guard := none }) rfl (fun K hK => ?_) ?_
                · go_simp
                  refine (HG2.out _ _ _ ((hS).swap)).mono ?_
                  rintro e w8 ⟨⟨A8, n8, c8, rfl, -, -⟩, h7⟩
                  have h8 := (h7).swap
                  refine hK.out _ _ (h8) (fun hS => ?_)
                  clear hK K
                  try simp only [Act.put, List.setIfInBounds_toArray, List.set_cons_zero, List.set_cons_succ]
                  have HXnc0 := Lib.hid h8
                  clear h7 h8
                  refine wpAnyH_take (i := 9) (oi := { dst := some 86, op := Op.move (Operand.tmp 95), type := 61, pos := "outright.go:146", after := #[{ on := 8, ground := Ground.data }], guard := none }) (v := ?v9nca) rfl (by kernel_rfl) (by kernel_rfl) (by kernel_rfl) (fun _ _ _ h => h) (Or.inl ⟨by rfl, ?hy9nca⟩) (by first | exact hS | assumption) ?rest9nca
                  case hy9nca => (intro V2 hSw; (try dsimp only at hSw); go_simp; all_goals (with_reducible rfl))
                  try simp only [Act.put, List.setIfInBounds_toArray, List.set_cons_zero, List.set_cons_succ]
                  refine wpAnyH_take (i := 10) (oi := { dst := some 96, op := Op.extract (Operand.tmp 86) 0, type := 60, pos := "outright.go:146", after := #[{ on := 9, ground := Ground.data }], guard := none }) (v := ?v10nca) rfl (by kernel_rfl) (by kernel_rfl) (by kernel_rfl) (fun _ _ _ h => h) (Or.inl ⟨by rfl, ?hy10nca⟩) (by first | exact hS | assumption) ?rest10nca
                  case hy10nca => (intro V2 hSw; (try dsimp only at hSw); go_simp; all_goals (with_reducible rfl))
                  try simp only [Act.put, List.setIfInBounds_toArray, List.set_cons_zero, List.set_cons_succ]
                  refine wpAnyH_take (i := 11) (oi := { dst := some 97, op := Op.extract (Operand.tmp 86) 1, type := 42, pos := "outright.go:146", after := #[{ on := 9, ground := Ground.data }, { on := 13, ground := Ground.gcOnly Departure.lateStores }], guard := none }) (v := ?v11nca) rfl (by kernel_rfl) (by kernel_rfl) (by kernel_rfl) (fun _ _ _ h => h) (Or.inl ⟨by rfl, ?hy11nca⟩) (by first | exact hS | assumption) ?rest11nca
                  case hy11nca => (intro V2 hSw; (try dsimp only at hSw); go_simp; all_goals (with_reducible rfl))
                  try simp only [Act.put, List.setIfInBounds_toArray, List.set_cons_zero, List.set_cons_succ]
                  refine wpAnyH_ready (rs := [12]) (by kernel_rfl) (by simp) ?_
                  refine AllReadyH.cons (o := { dst := some 15, op := Op.alloc 60, type := 0, pos := "outright.go:146", after := #[], guard := none }) rfl (fun K hK => ?_) AllReadyH.nil
                  go_simp
                  have hX := (HXnc0.out).newBlk 60 (fdc zF (.slice none 0 0))
                  refine hK.out _ _ (hX.tail) (fun hS => ?_)
                  clear hK K
                  try simp only [Act.put, List.setIfInBounds_toArray, List.set_cons_zero, List.set_cons_succ]
                  have HXnc1 := Lib.hid hX
                  clear hX
                  refine wpAnyH_ready (rs := [13]) (by kernel_rfl) (by simp) ?_
                  refine AllReadyH.cons (o := { dst := none, op := Op.store 60 (Operand.tmp 15) (Operand.tmp 96), type := 0, pos := "outright.go:146", after := #[{ on := 12, ground := Ground.data }, { on := 10, ground := Ground.data }, { on := 8, ground := Ground.chain }, { on := 0, ground := Ground.phase }, { on := 1, ground := Ground.phase }, { on := 2, ground := Ground.phase }, { on := 3, ground := Ground.phase }, { on := 4, ground := Ground.phase }, { on := 5, ground := Ground.phase }, { on := 6, ground := Ground.phase }, { on := 7, ground := Ground.phase }, { on := 8, ground := Ground.phase }, { on := 9, ground := Ground.phase }, { on := 10, ground := Ground.phase }, { on := 11, ground := Ground.textOnly Departure.lateStores }, { on := 12, ground := Ground.phase }], guard := none }) rfl (fun K hK => ?_) AllReadyH.nil
                  go_simp
                  have hY := HXnc0.out.newBlk 60 (fdc F2 (.slice A8 n8 c8))
                  refine hK.out _ _ (hY.tail) (fun hS => ?_)
                  clear hK K
                  try simp only [Act.put, List.setIfInBounds_toArray, List.set_cons_zero, List.set_cons_succ]
                  have HXnc2 := Lib.hid hY
                  clear hY
                  refine wpAnyH_take (i := 14) (oi := { dst := some 16, op := Op.assign (Operand.tmp 97), type := 42, pos := "outright.go:146", after := #[{ on := 11, ground := Ground.data }, { on := 13, ground := Ground.chain }, { on := 0, ground := Ground.phase }, { on := 1, ground := Ground.phase }, { on := 2, ground := Ground.phase }, { on := 3, ground := Ground.phase }, { on := 4, ground := Ground.phase }, { on := 5, ground := Ground.phase }, { on := 6, ground := Ground.phase }, { on := 7, ground := Ground.phase }, { on := 8, ground := Ground.phase }, { on := 9, ground := Ground.phase }, { on := 10, ground := Ground.phase }, { on := 11, ground := Ground.phase }, { on := 12, ground := Ground.phase }, { on := 13, ground := Ground.phase }], guard := none }) (v := ?v14nca) rfl (by kernel_rfl) (by kernel_rfl) (by kernel_rfl) (fun _ _ _ h => h) (Or.inl ⟨by rfl, ?hy14nca⟩) (by first | exact hS | assumption) ?rest14nca
                  case hy14nca => (intro V2 hSw; (try dsimp only at hSw); go_simp; all_goals (with_reducible rfl))
                  try simp only [Act.put, List.setIfInBounds_toArray, List.set_cons_zero, List.set_cons_succ]
                  refine wpAnyH_done (by kernel_rfl) ?_ _
                  (try go_wp2_with fail)
                  go_meet
                  exact ⟨_, _, _, _, rfl, rfl, Lib.hid HXnc2.out⟩
                refine AllReadyH.cons (o := { dst := some 15, op := Op.alloc 60, type := 0, pos := "outright.go:146", after := #[], guard := none }) rfl (fun K hK => ?_) AllReadyH.nil
                go_simp
                have hX := (hS).newBlk 60 (fdc zF (.slice none 0 0))
                refine hK.out _ _ (hX.tail) (fun hS => ?_)
                clear hK K
                try simp only [Act.put, List.setIfInBounds_toArray, List.set_cons_zero, List.set_cons_succ]
                have HXnc0 := Lib.hid hX
                clear hX
                refine wpAnyH_ready (rs := [8]) (by kernel_rfl) (by simp) ?_
                refine AllReadyH.cons (o := { dst := some 95, op := Op.call { callee := Callee.value (Operand.func 18), args := #[Operand.tmp 87, Operand.tmp 91, Operand.tmp 92, Operand.tmp 94], argTypes := #[32, 9, 28, 26] }, type := 61, pos := "outright.go:146", after := #[{ on := 0, ground := Ground.data }, { on := 4, ground := Ground.data }, { on := 5, ground := Ground.data }, { on := 7, ground := Ground.data }], guard := none }) rfl (fun K hK => ?_) AllReadyH.nil
                go_simp
                refine (HG2.out _ _ _ ((HXnc0.out).perm (List.perm_middle (l₁ := [_, _])))).mono ?_
                rintro e w8 ⟨⟨A8, n8, c8, rfl, -, -⟩, h7⟩
                have h8 := (h7).perm (List.perm_middle (l₁ := [_, _])).symm
                refine hK.out _ _ (h8.tail) (fun hS => ?_)
                clear hK K
                try simp only [Act.put, List.setIfInBounds_toArray, List.set_cons_zero, List.set_cons_succ]
                have HXnc1 := Lib.hid h8
                clear h7 h8
                refine wpAnyH_take (i := 9) (oi := { dst := some 86, op := Op.move (Operand.tmp 95), type := 61, pos := "outright.go:146", after := #[{ on := 8, ground := Ground.data }], guard := none }) (v := ?v9ncb) rfl (by kernel_rfl) (by kernel_rfl) (by kernel_rfl) (fun _ _ _ h => h) (Or.inl ⟨by rfl, ?hy9ncb⟩) (by first | exact hS | assumption) ?rest9ncb
                case hy9ncb => (intro V2 hSw; (try dsimp only at hSw); go_simp; all_goals (with_reducible rfl))
                try simp only [Act.put, List.setIfInBounds_toArray, List.set_cons_zero, List.set_cons_succ]
                refine wpAnyH_take (i := 10) (oi := { dst := some 96, op := Op.extract (Operand.tmp 86) 0, type := 60, pos := "outright.go:146", after := #[{ on := 9, ground := Ground.data }], guard := none }) (v := ?v10ncb) rfl (by kernel_rfl) (by kernel_rfl) (by kernel_rfl) (fun _ _ _ h => h) (Or.inl ⟨by rfl, ?hy10ncb⟩) (by first | exact hS | assumption) ?rest10ncb
                case hy10ncb => (intro V2 hSw; (try dsimp only at hSw); go_simp; all_goals (with_reducible rfl))
                try simp only [Act.put, List.setIfInBounds_toArray, List.set_cons_zero, List.set_cons_succ]
                refine wpAnyH_take (i := 11) (oi := { dst := some 97, op := Op.extract (Operand.tmp 86) 1, type := 42, pos := "outright.go:146", after := #[{ on := 9, ground := Ground.data }, { on := 13, ground := Ground.gcOnly Departure.lateStores }], guard := none }) (v := ?v11ncb) rfl (by kernel_rfl) (by kernel_rfl) (by kernel_rfl) (fun _ _ _ h => h) (Or.inl ⟨by rfl, ?hy11ncb⟩) (by first | exact hS | assumption) ?rest11ncb
                case hy11ncb => (intro V2 hSw; (try dsimp only at hSw); go_simp; all_goals (with_reducible rfl))
                try simp only [Act.put, List.setIfInBounds_toArray, List.set_cons_zero, List.set_cons_succ]
                refine wpAnyH_ready (rs := [13]) (by kernel_rfl) (by simp) ?_
                refine AllReadyH.cons (o := { dst := none, op := Op.store 60 (Operand.tmp 15) (Operand.tmp 96), type := 0, pos := "outright.go:146", after := #[{ on := 12, ground := Ground.data }, { on := 10, ground := Ground.data }, { on := 8, ground := Ground.chain }, { on := 0, ground := Ground.phase }, { on := 1, ground := Ground.phase }, { on := 2, ground := Ground.phase }, { on := 3, ground := Ground.phase }, { on := 4, ground := Ground.phase }, { on := 5, ground := Ground.phase }, { on := 6, ground := Ground.phase }, { on := 7, ground := Ground.phase }, { on := 8, ground := Ground.phase }, { on := 9, ground := Ground.phase }, { on := 10, ground := Ground.phase }, { on := 11, ground := Ground.textOnly Departure.lateStores }, { on := 12, ground := Ground.phase }], guard := none }) rfl (fun K hK => ?_) AllReadyH.nil
                have hX := HXnc1.out
                have kI := hX.blk.1
                have q0 := kI.cell 0
                have q1 := kI.cell 1
                have q2 := kI.cell 2
                have q3 := kI.cell 3
                have q4 := kI.cell 4
                have q5 := kI.cell 5
                have q6 := kI.cell 6
                have q7 := kI.cell 7
                have q8 := kI.cell 8
                have q9 := kI.cell 9
                have q10 := kI.cell 10
                have q11 := kI.cell 11
                have q12 := kI.cell 12
                have q13 := kI.cell 13
                have q14 := kI.cell 14
                have qf0 := kI.frozen 0
                have qf1 := kI.frozen 1
                have qf2 := kI.frozen 2
                have qf3 := kI.frozen 3
                have qf4 := kI.frozen 4
                have qf5 := kI.frozen 5
                have qf6 := kI.frozen 6
                have qf7 := kI.frozen 7
                have qf8 := kI.frozen 8
                have qf9 := kI.frozen 9
                have qf10 := kI.frozen 10
                have qf11 := kI.frozen 11
                have qf12 := kI.frozen 12
                have qf13 := kI.frozen 13
                have qf14 := kI.frozen 14
                simp at q0 q1 q2 q3 q4 q5 q6 q7 q8 q9 q10 q11 q12 q13 q14
                (try simp at qf0 qf1 qf2 qf3 qf4 qf5 qf6 qf7 qf8 qf9 qf10 qf11 qf12 qf13 qf14)
                have hY := Has.all15 (v0 := .string F2.key) (v1 := .string F2.value) (v2 := .bool F2.is_) (v3 := .bool F2.own) (v4 := .int .i64 F2.sw) (v5 := .int .i64 F2.sl) (v6 := .int .i64 F2.it.id) (v7 := .int .i64 F2.it.ep) (v8 := .int .i64 F2.it.pr) (v9 := .string F2.it.an) (v10 := .int .i64 F2.it.sw) (v11 := .int .i64 F2.it.sl) (v12 := .int .i64 F2.it.bw) (v13 := .int .i64 F2.it.bl) (v14 := .slice A8 n8 c8) hX
                go_simp
                refine hK.out _ _ (hY.tail) (fun hS => ?_)
                clear hK K
                try simp only [Act.put, List.setIfInBounds_toArray, List.set_cons_zero, List.set_cons_succ]
                have HXnc2 := Lib.hid hY
                clear hY hX kI
                refine wpAnyH_take (i := 14) (oi := { dst := some 16, op := Op.assign (Operand.tmp 97), type := 42, pos := "outright.go:146", after := #[{ on := 11, ground := Ground.data }, { on := 13, ground := Ground.chain }, { on := 0, ground := Ground.phase }, { on := 1, ground := Ground.phase }, { on := 2, ground := Ground.phase }, { on := 3, ground := Ground.phase }, { on := 4, ground := Ground.phase }, { on := 5, ground := Ground.phase }, { on := 6, ground := Ground.phase }, { on := 7, ground := Ground.phase }, { on := 8, ground := Ground.phase }, { on := 9, ground := Ground.phase }, { on := 10, ground := Ground.phase }, { on := 11, ground := Ground.phase }, { on := 12, ground := Ground.phase }, { on := 13, ground := Ground.phase }], guard := none }) (v := ?v14ncb) rfl (by kernel_rfl) (by kernel_rfl) (by kernel_rfl) (fun _ _ _ h => h) (Or.inl ⟨by rfl, ?hy14ncb⟩) (by first | exact hS | assumption) ?rest14ncb
                case hy14ncb => (intro V2 hSw; (try dsimp only at hSw); go_simp; all_goals (with_reducible rfl))
                try simp only [Act.put, List.setIfInBounds_toArray, List.set_cons_zero, List.set_cons_succ]
                refine wpAnyH_done (by kernel_rfl) ?_ _
                (try go_wp2_with fail)
                go_meet
                exact ⟨_, _, _, _, rfl, rfl, Lib.hid HXnc2.out⟩
              case rest =>
                obtain ⟨gH, A8, n8, c8, rfl, rfl, HY2⟩ := hcut
                clear HY1 HG2
                rcases HST.out with hst | ⟨hst, ho2⟩
                · subst hst
                  clear HST
                  go_wp2_with fail
                  exact ⟨⟨k + 1, by omega, by go_num, Lib.hid HY2.out.tail.tail⟩, by simp [intOf]; omega⟩
                · subst hst
                  clear HST
                  simp only [Prod.mk.injEq] at ho2
                  obtain ⟨h21, h22⟩ := ho2
                  subst h22
                  have h23 := h21.symm
                  clear h21
                  subst h23
                  have zz := HY2.out.blkAt (g := gF) (t := 60) (cs := (fdc F1 (.slice A7 n7 c7))) (by simp)
                  have pf1 := zz.cell 1
                  have pf2 := zz.cell 2
                  have pf3 := zz.cell 3
                  have pf4 := zz.cell 4
                  have pf5 := zz.cell 5
                  simp at pf1 pf2 pf3 pf4 pf5
                  clear zz
                  have zz := HY2.out.blkAt (g := gH) (t := 60) (cs := (fdc F1 (.slice A8 n8 c8))) (by simp)
                  have ph1 := zz.cell 1
                  have ph2 := zz.cell 2
                  have ph3 := zz.cell 3
                  have ph4 := zz.cell 4
                  have ph5 := zz.cell 5
                  simp at ph1 ph2 ph3 ph4 ph5
                  clear zz
                  have HNE := run_neSt2 F1.sw F1.sl
                  go_wp2_with fail
                  exact ⟨⟨k + 1, by omega, by go_num, Lib.hid HY2.out.tail.tail⟩, by simp [intOf]; omega⟩
          · have ht2 : Op.bytesLess kq.toList t.toList = false := by simpa using ht
            clear ht
            go_wp2_with fail
            go_region
            all_goals go_wp2_with fail
            exact ⟨⟨k + 1, by omega, by go_num, Lib.hid H3.out.drew⟩, by simp [intOf]; omega⟩
      · obtain rfl : k = 4 := by omega
        have HF := H3
        go_wp2_with fail
        refine (awake14 _ (hM.below HF.out.bel)).mono ?_
        rintro e w99 ⟨rfl, hb99⟩
        have hfin := (HF.out.keep hb99).bel
        clear hb99
        go_wp2_with fail
        go_ret
        exact ⟨rfl, hfin⟩
theorem settleStays_walk (A : Option Addr) (n c : Nat) (l : List Th) (key f t : ByteArray) (q : Int) (x : Rc) (A1 : Option Addr) (n1 c1 : Nat) (y : Tx) (m1 m2 l1 l2 : Int) (w : World) (hx : ThAt w A n l) (hz : ∀ x ∈ l, TSz x) (hn : n ≤ 9223372036854775807) (hw : WtAt w A1 n1 x.l) (hn1 : n1 ≤ 9223372036854775807) (hks : key.size ≤ 140737488351232) (hfs : f.size ≤ 140737488351232) (hts : t.size ≤ 140737488351232) (hM : MaxL w) :
    Calls Tryz.prog 5 #[.slice A n c, .agg (askw key f t q x (.slice A1 n1 c1) y m1 m2 l1 l2)] w fun e w' => e = .returned (.bool true) ∧ Below w.heap.size w w' := by
  obtain ⟨o, ho⟩ : ∃ o, refC (tabP l) f t y (m1, m2) (l1, l2) = o := ⟨_, rfl⟩
  obtain ⟨y0, k⟩ := o
  by_cases hk : k = 0
  · subst hk
    exact stays_yes A n c l key f t q x A1 n1 c1 y m1 m2 l1 l2 w hx hz hn hw hn1 hks hfs hts hM y0 ho
  · exact stays_no A n c l key f t q x A1 n1 c1 y m1 m2 l1 l2 w hx hz hn hw hn1 hks hfs hts hM y0 k hk ho
end Go.Proofs.YtldbmogondmgmaaGreatDoor
