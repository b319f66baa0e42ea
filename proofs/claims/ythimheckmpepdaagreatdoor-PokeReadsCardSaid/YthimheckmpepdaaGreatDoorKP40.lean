/-
  PokeReads, walked (written by wip/genpord.py).
-/
import Derived.Test.YthimheckmpepdaaGreatDoorKP38
import Derived.Test.YthimheckmpepdaaGreatDoorKP39
import Derived.Deep.MidRow
set_option linter.unusedVariables false
set_option linter.unusedSimpArgs false
set_option maxRecDepth 100000
namespace Go.Proofs.YthimheckmpepdaaGreatDoor
open Go.RowKit

theorem ask_ldx {W : World} {g : Nat} {key : ByteArray} {q : Int} {s : ByteArray} {d : Bool} {x : Tx} {m1 m2 : Int} (hB : Blk W g 30 (askc key q s d x m1 m2)) :
    W.rangeAt g 4 (txc x).toList := by
    intro j v hv
    have hj : j < 12 := by
      have := (List.getElem?_eq_some_iff.mp hv).1
      simpa using this
    rw [hB.cell]
    have : j = 0 ∨ j = 1 ∨ j = 2 ∨ j = 3 ∨ j = 4 ∨ j = 5 ∨ j = 6 ∨ j = 7 ∨ j = 8 ∨ j = 9 ∨ j = 10 ∨ j = 11 := by omega
    rcases this with rfl | rfl | rfl | rfl | rfl | rfl | rfl | rfl | rfl | rfl | rfl | rfl <;> exact hv
set_option maxHeartbeats 16000000 in
theorem pokeReads_walk (A : Option Addr) (n c : Nat) (l : List Th) (key : ByteArray) (q : Int) (s : ByteArray) (d : Bool) (x : Tx) (m1 m2 : Int) (w : World) (hx : ThAt w A n l) (hz : ∀ y ∈ l, TSz y) (hn : n ≤ 9223372036854775807) (hks : key.size ≤ 140737488351232) (hM : MaxL w) :
    Calls Tryz.prog 3 #[.slice A n c, .agg (askc key q s d x m1 m2)] w fun e w' => e = .returned (.bool true) ∧ Below w.heap.size w w' := by
  have H0 := Lib.hid ((Has.nil (Below.refl w.heap.size w)).newBlk 30 (askc key q s d x m1 m2))
  have HX := Lib.hid hx
  have HZ := Lib.hid hz
  clear hx hz
  obtain ⟨r, hr⟩ : ∃ r, tabP l = r := ⟨_, rfl⟩
  have HRO := Lib.hid (show ROk 7680 r from hr ▸ tabP_ok HZ.out)
  have HTB := Lib.hid (fun (W : World) (hb : Below w.heap.size w W) => tables13_c A n c l W (HX.out.below hb) hn HZ.out)
  rw [hr] at HTB
  clear hr
  obtain ⟨o, hp⟩ : ∃ o, pputC r key ⟨q, s, d⟩ x (m1, m2) = o := ⟨_, rfl⟩
  obtain ⟨dd, kk⟩ := o
  have HP1 := Lib.hid (fun (T2 : List As) (p : Nat) {W : World} (hh : Has w (tbA p r :: T2) W) => put13_c hh HRO.out (by decide) hM key q s d x m1 m2 (dd, kk) hp)
  by_cases hk : kk = 0
  · subst hk
    have HRO2 := Lib.hid (HRO.out.app (opsD_sz hp))
    have HP2 := Lib.hid (fun (T2 : List As) (p : Nat) (W : World) (hh : Has w (tbA p (rapp r (opsD key dd)) :: T2) W) => put13_c hh HRO2.out (by decide) hM key q s d x m1 m2 (⟨none, dd.a, dd.b, zI⟩, 0) (pput_again HRO.out.sor hp (m1, m2) rfl))
    have HG0 := Lib.hid (fun (T2 : List As) (p : Nat) (W : World) (hh : Has w (tbA p (rapp r (opsD key dd)) :: T2) W) => pkGet hh HRO2.out (by decide) hM key (by omega) x 0 0)
    by_cases hrd : x.rw = 0 ∧ x.rl = 0
    · have HG := HG0
      rw [pput_old hp hrd] at HG
      obtain ⟨nl, hnl⟩ : ∃ nl, (opsD key dd).length = nl := ⟨_, rfl⟩
      have HLN := Lib.hid hnl
      obtain ⟨x0, x1, x2, x3, x4, x5, x6, x7, x8, x9, x10, x11⟩ := x
      simp only at hrd
      obtain ⟨rfl, rfl⟩ := hrd
      clear hp hnl HG0
      go_enter Tryz.func3, Tryz.ntmps3
      go_wp2_with fail
      refine (HTB.out _ H0.out.bel).mono ?_
      rintro e w1 ⟨p, b, rfl, h1⟩
      have H1 := Lib.hid (show Has w (tbA p r :: rtA b r :: blkA w.heap.size 30 (askc key q s d ⟨x0, x1, x2, x3, 0, 0, x6, x7, x8, x9, x10, x11⟩ m1 m2) :: []) w1 from H0.out.join h1)
      have b3 := H1.out.blkAt (g := w.heap.size) (t := 30) (cs := (askc key q s d ⟨x0, x1, x2, x3, 0, 0, x6, x7, x8, x9, x10, x11⟩ m1 m2)) (by simp)
      have hld := Lib.hid b3
      clear h1 b3
      go_wp2_with (refine wpList_load_row rfl 30 _ rfl w.heap.size rfl 30 (askc key q s d ⟨x0, x1, x2, x3, 0, 0, x6, x7, x8, x9, x10, x11⟩ m1 m2) (0, 0) _ hld.out Tryz.underlying30 rfl (by kernel_rfl) ?_)
      clear hld
      refine (HP1.out _ _ H1.out).mono ?_
      rintro e w2 ⟨qt, AL, nL, cL, A1, n1, c1, rfl, hnL, h2⟩
      clear hnL
      rw [if_pos rfl] at h2
      have h3 := h2.newBlk 40 (dnc dd (.slice AL nL cL) (.slice A1 n1 c1))
      have b3 := h3.blkAt (g := w.heap.size) (t := 30) (cs := (askc key q s d ⟨x0, x1, x2, x3, 0, 0, x6, x7, x8, x9, x10, x11⟩ m1 m2)) (by simp)
      have hlk := b3.cell 0
      simp at hlk
      have hlx := Lib.hid (ask_ldx b3)
      have H3 := Lib.hid h3.swap
      clear h2 h3 b3
      go_wp2_with (refine wpList_load_mid rfl 28 _ rfl w.heap.size 4 rfl _ _ hlx.out Tryz.underlying28 rfl (by kernel_rfl) ?_)
      clear hlk hlx
      refine (HG.out _ _ _ H3.out).mono ?_
      rintro e w3 ⟨⟨A9, n9, c9, rfl, -, -⟩, h4⟩
      have h5 := h4.newBlk 46 (fdc zF (.slice A9 n9 c9))
      have b3 := h5.blkAt (g := w.heap.size) (t := 30) (cs := (askc key q s d ⟨x0, x1, x2, x3, 0, 0, x6, x7, x8, x9, x10, x11⟩ m1 m2)) (by simp)
      have hld := Lib.hid b3
      have H5 := Lib.hid h5.swap
      clear h4 h5 b3
      go_wp2_with (refine wpList_load_row rfl 30 _ rfl w.heap.size rfl 30 (askc key q s d ⟨x0, x1, x2, x3, 0, 0, x6, x7, x8, x9, x10, x11⟩ m1 m2) (0, 0) _ hld.out Tryz.underlying30 rfl (by kernel_rfl) ?_)
      clear hld
      refine (HP2.out _ _ _ H5.out).mono ?_
      rintro e w4 ⟨qt2, AL2, nL2, cL2, A2, n2, c2, rfl, hnL2, h6⟩
      have hnL0 : nL2 = 0 := hnL2
      clear hnL2
      subst hnL0
      have h7 := h6.newBlk 40 (dnc ⟨none, dd.a, dd.b, zI⟩ (.slice AL2 0 cL2) (.slice A2 n2 c2))
      have b3 := h7.blkAt (g := w.heap.size) (t := 30) (cs := (askc key q s d ⟨x0, x1, x2, x3, 0, 0, x6, x7, x8, x9, x10, x11⟩ m1 m2)) (by simp)
      have b13 := h7.blk.1
      have b10 := h7.blkAt (g := w3.heap.size) (t := 46) (cs := (fdc zF (.slice A9 n9 c9))) (by simp)
      have b8 := h7.blkAt (g := w2.heap.size) (t := 40) (cs := (dnc dd (.slice AL nL cL) (.slice A1 n1 c1))) (by simp)
      have a2 := b3.cell 2
      have a3 := b3.cell 3
      have a8 := b3.cell 8
      have a9 := b3.cell 9
      simp at a2 a3 a8 a9
      have u0 := b13.cell 0
      have u1 := b13.cell 1
      have u2 := b13.cell 2
      simp at u0 u1 u2
      have v1 := b10.cell 1
      have v2 := b10.cell 2
      have v3 := b10.cell 3
      have v4 := b10.cell 4
      have v5 := b10.cell 5
      simp at v1 v2 v3 v4 v5
      have z0 := b8.cell 0
      have z1 := b8.cell 1
      have z2 := b8.cell 2
      simp at z0 z1 z2
      have HF := Lib.hid h7
      clear h6 h7 b3 b13 b10 b8
      go_wp2_with fail
      refine (awake13 _ (hM.below HF.out.bel)).mono ?_
      rintro e w9 ⟨rfl, hb9⟩
      have hfin := (HF.out.keep hb9).bel
      clear hb9
      go_wp2_with fail
      go_ret
      exact ⟨rfl, hfin⟩
    · obtain ⟨v, i, hv1, hv2⟩ := pput_reads HRO.out.sor hp hrd
      have HG := HG0
      rw [hv1] at HG
      clear HG0 hv1
      cases hd : dd.o with
      | none =>
        have HLN := Lib.hid (show (opsD key dd).length = 0 by unfold opsD; rw [hd]; rfl)
        clear hv2 hd hp
        obtain ⟨x0, x1, x2, x3, x4, x5, x6, x7, x8, x9, x10, x11⟩ := x
        simp only at hrd
        by_cases h4 : x4 = 0
        · subst h4
          have hn5 : (x5 == 0) = false := by simpa using hrd
          go_enter Tryz.func3, Tryz.ntmps3
          go_wp2_with fail
          refine (HTB.out _ H0.out.bel).mono ?_
          rintro e w1 ⟨p, b, rfl, h1⟩
          have H1 := Lib.hid (show Has w (tbA p r :: rtA b r :: blkA w.heap.size 30 (askc key q s d ⟨x0, x1, x2, x3, 0, x5, x6, x7, x8, x9, x10, x11⟩ m1 m2) :: []) w1 from H0.out.join h1)
          have b3 := H1.out.blkAt (g := w.heap.size) (t := 30) (cs := (askc key q s d ⟨x0, x1, x2, x3, 0, x5, x6, x7, x8, x9, x10, x11⟩ m1 m2)) (by simp)
          have hld := Lib.hid b3
          clear h1 b3
          go_wp2_with (refine wpList_load_row rfl 30 _ rfl w.heap.size rfl 30 (askc key q s d ⟨x0, x1, x2, x3, 0, x5, x6, x7, x8, x9, x10, x11⟩ m1 m2) (0, 0) _ hld.out Tryz.underlying30 rfl (by kernel_rfl) ?_)
          clear hld
          refine (HP1.out _ _ H1.out).mono ?_
          rintro e w2 ⟨qt, AL, nL, cL, A1, n1, c1, rfl, hnL, h2⟩
          have hnL0 : nL = 0 := hnL.trans HLN.out
          clear hnL
          subst hnL0
          rw [if_pos rfl] at h2
          have h3 := h2.newBlk 40 (dnc dd (.slice AL 0 cL) (.slice A1 n1 c1))
          have b3 := h3.blkAt (g := w.heap.size) (t := 30) (cs := (askc key q s d ⟨x0, x1, x2, x3, 0, x5, x6, x7, x8, x9, x10, x11⟩ m1 m2)) (by simp)
          have hlk := b3.cell 0
          simp at hlk
          have hlx := Lib.hid (ask_ldx b3)
          have H3 := Lib.hid h3.swap
          clear h2 h3 b3
          go_wp2_with (refine wpList_load_mid rfl 28 _ rfl w.heap.size 4 rfl _ _ hlx.out Tryz.underlying28 rfl (by kernel_rfl) ?_)
          clear hlk hlx
          refine (HG.out _ _ _ H3.out).mono ?_
          rintro e w3 ⟨⟨A9, n9, c9, rfl, -, -⟩, h4⟩
          have h5 := h4.newBlk 46 (fdc ⟨key, v, i, true, dd.a, dd.b, zI⟩ (.slice A9 n9 c9))
          have b3 := h5.blkAt (g := w.heap.size) (t := 30) (cs := (askc key q s d ⟨x0, x1, x2, x3, 0, x5, x6, x7, x8, x9, x10, x11⟩ m1 m2)) (by simp)
          have hld := Lib.hid b3
          have H5 := Lib.hid h5.swap
          clear h4 h5 b3
          go_wp2_with (refine wpList_load_row rfl 30 _ rfl w.heap.size rfl 30 (askc key q s d ⟨x0, x1, x2, x3, 0, x5, x6, x7, x8, x9, x10, x11⟩ m1 m2) (0, 0) _ hld.out Tryz.underlying30 rfl (by kernel_rfl) ?_)
          clear hld
          refine (HP2.out _ _ _ H5.out).mono ?_
          rintro e w4 ⟨qt2, AL2, nL2, cL2, A2, n2, c2, rfl, hnL2, h6⟩
          have hnL0 : nL2 = 0 := hnL2
          clear hnL2
          subst hnL0
          have h7 := h6.newBlk 40 (dnc ⟨none, dd.a, dd.b, zI⟩ (.slice AL2 0 cL2) (.slice A2 n2 c2))
          have b3 := h7.blkAt (g := w.heap.size) (t := 30) (cs := (askc key q s d ⟨x0, x1, x2, x3, 0, x5, x6, x7, x8, x9, x10, x11⟩ m1 m2)) (by simp)
          have b13 := h7.blk.1
          have b10 := h7.blkAt (g := w3.heap.size) (t := 46) (cs := (fdc ⟨key, v, i, true, dd.a, dd.b, zI⟩ (.slice A9 n9 c9))) (by simp)
          have b8 := h7.blkAt (g := w2.heap.size) (t := 40) (cs := (dnc dd (.slice AL 0 cL) (.slice A1 n1 c1))) (by simp)
          have a2 := b3.cell 2
          have a3 := b3.cell 3
          have a8 := b3.cell 8
          have a9 := b3.cell 9
          simp at a2 a3 a8 a9
          have u0 := b13.cell 0
          have u1 := b13.cell 1
          have u2 := b13.cell 2
          simp at u0 u1 u2
          have v1 := b10.cell 1
          have v2 := b10.cell 2
          have v3 := b10.cell 3
          have v4 := b10.cell 4
          have v5 := b10.cell 5
          simp at v1 v2 v3 v4 v5
          have z0 := b8.cell 0
          have z1 := b8.cell 1
          have z2 := b8.cell 2
          simp at z0 z1 z2
          have HF := Lib.hid h7
          clear h6 h7 b3 b13 b10 b8
          go_wp2_with fail
          refine (awake13 _ (hM.below HF.out.bel)).mono ?_
          rintro e w9 ⟨rfl, hb9⟩
          have hfin := (HF.out.keep hb9).bel
          clear hb9
          go_wp2_with fail
          go_ret
          exact ⟨rfl, hfin⟩
        · have hn4 : (x4 == 0) = false := by simpa using h4
          go_enter Tryz.func3, Tryz.ntmps3
          go_wp2_with fail
          refine (HTB.out _ H0.out.bel).mono ?_
          rintro e w1 ⟨p, b, rfl, h1⟩
          have H1 := Lib.hid (show Has w (tbA p r :: rtA b r :: blkA w.heap.size 30 (askc key q s d ⟨x0, x1, x2, x3, x4, x5, x6, x7, x8, x9, x10, x11⟩ m1 m2) :: []) w1 from H0.out.join h1)
          have b3 := H1.out.blkAt (g := w.heap.size) (t := 30) (cs := (askc key q s d ⟨x0, x1, x2, x3, x4, x5, x6, x7, x8, x9, x10, x11⟩ m1 m2)) (by simp)
          have hld := Lib.hid b3
          clear h1 b3
          go_wp2_with (refine wpList_load_row rfl 30 _ rfl w.heap.size rfl 30 (askc key q s d ⟨x0, x1, x2, x3, x4, x5, x6, x7, x8, x9, x10, x11⟩ m1 m2) (0, 0) _ hld.out Tryz.underlying30 rfl (by kernel_rfl) ?_)
          clear hld
          refine (HP1.out _ _ H1.out).mono ?_
          rintro e w2 ⟨qt, AL, nL, cL, A1, n1, c1, rfl, hnL, h2⟩
          have hnL0 : nL = 0 := hnL.trans HLN.out
          clear hnL
          subst hnL0
          rw [if_pos rfl] at h2
          have h3 := h2.newBlk 40 (dnc dd (.slice AL 0 cL) (.slice A1 n1 c1))
          have b3 := h3.blkAt (g := w.heap.size) (t := 30) (cs := (askc key q s d ⟨x0, x1, x2, x3, x4, x5, x6, x7, x8, x9, x10, x11⟩ m1 m2)) (by simp)
          have hlk := b3.cell 0
          simp at hlk
          have hlx := Lib.hid (ask_ldx b3)
          have H3 := Lib.hid h3.swap
          clear h2 h3 b3
          go_wp2_with (refine wpList_load_mid rfl 28 _ rfl w.heap.size 4 rfl _ _ hlx.out Tryz.underlying28 rfl (by kernel_rfl) ?_)
          clear hlk hlx
          refine (HG.out _ _ _ H3.out).mono ?_
          rintro e w3 ⟨⟨A9, n9, c9, rfl, -, -⟩, h4⟩
          have h5 := h4.newBlk 46 (fdc ⟨key, v, i, true, dd.a, dd.b, zI⟩ (.slice A9 n9 c9))
          have b3 := h5.blkAt (g := w.heap.size) (t := 30) (cs := (askc key q s d ⟨x0, x1, x2, x3, x4, x5, x6, x7, x8, x9, x10, x11⟩ m1 m2)) (by simp)
          have hld := Lib.hid b3
          have H5 := Lib.hid h5.swap
          clear h4 h5 b3
          go_wp2_with (refine wpList_load_row rfl 30 _ rfl w.heap.size rfl 30 (askc key q s d ⟨x0, x1, x2, x3, x4, x5, x6, x7, x8, x9, x10, x11⟩ m1 m2) (0, 0) _ hld.out Tryz.underlying30 rfl (by kernel_rfl) ?_)
          clear hld
          refine (HP2.out _ _ _ H5.out).mono ?_
          rintro e w4 ⟨qt2, AL2, nL2, cL2, A2, n2, c2, rfl, hnL2, h6⟩
          have hnL0 : nL2 = 0 := hnL2
          clear hnL2
          subst hnL0
          have h7 := h6.newBlk 40 (dnc ⟨none, dd.a, dd.b, zI⟩ (.slice AL2 0 cL2) (.slice A2 n2 c2))
          have b3 := h7.blkAt (g := w.heap.size) (t := 30) (cs := (askc key q s d ⟨x0, x1, x2, x3, x4, x5, x6, x7, x8, x9, x10, x11⟩ m1 m2)) (by simp)
          have b13 := h7.blk.1
          have b10 := h7.blkAt (g := w3.heap.size) (t := 46) (cs := (fdc ⟨key, v, i, true, dd.a, dd.b, zI⟩ (.slice A9 n9 c9))) (by simp)
          have b8 := h7.blkAt (g := w2.heap.size) (t := 40) (cs := (dnc dd (.slice AL 0 cL) (.slice A1 n1 c1))) (by simp)
          have a2 := b3.cell 2
          have a3 := b3.cell 3
          have a8 := b3.cell 8
          have a9 := b3.cell 9
          simp at a2 a3 a8 a9
          have u0 := b13.cell 0
          have u1 := b13.cell 1
          have u2 := b13.cell 2
          simp at u0 u1 u2
          have v1 := b10.cell 1
          have v2 := b10.cell 2
          have v3 := b10.cell 3
          have v4 := b10.cell 4
          have v5 := b10.cell 5
          simp at v1 v2 v3 v4 v5
          have z0 := b8.cell 0
          have z1 := b8.cell 1
          have z2 := b8.cell 2
          simp at z0 z1 z2
          have HF := Lib.hid h7
          clear h6 h7 b3 b13 b10 b8
          go_wp2_with fail
          refine (awake13 _ (hM.below HF.out.bel)).mono ?_
          rintro e w9 ⟨rfl, hb9⟩
          have hfin := (HF.out.keep hb9).bel
          clear hb9
          go_wp2_with fail
          go_ret
          exact ⟨rfl, hfin⟩
      | some y =>
        have HLN := Lib.hid (show (opsD key dd).length = 1 by unfold opsD; rw [hd]; rfl)
        obtain ⟨hv3, hv4⟩ := hv2 (by rw [hd]; simp)
        rw [hv3, hv4] at HG
        clear hv3 hv4
        have hse := text_eq s
        clear hv2 hd hp
        obtain ⟨x0, x1, x2, x3, x4, x5, x6, x7, x8, x9, x10, x11⟩ := x
        simp only at hrd
        by_cases h4 : x4 = 0
        · subst h4
          have hn5 : (x5 == 0) = false := by simpa using hrd
          go_enter Tryz.func3, Tryz.ntmps3
          go_wp2_with fail
          refine (HTB.out _ H0.out.bel).mono ?_
          rintro e w1 ⟨p, b, rfl, h1⟩
          have H1 := Lib.hid (show Has w (tbA p r :: rtA b r :: blkA w.heap.size 30 (askc key q s d ⟨x0, x1, x2, x3, 0, x5, x6, x7, x8, x9, x10, x11⟩ m1 m2) :: []) w1 from H0.out.join h1)
          have b3 := H1.out.blkAt (g := w.heap.size) (t := 30) (cs := (askc key q s d ⟨x0, x1, x2, x3, 0, x5, x6, x7, x8, x9, x10, x11⟩ m1 m2)) (by simp)
          have hld := Lib.hid b3
          clear h1 b3
          go_wp2_with (refine wpList_load_row rfl 30 _ rfl w.heap.size rfl 30 (askc key q s d ⟨x0, x1, x2, x3, 0, x5, x6, x7, x8, x9, x10, x11⟩ m1 m2) (0, 0) _ hld.out Tryz.underlying30 rfl (by kernel_rfl) ?_)
          clear hld
          refine (HP1.out _ _ H1.out).mono ?_
          rintro e w2 ⟨qt, AL, nL, cL, A1, n1, c1, rfl, hnL, h2⟩
          have hnL0 : nL = 1 := hnL.trans HLN.out
          clear hnL
          subst hnL0
          rw [if_pos rfl] at h2
          have h3 := h2.newBlk 40 (dnc dd (.slice AL 1 cL) (.slice A1 n1 c1))
          have b3 := h3.blkAt (g := w.heap.size) (t := 30) (cs := (askc key q s d ⟨x0, x1, x2, x3, 0, x5, x6, x7, x8, x9, x10, x11⟩ m1 m2)) (by simp)
          have hlk := b3.cell 0
          simp at hlk
          have hlx := Lib.hid (ask_ldx b3)
          have H3 := Lib.hid h3.swap
          clear h2 h3 b3
          go_wp2_with (refine wpList_load_mid rfl 28 _ rfl w.heap.size 4 rfl _ _ hlx.out Tryz.underlying28 rfl (by kernel_rfl) ?_)
          clear hlk hlx
          refine (HG.out _ _ _ H3.out).mono ?_
          rintro e w3 ⟨⟨A9, n9, c9, rfl, -, -⟩, h4⟩
          have h5 := h4.newBlk 46 (fdc ⟨key, s, !d, true, dd.a, dd.b, zI⟩ (.slice A9 n9 c9))
          have b3 := h5.blkAt (g := w.heap.size) (t := 30) (cs := (askc key q s d ⟨x0, x1, x2, x3, 0, x5, x6, x7, x8, x9, x10, x11⟩ m1 m2)) (by simp)
          have hld := Lib.hid b3
          have H5 := Lib.hid h5.swap
          clear h4 h5 b3
          go_wp2_with (refine wpList_load_row rfl 30 _ rfl w.heap.size rfl 30 (askc key q s d ⟨x0, x1, x2, x3, 0, x5, x6, x7, x8, x9, x10, x11⟩ m1 m2) (0, 0) _ hld.out Tryz.underlying30 rfl (by kernel_rfl) ?_)
          clear hld
          refine (HP2.out _ _ _ H5.out).mono ?_
          rintro e w4 ⟨qt2, AL2, nL2, cL2, A2, n2, c2, rfl, hnL2, h6⟩
          have hnL0 : nL2 = 0 := hnL2
          clear hnL2
          subst hnL0
          have h7 := h6.newBlk 40 (dnc ⟨none, dd.a, dd.b, zI⟩ (.slice AL2 0 cL2) (.slice A2 n2 c2))
          have b3 := h7.blkAt (g := w.heap.size) (t := 30) (cs := (askc key q s d ⟨x0, x1, x2, x3, 0, x5, x6, x7, x8, x9, x10, x11⟩ m1 m2)) (by simp)
          have b13 := h7.blk.1
          have b10 := h7.blkAt (g := w3.heap.size) (t := 46) (cs := (fdc ⟨key, s, !d, true, dd.a, dd.b, zI⟩ (.slice A9 n9 c9))) (by simp)
          have b8 := h7.blkAt (g := w2.heap.size) (t := 40) (cs := (dnc dd (.slice AL 1 cL) (.slice A1 n1 c1))) (by simp)
          have a2 := b3.cell 2
          have a3 := b3.cell 3
          have a8 := b3.cell 8
          have a9 := b3.cell 9
          simp at a2 a3 a8 a9
          have u0 := b13.cell 0
          have u1 := b13.cell 1
          have u2 := b13.cell 2
          simp at u0 u1 u2
          have v1 := b10.cell 1
          have v2 := b10.cell 2
          have v3 := b10.cell 3
          have v4 := b10.cell 4
          have v5 := b10.cell 5
          simp at v1 v2 v3 v4 v5
          have z0 := b8.cell 0
          have z1 := b8.cell 1
          have z2 := b8.cell 2
          simp at z0 z1 z2
          have HF := Lib.hid h7
          clear h6 h7 b3 b13 b10 b8
          go_wp2_with fail
          refine (awake13 _ (hM.below HF.out.bel)).mono ?_
          rintro e w9 ⟨rfl, hb9⟩
          have hfin := (HF.out.keep hb9).bel
          clear hb9
          go_wp2_with fail
          go_ret
          exact ⟨rfl, hfin⟩
        · have hn4 : (x4 == 0) = false := by simpa using h4
          go_enter Tryz.func3, Tryz.ntmps3
          go_wp2_with fail
          refine (HTB.out _ H0.out.bel).mono ?_
          rintro e w1 ⟨p, b, rfl, h1⟩
          have H1 := Lib.hid (show Has w (tbA p r :: rtA b r :: blkA w.heap.size 30 (askc key q s d ⟨x0, x1, x2, x3, x4, x5, x6, x7, x8, x9, x10, x11⟩ m1 m2) :: []) w1 from H0.out.join h1)
          have b3 := H1.out.blkAt (g := w.heap.size) (t := 30) (cs := (askc key q s d ⟨x0, x1, x2, x3, x4, x5, x6, x7, x8, x9, x10, x11⟩ m1 m2)) (by simp)
          have hld := Lib.hid b3
          clear h1 b3
          go_wp2_with (refine wpList_load_row rfl 30 _ rfl w.heap.size rfl 30 (askc key q s d ⟨x0, x1, x2, x3, x4, x5, x6, x7, x8, x9, x10, x11⟩ m1 m2) (0, 0) _ hld.out Tryz.underlying30 rfl (by kernel_rfl) ?_)
          clear hld
          refine (HP1.out _ _ H1.out).mono ?_
          rintro e w2 ⟨qt, AL, nL, cL, A1, n1, c1, rfl, hnL, h2⟩
          have hnL0 : nL = 1 := hnL.trans HLN.out
          clear hnL
          subst hnL0
          rw [if_pos rfl] at h2
          have h3 := h2.newBlk 40 (dnc dd (.slice AL 1 cL) (.slice A1 n1 c1))
          have b3 := h3.blkAt (g := w.heap.size) (t := 30) (cs := (askc key q s d ⟨x0, x1, x2, x3, x4, x5, x6, x7, x8, x9, x10, x11⟩ m1 m2)) (by simp)
          have hlk := b3.cell 0
          simp at hlk
          have hlx := Lib.hid (ask_ldx b3)
          have H3 := Lib.hid h3.swap
          clear h2 h3 b3
          go_wp2_with (refine wpList_load_mid rfl 28 _ rfl w.heap.size 4 rfl _ _ hlx.out Tryz.underlying28 rfl (by kernel_rfl) ?_)
          clear hlk hlx
          refine (HG.out _ _ _ H3.out).mono ?_
          rintro e w3 ⟨⟨A9, n9, c9, rfl, -, -⟩, h4⟩
          have h5 := h4.newBlk 46 (fdc ⟨key, s, !d, true, dd.a, dd.b, zI⟩ (.slice A9 n9 c9))
          have b3 := h5.blkAt (g := w.heap.size) (t := 30) (cs := (askc key q s d ⟨x0, x1, x2, x3, x4, x5, x6, x7, x8, x9, x10, x11⟩ m1 m2)) (by simp)
          have hld := Lib.hid b3
          have H5 := Lib.hid h5.swap
          clear h4 h5 b3
          go_wp2_with (refine wpList_load_row rfl 30 _ rfl w.heap.size rfl 30 (askc key q s d ⟨x0, x1, x2, x3, x4, x5, x6, x7, x8, x9, x10, x11⟩ m1 m2) (0, 0) _ hld.out Tryz.underlying30 rfl (by kernel_rfl) ?_)
          clear hld
          refine (HP2.out _ _ _ H5.out).mono ?_
          rintro e w4 ⟨qt2, AL2, nL2, cL2, A2, n2, c2, rfl, hnL2, h6⟩
          have hnL0 : nL2 = 0 := hnL2
          clear hnL2
          subst hnL0
          have h7 := h6.newBlk 40 (dnc ⟨none, dd.a, dd.b, zI⟩ (.slice AL2 0 cL2) (.slice A2 n2 c2))
          have b3 := h7.blkAt (g := w.heap.size) (t := 30) (cs := (askc key q s d ⟨x0, x1, x2, x3, x4, x5, x6, x7, x8, x9, x10, x11⟩ m1 m2)) (by simp)
          have b13 := h7.blk.1
          have b10 := h7.blkAt (g := w3.heap.size) (t := 46) (cs := (fdc ⟨key, s, !d, true, dd.a, dd.b, zI⟩ (.slice A9 n9 c9))) (by simp)
          have b8 := h7.blkAt (g := w2.heap.size) (t := 40) (cs := (dnc dd (.slice AL 1 cL) (.slice A1 n1 c1))) (by simp)
          have a2 := b3.cell 2
          have a3 := b3.cell 3
          have a8 := b3.cell 8
          have a9 := b3.cell 9
          simp at a2 a3 a8 a9
          have u0 := b13.cell 0
          have u1 := b13.cell 1
          have u2 := b13.cell 2
          simp at u0 u1 u2
          have v1 := b10.cell 1
          have v2 := b10.cell 2
          have v3 := b10.cell 3
          have v4 := b10.cell 4
          have v5 := b10.cell 5
          simp at v1 v2 v3 v4 v5
          have z0 := b8.cell 0
          have z1 := b8.cell 1
          have z2 := b8.cell 2
          simp at z0 z1 z2
          have HF := Lib.hid h7
          clear h6 h7 b3 b13 b10 b8
          go_wp2_with fail
          refine (awake13 _ (hM.below HF.out.bel)).mono ?_
          rintro e w9 ⟨rfl, hb9⟩
          have hfin := (HF.out.keep hb9).bel
          clear hb9
          go_wp2_with fail
          go_ret
          exact ⟨rfl, hfin⟩
  · have HL0 := Lib.hid (show opsD key dd = [] by unfold opsD; rw [pput_err hp hk])
    have hk2 : (kk == 0) = false := by simpa using hk
    clear hp
    obtain ⟨x0, x1, x2, x3, x4, x5, x6, x7, x8, x9, x10, x11⟩ := x
    go_enter Tryz.func3, Tryz.ntmps3
    go_wp2_with fail
    refine (HTB.out _ H0.out.bel).mono ?_
    rintro e w1 ⟨p, b, rfl, h1⟩
    have H1 := Lib.hid (show Has w (tbA p r :: rtA b r :: blkA w.heap.size 30 (askc key q s d ⟨x0, x1, x2, x3, x4, x5, x6, x7, x8, x9, x10, x11⟩ m1 m2) :: []) w1 from H0.out.join h1)
    have b3 := H1.out.blkAt (g := w.heap.size) (t := 30) (cs := (askc key q s d ⟨x0, x1, x2, x3, x4, x5, x6, x7, x8, x9, x10, x11⟩ m1 m2)) (by simp)
    have hld := Lib.hid b3
    clear h1 b3
    go_wp2_with (refine wpList_load_row rfl 30 _ rfl w.heap.size rfl 30 (askc key q s d ⟨x0, x1, x2, x3, x4, x5, x6, x7, x8, x9, x10, x11⟩ m1 m2) (0, 0) _ hld.out Tryz.underlying30 rfl (by kernel_rfl) ?_)
    clear hld
    refine (HP1.out _ _ H1.out).mono ?_
    rintro e w2 ⟨qt, AL, nL, cL, A1, n1, c1, rfl, hnL, h2⟩
    have hnL0 : nL = 0 := hnL.trans (by rw [HL0.out]; rfl)
    clear hnL
    subst hnL0
    rw [if_neg hk] at h2
    have h3 := h2.newBlk 40 (dnc dd (.slice AL 0 cL) (.slice A1 n1 c1))
    have b8 := h3.blk.1
    have e0 := b8.cell 0
    simp at e0
    have HF := Lib.hid h3
    clear h2 h3 b8
    go_wp2_with fail
    refine (awake13 _ (hM.below HF.out.bel)).mono ?_
    rintro e w9 ⟨rfl, hb9⟩
    have hfin := (HF.out.keep hb9).bel
    clear hb9
    go_wp2_with fail
    go_ret
    exact ⟨rfl, hfin⟩
end Go.Proofs.YthimheckmpepdaaGreatDoor
