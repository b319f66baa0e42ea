/-
  Layer 12, the document's answers: a key's intent (written by wip/genpkrint.py).
  SettleOnce, walked: A (written by wip/gensel.py).
  SettleOnce, walked: B (written by wip/gensel.py).
  SettleOnce, walked: C (written by wip/gensel.py).
  SettleOnce, walked: D (written by wip/gensel.py).
  SettleOnce, walked: E (written by wip/gensel.py).
-/
import Derived.Test.YthimheckmpepdaaGreatDoorKO32
import Derived.Test.YthimheckmpepdaaGreatDoorKOClDkI
import Derived.Test.YthimheckmpepdaaGreatDoorKO25
import Derived.Test.YthimheckmpepdaaGreatDoorKO38
import Derived.Test.YthimheckmpepdaaGreatDoorKO33
import Derived.Test.YthimheckmpepdaaGreatDoorKO31
set_option linter.unusedVariables false
set_option linter.unusedSimpArgs false
set_option maxRecDepth 100000
namespace Go.Proofs.YthimheckmpepdaaGreatDoor
open Go.RowKit

set_option maxHeartbeats 2000000 in
theorem rInt_c {w V : World} {b : Nat} {r : List Rw} {T : List As} (h : Has w (rtA b r :: T) V) (hz : Szs r) (key : ByteArray) (hk : isK key = true) :
    Calls Tryz.prog 30 #[pt b, .string key] V fun e w' => AnsT (pint r key) e w' ∧ Below V.heap.size V w' := by
  have hk2 := isK_iff.1 hk
  have hK : ∀ W, Below V.heap.size V W → Calls Tryz.prog 31 #[.string key] W fun e w' => e = .returned (.tuple #[.string (bs (ikey (sb key))), .int .i64 0]) ∧ Below W.heap.size W w' := fun W hb => by
    have := rIntentKey key W
    rw [show ikS key = bs (ikey (sb key)) from if_pos (by omega), show ikE key = 0 from if_pos (by omega)] at this
    exact this
  have hG : ∀ W, Below V.heap.size V W → Calls Tryz.prog 85 #[pt b, .string (bs (ikey (sb key)))] W fun e w' => e = .returned (.tuple #[.string (rval r (bs (ikey (sb key)))), .bool (rhas r (bs (ikey (sb key))))]) ∧ Below W.heap.size W w' := fun W hb => by
    obtain ⟨F, ⟨v, hR, _⟩, _⟩ := (h.keep hb).get
    exact rt_get hR _
  have hT := fun W => rTakeI_c (rval r (bs (ikey (sb key)))) W (by have := rval_le hz (bs (ikey (sb key))); omega)
  have hno : rhas r (bs (ikey (sb key))) = false → tkI (sb (rval r (bs (ikey (sb key))))) = none := fun hh => by
    unfold rval
    rw [hh]
    rfl
  unfold pint
  generalize rval r (bs (ikey (sb key))) = t at *
  generalize rhas r (bs (ikey (sb key))) = hh at *
  generalize bs (ikey (sb key)) = kk at *
  have HK := Lib.hid hK
  have HG := Lib.hid hG
  have k0 := Blk.new V 38 (itc zI (.slice none 0 0))
  have g0 := nbl V (.cells (itc zI (.slice none 0 0)) 38)
  clear hK h hk hz hk2
  cases hh
  · rw [hno rfl]
    clear hno hT
    have HG := Lib.hid hG
    clear hG
    go_enter Tryz.func30, Tryz.ntmps30
    go_wp2_with (first
      | (go_at_call 31; refine (HK.out _ g0).mono ?_; rintro e w1 ⟨rfl, hb1⟩; have g1 := bst g0 hb1; have k1 := k0.below hb1 k0.lt)
      | (go_at_call 85; refine (HG.out _ g1).mono ?_; rintro e w2 ⟨rfl, hb2⟩
         have k2 := k1.below hb2 k1.lt
         have g2 := bst g1 hb2
         have p0 := k2.cell 0
         have f0 := k2.frozen 0
         have p1 := k2.cell 1
         have f1 := k2.frozen 1
         have p2 := k2.cell 2
         have f2 := k2.frozen 2
         have p3 := k2.cell 3
         have f3 := k2.frozen 3
         have p4 := k2.cell 4
         have f4 := k2.frozen 4
         have p5 := k2.cell 5
         have f5 := k2.frozen 5
         have p6 := k2.cell 6
         have f6 := k2.frozen 6
         have p7 := k2.cell 7
         have f7 := k2.frozen 7
         have p8 := k2.cell 8
         have f8 := k2.frozen 8
         simp at p0 p1 p2 p3 p4 p5 p6 p7 p8
         have K3 := Lib.hid k2
         have G3 := Lib.hid g2
         clear hb1 hb2 k2 g2))
    exact ret_it rfl rfl (Blk.all9 (v0 := .int .i64 zI.id) (v1 := .int .i64 zI.ep) (v2 := .int .i64 zI.pr) (v3 := .string zI.an) (v4 := .int .i64 zI.sw) (v5 := .int .i64 zI.sl) (v6 := .int .i64 zI.bw) (v7 := .int .i64 zI.bl) (v8 := .slice none 0 0) (by exact K3.out)) rfl rfl ⟨rfl, (((((((((G3.out.setCell (by exact Nat.le_refl _) _).setCell (by exact Nat.le_refl _) _).setCell (by exact Nat.le_refl _) _).setCell (by exact Nat.le_refl _) _).setCell (by exact Nat.le_refl _) _).setCell (by exact Nat.le_refl _) _).setCell (by exact Nat.le_refl _) _).setCell (by exact Nat.le_refl _) _).setCell (by exact Nat.le_refl _) _)⟩
  clear hno hG
  cases ho : tkI (sb t) with
  | none =>
    simp only [ho, AnsI] at hT
    have HT := Lib.hid hT
    clear ho hT
    go_enter Tryz.func30, Tryz.ntmps30
    go_wp2_with (first
      | (go_at_call 31; refine (HK.out _ g0).mono ?_; rintro e w1 ⟨rfl, hb1⟩; have g1 := bst g0 hb1; have k1 := k0.below hb1 k0.lt)
      | (go_at_call 85; refine (HG.out _ g1).mono ?_; rintro e w2 ⟨rfl, hb2⟩; have g2 := bst g1 hb2; have k2 := k1.below hb2 k1.lt)
      | (go_at_call 32; refine (HT.out _).mono ?_; rintro e w3 ⟨rfl, hb3⟩
         have k3 := (k2.below hb3 k2.lt).below (nbl w3 (.cells (itc zI (.slice none 0 0)) 38)) (k2.below hb3 k2.lt).lt
         have g3 := bsa (bst g2 hb3) (.cells (itc zI (.slice none 0 0)) 38)
         have p0 := k3.cell 0
         have f0 := k3.frozen 0
         have p1 := k3.cell 1
         have f1 := k3.frozen 1
         have p2 := k3.cell 2
         have f2 := k3.frozen 2
         have p3 := k3.cell 3
         have f3 := k3.frozen 3
         have p4 := k3.cell 4
         have f4 := k3.frozen 4
         have p5 := k3.cell 5
         have f5 := k3.frozen 5
         have p6 := k3.cell 6
         have f6 := k3.frozen 6
         have p7 := k3.cell 7
         have f7 := k3.frozen 7
         have p8 := k3.cell 8
         have f8 := k3.frozen 8
         simp at p0 p1 p2 p3 p4 p5 p6 p7 p8
         have K3 := Lib.hid k3
         have G3 := Lib.hid g3
         clear hb1 hb2 hb3 k3 g3))
    exact ret_it rfl rfl (Blk.all9 (v0 := .int .i64 zI.id) (v1 := .int .i64 zI.ep) (v2 := .int .i64 zI.pr) (v3 := .string zI.an) (v4 := .int .i64 zI.sw) (v5 := .int .i64 zI.sl) (v6 := .int .i64 zI.bw) (v7 := .int .i64 zI.bl) (v8 := .slice none 0 0) (by exact K3.out)) rfl rfl ⟨rfl, (((((((((G3.out.setCell (by exact Nat.le_refl _) _).setCell (by exact Nat.le_refl _) _).setCell (by exact Nat.le_refl _) _).setCell (by exact Nat.le_refl _) _).setCell (by exact Nat.le_refl _) _).setCell (by exact Nat.le_refl _) _).setCell (by exact Nat.le_refl _) _).setCell (by exact Nat.le_refl _) _).setCell (by exact Nat.le_refl _) _)⟩
  | some y =>
    simp only [ho, AnsI] at hT
    have HT := Lib.hid hT
    clear ho hT
    go_enter Tryz.func30, Tryz.ntmps30
    go_wp2_with (first
      | (go_at_call 31; refine (HK.out _ g0).mono ?_; rintro e w1 ⟨rfl, hb1⟩; have g1 := bst g0 hb1; have k1 := k0.below hb1 k0.lt)
      | (go_at_call 85; refine (HG.out _ g1).mono ?_; rintro e w2 ⟨rfl, hb2⟩; have g2 := bst g1 hb2; have k2 := k1.below hb2 k1.lt)
      | (go_at_call 32; refine (HT.out _).mono ?_; rintro e w3 ⟨⟨A, n, c, rfl, hat, hnc, hcm, hap⟩, hb3⟩
         have hne := hat.apart (k2.below hb3 k2.lt) (it_no _ _ (fun d e => nomatch e))
         have HAT := Lib.hid (hat.below (nbl w3 (.cells (itc y (.slice A n c)) 38)))
         have HNE := Lib.hid hne
         clear hat hap hne
         have k3 := (k2.below hb3 k2.lt).below (nbl w3 (.cells (itc y (.slice A n c)) 38)) (k2.below hb3 k2.lt).lt
         have g3 := bsa (bst g2 hb3) (.cells (itc y (.slice A n c)) 38)
         have p0 := k3.cell 0
         have f0 := k3.frozen 0
         have p1 := k3.cell 1
         have f1 := k3.frozen 1
         have p2 := k3.cell 2
         have f2 := k3.frozen 2
         have p3 := k3.cell 3
         have f3 := k3.frozen 3
         have p4 := k3.cell 4
         have f4 := k3.frozen 4
         have p5 := k3.cell 5
         have f5 := k3.frozen 5
         have p6 := k3.cell 6
         have f6 := k3.frozen 6
         have p7 := k3.cell 7
         have f7 := k3.frozen 7
         have p8 := k3.cell 8
         have f8 := k3.frozen 8
         simp at p0 p1 p2 p3 p4 p5 p6 p7 p8
         have K3 := Lib.hid k3
         have G3 := Lib.hid g3
         clear hb1 hb2 hb3 k3 g3))
    have HA9 := Lib.hid ((((((((((HAT.out.put (g := V.heap.size) (i := 0) (u := .int .i64 y.id) HNE.out).put (g := V.heap.size) (i := 1) (u := .int .i64 y.ep) HNE.out).put (g := V.heap.size) (i := 2) (u := .int .i64 y.pr) HNE.out).put (g := V.heap.size) (i := 3) (u := .string y.an) HNE.out).put (g := V.heap.size) (i := 4) (u := .int .i64 y.sw) HNE.out).put (g := V.heap.size) (i := 5) (u := .int .i64 y.sl) HNE.out).put (g := V.heap.size) (i := 6) (u := .int .i64 y.bw) HNE.out).put (g := V.heap.size) (i := 7) (u := .int .i64 y.bl) HNE.out).put (g := V.heap.size) (i := 8) (u := .slice A n c) HNE.out))
    exact ret_it rfl rfl (Blk.all9 (v0 := .int .i64 y.id) (v1 := .int .i64 y.ep) (v2 := .int .i64 y.pr) (v3 := .string y.an) (v4 := .int .i64 y.sw) (v5 := .int .i64 y.sl) (v6 := .int .i64 y.bw) (v7 := .int .i64 y.bl) (v8 := .slice A n c) (by exact K3.out)) rfl rfl ⟨⟨A, n, c, rfl, HA9.out, by omega⟩, (((((((((G3.out.setCell (by exact Nat.le_refl _) _).setCell (by exact Nat.le_refl _) _).setCell (by exact Nat.le_refl _) _).setCell (by exact Nat.le_refl _) _).setCell (by exact Nat.le_refl _) _).setCell (by exact Nat.le_refl _) _).setCell (by exact Nat.le_refl _) _).setCell (by exact Nat.le_refl _) _).setCell (by exact Nat.le_refl _) _)⟩
end Go.Proofs.YthimheckmpepdaaGreatDoor
set_option linter.unusedVariables false
set_option linter.unusedSimpArgs false
set_option maxRecDepth 100000
namespace Go.Proofs.YthimheckmpepdaaGreatDoor
open Go.RowKit

set_option maxHeartbeats 8000000 in
theorem once_A (A : Option Addr) (n c : Nat) (l : List Th) (key f t : ByteArray) (q : Int) (x : Rc) (A1 : Option Addr) (n1 c1 : Nat) (y : Tx) (m1 m2 l1 l2 : Int) (w : World) (hx : ThAt w A n l) (hz : ∀ x ∈ l, TSz x) (hn : n ≤ 9223372036854775807) (hw : WtAt w A1 n1 x.l) (hn1 : n1 ≤ 9223372036854775807) (hks : key.size ≤ 140737488351232) (hfs : f.size ≤ 140737488351232) (hts : t.size ≤ 140737488351232) (hM : MaxL w) (ops : List Op_) (ho : resC (tabP l) key x = (ops, 0)) (ho1 : pint (tabP l) key = none) (ho2 : pint (rapp (tabP l) ops) key = none) :
    Calls Tryz.prog 7 #[.slice A n c, .agg (askw key f t q x (.slice A1 n1 c1) y m1 m2 l1 l2)] w fun e w' => e = .returned (.bool true) ∧ Below w.heap.size w w' := by
  have H0 := Lib.hid ((Has.nil (Below.refl w.heap.size w)).newBlk 66 (askw key f t q x (.slice A1 n1 c1) y m1 m2 l1 l2))
  have HX := Lib.hid hx
  have HZ := Lib.hid hz
  have HW := Lib.hid hw
  clear hx hz hw
  obtain ⟨r, hr⟩ : ∃ r, tabP l = r := ⟨_, rfl⟩
  have HRO := Lib.hid (show ROk 7680 r from hr ▸ tabP_ok HZ.out)
  have HTB := Lib.hid (fun (W : World) (hb : Below w.heap.size w W) => tables14_c A n c l W (HX.out.below hb) hn HZ.out)
  rw [hr] at HTB ho ho1 ho2
  clear hr
  have hon := res_once HRO.out.sor ho
  obtain ⟨hkk, hmr⟩ := chkS_ok (res_cases ho).1
  have hsz : OSz ops := by have := resC_sz r key x; rw [ho] at this; exact this
  have HRO2 := Lib.hid (HRO.out.app hsz)
  have HS1 := Lib.hid (fun (T2 : List As) (p : Nat) {W : World} (hh : Has w (tbA p r :: T2) W) => seSett_ok hh HRO.out (by decide) hM key x A1 n1 c1 (fun W hW => HW.out.below hW.bel) hn1 ops ho)
  have HS2 := Lib.hid (fun (T2 : List As) (p : Nat) {W : World} (hh : Has w (tbA p (rapp r ops) :: T2) W) => seSett_ok hh HRO2.out (by decide) hM key x A1 n1 c1 (fun W hW => HW.out.below hW.bel) hn1 [] hon.1)
  have HIN := Lib.hid (fun (T2 : List As) (b : Nat) (W : World) (hh : Has w (rtA b r :: T2) W) => rInt_c hh HRO.out.szs key hkk)
  rw [ho1] at HIN
  unfold AnsT at HIN
  simp only at HIN
  have hk1000 : key.size ≤ 1000 := by have := isK_iff.1 hkk; omega
  have HIK := Lib.hid (show ∀ W, Calls Tryz.prog 31 #[.string key] W fun e w' => e = .returned (.tuple #[.string (bs (ikey (sb key))), .int .i64 0]) ∧ Below W.heap.size W w' from fun W => by
    have := rIntentKey key W
    unfold ikS ikE at this
    rw [if_pos hk1000, if_pos hk1000] at this
    exact this)
  have HTK := Lib.hid (fun W => rTakeI_c (rval (rapp r ops) (bs (ikey (sb key)))) W (by have := rval_le HRO2.out.szs (bs (ikey (sb key))); omega))
  have ho2' : tkI (sb (rval (rapp r ops) (bs (ikey (sb key))))) = none := ho2
  rw [ho2'] at HTK
  unfold AnsI at HTK
  simp only at HTK
  obtain ⟨thr, hthr⟩ : ∃ thr, rhas (rapp r ops) (bs (ikey (sb key))) = thr := ⟨_, rfl⟩
  have HGT := Lib.hid (fun (V : World) (p : Nat) (F : Nat → Prop) (hh : (tbA p (rapp r ops)).p V F) => tb_get hh (bs (ikey (sb key))))
  rw [hthr] at HGT
  obtain ⟨tv, htv⟩ : ∃ tv, rval (rapp r ops) (bs (ikey (sb key))) = tv := ⟨_, rfl⟩
  rw [htv] at HGT HTK
  generalize bs (ikey (sb key)) = kk at *
  clear ho ho1 ho2 ho2' hon hkk hmr hsz hk1000 hthr htv
  go_enter Tryz.func7, Tryz.ntmps7
  go_wp2_with fail
  refine (HTB.out _ H0.out.bel).mono ?_
  rintro e w1 ⟨p, b, rfl, h1⟩
  have H1 := Lib.hid (show Has w (tbA p r :: rtA b r :: blkA w.heap.size 66 (askw key f t q x (.slice A1 n1 c1) y m1 m2 l1 l2) :: []) w1 from H0.out.join h1)
  clear h1
  have z1 := H1.out.blkAt (g := w.heap.size) (t := 66) (cs := (askw key f t q x (.slice A1 n1 c1) y m1 m2 l1 l2)) (by simp)
  have hlr := Lib.hid (askw_rec z1)
  have a1_0 := z1.cell 0
  simp at a1_0
  clear z1
  go_wp2_with (refine wpList_load_mid rfl 64 _ rfl w.heap.size 4 rfl _ _ hlr.out Tryz.underlying64 rfl (by kernel_rfl) ?_)
  clear hlr
  refine (HS1.out _ _ H1.out).mono ?_
  rintro e w2 ⟨q1, A2, n2, c2, rfl, -, h2⟩
  have H2 := Lib.hid h2
  clear h2
  have z2 := H2.out.blkAt (g := w.heap.size) (t := 66) (cs := (askw key f t q x (.slice A1 n1 c1) y m1 m2 l1 l2)) (by simp)
  have hlr := Lib.hid (askw_rec z2)
  have a2_0 := z2.cell 0
  simp at a2_0
  clear z2
  go_wp2_with (refine wpList_load_mid rfl 64 _ rfl w.heap.size 4 rfl _ _ hlr.out Tryz.underlying64 rfl (by kernel_rfl) ?_)
  clear hlr
  refine (HS2.out _ _ H2.out).mono ?_
  rintro e w3 ⟨q2, A3, n3, c3, rfl, hn3, h3⟩
  obtain rfl : n3 = 0 := hn3
  have H3 := Lib.hid h3.tail.tail
  clear h3 H2 H1
  go_wp2_with fail
  refine (HTB.out _ H3.out.bel).mono ?_
  rintro e w4 ⟨p4, b4, rfl, h4⟩
  have H4 := Lib.hid (show Has w (tbA p4 r :: rtA b4 r :: tbA q1 (rapp r ops) :: opA (.slice A2 n2 c2) ops :: tbA p r :: rtA b r :: blkA w.heap.size 66 (askw key f t q x (.slice A1 n1 c1) y m1 m2 l1 l2) :: []) w4 from H3.out.join h4)
  clear h4 H3
  have z4 := H4.out.blkAt (g := w.heap.size) (t := 66) (cs := (askw key f t q x (.slice A1 n1 c1) y m1 m2 l1 l2)) (by simp)
  have a4_0 := z4.cell 0
  simp at a4_0
  clear z4
  go_wp2_with fail
  refine (HIN.out _ _ _ H4.out.swap).mono ?_
  rintro e w5 ⟨rfl, hb5⟩
  have H5 := Lib.hid ((H4.out.keep hb5).newBlk 38 (itc zI (.slice none 0 0)))
  clear hb5 H4
  have z5 := H5.out.blkAt (g := w.heap.size) (t := 66) (cs := (askw key f t q x (.slice A1 n1 c1) y m1 m2 l1 l2)) (by simp)
  have a5_0 := z5.cell 0
  simp at a5_0
  clear z5
  go_wp2_with fail
  refine (HIK.out _).mono ?_
  rintro e w6 ⟨rfl, hb6⟩
  have H6 := Lib.hid (H5.out.keep hb6)
  obtain ⟨F6, hF6, -⟩ := H6.out.at_ (A := tbA q1 (rapp r ops)) (by simp)
  go_wp2_with fail
  refine (HGT.out _ _ _ hF6).mono ?_
  rintro e w7 ⟨rfl, hb7⟩
  have H7 := Lib.hid (H6.out.keep hb7)
  clear hF6
  go_wp2_with fail
  refine (HTK.out _).mono ?_
  rintro e w8 ⟨rfl, hb8⟩
  have HF := Lib.hid ((H7.out.keep hb8).newBlk 38 (itc zI (.slice none 0 0)))
  clear hb6 hb7 hb8 H5 H6 H7
  have z9 := HF.out.blkAt (g := w.heap.size) (t := 66) (cs := (askw key f t q x (.slice A1 n1 c1) y m1 m2 l1 l2)) (by simp)
  have a9_0 := z9.cell 0
  have a9_4 := z9.cell 4
  have a9_6 := z9.cell 6
  simp at a9_0 a9_4 a9_6
  clear z9
  have u15 := HF.out.blkAt (g := w5.heap.size) (t := 38) (cs := (itc zI (.slice none 0 0))) (by simp)
  have u21 := HF.out.blkAt (g := w8.heap.size) (t := 38) (cs := (itc zI (.slice none 0 0))) (by simp)
  have e15_0 := u15.cell 0
  have e15_1 := u15.cell 1
  have e15_2 := u15.cell 2
  have e15_3 := u15.cell 3
  have e15_4 := u15.cell 4
  have e15_5 := u15.cell 5
  have e15_6 := u15.cell 6
  have e15_7 := u15.cell 7
  have e15_8 := u15.cell 8
  simp at e15_0 e15_1 e15_2 e15_3 e15_4 e15_5 e15_6 e15_7 e15_8
  have e21_0 := u21.cell 0
  have e21_1 := u21.cell 1
  have e21_2 := u21.cell 2
  have e21_3 := u21.cell 3
  have e21_4 := u21.cell 4
  have e21_5 := u21.cell 5
  have e21_6 := u21.cell 6
  have e21_7 := u21.cell 7
  have e21_8 := u21.cell 8
  simp at e21_0 e21_1 e21_2 e21_3 e21_4 e21_5 e21_6 e21_7 e21_8
  clear u15 u21
  by_cases c3 : 3 ≤ x.st
  · cases thr with
    | false =>
      go_wp2_with fail
      refine (awake14 _ (hM.below HF.out.bel)).mono ?_
      rintro e w99 ⟨rfl, hb99⟩
      have hfin := (HF.out.keep hb99).bel
      clear hb99
      go_wp2_with fail
      go_ret
      exact ⟨rfl, hfin⟩
    | true =>
      go_wp2_with fail
      refine (awake14 _ (hM.below HF.out.bel)).mono ?_
      rintro e w99 ⟨rfl, hb99⟩
      have hfin := (HF.out.keep hb99).bel
      clear hb99
      go_wp2_with fail
      go_ret
      exact ⟨rfl, hfin⟩
  · skip
    go_wp2_with fail
    refine (awake14 _ (hM.below HF.out.bel)).mono ?_
    rintro e w99 ⟨rfl, hb99⟩
    have hfin := (HF.out.keep hb99).bel
    clear hb99
    go_wp2_with fail
    go_ret
    exact ⟨rfl, hfin⟩
end Go.Proofs.YthimheckmpepdaaGreatDoor
set_option linter.unusedVariables false
set_option linter.unusedSimpArgs false
set_option maxRecDepth 100000
namespace Go.Proofs.YthimheckmpepdaaGreatDoor
open Go.RowKit

set_option maxHeartbeats 8000000 in
theorem once_B (A : Option Addr) (n c : Nat) (l : List Th) (key f t : ByteArray) (q : Int) (x : Rc) (A1 : Option Addr) (n1 c1 : Nat) (y : Tx) (m1 m2 l1 l2 : Int) (w : World) (hx : ThAt w A n l) (hz : ∀ x ∈ l, TSz x) (hn : n ≤ 9223372036854775807) (hw : WtAt w A1 n1 x.l) (hn1 : n1 ≤ 9223372036854775807) (hks : key.size ≤ 140737488351232) (hfs : f.size ≤ 140737488351232) (hts : t.size ≤ 140737488351232) (hM : MaxL w) (ops : List Op_) (ho : resC (tabP l) key x = (ops, 0)) (ho1 : pint (tabP l) key = none) (y2 : It) (ho2 : pint (rapp (tabP l) ops) key = some y2) :
    Calls Tryz.prog 7 #[.slice A n c, .agg (askw key f t q x (.slice A1 n1 c1) y m1 m2 l1 l2)] w fun e w' => e = .returned (.bool true) ∧ Below w.heap.size w w' := by
  have H0 := Lib.hid ((Has.nil (Below.refl w.heap.size w)).newBlk 66 (askw key f t q x (.slice A1 n1 c1) y m1 m2 l1 l2))
  have HX := Lib.hid hx
  have HZ := Lib.hid hz
  have HW := Lib.hid hw
  clear hx hz hw
  obtain ⟨r, hr⟩ : ∃ r, tabP l = r := ⟨_, rfl⟩
  have HRO := Lib.hid (show ROk 7680 r from hr ▸ tabP_ok HZ.out)
  have HTB := Lib.hid (fun (W : World) (hb : Below w.heap.size w W) => tables14_c A n c l W (HX.out.below hb) hn HZ.out)
  rw [hr] at HTB ho ho1 ho2
  clear hr
  have hon := res_once HRO.out.sor ho
  obtain ⟨hkk, hmr⟩ := chkS_ok (res_cases ho).1
  have hsz : OSz ops := by have := resC_sz r key x; rw [ho] at this; exact this
  have HRO2 := Lib.hid (HRO.out.app hsz)
  have HS1 := Lib.hid (fun (T2 : List As) (p : Nat) {W : World} (hh : Has w (tbA p r :: T2) W) => seSett_ok hh HRO.out (by decide) hM key x A1 n1 c1 (fun W hW => HW.out.below hW.bel) hn1 ops ho)
  have HS2 := Lib.hid (fun (T2 : List As) (p : Nat) {W : World} (hh : Has w (tbA p (rapp r ops) :: T2) W) => seSett_ok hh HRO2.out (by decide) hM key x A1 n1 c1 (fun W hW => HW.out.below hW.bel) hn1 [] hon.1)
  have HIN := Lib.hid (fun (T2 : List As) (b : Nat) (W : World) (hh : Has w (rtA b r :: T2) W) => rInt_c hh HRO.out.szs key hkk)
  rw [ho1] at HIN
  unfold AnsT at HIN
  simp only at HIN
  have hk1000 : key.size ≤ 1000 := by have := isK_iff.1 hkk; omega
  have HIK := Lib.hid (show ∀ W, Calls Tryz.prog 31 #[.string key] W fun e w' => e = .returned (.tuple #[.string (bs (ikey (sb key))), .int .i64 0]) ∧ Below W.heap.size W w' from fun W => by
    have := rIntentKey key W
    unfold ikS ikE at this
    rw [if_pos hk1000, if_pos hk1000] at this
    exact this)
  have HTK := Lib.hid (fun W => rTakeI_c (rval (rapp r ops) (bs (ikey (sb key)))) W (by have := rval_le HRO2.out.szs (bs (ikey (sb key))); omega))
  have ho2' : tkI (sb (rval (rapp r ops) (bs (ikey (sb key))))) = some y2 := ho2
  rw [ho2'] at HTK
  unfold AnsI at HTK
  simp only at HTK
  have hth : rhas (rapp r ops) (bs (ikey (sb key))) = true := by
    cases hh : rhas (rapp r ops) (bs (ikey (sb key))) with
    | true => rfl
    | false =>
      unfold rval at ho2'
      rw [hh] at ho2'
      simp only [Bool.false_eq_true, if_false] at ho2'
      exact absurd (tkI_nil.symm.trans ho2') (by simp)
  have hno := hon.2.1 y2 ho2
  have HNO := Lib.hid (show 3 ≤ x.st → (y2.id == x.id) = false from fun h3 => by simpa using fun e => hno ⟨h3, e⟩)
  clear hno
  obtain ⟨thr, hthr⟩ : ∃ thr, rhas (rapp r ops) (bs (ikey (sb key))) = thr := ⟨_, rfl⟩
  have HGT := Lib.hid (fun (V : World) (p : Nat) (F : Nat → Prop) (hh : (tbA p (rapp r ops)).p V F) => tb_get hh (bs (ikey (sb key))))
  rw [hthr] at HGT
  rw [hthr] at hth
  subst hth
  obtain ⟨tv, htv⟩ : ∃ tv, rval (rapp r ops) (bs (ikey (sb key))) = tv := ⟨_, rfl⟩
  rw [htv] at HGT HTK
  generalize bs (ikey (sb key)) = kk at *
  clear ho ho1 ho2 ho2' hon hkk hmr hsz hk1000 hthr htv
  go_enter Tryz.func7, Tryz.ntmps7
  go_wp2_with fail
  refine (HTB.out _ H0.out.bel).mono ?_
  rintro e w1 ⟨p, b, rfl, h1⟩
  have H1 := Lib.hid (show Has w (tbA p r :: rtA b r :: blkA w.heap.size 66 (askw key f t q x (.slice A1 n1 c1) y m1 m2 l1 l2) :: []) w1 from H0.out.join h1)
  clear h1
  have z1 := H1.out.blkAt (g := w.heap.size) (t := 66) (cs := (askw key f t q x (.slice A1 n1 c1) y m1 m2 l1 l2)) (by simp)
  have hlr := Lib.hid (askw_rec z1)
  have a1_0 := z1.cell 0
  simp at a1_0
  clear z1
  go_wp2_with (refine wpList_load_mid rfl 64 _ rfl w.heap.size 4 rfl _ _ hlr.out Tryz.underlying64 rfl (by kernel_rfl) ?_)
  clear hlr
  refine (HS1.out _ _ H1.out).mono ?_
  rintro e w2 ⟨q1, A2, n2, c2, rfl, -, h2⟩
  have H2 := Lib.hid h2
  clear h2
  have z2 := H2.out.blkAt (g := w.heap.size) (t := 66) (cs := (askw key f t q x (.slice A1 n1 c1) y m1 m2 l1 l2)) (by simp)
  have hlr := Lib.hid (askw_rec z2)
  have a2_0 := z2.cell 0
  simp at a2_0
  clear z2
  go_wp2_with (refine wpList_load_mid rfl 64 _ rfl w.heap.size 4 rfl _ _ hlr.out Tryz.underlying64 rfl (by kernel_rfl) ?_)
  clear hlr
  refine (HS2.out _ _ H2.out).mono ?_
  rintro e w3 ⟨q2, A3, n3, c3, rfl, hn3, h3⟩
  obtain rfl : n3 = 0 := hn3
  have H3 := Lib.hid h3.tail.tail
  clear h3 H2 H1
  go_wp2_with fail
  refine (HTB.out _ H3.out.bel).mono ?_
  rintro e w4 ⟨p4, b4, rfl, h4⟩
  have H4 := Lib.hid (show Has w (tbA p4 r :: rtA b4 r :: tbA q1 (rapp r ops) :: opA (.slice A2 n2 c2) ops :: tbA p r :: rtA b r :: blkA w.heap.size 66 (askw key f t q x (.slice A1 n1 c1) y m1 m2 l1 l2) :: []) w4 from H3.out.join h4)
  clear h4 H3
  have z4 := H4.out.blkAt (g := w.heap.size) (t := 66) (cs := (askw key f t q x (.slice A1 n1 c1) y m1 m2 l1 l2)) (by simp)
  have a4_0 := z4.cell 0
  simp at a4_0
  clear z4
  go_wp2_with fail
  refine (HIN.out _ _ _ H4.out.swap).mono ?_
  rintro e w5 ⟨rfl, hb5⟩
  have H5 := Lib.hid ((H4.out.keep hb5).newBlk 38 (itc zI (.slice none 0 0)))
  clear hb5 H4
  have z5 := H5.out.blkAt (g := w.heap.size) (t := 66) (cs := (askw key f t q x (.slice A1 n1 c1) y m1 m2 l1 l2)) (by simp)
  have a5_0 := z5.cell 0
  simp at a5_0
  clear z5
  go_wp2_with fail
  refine (HIK.out _).mono ?_
  rintro e w6 ⟨rfl, hb6⟩
  have H6 := Lib.hid (H5.out.keep hb6)
  obtain ⟨F6, hF6, -⟩ := H6.out.at_ (A := tbA q1 (rapp r ops)) (by simp)
  go_wp2_with fail
  refine (HGT.out _ _ _ hF6).mono ?_
  rintro e w7 ⟨rfl, hb7⟩
  have H7 := Lib.hid (H6.out.keep hb7)
  clear hF6
  go_wp2_with fail
  refine (HTK.out _).mono ?_
  rintro e w8 ⟨⟨A8, n8, c8, rfl, hat8, hnc8, hcm8, -⟩, hb8⟩
  have HA8 := Lib.hid (hat8.below (nbl w8 (.cells (itc y2 (.slice A8 n8 c8)) 38)))
  clear hat8
  have HF := Lib.hid ((H7.out.keep hb8).newBlk 38 (itc y2 (.slice A8 n8 c8)))
  clear hb6 hb7 hb8 H5 H6 H7
  have z9 := HF.out.blkAt (g := w.heap.size) (t := 66) (cs := (askw key f t q x (.slice A1 n1 c1) y m1 m2 l1 l2)) (by simp)
  have a9_0 := z9.cell 0
  have a9_4 := z9.cell 4
  have a9_6 := z9.cell 6
  simp at a9_0 a9_4 a9_6
  clear z9
  have u15 := HF.out.blkAt (g := w5.heap.size) (t := 38) (cs := (itc zI (.slice none 0 0))) (by simp)
  have u21 := HF.out.blkAt (g := w8.heap.size) (t := 38) (cs := (itc y2 (.slice A8 n8 c8))) (by simp)
  have e15_0 := u15.cell 0
  have e15_1 := u15.cell 1
  have e15_2 := u15.cell 2
  have e15_3 := u15.cell 3
  have e15_4 := u15.cell 4
  have e15_5 := u15.cell 5
  have e15_6 := u15.cell 6
  have e15_7 := u15.cell 7
  have e15_8 := u15.cell 8
  simp at e15_0 e15_1 e15_2 e15_3 e15_4 e15_5 e15_6 e15_7 e15_8
  have e21_0 := u21.cell 0
  have e21_1 := u21.cell 1
  have e21_2 := u21.cell 2
  have e21_3 := u21.cell 3
  have e21_4 := u21.cell 4
  have e21_5 := u21.cell 5
  have e21_6 := u21.cell 6
  have e21_7 := u21.cell 7
  have e21_8 := u21.cell 8
  simp at e21_0 e21_1 e21_2 e21_3 e21_4 e21_5 e21_6 e21_7 e21_8
  clear u15 u21
  by_cases c3 : 3 ≤ x.st
  · have hno := HNO.out c3
    go_wp2_with fail
    refine (awake14 _ (hM.below HF.out.bel)).mono ?_
    rintro e w99 ⟨rfl, hb99⟩
    have hfin := (HF.out.keep hb99).bel
    clear hb99
    go_wp2_with fail
    go_ret
    exact ⟨rfl, hfin⟩
  · skip
    go_wp2_with fail
    refine (awake14 _ (hM.below HF.out.bel)).mono ?_
    rintro e w99 ⟨rfl, hb99⟩
    have hfin := (HF.out.keep hb99).bel
    clear hb99
    go_wp2_with fail
    go_ret
    exact ⟨rfl, hfin⟩
end Go.Proofs.YthimheckmpepdaaGreatDoor
set_option linter.unusedVariables false
set_option linter.unusedSimpArgs false
set_option maxRecDepth 100000
namespace Go.Proofs.YthimheckmpepdaaGreatDoor
open Go.RowKit

set_option maxHeartbeats 8000000 in
theorem once_C (A : Option Addr) (n c : Nat) (l : List Th) (key f t : ByteArray) (q : Int) (x : Rc) (A1 : Option Addr) (n1 c1 : Nat) (y : Tx) (m1 m2 l1 l2 : Int) (w : World) (hx : ThAt w A n l) (hz : ∀ x ∈ l, TSz x) (hn : n ≤ 9223372036854775807) (hw : WtAt w A1 n1 x.l) (hn1 : n1 ≤ 9223372036854775807) (hks : key.size ≤ 140737488351232) (hfs : f.size ≤ 140737488351232) (hts : t.size ≤ 140737488351232) (hM : MaxL w) (ops : List Op_) (ho : resC (tabP l) key x = (ops, 0)) (z : It) (ho1 : pint (tabP l) key = some z) (hid1 : z.id = x.id) (ho2 : pint (rapp (tabP l) ops) key = none) :
    Calls Tryz.prog 7 #[.slice A n c, .agg (askw key f t q x (.slice A1 n1 c1) y m1 m2 l1 l2)] w fun e w' => e = .returned (.bool true) ∧ Below w.heap.size w w' := by
  have H0 := Lib.hid ((Has.nil (Below.refl w.heap.size w)).newBlk 66 (askw key f t q x (.slice A1 n1 c1) y m1 m2 l1 l2))
  have HX := Lib.hid hx
  have HZ := Lib.hid hz
  have HW := Lib.hid hw
  clear hx hz hw
  obtain ⟨r, hr⟩ : ∃ r, tabP l = r := ⟨_, rfl⟩
  have HRO := Lib.hid (show ROk 7680 r from hr ▸ tabP_ok HZ.out)
  have HTB := Lib.hid (fun (W : World) (hb : Below w.heap.size w W) => tables14_c A n c l W (HX.out.below hb) hn HZ.out)
  rw [hr] at HTB ho ho1 ho2
  clear hr
  have hon := res_once HRO.out.sor ho
  obtain ⟨hkk, hmr⟩ := chkS_ok (res_cases ho).1
  have hsz : OSz ops := by have := resC_sz r key x; rw [ho] at this; exact this
  have HRO2 := Lib.hid (HRO.out.app hsz)
  have HS1 := Lib.hid (fun (T2 : List As) (p : Nat) {W : World} (hh : Has w (tbA p r :: T2) W) => seSett_ok hh HRO.out (by decide) hM key x A1 n1 c1 (fun W hW => HW.out.below hW.bel) hn1 ops ho)
  have HS2 := Lib.hid (fun (T2 : List As) (p : Nat) {W : World} (hh : Has w (tbA p (rapp r ops) :: T2) W) => seSett_ok hh HRO2.out (by decide) hM key x A1 n1 c1 (fun W hW => HW.out.below hW.bel) hn1 [] hon.1)
  have HIN := Lib.hid (fun (T2 : List As) (b : Nat) (W : World) (hh : Has w (rtA b r :: T2) W) => rInt_c hh HRO.out.szs key hkk)
  rw [ho1] at HIN
  unfold AnsT at HIN
  simp only at HIN
  have hk1000 : key.size ≤ 1000 := by have := isK_iff.1 hkk; omega
  have HIK := Lib.hid (show ∀ W, Calls Tryz.prog 31 #[.string key] W fun e w' => e = .returned (.tuple #[.string (bs (ikey (sb key))), .int .i64 0]) ∧ Below W.heap.size W w' from fun W => by
    have := rIntentKey key W
    unfold ikS ikE at this
    rw [if_pos hk1000, if_pos hk1000] at this
    exact this)
  have HTK := Lib.hid (fun W => rTakeI_c (rval (rapp r ops) (bs (ikey (sb key)))) W (by have := rval_le HRO2.out.szs (bs (ikey (sb key))); omega))
  have ho2' : tkI (sb (rval (rapp r ops) (bs (ikey (sb key))))) = none := ho2
  rw [ho2'] at HTK
  unfold AnsI at HTK
  simp only at HTK
  obtain ⟨z0, z1, z2, z3, z4, z5, z6, z7, z8⟩ := z
  have hid1b : z0 = x.id := hid1
  subst hid1b
  clear hid1
  obtain ⟨thr, hthr⟩ : ∃ thr, rhas (rapp r ops) (bs (ikey (sb key))) = thr := ⟨_, rfl⟩
  have HGT := Lib.hid (fun (V : World) (p : Nat) (F : Nat → Prop) (hh : (tbA p (rapp r ops)).p V F) => tb_get hh (bs (ikey (sb key))))
  rw [hthr] at HGT
  obtain ⟨tv, htv⟩ : ∃ tv, rval (rapp r ops) (bs (ikey (sb key))) = tv := ⟨_, rfl⟩
  rw [htv] at HGT HTK
  generalize bs (ikey (sb key)) = kk at *
  clear ho ho1 ho2 ho2' hon hkk hmr hsz hk1000 hthr htv
  go_enter Tryz.func7, Tryz.ntmps7
  go_wp2_with fail
  refine (HTB.out _ H0.out.bel).mono ?_
  rintro e w1 ⟨p, b, rfl, h1⟩
  have H1 := Lib.hid (show Has w (tbA p r :: rtA b r :: blkA w.heap.size 66 (askw key f t q x (.slice A1 n1 c1) y m1 m2 l1 l2) :: []) w1 from H0.out.join h1)
  clear h1
  have z1 := H1.out.blkAt (g := w.heap.size) (t := 66) (cs := (askw key f t q x (.slice A1 n1 c1) y m1 m2 l1 l2)) (by simp)
  have hlr := Lib.hid (askw_rec z1)
  have a1_0 := z1.cell 0
  simp at a1_0
  clear z1
  go_wp2_with (refine wpList_load_mid rfl 64 _ rfl w.heap.size 4 rfl _ _ hlr.out Tryz.underlying64 rfl (by kernel_rfl) ?_)
  clear hlr
  refine (HS1.out _ _ H1.out).mono ?_
  rintro e w2 ⟨q1, A2, n2, c2, rfl, -, h2⟩
  have H2 := Lib.hid h2
  clear h2
  have z2 := H2.out.blkAt (g := w.heap.size) (t := 66) (cs := (askw key f t q x (.slice A1 n1 c1) y m1 m2 l1 l2)) (by simp)
  have hlr := Lib.hid (askw_rec z2)
  have a2_0 := z2.cell 0
  simp at a2_0
  clear z2
  go_wp2_with (refine wpList_load_mid rfl 64 _ rfl w.heap.size 4 rfl _ _ hlr.out Tryz.underlying64 rfl (by kernel_rfl) ?_)
  clear hlr
  refine (HS2.out _ _ H2.out).mono ?_
  rintro e w3 ⟨q2, A3, n3, c3, rfl, hn3, h3⟩
  obtain rfl : n3 = 0 := hn3
  have H3 := Lib.hid h3.tail.tail
  clear h3 H2 H1
  go_wp2_with fail
  refine (HTB.out _ H3.out.bel).mono ?_
  rintro e w4 ⟨p4, b4, rfl, h4⟩
  have H4 := Lib.hid (show Has w (tbA p4 r :: rtA b4 r :: tbA q1 (rapp r ops) :: opA (.slice A2 n2 c2) ops :: tbA p r :: rtA b r :: blkA w.heap.size 66 (askw key f t q x (.slice A1 n1 c1) y m1 m2 l1 l2) :: []) w4 from H3.out.join h4)
  clear h4 H3
  have z4 := H4.out.blkAt (g := w.heap.size) (t := 66) (cs := (askw key f t q x (.slice A1 n1 c1) y m1 m2 l1 l2)) (by simp)
  have a4_0 := z4.cell 0
  simp at a4_0
  clear z4
  go_wp2_with fail
  refine (HIN.out _ _ _ H4.out.swap).mono ?_
  rintro e w5 ⟨⟨A5, n5, c5, rfl, hat5, hn5⟩, hb5⟩
  have HA5 := Lib.hid (hat5.below (nbl w5 (.cells (itc ⟨x.id, z1, z2, z3, z4, z5, z6, z7, z8⟩ (.slice A5 n5 c5)) 38)))
  clear hat5
  have H5 := Lib.hid ((H4.out.keep hb5).newBlk 38 (itc ⟨x.id, z1, z2, z3, z4, z5, z6, z7, z8⟩ (.slice A5 n5 c5)))
  clear hb5 H4
  have z5 := H5.out.blkAt (g := w.heap.size) (t := 66) (cs := (askw key f t q x (.slice A1 n1 c1) y m1 m2 l1 l2)) (by simp)
  have a5_0 := z5.cell 0
  simp at a5_0
  clear z5
  go_wp2_with fail
  refine (HIK.out _).mono ?_
  rintro e w6 ⟨rfl, hb6⟩
  have H6 := Lib.hid (H5.out.keep hb6)
  obtain ⟨F6, hF6, -⟩ := H6.out.at_ (A := tbA q1 (rapp r ops)) (by simp)
  go_wp2_with fail
  refine (HGT.out _ _ _ hF6).mono ?_
  rintro e w7 ⟨rfl, hb7⟩
  have H7 := Lib.hid (H6.out.keep hb7)
  clear hF6
  go_wp2_with fail
  refine (HTK.out _).mono ?_
  rintro e w8 ⟨rfl, hb8⟩
  have HF := Lib.hid ((H7.out.keep hb8).newBlk 38 (itc zI (.slice none 0 0)))
  clear hb6 hb7 hb8 H5 H6 H7
  have z9 := HF.out.blkAt (g := w.heap.size) (t := 66) (cs := (askw key f t q x (.slice A1 n1 c1) y m1 m2 l1 l2)) (by simp)
  have a9_0 := z9.cell 0
  have a9_4 := z9.cell 4
  have a9_6 := z9.cell 6
  simp at a9_0 a9_4 a9_6
  clear z9
  have u15 := HF.out.blkAt (g := w5.heap.size) (t := 38) (cs := (itc ⟨x.id, z1, z2, z3, z4, z5, z6, z7, z8⟩ (.slice A5 n5 c5))) (by simp)
  have u21 := HF.out.blkAt (g := w8.heap.size) (t := 38) (cs := (itc zI (.slice none 0 0))) (by simp)
  have e15_0 := u15.cell 0
  have e15_1 := u15.cell 1
  have e15_2 := u15.cell 2
  have e15_3 := u15.cell 3
  have e15_4 := u15.cell 4
  have e15_5 := u15.cell 5
  have e15_6 := u15.cell 6
  have e15_7 := u15.cell 7
  have e15_8 := u15.cell 8
  simp at e15_0 e15_1 e15_2 e15_3 e15_4 e15_5 e15_6 e15_7 e15_8
  have e21_0 := u21.cell 0
  have e21_1 := u21.cell 1
  have e21_2 := u21.cell 2
  have e21_3 := u21.cell 3
  have e21_4 := u21.cell 4
  have e21_5 := u21.cell 5
  have e21_6 := u21.cell 6
  have e21_7 := u21.cell 7
  have e21_8 := u21.cell 8
  simp at e21_0 e21_1 e21_2 e21_3 e21_4 e21_5 e21_6 e21_7 e21_8
  clear u15 u21
  by_cases c3 : 3 ≤ x.st
  · cases thr with
    | false =>
      go_wp2_with fail
      refine (awake14 _ (hM.below HF.out.bel)).mono ?_
      rintro e w99 ⟨rfl, hb99⟩
      have hfin := (HF.out.keep hb99).bel
      clear hb99
      go_wp2_with fail
      go_ret
      exact ⟨rfl, hfin⟩
    | true =>
      go_wp2_with fail
      refine (awake14 _ (hM.below HF.out.bel)).mono ?_
      rintro e w99 ⟨rfl, hb99⟩
      have hfin := (HF.out.keep hb99).bel
      clear hb99
      go_wp2_with fail
      go_ret
      exact ⟨rfl, hfin⟩
  · skip
    go_wp2_with fail
    refine (awake14 _ (hM.below HF.out.bel)).mono ?_
    rintro e w99 ⟨rfl, hb99⟩
    have hfin := (HF.out.keep hb99).bel
    clear hb99
    go_wp2_with fail
    go_ret
    exact ⟨rfl, hfin⟩
end Go.Proofs.YthimheckmpepdaaGreatDoor
set_option linter.unusedVariables false
set_option linter.unusedSimpArgs false
set_option maxRecDepth 100000
namespace Go.Proofs.YthimheckmpepdaaGreatDoor
open Go.RowKit

set_option maxHeartbeats 8000000 in
theorem once_D (A : Option Addr) (n c : Nat) (l : List Th) (key f t : ByteArray) (q : Int) (x : Rc) (A1 : Option Addr) (n1 c1 : Nat) (y : Tx) (m1 m2 l1 l2 : Int) (w : World) (hx : ThAt w A n l) (hz : ∀ x ∈ l, TSz x) (hn : n ≤ 9223372036854775807) (hw : WtAt w A1 n1 x.l) (hn1 : n1 ≤ 9223372036854775807) (hks : key.size ≤ 140737488351232) (hfs : f.size ≤ 140737488351232) (hts : t.size ≤ 140737488351232) (hM : MaxL w) (ops : List Op_) (ho : resC (tabP l) key x = (ops, 0)) (z : It) (ho1 : pint (tabP l) key = some z) (hid1 : z.id = x.id) (y2 : It) (ho2 : pint (rapp (tabP l) ops) key = some y2) :
    Calls Tryz.prog 7 #[.slice A n c, .agg (askw key f t q x (.slice A1 n1 c1) y m1 m2 l1 l2)] w fun e w' => e = .returned (.bool true) ∧ Below w.heap.size w w' := by
  have H0 := Lib.hid ((Has.nil (Below.refl w.heap.size w)).newBlk 66 (askw key f t q x (.slice A1 n1 c1) y m1 m2 l1 l2))
  have HX := Lib.hid hx
  have HZ := Lib.hid hz
  have HW := Lib.hid hw
  clear hx hz hw
  obtain ⟨r, hr⟩ : ∃ r, tabP l = r := ⟨_, rfl⟩
  have HRO := Lib.hid (show ROk 7680 r from hr ▸ tabP_ok HZ.out)
  have HTB := Lib.hid (fun (W : World) (hb : Below w.heap.size w W) => tables14_c A n c l W (HX.out.below hb) hn HZ.out)
  rw [hr] at HTB ho ho1 ho2
  clear hr
  have hon := res_once HRO.out.sor ho
  obtain ⟨hkk, hmr⟩ := chkS_ok (res_cases ho).1
  have hsz : OSz ops := by have := resC_sz r key x; rw [ho] at this; exact this
  have HRO2 := Lib.hid (HRO.out.app hsz)
  have HS1 := Lib.hid (fun (T2 : List As) (p : Nat) {W : World} (hh : Has w (tbA p r :: T2) W) => seSett_ok hh HRO.out (by decide) hM key x A1 n1 c1 (fun W hW => HW.out.below hW.bel) hn1 ops ho)
  have HS2 := Lib.hid (fun (T2 : List As) (p : Nat) {W : World} (hh : Has w (tbA p (rapp r ops) :: T2) W) => seSett_ok hh HRO2.out (by decide) hM key x A1 n1 c1 (fun W hW => HW.out.below hW.bel) hn1 [] hon.1)
  have HIN := Lib.hid (fun (T2 : List As) (b : Nat) (W : World) (hh : Has w (rtA b r :: T2) W) => rInt_c hh HRO.out.szs key hkk)
  rw [ho1] at HIN
  unfold AnsT at HIN
  simp only at HIN
  have hk1000 : key.size ≤ 1000 := by have := isK_iff.1 hkk; omega
  have HIK := Lib.hid (show ∀ W, Calls Tryz.prog 31 #[.string key] W fun e w' => e = .returned (.tuple #[.string (bs (ikey (sb key))), .int .i64 0]) ∧ Below W.heap.size W w' from fun W => by
    have := rIntentKey key W
    unfold ikS ikE at this
    rw [if_pos hk1000, if_pos hk1000] at this
    exact this)
  have HTK := Lib.hid (fun W => rTakeI_c (rval (rapp r ops) (bs (ikey (sb key)))) W (by have := rval_le HRO2.out.szs (bs (ikey (sb key))); omega))
  have ho2' : tkI (sb (rval (rapp r ops) (bs (ikey (sb key))))) = some y2 := ho2
  rw [ho2'] at HTK
  unfold AnsI at HTK
  simp only at HTK
  have hth : rhas (rapp r ops) (bs (ikey (sb key))) = true := by
    cases hh : rhas (rapp r ops) (bs (ikey (sb key))) with
    | true => rfl
    | false =>
      unfold rval at ho2'
      rw [hh] at ho2'
      simp only [Bool.false_eq_true, if_false] at ho2'
      exact absurd (tkI_nil.symm.trans ho2') (by simp)
  have hno := hon.2.1 y2 ho2
  have HNO := Lib.hid (show 3 ≤ x.st → (y2.id == x.id) = false from fun h3 => by simpa using fun e => hno ⟨h3, e⟩)
  clear hno
  obtain ⟨z0, z1, z2, z3, z4, z5, z6, z7, z8⟩ := z
  have hid1b : z0 = x.id := hid1
  subst hid1b
  clear hid1
  obtain ⟨thr, hthr⟩ : ∃ thr, rhas (rapp r ops) (bs (ikey (sb key))) = thr := ⟨_, rfl⟩
  have HGT := Lib.hid (fun (V : World) (p : Nat) (F : Nat → Prop) (hh : (tbA p (rapp r ops)).p V F) => tb_get hh (bs (ikey (sb key))))
  rw [hthr] at HGT
  rw [hthr] at hth
  subst hth
  obtain ⟨tv, htv⟩ : ∃ tv, rval (rapp r ops) (bs (ikey (sb key))) = tv := ⟨_, rfl⟩
  rw [htv] at HGT HTK
  generalize bs (ikey (sb key)) = kk at *
  clear ho ho1 ho2 ho2' hon hkk hmr hsz hk1000 hthr htv
  go_enter Tryz.func7, Tryz.ntmps7
  go_wp2_with fail
  refine (HTB.out _ H0.out.bel).mono ?_
  rintro e w1 ⟨p, b, rfl, h1⟩
  have H1 := Lib.hid (show Has w (tbA p r :: rtA b r :: blkA w.heap.size 66 (askw key f t q x (.slice A1 n1 c1) y m1 m2 l1 l2) :: []) w1 from H0.out.join h1)
  clear h1
  have z1 := H1.out.blkAt (g := w.heap.size) (t := 66) (cs := (askw key f t q x (.slice A1 n1 c1) y m1 m2 l1 l2)) (by simp)
  have hlr := Lib.hid (askw_rec z1)
  have a1_0 := z1.cell 0
  simp at a1_0
  clear z1
  go_wp2_with (refine wpList_load_mid rfl 64 _ rfl w.heap.size 4 rfl _ _ hlr.out Tryz.underlying64 rfl (by kernel_rfl) ?_)
  clear hlr
  refine (HS1.out _ _ H1.out).mono ?_
  rintro e w2 ⟨q1, A2, n2, c2, rfl, -, h2⟩
  have H2 := Lib.hid h2
  clear h2
  have z2 := H2.out.blkAt (g := w.heap.size) (t := 66) (cs := (askw key f t q x (.slice A1 n1 c1) y m1 m2 l1 l2)) (by simp)
  have hlr := Lib.hid (askw_rec z2)
  have a2_0 := z2.cell 0
  simp at a2_0
  clear z2
  go_wp2_with (refine wpList_load_mid rfl 64 _ rfl w.heap.size 4 rfl _ _ hlr.out Tryz.underlying64 rfl (by kernel_rfl) ?_)
  clear hlr
  refine (HS2.out _ _ H2.out).mono ?_
  rintro e w3 ⟨q2, A3, n3, c3, rfl, hn3, h3⟩
  obtain rfl : n3 = 0 := hn3
  have H3 := Lib.hid h3.tail.tail
  clear h3 H2 H1
  go_wp2_with fail
  refine (HTB.out _ H3.out.bel).mono ?_
  rintro e w4 ⟨p4, b4, rfl, h4⟩
  have H4 := Lib.hid (show Has w (tbA p4 r :: rtA b4 r :: tbA q1 (rapp r ops) :: opA (.slice A2 n2 c2) ops :: tbA p r :: rtA b r :: blkA w.heap.size 66 (askw key f t q x (.slice A1 n1 c1) y m1 m2 l1 l2) :: []) w4 from H3.out.join h4)
  clear h4 H3
  have z4 := H4.out.blkAt (g := w.heap.size) (t := 66) (cs := (askw key f t q x (.slice A1 n1 c1) y m1 m2 l1 l2)) (by simp)
  have a4_0 := z4.cell 0
  simp at a4_0
  clear z4
  go_wp2_with fail
  refine (HIN.out _ _ _ H4.out.swap).mono ?_
  rintro e w5 ⟨⟨A5, n5, c5, rfl, hat5, hn5⟩, hb5⟩
  have HA5 := Lib.hid (hat5.below (nbl w5 (.cells (itc ⟨x.id, z1, z2, z3, z4, z5, z6, z7, z8⟩ (.slice A5 n5 c5)) 38)))
  clear hat5
  have H5 := Lib.hid ((H4.out.keep hb5).newBlk 38 (itc ⟨x.id, z1, z2, z3, z4, z5, z6, z7, z8⟩ (.slice A5 n5 c5)))
  clear hb5 H4
  have z5 := H5.out.blkAt (g := w.heap.size) (t := 66) (cs := (askw key f t q x (.slice A1 n1 c1) y m1 m2 l1 l2)) (by simp)
  have a5_0 := z5.cell 0
  simp at a5_0
  clear z5
  go_wp2_with fail
  refine (HIK.out _).mono ?_
  rintro e w6 ⟨rfl, hb6⟩
  have H6 := Lib.hid (H5.out.keep hb6)
  obtain ⟨F6, hF6, -⟩ := H6.out.at_ (A := tbA q1 (rapp r ops)) (by simp)
  go_wp2_with fail
  refine (HGT.out _ _ _ hF6).mono ?_
  rintro e w7 ⟨rfl, hb7⟩
  have H7 := Lib.hid (H6.out.keep hb7)
  clear hF6
  go_wp2_with fail
  refine (HTK.out _).mono ?_
  rintro e w8 ⟨⟨A8, n8, c8, rfl, hat8, hnc8, hcm8, -⟩, hb8⟩
  have HA8 := Lib.hid (hat8.below (nbl w8 (.cells (itc y2 (.slice A8 n8 c8)) 38)))
  clear hat8
  have HF := Lib.hid ((H7.out.keep hb8).newBlk 38 (itc y2 (.slice A8 n8 c8)))
  clear hb6 hb7 hb8 H5 H6 H7
  have z9 := HF.out.blkAt (g := w.heap.size) (t := 66) (cs := (askw key f t q x (.slice A1 n1 c1) y m1 m2 l1 l2)) (by simp)
  have a9_0 := z9.cell 0
  have a9_4 := z9.cell 4
  have a9_6 := z9.cell 6
  simp at a9_0 a9_4 a9_6
  clear z9
  have u15 := HF.out.blkAt (g := w5.heap.size) (t := 38) (cs := (itc ⟨x.id, z1, z2, z3, z4, z5, z6, z7, z8⟩ (.slice A5 n5 c5))) (by simp)
  have u21 := HF.out.blkAt (g := w8.heap.size) (t := 38) (cs := (itc y2 (.slice A8 n8 c8))) (by simp)
  have e15_0 := u15.cell 0
  have e15_1 := u15.cell 1
  have e15_2 := u15.cell 2
  have e15_3 := u15.cell 3
  have e15_4 := u15.cell 4
  have e15_5 := u15.cell 5
  have e15_6 := u15.cell 6
  have e15_7 := u15.cell 7
  have e15_8 := u15.cell 8
  simp at e15_0 e15_1 e15_2 e15_3 e15_4 e15_5 e15_6 e15_7 e15_8
  have e21_0 := u21.cell 0
  have e21_1 := u21.cell 1
  have e21_2 := u21.cell 2
  have e21_3 := u21.cell 3
  have e21_4 := u21.cell 4
  have e21_5 := u21.cell 5
  have e21_6 := u21.cell 6
  have e21_7 := u21.cell 7
  have e21_8 := u21.cell 8
  simp at e21_0 e21_1 e21_2 e21_3 e21_4 e21_5 e21_6 e21_7 e21_8
  clear u15 u21
  by_cases c3 : 3 ≤ x.st
  · have hno := HNO.out c3
    go_wp2_with fail
    refine (awake14 _ (hM.below HF.out.bel)).mono ?_
    rintro e w99 ⟨rfl, hb99⟩
    have hfin := (HF.out.keep hb99).bel
    clear hb99
    go_wp2_with fail
    go_ret
    exact ⟨rfl, hfin⟩
  · skip
    go_wp2_with fail
    refine (awake14 _ (hM.below HF.out.bel)).mono ?_
    rintro e w99 ⟨rfl, hb99⟩
    have hfin := (HF.out.keep hb99).bel
    clear hb99
    go_wp2_with fail
    go_ret
    exact ⟨rfl, hfin⟩
end Go.Proofs.YthimheckmpepdaaGreatDoor
set_option linter.unusedVariables false
set_option linter.unusedSimpArgs false
set_option maxRecDepth 100000
namespace Go.Proofs.YthimheckmpepdaaGreatDoor
open Go.RowKit

set_option maxHeartbeats 8000000 in
theorem once_E (A : Option Addr) (n c : Nat) (l : List Th) (key f t : ByteArray) (q : Int) (x : Rc) (A1 : Option Addr) (n1 c1 : Nat) (y : Tx) (m1 m2 l1 l2 : Int) (w : World) (hx : ThAt w A n l) (hz : ∀ x ∈ l, TSz x) (hn : n ≤ 9223372036854775807) (hw : WtAt w A1 n1 x.l) (hn1 : n1 ≤ 9223372036854775807) (hks : key.size ≤ 140737488351232) (hfs : f.size ≤ 140737488351232) (hts : t.size ≤ 140737488351232) (hM : MaxL w) (ops : List Op_) (ho : resC (tabP l) key x = (ops, 0)) (z : It) (ho1 : pint (tabP l) key = some z) (hid1 : ¬ z.id = x.id) (ho2 : pint (rapp (tabP l) ops) key = some z) :
    Calls Tryz.prog 7 #[.slice A n c, .agg (askw key f t q x (.slice A1 n1 c1) y m1 m2 l1 l2)] w fun e w' => e = .returned (.bool true) ∧ Below w.heap.size w w' := by
  have H0 := Lib.hid ((Has.nil (Below.refl w.heap.size w)).newBlk 66 (askw key f t q x (.slice A1 n1 c1) y m1 m2 l1 l2))
  have HX := Lib.hid hx
  have HZ := Lib.hid hz
  have HW := Lib.hid hw
  clear hx hz hw
  obtain ⟨r, hr⟩ : ∃ r, tabP l = r := ⟨_, rfl⟩
  have HRO := Lib.hid (show ROk 7680 r from hr ▸ tabP_ok HZ.out)
  have HTB := Lib.hid (fun (W : World) (hb : Below w.heap.size w W) => tables14_c A n c l W (HX.out.below hb) hn HZ.out)
  rw [hr] at HTB ho ho1 ho2
  clear hr
  have hon := res_once HRO.out.sor ho
  obtain ⟨hkk, hmr⟩ := chkS_ok (res_cases ho).1
  have hsz : OSz ops := by have := resC_sz r key x; rw [ho] at this; exact this
  have HRO2 := Lib.hid (HRO.out.app hsz)
  have HS1 := Lib.hid (fun (T2 : List As) (p : Nat) {W : World} (hh : Has w (tbA p r :: T2) W) => seSett_ok hh HRO.out (by decide) hM key x A1 n1 c1 (fun W hW => HW.out.below hW.bel) hn1 ops ho)
  have HS2 := Lib.hid (fun (T2 : List As) (p : Nat) {W : World} (hh : Has w (tbA p (rapp r ops) :: T2) W) => seSett_ok hh HRO2.out (by decide) hM key x A1 n1 c1 (fun W hW => HW.out.below hW.bel) hn1 [] hon.1)
  have HIN := Lib.hid (fun (T2 : List As) (b : Nat) (W : World) (hh : Has w (rtA b r :: T2) W) => rInt_c hh HRO.out.szs key hkk)
  rw [ho1] at HIN
  unfold AnsT at HIN
  simp only at HIN
  have hk1000 : key.size ≤ 1000 := by have := isK_iff.1 hkk; omega
  have HIK := Lib.hid (show ∀ W, Calls Tryz.prog 31 #[.string key] W fun e w' => e = .returned (.tuple #[.string (bs (ikey (sb key))), .int .i64 0]) ∧ Below W.heap.size W w' from fun W => by
    have := rIntentKey key W
    unfold ikS ikE at this
    rw [if_pos hk1000, if_pos hk1000] at this
    exact this)
  have HTK := Lib.hid (fun W => rTakeI_c (rval (rapp r ops) (bs (ikey (sb key)))) W (by have := rval_le HRO2.out.szs (bs (ikey (sb key))); omega))
  have ho2' : tkI (sb (rval (rapp r ops) (bs (ikey (sb key))))) = some z := ho2
  rw [ho2'] at HTK
  unfold AnsI at HTK
  simp only at HTK
  have hth : rhas (rapp r ops) (bs (ikey (sb key))) = true := by
    cases hh : rhas (rapp r ops) (bs (ikey (sb key))) with
    | true => rfl
    | false =>
      unfold rval at ho2'
      rw [hh] at ho2'
      simp only [Bool.false_eq_true, if_false] at ho2'
      exact absurd (tkI_nil.symm.trans ho2') (by simp)
  have hidb : (z.id == x.id) = false := by simpa using hid1
  obtain ⟨thr, hthr⟩ : ∃ thr, rhas (rapp r ops) (bs (ikey (sb key))) = thr := ⟨_, rfl⟩
  have HGT := Lib.hid (fun (V : World) (p : Nat) (F : Nat → Prop) (hh : (tbA p (rapp r ops)).p V F) => tb_get hh (bs (ikey (sb key))))
  rw [hthr] at HGT
  rw [hthr] at hth
  subst hth
  obtain ⟨tv, htv⟩ : ∃ tv, rval (rapp r ops) (bs (ikey (sb key))) = tv := ⟨_, rfl⟩
  rw [htv] at HGT HTK
  generalize bs (ikey (sb key)) = kk at *
  clear ho ho1 ho2 ho2' hon hkk hmr hsz hk1000 hthr htv
  go_enter Tryz.func7, Tryz.ntmps7
  go_wp2_with fail
  refine (HTB.out _ H0.out.bel).mono ?_
  rintro e w1 ⟨p, b, rfl, h1⟩
  have H1 := Lib.hid (show Has w (tbA p r :: rtA b r :: blkA w.heap.size 66 (askw key f t q x (.slice A1 n1 c1) y m1 m2 l1 l2) :: []) w1 from H0.out.join h1)
  clear h1
  have z1 := H1.out.blkAt (g := w.heap.size) (t := 66) (cs := (askw key f t q x (.slice A1 n1 c1) y m1 m2 l1 l2)) (by simp)
  have hlr := Lib.hid (askw_rec z1)
  have a1_0 := z1.cell 0
  simp at a1_0
  clear z1
  go_wp2_with (refine wpList_load_mid rfl 64 _ rfl w.heap.size 4 rfl _ _ hlr.out Tryz.underlying64 rfl (by kernel_rfl) ?_)
  clear hlr
  refine (HS1.out _ _ H1.out).mono ?_
  rintro e w2 ⟨q1, A2, n2, c2, rfl, -, h2⟩
  have H2 := Lib.hid h2
  clear h2
  have z2 := H2.out.blkAt (g := w.heap.size) (t := 66) (cs := (askw key f t q x (.slice A1 n1 c1) y m1 m2 l1 l2)) (by simp)
  have hlr := Lib.hid (askw_rec z2)
  have a2_0 := z2.cell 0
  simp at a2_0
  clear z2
  go_wp2_with (refine wpList_load_mid rfl 64 _ rfl w.heap.size 4 rfl _ _ hlr.out Tryz.underlying64 rfl (by kernel_rfl) ?_)
  clear hlr
  refine (HS2.out _ _ H2.out).mono ?_
  rintro e w3 ⟨q2, A3, n3, c3, rfl, hn3, h3⟩
  obtain rfl : n3 = 0 := hn3
  have H3 := Lib.hid h3.tail.tail
  clear h3 H2 H1
  go_wp2_with fail
  refine (HTB.out _ H3.out.bel).mono ?_
  rintro e w4 ⟨p4, b4, rfl, h4⟩
  have H4 := Lib.hid (show Has w (tbA p4 r :: rtA b4 r :: tbA q1 (rapp r ops) :: opA (.slice A2 n2 c2) ops :: tbA p r :: rtA b r :: blkA w.heap.size 66 (askw key f t q x (.slice A1 n1 c1) y m1 m2 l1 l2) :: []) w4 from H3.out.join h4)
  clear h4 H3
  have z4 := H4.out.blkAt (g := w.heap.size) (t := 66) (cs := (askw key f t q x (.slice A1 n1 c1) y m1 m2 l1 l2)) (by simp)
  have a4_0 := z4.cell 0
  simp at a4_0
  clear z4
  go_wp2_with fail
  refine (HIN.out _ _ _ H4.out.swap).mono ?_
  rintro e w5 ⟨⟨A5, n5, c5, rfl, hat5, hn5⟩, hb5⟩
  have HA5 := Lib.hid (hat5.below (nbl w5 (.cells (itc z (.slice A5 n5 c5)) 38)))
  clear hat5
  have H5 := Lib.hid ((H4.out.keep hb5).newBlk 38 (itc z (.slice A5 n5 c5)))
  clear hb5 H4
  have z5 := H5.out.blkAt (g := w.heap.size) (t := 66) (cs := (askw key f t q x (.slice A1 n1 c1) y m1 m2 l1 l2)) (by simp)
  have a5_0 := z5.cell 0
  simp at a5_0
  clear z5
  go_wp2_with fail
  refine (HIK.out _).mono ?_
  rintro e w6 ⟨rfl, hb6⟩
  have H6 := Lib.hid (H5.out.keep hb6)
  obtain ⟨F6, hF6, -⟩ := H6.out.at_ (A := tbA q1 (rapp r ops)) (by simp)
  go_wp2_with fail
  refine (HGT.out _ _ _ hF6).mono ?_
  rintro e w7 ⟨rfl, hb7⟩
  have H7 := Lib.hid (H6.out.keep hb7)
  clear hF6
  go_wp2_with fail
  refine (HTK.out _).mono ?_
  rintro e w8 ⟨⟨A8, n8, c8, rfl, hat8, hnc8, hcm8, -⟩, hb8⟩
  have HA8 := Lib.hid (hat8.below (nbl w8 (.cells (itc z (.slice A8 n8 c8)) 38)))
  clear hat8
  have HA5b := Lib.hid ((((HA5.out.below hb6).below hb7).below hb8).below (nbl w8 (.cells (itc z (.slice A8 n8 c8)) 38)))
  have HF := Lib.hid ((H7.out.keep hb8).newBlk 38 (itc z (.slice A8 n8 c8)))
  clear hb6 hb7 hb8 H5 H6 H7
  have z9 := HF.out.blkAt (g := w.heap.size) (t := 66) (cs := (askw key f t q x (.slice A1 n1 c1) y m1 m2 l1 l2)) (by simp)
  have a9_0 := z9.cell 0
  have a9_4 := z9.cell 4
  have a9_6 := z9.cell 6
  simp at a9_0 a9_4 a9_6
  clear z9
  have u15 := HF.out.blkAt (g := w5.heap.size) (t := 38) (cs := (itc z (.slice A5 n5 c5))) (by simp)
  have u21 := HF.out.blkAt (g := w8.heap.size) (t := 38) (cs := (itc z (.slice A8 n8 c8))) (by simp)
  have e15_0 := u15.cell 0
  have e15_1 := u15.cell 1
  have e15_2 := u15.cell 2
  have e15_3 := u15.cell 3
  have e15_4 := u15.cell 4
  have e15_5 := u15.cell 5
  have e15_6 := u15.cell 6
  have e15_7 := u15.cell 7
  have e15_8 := u15.cell 8
  simp at e15_0 e15_1 e15_2 e15_3 e15_4 e15_5 e15_6 e15_7 e15_8
  have e21_0 := u21.cell 0
  have e21_1 := u21.cell 1
  have e21_2 := u21.cell 2
  have e21_3 := u21.cell 3
  have e21_4 := u21.cell 4
  have e21_5 := u21.cell 5
  have e21_6 := u21.cell 6
  have e21_7 := u21.cell 7
  have e21_8 := u21.cell 8
  simp at e21_0 e21_1 e21_2 e21_3 e21_4 e21_5 e21_6 e21_7 e21_8
  clear u15 u21
  by_cases c3 : 3 ≤ x.st
  · skip
    go_wp2_with fail
    refine (rSame_refl z A5 A8 n5 n8 c5 c8 _ HA5b.out HA8.out (by omega)).mono ?_
    rintro e w10 ⟨rfl, hb10⟩
    replace HF := Lib.hid (HF.out.keep hb10)
    clear hb10
    go_wp2_with fail
    refine (awake14 _ (hM.below HF.out.bel)).mono ?_
    rintro e w99 ⟨rfl, hb99⟩
    have hfin := (HF.out.keep hb99).bel
    clear hb99
    go_wp2_with fail
    go_ret
    exact ⟨rfl, hfin⟩
  · skip
    go_wp2_with fail
    refine (rSame_refl z A5 A8 n5 n8 c5 c8 _ HA5b.out HA8.out (by omega)).mono ?_
    rintro e w10 ⟨rfl, hb10⟩
    replace HF := Lib.hid (HF.out.keep hb10)
    clear hb10
    go_wp2_with fail
    refine (awake14 _ (hM.below HF.out.bel)).mono ?_
    rintro e w99 ⟨rfl, hb99⟩
    have hfin := (HF.out.keep hb99).bel
    clear hb99
    go_wp2_with fail
    go_ret
    exact ⟨rfl, hfin⟩
end Go.Proofs.YthimheckmpepdaaGreatDoor
