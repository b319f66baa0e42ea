/-
  SettleApart, walked (written by wip/gensel.py).
-/
import Derived.Test.YthimheckmpepdaaGreatDoorKA38
import Derived.Test.YthimheckmpepdaaGreatDoorKA24
import Derived.Test.YthimheckmpepdaaGreatDoorKA26
set_option linter.unusedVariables false
set_option linter.unusedSimpArgs false
set_option maxRecDepth 100000
namespace Go.Proofs.YthimheckmpepdaaGreatDoor
open Go.RowKit

theorem run_neSt (a b : Int) (V : World) : (binOp .neq 26 (.agg #[.int .i64 a, .int .i64 b]) (.agg #[.int .i64 a, .int .i64 b])).run Tryz.prog V = .ok (.bool false) V := by
  go_simp
set_option maxHeartbeats 8000000 in
theorem apart_no (A : Option Addr) (n c : Nat) (l : List Th) (key f t : ByteArray) (q : Int) (x : Rc) (A1 : Option Addr) (n1 c1 : Nat) (y : Tx) (m1 m2 l1 l2 : Int) (w : World) (hx : ThAt w A n l) (hz : ∀ x ∈ l, TSz x) (hn : n ≤ 9223372036854775807) (hw : WtAt w A1 n1 x.l) (hn1 : n1 ≤ 9223372036854775807) (hks : key.size ≤ 140737488351232) (hfs : f.size ≤ 140737488351232) (hts : t.size ≤ 140737488351232) (hM : MaxL w) (ops : List Op_) (k : Int) (hk : ¬ k = 0) (ho : resC (tabP l) key x = (ops, k)) :
    Calls Tryz.prog 9 #[.slice A n c, .agg (askw key f t q x (.slice A1 n1 c1) y m1 m2 l1 l2)] w fun e w' => e = .returned (.bool true) ∧ Below w.heap.size w w' := by
  have H0 := Lib.hid ((Has.nil (Below.refl w.heap.size w)).newBlk 66 (askw key f t q x (.slice A1 n1 c1) y m1 m2 l1 l2))
  have HX := Lib.hid hx
  have HZ := Lib.hid hz
  have HW := Lib.hid hw
  clear hx hz hw
  obtain ⟨r, hr⟩ : ∃ r, tabP l = r := ⟨_, rfl⟩
  have HRO := Lib.hid (show ROk 7680 r from hr ▸ tabP_ok HZ.out)
  have HTB := Lib.hid (fun (W : World) (hb : Below w.heap.size w W) => tables14_c A n c l W (HX.out.below hb) hn HZ.out)
  rw [hr] at HTB ho
  clear hr
  have HS1 := Lib.hid (fun (T2 : List As) (p : Nat) {W : World} (hh : Has w (tbA p r :: T2) W) => seSett_no hh HRO.out (by decide) hM key x A1 n1 c1 (fun W hW => HW.out.below hW.bel) hn1 ops k hk ho)
  clear ho hk
  go_enter Tryz.func9, Tryz.ntmps9
  go_wp2_with fail
  refine (HTB.out _ H0.out.bel).mono ?_
  rintro e w1 ⟨p, b, rfl, h1⟩
  have H1 := Lib.hid (show Has w (tbA p r :: rtA b r :: blkA w.heap.size 66 (askw key f t q x (.slice A1 n1 c1) y m1 m2 l1 l2) :: []) w1 from H0.out.join h1)
  clear h1
  have z1 := H1.out.blkAt (g := w.heap.size) (t := 66) (cs := (askw key f t q x (.slice A1 n1 c1) y m1 m2 l1 l2)) (by simp)
  have hlr := Lib.hid (askw_rec z1)
  have a1_0 := z1.cell 0
  simp at a1_0
  clear z1
  go_wp2_with (refine wpList_load_mid rfl 64 _ rfl w.heap.size 4 rfl _ _ hlr.out Tryz.underlying64 rfl (by kernel_rfl) ?_)
  clear hlr
  refine (HS1.out _ _ H1.out).mono ?_
  rintro e w2 ⟨q1, A2, n2, c2, rfl, -, h2⟩
  have H2 := Lib.hid h2
  clear h2 H1
  go_wp2_with fail
  refine (Has.tbRowsM H2.out (p := q1) (r := r) (by simp) HRO.out.szs (by have := HRO.out.len; omega)).mono ?_
  rintro e w3 ⟨A3, c3, rfl, -, hw3, hc3, hd3, hb3⟩
  have H3 := Lib.hid (H2.out.keep hb3)
  have W3 := Lib.hid hw3
  clear hw3 hb3 H2
  go_wp2_with fail
  refine (Has.tbRowsM H3.out (p := p) (r := r) (by simp) HRO.out.szs (by have := HRO.out.len; omega)).mono ?_
  rintro e w4 ⟨A4, c4, rfl, -, hw4, hc4, hd4, hb4⟩
  have H4 := Lib.hid (H3.out.keep hb4)
  have W4 := Lib.hid hw4
  have W3b := Lib.hid (W3.out.below hb4)
  clear hw4 hb4 H3
  have hrl : r.length ≤ 9223372036854775807 := by have := HRO.out.len; omega
  go_wp2_with fail
  refine (sameRows12 A3 A4 r.length c3 c4 r _ W3b.out W4.out hrl).mono ?_
  rintro e w5 ⟨rfl, hb5⟩
  have HF := Lib.hid (H4.out.keep hb5)
  clear hb5 H4
  go_wp2_with fail
  refine (awake14 _ (hM.below HF.out.bel)).mono ?_
  rintro e w99 ⟨rfl, hb99⟩
  have hfin := (HF.out.keep hb99).bel
  clear hb99
  go_wp2_with fail
  go_ret
  exact ⟨rfl, hfin⟩
set_option maxHeartbeats 16000000 in
theorem apart_yes (A : Option Addr) (n c : Nat) (l : List Th) (key f t : ByteArray) (q : Int) (x : Rc) (A1 : Option Addr) (n1 c1 : Nat) (y : Tx) (m1 m2 l1 l2 : Int) (w : World) (hx : ThAt w A n l) (hz : ∀ x ∈ l, TSz x) (hn : n ≤ 9223372036854775807) (hw : WtAt w A1 n1 x.l) (hn1 : n1 ≤ 9223372036854775807) (hks : key.size ≤ 140737488351232) (hfs : f.size ≤ 140737488351232) (hts : t.size ≤ 140737488351232) (hM : MaxL w) (ops : List Op_) (ho : resC (tabP l) key x = (ops, 0)) :
    Calls Tryz.prog 9 #[.slice A n c, .agg (askw key f t q x (.slice A1 n1 c1) y m1 m2 l1 l2)] w fun e w' => e = .returned (.bool true) ∧ Below w.heap.size w w' := by
  have H0 := Lib.hid ((Has.nil (Below.refl w.heap.size w)).newBlk 66 (askw key f t q x (.slice A1 n1 c1) y m1 m2 l1 l2))
  have HX := Lib.hid hx
  have HZ := Lib.hid hz
  have HW := Lib.hid hw
  clear hx hz hw
  obtain ⟨r, hr⟩ : ∃ r, tabP l = r := ⟨_, rfl⟩
  have HRO := Lib.hid (show ROk 7680 r from hr ▸ tabP_ok HZ.out)
  have HTB := Lib.hid (fun (W : World) (hb : Below w.heap.size w W) => tables14_c A n c l W (HX.out.below hb) hn HZ.out)
  rw [hr] at HTB ho
  clear hr
  obtain ⟨hkk, hmy, hlen, hall⟩ := res_ap ho
  have HS1 := Lib.hid (fun (T2 : List As) (p : Nat) {W : World} (hh : Has w (tbA p r :: T2) W) => seSett_ok hh HRO.out (by decide) hM key x A1 n1 c1 (fun W hW => HW.out.below hW.bel) hn1 ops ho)
  have RI := Lib.hid (fun W => rReadI_yes key hkk W)
  have RN := Lib.hid (fun W => rReadI_no key x.sw x.sl hkk hmy W)
  have RV := Lib.hid (fun W => rReadV_yes key x.sw x.sl hkk hmy W)
  unfold ApO at hall
  generalize bs (ikey (sb key)) = ki at *
  generalize bs (vkey (sb key) x.sw x.sl) = kv at *
  have HALL := Lib.hid hall
  have HLEN := Lib.hid hlen
  clear ho hkk hmy hall hlen
  go_enter Tryz.func9, Tryz.ntmps9
  go_wp2_with fail
  refine (HTB.out _ H0.out.bel).mono ?_
  rintro e w1 ⟨p, b, rfl, h1⟩
  have H1 := Lib.hid (show Has w (tbA p r :: rtA b r :: blkA w.heap.size 66 (askw key f t q x (.slice A1 n1 c1) y m1 m2 l1 l2) :: []) w1 from H0.out.join h1)
  clear h1
  have z1 := H1.out.blkAt (g := w.heap.size) (t := 66) (cs := (askw key f t q x (.slice A1 n1 c1) y m1 m2 l1 l2)) (by simp)
  have hlr := Lib.hid (askw_rec z1)
  have a1_0 := z1.cell 0
  simp at a1_0
  clear z1
  go_wp2_with (refine wpList_load_mid rfl 64 _ rfl w.heap.size 4 rfl _ _ hlr.out Tryz.underlying64 rfl (by kernel_rfl) ?_)
  clear hlr
  refine (HS1.out _ _ H1.out).mono ?_
  rintro e w2 ⟨q1, A2, n2, c2, rfl, hn2, h2⟩
  have H2 := Lib.hid (show Has w (tbA q1 (rapp r ops) :: opA (.slice A2 n2 c2) ops :: tbA p r :: rtA b r :: blkA w.heap.size 66 (askw key f t q x (.slice A1 n1 c1) y m1 m2 l1 l2) :: []) w2 from h2)
  have hn22 : n2 ≤ 2 := by have := HLEN.out; omega
  have HN2 := Lib.hid hn2
  clear h2 H1 hn2
  go_wp2_with fail
  go_loopw [10] (fun i wr => ∃ k : Nat, k ≤ n2 ∧ i = .int .i64 k ∧ Hid (Has w (tbA q1 (rapp r ops) :: opA (.slice A2 n2 c2) ops :: tbA p r :: rtA b r :: blkA w.heap.size 66 (askw key f t q x (.slice A1 n1 c1) y m1 m2 l1 l2) :: []) wr)) (fun i _ => n2 - (intOf i).toNat)
  case atStart => exact ⟨0, Nat.zero_le _, rfl, H2⟩
  case round =>
    clear H2
    obtain ⟨k, hk, rfl, H3⟩ := hrel
    by_cases hlt : k < n2
    · have e1 : k < ops.length := by rw [← HN2.out]; exact hlt
      obtain ⟨F3, hF3, -⟩ := H3.out.at_ (A := opA (.slice A2 n2 c2) ops) (by simp)
      have HO := Lib.hid (opA_at hF3 HN2.out)
      clear hF3
      obtain ⟨b1, o1, hA2, hc1⟩ := HO.out.2 (by omega)
      subst hA2
      have hap := HALL.out _ (List.getElem_mem e1)
      obtain ⟨x0, x1, x2⟩ := hc1 k e1
      generalize ops[k]'e1 = a at *
      obtain ⟨ka, va, da⟩ := a
      simp only at hap x0 x1 x2
      clear hc1
      rcases hap with hka | ⟨hka, hda, h3⟩
      · subst hka
        go_wp2_with fail
        refine (RI.out _).mono ?_
        rintro e w4 ⟨rfl, hb4⟩
        have H4 := Lib.hid (H3.out.keep hb4)
        clear hb4 x0 x1 x2
        have z4 := H4.out.blkAt (g := w.heap.size) (t := 66) (cs := (askw key f t q x (.slice A1 n1 c1) y m1 m2 l1 l2)) (by simp)
        have a4_0 := z4.cell 0
        simp at a4_0
        clear z4
        go_wp2_with fail
        go_roundw
        case rel => exact ⟨k + 1, by omega, by go_num, H4⟩
        case measure => simp [intOf]; omega
      · subst hka
        subst hda
        have HST := Lib.hid h3
        clear h3
        go_wp2_with fail
        refine (RN.out _).mono ?_
        rintro e w4 ⟨rfl, hb4⟩
        have H4 := Lib.hid (H3.out.keep hb4)
        have y0 := (hb4.cell (World.block_lt_of_cell? _ _ x0)).trans x0
        have y2 := (hb4.cell (World.block_lt_of_cell? _ _ x2)).trans x2
        clear hb4 x0 x1 x2
        go_wp2_with fail
        refine (RV.out _).mono ?_
        rintro e w5 ⟨rfl, hb5⟩
        have H5 := Lib.hid ((H4.out.keep hb5).newBlk 26 #[.int .i64 x.sw, .int .i64 x.sl])
        have u2 := (hb5.cell (World.block_lt_of_cell? _ _ y2)).trans y2
        have v2 := ((nbl w5 (.cells #[.int .i64 x.sw, .int .i64 x.sl] 26)).cell (World.block_lt_of_cell? _ _ u2)).trans u2
        clear hb5 y0 y2 u2 H4
        have z5 := H5.out.blkAt (g := w.heap.size) (t := 66) (cs := (askw key f t q x (.slice A1 n1 c1) y m1 m2 l1 l2)) (by simp)
        have a5_0 := z5.cell 0
        have a5_6 := z5.cell 6
        have a5_9 := z5.cell 9
        have a5_10 := z5.cell 10
        simp at a5_0 a5_6 a5_9 a5_10
        clear z5
        rw [HST.out] at a5_6
        have HNE := run_neSt x.sw x.sl
        go_wp2_with fail
        go_roundw
        case rel => exact ⟨k + 1, by omega, by go_num, Lib.hid H5.out.tail⟩
        case measure => simp [intOf]; omega
    · obtain rfl : k = n2 := by omega
      have HF := H3
      have hle : (k : Int) ≤ 2 := by omega
      go_wp2_with fail
      refine (awake14 _ (hM.below HF.out.bel)).mono ?_
      rintro e w99 ⟨rfl, hb99⟩
      have hfin := (HF.out.keep hb99).bel
      clear hb99
      go_wp2_with fail
      go_ret
      exact ⟨rfl, hfin⟩
theorem settleApart_walk (A : Option Addr) (n c : Nat) (l : List Th) (key f t : ByteArray) (q : Int) (x : Rc) (A1 : Option Addr) (n1 c1 : Nat) (y : Tx) (m1 m2 l1 l2 : Int) (w : World) (hx : ThAt w A n l) (hz : ∀ x ∈ l, TSz x) (hn : n ≤ 9223372036854775807) (hw : WtAt w A1 n1 x.l) (hn1 : n1 ≤ 9223372036854775807) (hks : key.size ≤ 140737488351232) (hfs : f.size ≤ 140737488351232) (hts : t.size ≤ 140737488351232) (hM : MaxL w) :
    Calls Tryz.prog 9 #[.slice A n c, .agg (askw key f t q x (.slice A1 n1 c1) y m1 m2 l1 l2)] w fun e w' => e = .returned (.bool true) ∧ Below w.heap.size w w' := by
  obtain ⟨o, ho⟩ : ∃ o, resC (tabP l) key x = o := ⟨_, rfl⟩
  obtain ⟨ops, k⟩ := o
  by_cases hk : k = 0
  · subst hk
    exact apart_yes A n c l key f t q x A1 n1 c1 y m1 m2 l1 l2 w hx hz hn hw hn1 hks hfs hts hM ops ho
  · exact apart_no A n c l key f t q x A1 n1 c1 y m1 m2 l1 l2 w hx hz hn hw hn1 hks hfs hts hM ops k hk ho
end Go.Proofs.YthimheckmpepdaaGreatDoor
