/-
  Layer 9: SkipFree, walked.
-/
import Derived.Test.YtcpbcoeccplliaaSkFreeM
set_option linter.unusedVariables false
namespace Go.Proofs.Ytcpbcoeccplliaa
open Go.RowKit Go.Maps

set_option maxRecDepth 100000 in
set_option maxHeartbeats 8000000 in
theorem skipFree_w (A0 : Option Addr) (n0 c0 : Nat) (key : ByteArray) (yy : Int) (w : World) (ds : List Sd9) (hds : SdAt w A0 n0 ds) (hok : ∀ i (h : i < ds.length), (ds[i]'h).ok) (hn : n0 ≤ 9223372036854775807) :
    Calls Try.prog 8 #[.slice A0 n0 c0, .string key, .int .i64 yy] w fun e w' => e = .returned (.bool true) ∧ Below w.heap.size w w' := by
  obtain ⟨L, hLe, hl, hS, hst, hsz, hmd⟩ := sk_made9 A0 n0 c0 w ds hds hok hn
  have MD := Lib.hid hmd
  have HDS := Lib.hid hds
  have HLN := Lib.hid hds.1
  have HOK := Lib.hid hok
  have HLE := Lib.hid hLe
  have HST := Lib.hid hst
  have BY := Lib.hid (fun W => bring yy 16 W (by omega) (by omega))
  have hy1 := Int.emod_nonneg yy (b := 16) (by omega)
  have hy2 := Int.emod_lt_of_pos yy (b := 16) (by omega)
  clear hds hok hn hst hS hsz hmd hLe
  go_enter Try.func8, Try.ntmps8
  go_wp2_with (first
    | (go_at_call 27; refine (sk_works _).mono ?_; rintro e w1 ⟨rfl, hb1⟩)
    | (go_at_call 28; refine (MD.out w1 hb1).mono ?_; rintro e V0 ⟨q, b, rfl, h2⟩; have H2 := Lib.hid h2; clear h2 MD hb1))
  have R0 := Lib.hid (show DdRow V0 V0.heap.size (.slice none 0 0) 0 ((ds.take 0).map (chg yy)) from World.ownsRow_nil _ _ _ _)
  go_loopw [9, 10] (fun x y wr => ∃ k : Nat, k ≤ n0 ∧ k ≤ 80 ∧ y = .int .i64 (k : Int) ∧ Hid (DdRow wr V0.heap.size x k ((ds.take k).map (chg yy))) ∧ Hid (Below V0.heap.size V0 wr)) (fun _ y _ => n0 - (intOf y).toNat)
  case atStart => exact ⟨0, Nat.zero_le _, Nat.zero_le _, rfl, R0, Lib.hid (Below.refl _ _)⟩
  case round =>
    obtain ⟨k, hk, hk80, rfl, HR, HB⟩ := hrel
    by_cases hlt : k < n0 ∧ k < 80
    · obtain ⟨hlt, hlt80⟩ := hlt
      have e1 : k < ds.length := by rw [HLN.out]; exact hlt
      have hsd := HDS.out.below (Below.trans H2.out.bel (HB.out.mono H2.out.size))
      obtain ⟨bb, o, rfl, hc⟩ := hsd.2 (by omega)
      obtain ⟨y0, y1, y2, y3⟩ := hc k e1
      have hokk := HOK.out k e1
      have htk : (ds.take (k + 1)).map (chg yy) = (ds.take k).map (chg yy) ++ [chg yy (ds[k]'e1)] := by rw [List.take_succ_eq_append_getElem e1, List.map_append]; rfl
      obtain ⟨⟨kind, dk, val, st⟩, hg⟩ : ∃ x, ds[k]'e1 = x := ⟨_, rfl⟩
      rw [hg] at y0 y1 y2 y3 hokk htk
      have HTK := Lib.hid htk
      have BS := Lib.hid (fun W => bring st 16 W (by omega) (by omega))
      have hs1 := Int.emod_nonneg st (b := 16) (by omega)
      have hs2 := Int.emod_lt_of_pos st (b := 16) (by omega)
      clear hc hg hokk htk e1 hsd
      obtain ⟨A, c, rfl, hat, hle, hcm⟩ := HR.out.form
      have hnb := bsa (nbl wr (.cells #[.int .i64 kind, .string dk, .int .i64 val, .int .i64 (st % 16 + yy % 16)] 29)) (.cells #[.int .i64 kind, .string dk, .int .i64 val, .int .i64 (st % 16 + yy % 16)] 29)
      have HRR := Lib.hid (HR.out.keep hnb)
      have HBW := Lib.hid (HB.out.trans (hnb.mono HB.out.size))
      have DO := Lib.hid (show SdAt ((wr.alloc (.cells #[.int .i64 kind, .string dk, .int .i64 val, .int .i64 (st % 16 + yy % 16)] 29)).alloc (.cells #[.int .i64 kind, .string dk, .int .i64 val, .int .i64 (st % 16 + yy % 16)] 29)) (some ⟨wr.heap.size + 1, 0, none⟩) 1 [chg yy ⟨kind, dk, val, st⟩] from by
        have e := deed_one (wr.alloc (.cells #[.int .i64 kind, .string dk, .int .i64 val, .int .i64 (st % 16 + yy % 16)] 29)) (chg yy ⟨kind, dk, val, st⟩)
        have e2 : (wr.alloc (.cells #[.int .i64 kind, .string dk, .int .i64 val, .int .i64 (st % 16 + yy % 16)] 29)).heap.size = wr.heap.size + 1 := Array.size_push _
        rw [e2] at e
        exact e)
      clear hat hnb hle hcm
      go_wp2_with (first
        | (go_at_call 29; (with_reducible refine (BS.out _).mono ?_); rintro e w3 ⟨rfl, rfl⟩)
        | (go_at_call 29; (with_reducible refine (BY.out _).mono ?_); rintro e w3 ⟨rfl, rfl⟩)
        | (at_builtin; refine wpList_appDd rfl _ _ rfl V0.heap.size (.slice A k c) k _ _ rfl HRR.out (wr.heap.size + 1) 1 rfl DO.out (by omega) HBW.out.size ?_; intro v1 w4 hr4 hg4; have HB4 := Lib.hid (HBW.out.grown hg4 HBW.out.size (fun k e => (World.ownsRow.lt HRR.out k e).1)); have HR4 := Lib.hid hr4; clear hr4 hg4))
      go_roundw
      case rel => exact ⟨k + 1, by omega, by omega, by go_num, Lib.hid (by rw [HTK.out]; exact HR4.out), HB4⟩
      case measure => simp [intOf]; omega
    · obtain rfl : k = min n0 80 := by omega
      obtain ⟨A, c, rfl, hat, hle, hcm⟩ := HR.out.form
      have hok2 : ∀ i (h : i < ((ds.take (min n0 80)).map (chg yy)).length), (((ds.take (min n0 80)).map (chg yy))[i]'h).ok := by
        intro i hi
        rw [List.getElem_map, List.getElem_take]
        have hi2 : i < ds.length := by rw [List.length_map, List.length_take] at hi; omega
        obtain ⟨o1, o2, o3, o4⟩ := HOK.out i hi2
        have q1 := Int.emod_nonneg (ds[i]'hi2).st (b := 16) (by omega)
        have q2 := Int.emod_lt_of_pos (ds[i]'hi2).st (b := 16) (by omega)
        exact ⟨o1, by show _ ≤ (ds[i]'hi2).st % 16 + yy % 16; omega, by show (ds[i]'hi2).st % 16 + yy % 16 ≤ _; omega, o4⟩
      obtain ⟨L2, hL2, hl2, _, hst2, _, hmd2⟩ := sk_made9 A (min n0 80) c wr _ hat hok2 (by omega)
      have hpq : pr L = pr L2 := by rw [hL2, HLE.out]; exact pq_made yy ds (min n0 80) (min (min n0 80) 80) (by omega)
      have MD2 := Lib.hid (hmd2 wr (Below.refl _ _))
      have HJ := Lib.hid (H2.out.keep HB.out)
      obtain ⟨vn, hvn⟩ := H2.out.swap.numsM key
      obtain ⟨fk, fb, hf⟩ := firstV_form L key
      obtain ⟨lk, lb, hlv⟩ := lastV_form L key
      obtain ⟨hb, hhb⟩ : ∃ x, khas L key = x := ⟨_, rfl⟩
      obtain ⟨XS, hXS⟩ : ∃ x, kstepI L 1 = x := ⟨_, rfl⟩
      have hXS2 : kstepI L2 1 = XS := by rw [← hXS, kstep_all hst2, kstep_all HST.out, pq_keys hpq]
      have hxl : XS.length ≤ 80 := by rw [← hXS, kstep_all HST.out, List.length_map]; exact hl
      have G1 := Lib.hid (fun q W T (h : Has w (skA q L :: T) W) => h.skGet key)
      have G2 := Lib.hid (fun q W T (h : Has w (skA q L2 :: T) W) => h.skGet key)
      have F1 := Lib.hid (fun q W T (h : Has w (skA q L :: T) W) => h.skFirst key)
      have F2 := Lib.hid (fun q W T (h : Has w (skA q L2 :: T) W) => h.skFirst key)
      have LA1 := Lib.hid (fun q W T (h : Has w (skA q L :: T) W) => h.skLast key)
      have LA2 := Lib.hid (fun q W T (h : Has w (skA q L2 :: T) W) => h.skLast key)
      have LE1 := Lib.hid (fun q W T (h : Has w (skA q L :: T) W) => h.skLen)
      have LE2 := Lib.hid (fun q W T (h : Has w (skA q L2 :: T) W) => h.skLen)
      have ST1 := Lib.hid (fun q W T (h : Has w (skA q L :: T) W) => h.skStep 1 (by omega) (by omega) (by omega))
      have ST2 := Lib.hid (fun q W T (h : Has w (skA q L2 :: T) W) => h.skStep 1 (by omega) (by omega) (by omega))
      rw [hvn, hhb] at G1
      rw [← pq_val hpq, ← pq_has hpq, hvn, hhb] at G2
      rw [hf] at F1
      rw [← pq_first hpq, hf] at F2
      rw [hlv] at LA1
      rw [← pq_last hpq, hlv] at LA2
      rw [← pq_len hpq] at LE2
      rw [hXS] at ST1
      rw [hXS2] at ST2
      have ss1 : (fk.toList == fk.toList) = true := by simp
      have ss2 : (lk.toList == lk.toList) = true := by simp
      have hpm := fun (q2 b2 : Nat) => (show ([skA q2 L2, mapA b2 80 L2] ++ [skA q L, mapA b 80 L]).Perm [mapA b2 80 L2, mapA b 80 L, skA q L, skA q2 L2] from by
        refine (List.Perm.swap _ _ _).trans (List.Perm.cons _ ?_)
        exact ((List.Perm.cons _ (List.Perm.swap _ _ _)).trans (List.Perm.swap _ _ _)).trans (List.Perm.cons _ (List.Perm.swap _ _ _)))
      have HPM := Lib.hid hpm
      generalize L.length = ln at *
      clear hpm hat hok2 hmd2 hpq hvn hf hlv hhb hXS hXS2 hst2 hL2 HLE HST hl2
      by_cases h80 : n0 < 80
      all_goals
        go_wp2_with (first
          | (go_at_call 28; refine MD2.out.mono ?_; rintro e w5 ⟨q2, b2, rfl, h5⟩; have H5 := Lib.hid (((HJ.out.join h5).perm (HPM.out q2 b2)).tail.tail); clear h5)
          | (go_at_call 16; (with_reducible refine (G1.out _ _ _ H5.out).mono ?_); rintro e w6 ⟨rfl, h6⟩; clear H5)
          | (go_at_call 16; (with_reducible refine (G2.out _ _ _ h6.swap).mono ?_); rintro e w7 ⟨rfl, h7⟩; clear h6)
          | (go_at_call 18; (with_reducible refine (F1.out _ _ _ h7.swap).mono ?_); rintro e w8 ⟨rfl, h8⟩; clear h7)
          | (go_at_call 18; (with_reducible refine (F2.out _ _ _ h8.swap).mono ?_); rintro e w9 ⟨rfl, h9⟩; clear h8)
          | (go_at_call 20; (with_reducible refine (LA1.out _ _ _ h9.swap).mono ?_); rintro e w10 ⟨rfl, h10⟩; clear h9)
          | (go_at_call 20; (with_reducible refine (LA2.out _ _ _ h10.swap).mono ?_); rintro e w11 ⟨rfl, h11⟩; clear h10)
          | (go_at_call 14; (with_reducible refine (LE1.out _ _ _ h11.swap).mono ?_); rintro e w12 ⟨rfl, h12⟩; clear h11)
          | (go_at_call 14; (with_reducible refine (LE2.out _ _ _ h12.swap).mono ?_); rintro e w13 ⟨rfl, h13⟩; clear h12)
          | (go_at_call 24; (with_reducible refine (ST1.out _ _ _ h13.swap).mono ?_); rintro e w14 ⟨v1, rfl, h14⟩; obtain ⟨A1, c1, rfl, _, hle1, hcm1⟩ := h14.txt; clear h13)
          | (go_at_call 24; (with_reducible refine (ST2.out _ _ _ h14.rot3).mono ?_); rintro e w15 ⟨v2, rfl, h15⟩; obtain ⟨A2, c2, rfl, hat2, hle2, hcm2⟩ := h15.txt; have SM := Lib.hid (same9e A1 A2 XS.length XS.length c1 c2 XS _ h15.rot3.txtA hat2 (by omega) (by omega)); clear hat2)
          | (go_at_call 25; refine SM.out.mono ?_; rintro e w16 ⟨rfl, hb16⟩))
        all_goals
          go_ret
          exact ⟨rfl, bst h15.bel hb16⟩
end Go.Proofs.Ytcpbcoeccplliaa
