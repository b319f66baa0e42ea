/-
  Layer 9: SkipKnown, walked.
-/
import Derived.Test.YtcpbcoeccplliaaSkKnM
set_option linter.unusedVariables false
namespace Go.Proofs.Ytcpbcoeccplliaa
open Go.RowKit

set_option maxRecDepth 100000 in
set_option maxHeartbeats 16000000 in
theorem skipKnown_w (w : World) : Calls Try.prog 10 #[] w fun e w' => e = .returned (.bool true) ∧ Below w.heap.size w w' := by
  have h0 : Has w [] w := Has.nil (Below.refl _ _)
  have b1 : ((nZ.toList == nZ.toList)) = true := by simp
  have b2 : ((nFF.toList == nFF.toList)) = true := by simp
  have b3 : ((nE.toList == nE.toList)) = true := by simp
  go_enter Try.func10, Try.ntmps10
  go_upto_region 12 with (first
    | (go_at_call 32; refine h0.slNew.mono ?_; rintro e w1 ⟨q, rfl, h1⟩; clear h0)
    | (go_at_call 33; refine (h1.slGet nE).mono ?_; rintro e w2 ⟨rfl, h2⟩; rw [show kval z9s [] nE = .slice none 0 0 from rfl, show khas [] nE = false from rfl]; clear h1)
    | (go_at_call 34; refine h2.slLen.mono ?_; rintro e w3 ⟨rfl, h3⟩; rw [show ((([] : List Kv).length : Nat) : Int) = 0 from rfl]; clear h2)
    | (go_at_call 35; refine (h3.slDrop nE (by decide)).mono ?_; rintro e w4 ⟨rfl, h4⟩; rw [show kdrop [] nE = [] from rfl] at h4; rw [show khas [] nE = false from rfl]; clear h3)
    | (go_at_call 36; refine (h4.slStep 1 (by decide) (by decide) (by decide)).mono ?_; rintro e w5 ⟨v5, rfl, h5⟩; rw [show kstepI [] 1 = [] from rfl] at h5; obtain ⟨A5, c5, rfl, _, _, _⟩ := h5.txt; have h5t := h5.tail; clear h4 h5)
    | (go_at_call 37; (refine ((h5t.alloc (.cells #[.string nA] 9)).slPut (some ⟨w5.heap.size, 0, none⟩) 1 1 16 (by decide) (by decide) (by decide) (by decide)).mono ?_); rintro e w6 ⟨rfl, h6⟩; rw [mp1] at h6; generalize Value.slice (some ⟨w5.heap.size, 0, none⟩) 1 1 = uu at *; clear h5t)
    | (go_at_call 37; refine ((h6.alloc (.cells #[.string nB] 9)).slPut (some ⟨w6.heap.size, 0, none⟩) 1 1 1 (M1_len _) (by decide) (by decide) (by decide)).mono ?_; rintro e w7 ⟨rfl, h7⟩; rw [mp2] at h7; generalize Value.slice (some ⟨w6.heap.size, 0, none⟩) 1 1 = vv at *; clear h6)
    | (go_at_call 37; refine (h7.slPut none 0 0 2 (M2_len _ _) (by decide) (by decide) (by decide)).mono ?_; rintro e w8 ⟨rfl, h8⟩; rw [mp3] at h8; have H8 := Lib.hid h8; clear h7 h8)
    | (go_at_call 38; refine (H8.out.slFirst nE).mono ?_; rintro e w9 ⟨rfl, h9⟩; rw [mf1]; have H9 := Lib.hid h9; clear H8 h9)
    | (go_at_call 38; refine (H9.out.slFirst nZ).mono ?_; rintro e w10 ⟨rfl, h10⟩; rw [mf2]; have H10 := Lib.hid h10; clear H9 h10)
    | (go_at_call 39; refine (H10.out.slLast nE).mono ?_; rintro e w11 ⟨rfl, h11⟩; rw [ml1]; have H11 := Lib.hid h11; clear H10 h11)
    | (go_at_call 39; refine (H11.out.slLast nZZ).mono ?_; rintro e w12 ⟨rfl, h12⟩; rw [ml2]; have H12 := Lib.hid h12; clear H11 h12)
    | (go_at_call 39; refine (H12.out.slLast nZ).mono ?_; rintro e w13 ⟨rfl, h13⟩; rw [ml3]; have H13 := Lib.hid h13; clear H12 h13)
    | (go_at_call 36; refine (H13.out.slStep 1 (M3_len _ _) (by decide) (by decide)).mono ?_; rintro e w14 ⟨v14, rfl, h14⟩; rw [mt1] at h14; obtain ⟨A14, c14, rfl, hat14, hc1, hc2⟩ := h14.txt; clear H13)
    | (go_at_call 25; refine (same9e A14 (some ⟨w14.heap.size, 0, none⟩) 3 3 c14 3 [nE, nZ, nFF] _ (hat14.below (nbl w14 (.cells #[.string nE, .string nZ, .string nFF] 9))) (SAt.lit (heap_alloc_new w14 (.cells #[.string nE, .string nZ, .string nFF] 9))) (by decide) (by decide)).mono ?_; rintro e w15 ⟨rfl, hb15⟩; have H15 := Lib.hid ((h14.tail.alloc _).keep hb15); clear h14 hat14 hb15)
    | (go_at_call 36; refine (H15.out.slStep 16 (M3_len _ _) (by decide) (by decide)).mono ?_; rintro e w16 ⟨v16, rfl, h16⟩; rw [mt16] at h16; obtain ⟨A16, c16, rfl, hat16, hc3, hc4⟩ := h16.txt; clear H15)
    | (go_at_call 25; refine (same9e A16 (some ⟨w16.heap.size, 0, none⟩) 1 1 c16 1 [nE] _ (hat16.below (nbl w16 (.cells #[.string nE] 9))) (SAt.lit (heap_alloc_new w16 (.cells #[.string nE] 9))) (by decide) (by decide)).mono ?_; rintro e w17 ⟨rfl, hb17⟩; have H17 := Lib.hid ((h16.tail.alloc _).keep hb17); clear h16 hat16 hb17)
    | (go_at_call 36; refine (H17.out.slStep 17 (M3_len _ _) (by decide) (by decide)).mono ?_; rintro e w18 ⟨v18, rfl, h18⟩; rw [mt17] at h18; obtain ⟨A18, c18, rfl, hat18, hc5, hc6⟩ := h18.txt; have H18 := Lib.hid (Has.nil h18.bel); clear H17 h18 hat18)
    | (go_at_call 11; refine H18.out.skNew.mono ?_; rintro e w19 ⟨q2, rfl, h19⟩; have H19 := Lib.hid h19; clear h19 H18))
  go_wp2_with fail
  have H20 := Lib.hid (show Has w (skA q2 (ML 0) :: []) w19 from H19.out)
  go_loopw [18] (fun x wr => ∃ i : Nat, i ≤ 200 ∧ x = .int .i64 (i : Int) ∧ Hid (Has w (skA q2 (ML i) :: []) wr)) (fun x _ => 200 - (intOf x).toNat)
  case atStart => exact ⟨0, Nat.zero_le _, rfl, H20⟩
  case round =>
    obtain ⟨i, hi, rfl, HH⟩ := hrel
    by_cases hlt : i < 200
    · have RP := Lib.hid (fun W => rp_call (200 - i) W (by omega) (200 - (i : Int)) (by omega))
      have PU := Lib.hid (fun W (h : Has w (skA q2 (ML i) :: []) W) => (show Calls Try.prog 30 #[pt q2, .string (rp (200 - i)), .int .i64 (i : Int), .int .i64 (1 + (i : Int) % 16)] W fun e w' => e = .returned (.bool true) ∧ Has w (skA q2 (ML (i + 1)) :: []) w' from by
        have e := h.skPut (key := rp (200 - i)) (i : Int) (1 + (i : Int) % 16) (by rw [ML_len]; omega) (by omega) (by omega) (by rw [rp_size]; omega)
        rw [decide_eq_true (by omega), ML_put i hlt _ (by omega)] at e
        exact e))
      generalize rp (200 - i) = x at *
      have i1 : (0 : Int) ≤ (i : Int) := by omega
      go_wp2_with (first
        | (go_at_call 40; (with_reducible refine (RP.out _).mono ?_); rintro e w3 ⟨rfl, hb3⟩; have H3 := Lib.hid (HH.out.keep hb3); clear hb3)
        | (go_at_call 30; (with_reducible refine (PU.out _ H3.out).mono ?_); rintro e w4 ⟨rfl, h4⟩; have H4 := Lib.hid h4; clear h4))
      go_roundw
      case rel => exact ⟨i + 1, by omega, by go_num, H4⟩
      case measure => simp [intOf]; omega
    · obtain rfl : i = 200 := by omega
      have m1 := ML_has
      have m2 := ML_val
      have m3 := ML_last
      have m4 := ML_16
      have m5 := ML_len 200
      have m6 := rp_size 76
      have RP := Lib.hid (fun W => rp_call 77 W (by omega) 77 rfl)
      generalize ML 200 = LL at *
      obtain ⟨TS, hTS⟩ : ∃ x, kstepI LL 16 = x := ⟨_, rfl⟩
      rw [hTS] at m4
      generalize rp 76 = y at *
      generalize rp 77 = x at *
      have GE := Lib.hid (fun W (h : Has w (skA q2 LL :: []) W) => h.skGet x)
      have LA := Lib.hid (fun W (h : Has w (skA q2 LL :: []) W) => h.skLast x)
      have LE := Lib.hid (fun W (h : Has w (skA q2 LL :: []) W) => h.skLen)
      have ST := Lib.hid (fun W (h : Has w (skA q2 LL :: []) W) => h.skStep 16 (by omega) (by omega) (by omega))
      rw [m1, m2] at GE
      rw [m3] at LA
      rw [m5] at LE
      rw [hTS] at ST
      clear m1 m2 m3 m5 hTS
      go_upto_region 21 with (first
        | (go_at_call 40; (with_reducible refine (RP.out _).mono ?_); rintro e w3 ⟨rfl, hb3⟩; have H3 := Lib.hid (HH.out.keep hb3); clear hb3 HH)
        | (go_at_call 16; (with_reducible refine (GE.out _ H3.out).mono ?_); rintro e w4 ⟨rfl, h4⟩; have HH := Lib.hid h4; clear h4 H3 GE)
        | (go_at_call 20; (with_reducible refine (LA.out _ H3.out).mono ?_); rintro e w5 ⟨rfl, h5⟩; have H5 := Lib.hid h5; clear h5 H3)
        | (go_at_call 14; (with_reducible refine (LE.out _ H5.out).mono ?_); rintro e w6 ⟨rfl, h6⟩; have H6 := Lib.hid h6; clear h6 H5)
        | (go_at_call 24; (with_reducible refine (ST.out _ H6.out).mono ?_); rintro e w7 ⟨v7, rfl, h7⟩; obtain ⟨A7, c7, rfl, _, _, _⟩ := h7.txt; have H7 := Lib.hid h7.bel; clear h7 H6))
      go_wp2_with fail
      have H8 := Lib.hid (And.intro (show NoS none w7 from .inl rfl) H7.out)
      clear H7
      go_loopw [24, 25] (fun x z wr => ∃ (i : Nat) (p : Option Addr), i ≤ 2 ∧ x = .pointer p ∧ z = .int .i64 (i : Int) ∧ Hid (NoS p wr ∧ Below w.heap.size w wr)) (fun _ z _ => 2 - (intOf z).toNat)
      case atStart => exact ⟨0, none, Nat.zero_le _, rfl, rfl, H8⟩
      case round =>
        obtain ⟨i, p, hi, rfl, rfl, HN⟩ := hrel
        by_cases hlt : i < 2
        · go_wp2_with
          (first
          | (go_at_call 16; (with_reducible refine (no_get HN.out.1 nE).mono ?_); rintro e z0 ⟨rfl, hb⟩; have HN0 := Lib.hid (And.intro (NoS.below HN.out.1 hb) (Below.trans HN.out.2 (hb.mono HN.out.2.size))); clear hb HN)
          | (go_at_call 18; (with_reducible refine (no_first HN0.out.1 nE).mono ?_); rintro e z1 ⟨rfl, hb⟩; have HN1 := Lib.hid (And.intro (NoS.below HN0.out.1 hb) (Below.trans HN0.out.2 (hb.mono HN0.out.2.size))); clear hb HN0)
          | (go_at_call 20; (with_reducible refine (no_last HN1.out.1 nE).mono ?_); rintro e z2 ⟨rfl, hb⟩; have HN2 := Lib.hid (And.intro (NoS.below HN1.out.1 hb) (Below.trans HN1.out.2 (hb.mono HN1.out.2.size))); clear hb HN1)
          | (go_at_call 30; (with_reducible refine (no_put HN2.out.1 nA 1 1).mono ?_); rintro e z3 ⟨rfl, hb⟩; have HN3 := Lib.hid (And.intro (NoS.below HN2.out.1 hb) (Below.trans HN2.out.2 (hb.mono HN2.out.2.size))); clear hb HN2)
          | (go_at_call 31; (with_reducible refine (no_drop HN3.out.1 nA).mono ?_); rintro e z4 ⟨rfl, hb⟩; have HN4 := Lib.hid (And.intro (NoS.below HN3.out.1 hb) (Below.trans HN3.out.2 (hb.mono HN3.out.2.size))); clear hb HN3)
          | (go_at_call 14; (with_reducible refine (no_len HN4.out.1).mono ?_); rintro e z5 ⟨rfl, hb⟩; have HN5 := Lib.hid (And.intro (NoS.below HN4.out.1 hb) (Below.trans HN4.out.2 (hb.mono HN4.out.2.size))); clear hb HN4)
          | (go_at_call 22; (with_reducible refine (no_steps HN5.out.1 nA).mono ?_); rintro e z6 ⟨rfl, hb⟩; have HN6 := Lib.hid (And.intro (NoS.below HN5.out.1 hb) (Below.trans HN5.out.2 (hb.mono HN5.out.2.size))); clear hb HN5)
          | (go_at_call 24; (with_reducible refine (no_step HN6.out.1 1).mono ?_); rintro e z7 ⟨rfl, hb⟩; have HN7 := Lib.hid (And.intro (NoS.below HN6.out.1 hb) (Below.trans HN6.out.2 (hb.mono HN6.out.2.size))); clear hb HN6))
          go_roundw
          case rel => exact ⟨i + 1, _, by omega, rfl, by go_num, Lib.hid ⟨.inr ⟨_, rfl, Blk.new _ _ _⟩, bsa HN7.out.2 _⟩⟩
          case measure => simp [intOf]; omega
        · obtain rfl : i = 2 := by omega
          go_wp2_with (first
            | (go_at_call 27; refine (sk_works _).mono ?_; rintro e w9 ⟨rfl, hb9⟩))
          go_ret
          exact ⟨rfl, bst HN.out.2 hb9⟩
end Go.Proofs.Ytcpbcoeccplliaa
