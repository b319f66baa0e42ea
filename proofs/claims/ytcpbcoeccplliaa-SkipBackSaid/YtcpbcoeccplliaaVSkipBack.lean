/-
  Layer 9: SkipBack, walked.
-/
import Derived.Test.YtcpbcoeccplliaaSkKeys
set_option linter.unusedVariables false
namespace Go.Proofs.Ytcpbcoeccplliaa
open Go.RowKit Go.Maps

set_option maxRecDepth 100000 in
set_option maxHeartbeats 8000000 in
theorem skipBack_w (A0 : Option Addr) (n0 c0 : Nat) (key : ByteArray) (steps : Int) (w : World) (ds : List Sd9) (hds : SdAt w A0 n0 ds) (hok : ∀ i (h : i < ds.length), (ds[i]'h).ok) (hn : n0 ≤ 9223372036854775807) (hks : key.size ≤ 281474976710656) :
    Calls Try.prog 9 #[.slice A0 n0 c0, .string key, .int .i64 steps] w fun e w' => e = .returned (.bool true) ∧ Below w.heap.size w w' := by
  obtain ⟨L, _, hl, hS, hst, hmd⟩ := sk_made9 A0 n0 c0 w ds hds hok hn
  have MD := Lib.hid hmd
  have HKS := Lib.hid hks
  have BS := Lib.hid (fun W => bring steps 16 W (by omega) (by omega))
  have PUT := Lib.hid (fun (q : Nat) (W : World) (T : List As) (h : Has w (skA q L :: T) W) => (show Calls Try.prog 30 #[pt q, .string key, .int .i64 7, .int .i64 (1 + steps % 16)] W fun e w' => e = .returned (.bool true) ∧ Has w (skA q (kput L key (.int .i64 7) (1 + steps % 16).toNat) :: T) w' from by
    have hm1 := Int.emod_nonneg steps (b := 16) (by omega)
    have hm2 := Int.emod_lt_of_pos steps (b := 16) (by omega)
    have p := h.skPut (key := key) 7 (1 + steps % 16) (by omega) (by omega) (by omega) hks
    rw [decide_eq_true (by omega), kputI, if_pos (by omega)] at p
    exact p))
  obtain ⟨XS, hXS⟩ : ∃ x, kstepI L 1 = x := ⟨_, rfl⟩
  have hxl : XS.length ≤ 80 := by rw [← hXS, kstep_all hst, List.length_map]; exact hl
  have ST := Lib.hid (fun q W T (h : Has w (skA q L :: T) W) => h.skStep 1 (by omega) (by omega) (by omega))
  rw [hXS] at ST
  generalize (1 + steps % 16).toNat = s at *
  clear hds hok hks hn hXS hst
  cases hh : khas L key with
  | true =>
    have hl1 := kput_len L key (.int .i64 7) s
    have g1 : khas (kput L key (.int .i64 7) s) key = true := by rw [kput_has hS, if_pos rfl]
    have g2 : kval z9 (kput L key (.int .i64 7) s) key = .int .i64 7 := by rw [kput_val hS _ _ _ _ g1, if_pos rfl]
    have hS1 := Sor.put hS key (.int .i64 7) s
    have hl2 := kdrop_len (kput L key (.int .i64 7) s) key
    have g3 : khas (kdrop (kput L key (.int .i64 7) s) key) key = false := by rw [kdrop_has hS1, if_pos rfl]
    have g4 : kdrop (kdrop (kput L key (.int .i64 7) s) key) key = kdrop (kput L key (.int .i64 7) s) key := kdrop_none g3
    rw [hh] at hl1
    rw [g1] at hl2
    simp only [if_true, Nat.add_zero] at hl1 hl2
    generalize kput L key (.int .i64 7) s = L1 at *
    have hv9 : kval z9 (kdrop L1 key) key = .int .i64 0 := by unfold kval; rw [g3]; rfl
    have G1 := Lib.hid (fun q W T (h : Has w (skA q L1 :: T) W) => h.skGet key)
    have D1 := Lib.hid (fun q W T (h : Has w (skA q L1 :: T) W) => h.skDrop key (by omega))
    generalize kdrop L1 key = L2 at *
    have D2 := Lib.hid (fun q W T (h : Has w (skA q L2 :: T) W) => h.skDrop key (by omega))
    have G2 := Lib.hid (fun q W T (h : Has w (skA q L2 :: T) W) => h.skGet key)
    have LE := Lib.hid (fun q W T (h : Has w (skA q L2 :: T) W) => h.skLen)
    rw [g1, g2] at G1
    rw [g1] at D1
    rw [g3, g4] at D2
    rw [g3, hv9] at G2
    have e1 : L.length = L2.length + 1 := by omega
    generalize L2.length = m at *
    have hm : m ≤ 80 := by omega
    have HHH := Lib.hid hh
    have HE1 := Lib.hid e1
    clear hl1 g1 g2 g3 g4 hl2 hS1 hS hl hh hv9 e1 hmd
    go_enter Try.func9, Try.ntmps9
    go_wp2_with (first
      | (go_at_call 27; refine (sk_works _).mono ?_; rintro e w1 ⟨rfl, hb1⟩)
      | (go_at_call 28; refine (MD.out w1 hb1).mono ?_; rintro e w2 ⟨q, b, rfl, h2⟩; obtain ⟨D, hO, hM, hX⟩ := h2.swap.map; clear hX; have HO := Lib.hid hO; have HM := Lib.hid hM; clear hO hM)
      | (at_lookup; refine wpList_look9 _ rfl _ _ rfl b 80 D L key _ rfl HO.out HM.out rfl HKS.out HHH.out ?_; intro c hc)
      | (go_at_call 24; refine (ST.out _ _ _ h2).mono ?_; rintro e w3 ⟨v1, rfl, h3⟩; obtain ⟨A1, c1, rfl, _, hle1, hcm1⟩ := h3.txt; have H3 := Lib.hid h3.swap; clear h3 h2)
      | (go_at_call 29; refine (BS.out _).mono ?_; rintro e w4 ⟨rfl, rfl⟩)
      | (go_at_call 30; (with_reducible refine (PUT.out _ _ _ H3.out).mono ?_); rintro e w5 ⟨rfl, h5⟩)
      | (go_at_call 16; refine (G1.out _ _ _ h5).mono ?_; rintro e w6 ⟨rfl, h6⟩; clear h5)
      | (go_at_call 31; refine (D1.out _ _ _ h6).mono ?_; rintro e w7 ⟨rfl, h7⟩; clear h6)
      | (go_at_call 31; refine (D2.out _ _ _ h7).mono ?_; rintro e w8 ⟨rfl, h8⟩; clear h7)
      | (go_at_call 16; refine (G2.out _ _ _ h8).mono ?_; rintro e w9 ⟨rfl, h9⟩; clear h8)
      | (go_at_call 14; refine (LE.out _ _ _ h9).mono ?_; rintro e w10 ⟨rfl, h10⟩; have hml := Has.mapLen (h10.perm (List.Perm.cons _ (List.Perm.swap _ _ _))).swap HE1.out))
    go_ret
    exact ⟨rfl, h10.bel⟩
  | false =>
    have hl1 := kput_len L key (.int .i64 7) s
    have g1 : khas (kput L key (.int .i64 7) s) key = true := by rw [kput_has hS, if_pos rfl]
    have g2 : kval z9 (kput L key (.int .i64 7) s) key = .int .i64 7 := by rw [kput_val hS _ _ _ _ g1, if_pos rfl]
    have hS1 := Sor.put hS key (.int .i64 7) s
    have hl2 := kdrop_len (kput L key (.int .i64 7) s) key
    have g3 : khas (kdrop (kput L key (.int .i64 7) s) key) key = false := by rw [kdrop_has hS1, if_pos rfl]
    have g4 : kdrop (kdrop (kput L key (.int .i64 7) s) key) key = kdrop (kput L key (.int .i64 7) s) key := kdrop_none g3
    rw [hh] at hl1
    rw [g1] at hl2
    simp only [if_true, if_false, Bool.false_eq_true] at hl1 hl2
    rw [kdrop_put hS _ _ hh] at g3 g4 hl2
    have g5 := kdrop_put hS (.int .i64 7) s hh
    generalize kput L key (.int .i64 7) s = L1 at *
    have hv9 : kval z9 L key = .int .i64 0 := by unfold kval; rw [g3]; rfl
    have G1 := Lib.hid (fun q W T (h : Has w (skA q L1 :: T) W) => h.skGet key)
    have D1 := Lib.hid (fun q W T (h : Has w (skA q L1 :: T) W) => h.skDrop key (by omega))
    have D2 := Lib.hid (fun q W T (h : Has w (skA q L :: T) W) => h.skDrop key (by omega))
    have G2 := Lib.hid (fun q W T (h : Has w (skA q L :: T) W) => h.skGet key)
    rw [g1, g2] at G1
    rw [g1, g5] at D1
    rw [g3, g4] at D2
    rw [g3, hv9] at G2
    have HHH := Lib.hid hh
    clear hl1 g1 g2 g3 g4 g5 hl2 hS1 hS hl hh hv9 hmd
    go_enter Try.func9, Try.ntmps9
    go_wp2_with (first
      | (go_at_call 27; refine (sk_works _).mono ?_; rintro e w1 ⟨rfl, hb1⟩)
      | (go_at_call 28; refine (MD.out w1 hb1).mono ?_; rintro e w2 ⟨q, b, rfl, h2⟩; obtain ⟨D, hO, hM, hX⟩ := h2.swap.map; clear hX; have HO := Lib.hid hO; have HM := Lib.hid hM; clear hO hM)
      | (at_lookup; refine wpList_look9 _ rfl _ _ rfl b 80 D L key _ rfl HO.out HM.out rfl HKS.out HHH.out ?_; intro c hc)
      | (go_at_call 24; refine (ST.out _ _ _ h2).mono ?_; rintro e w3 ⟨v1, rfl, h3⟩; obtain ⟨A1, c1, rfl, _, hle1, hcm1⟩ := h3.txt; have H3 := Lib.hid h3.swap; clear h3 h2)
      | (go_at_call 29; refine (BS.out _).mono ?_; rintro e w4 ⟨rfl, rfl⟩)
      | (go_at_call 30; (with_reducible refine (PUT.out _ _ _ H3.out).mono ?_); rintro e w5 ⟨rfl, h5⟩)
      | (go_at_call 16; refine (G1.out _ _ _ h5).mono ?_; rintro e w6 ⟨rfl, h6⟩; clear h5)
      | (go_at_call 31; refine (D1.out _ _ _ h6).mono ?_; rintro e w7 ⟨rfl, h7⟩; clear h6)
      | (go_at_call 31; refine (D2.out _ _ _ h7).mono ?_; rintro e w8 ⟨rfl, h8⟩; clear h7)
      | (go_at_call 16; refine (G2.out _ _ _ h8).mono ?_; rintro e w9 ⟨rfl, h9⟩; clear h8)
      | (go_at_call 24; refine (ST.out _ _ _ h9).mono ?_; rintro e w10 ⟨v2, rfl, h10⟩; obtain ⟨A2, c2, rfl, hat2, hle2, hcm2⟩ := h10.txt; have SM := Lib.hid (same9e A1 A2 XS.length XS.length c1 c2 XS _ h10.rot3.txtA hat2 (by omega) (by omega)); clear hat2)
      | (go_at_call 25; refine SM.out.mono ?_; rintro e w11 ⟨rfl, hb11⟩))
    go_ret
    exact ⟨rfl, bst h10.bel hb11⟩
end Go.Proofs.Ytcpbcoeccplliaa
