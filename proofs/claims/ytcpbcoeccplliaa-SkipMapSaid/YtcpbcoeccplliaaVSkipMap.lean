/-
  Layer 9: SkipMap, walked.
-/
import Derived.Test.YtcpbcoeccplliaaSkKeys
set_option linter.unusedVariables false
namespace Go.Proofs.Ytcpbcoeccplliaa
open Go.RowKit Go.Maps

set_option maxRecDepth 100000 in
set_option maxHeartbeats 8000000 in
theorem skipMap_w (A0 : Option Addr) (n0 c0 : Nat) (w : World) (ds : List Sd9) (hds : SdAt w A0 n0 ds) (hok : ∀ i (h : i < ds.length), (ds[i]'h).ok) (hn : n0 ≤ 9223372036854775807) :
    Calls Try.prog 5 #[.slice A0 n0 c0] w fun e w' => e = .returned (.bool true) ∧ Below w.heap.size w w' := by
  obtain ⟨L, _, hl, hS, hst, hsz, hmd⟩ := sk_made9 A0 n0 c0 w ds hds hok hn
  have MD := Lib.hid hmd
  obtain ⟨XS, hXS⟩ : ∃ x, kstepI L 1 = x := ⟨_, rfl⟩
  have eX : XS = L.map Kv.key := by rw [← hXS, kstep_all hst]
  have hxl : XS.length = L.length := by rw [eX, List.length_map]
  have ST := Lib.hid (fun q W T (h : Has w (skA q L :: T) W) => h.skStep 1 (by omega) (by omega) (by omega))
  have LE := Lib.hid (fun q W T (h : Has w (skA q L :: T) W) => h.skLen)
  rw [hXS] at ST
  have KE := Lib.hid (fun (D : DataW Empty) (hM : MpIs D L) (k : Nat) (hk : k < XS.length) => (show (XS[k]'hk).size ≤ 281474976710656 ∧ khas L (XS[k]'hk) = true ∧ ∃ v : Int, kval z9 L (XS[k]'hk) = .int .i64 v from by
    subst eX
    have hk2 : k < L.length := by simpa using hk
    have hh : khas L (L[k]'hk2).key = true := (khas_mem hS _).2 ⟨_, List.getElem_mem hk2, rfl⟩
    rw [List.getElem_map]
    obtain ⟨v, _, hv⟩ := hM.val _ hh (.lit (.int .i64 0))
    exact ⟨hsz _ (List.getElem_mem hk2), hh, v, hv⟩))
  have KO := Lib.hid (fun (k : Nat) (hk : k + 1 < XS.length) => (show kl (XS[k]'(by omega)) (XS[k + 1]'hk) = true from by
    subst eX
    rw [List.getElem_map, List.getElem_map]
    exact List.pairwise_iff_getElem.1 hS k (k + 1) (by simp at hk; omega) (by simpa using hk) (by omega)))
  have G := Lib.hid (fun q W T (h : Has w (skA q L :: T) W) key => h.skGet key)
  have HLN := Lib.hid hxl.symm
  simp only [← hxl] at LE hl
  clear hds hok hn hXS hst eX hS hsz hmd hxl
  go_enter Try.func5, Try.ntmps5
  go_wp2_with (first
    | (go_at_call 27; refine (sk_works _).mono ?_; rintro e w1 ⟨rfl, hb1⟩)
    | (go_at_call 28; refine (MD.out w1 hb1).mono ?_; rintro e w2 ⟨q, b, rfl, h2⟩; have H2 := Lib.hid h2; clear h2)
    | (go_at_call 14; refine (LE.out _ _ _ H2.out).mono ?_; rintro e w3 ⟨rfl, h3⟩; obtain ⟨D, hO, hM, _⟩ := h3.swap.map; have H3 := Lib.hid h3; have HM := Lib.hid hM; clear h3)
    | (at_len; refine wpList_len9 _ rfl _ rfl b 80 _ L XS.length rfl hO hM HLN.out ?_; clear hO hM)
    | (go_at_call 24; refine (ST.out _ _ _ H3.out).mono ?_; rintro e w4 ⟨v1, rfl, h4⟩; obtain ⟨A1, c1, rfl, _, hle1, hcm1⟩ := h4.txt; obtain ⟨D, hO, hM, _⟩ := h4.rot3.map; have H4 := Lib.hid h4; clear h4 H3))
  go_loopw [6] (fun i wr => ∃ k : Nat, k ≤ XS.length ∧ i = .int .i64 k ∧ Hid (Has w (txA (.slice A1 XS.length c1) XS :: skA q L :: mapA b 80 L :: []) wr)) (fun i _ => XS.length - (intOf i).toNat)
  case atStart => exact ⟨0, Nat.zero_le _, rfl, H4⟩
  case round =>
    obtain ⟨k, hk, rfl, HH⟩ := hrel
    by_cases hlt : k < XS.length
    · obtain ⟨bx, ox, rfl, hcx⟩ := HH.out.txtA.2 (by omega)
      have z0 := hcx k hlt
      obtain ⟨D, hO, hM, _⟩ := HH.out.rot3.map
      obtain ⟨ksz, kh, v, kv⟩ := KE.out D hM k hlt
      have HO := Lib.hid hO
      have HM := Lib.hid hM
      have HSZ := Lib.hid ksz
      have HKH := Lib.hid kh
      have HKV := Lib.hid kv
      have GE := Lib.hid (fun W T (h : Has w (skA q L :: T) W) => G.out q W T h (XS[k]'hlt))
      rw [kh, kv] at GE
      have HLX := Lib.hid hlt
      have HX := Lib.hid (rfl : XS[k]'hlt = XS[k]'hlt)
      clear hcx hO hM ksz kh kv
      have i1 : (0 : Int) ≤ (k : Int) := by omega
      have i2 : (k : Int) < (XS.length : Int) := by omega
      generalize hx : XS[k]'hlt = x at *
      have HXK := Lib.hid hx
      clear hx HX
      go_wp2_with (first
        | (at_lookup; refine wpList_look9v _ rfl _ _ rfl b 80 _ L x v rfl HO.out HM.out rfl HSZ.out HKH.out HKV.out ?_)
        | (go_at_call 16; refine (GE.out _ _ HH.out.swap).mono ?_; rintro e w5 ⟨rfl, h5⟩; have z5 := h5.swap.txtA; have H5 := Lib.hid h5.swap; clear h5 z0))
      obtain ⟨bx', ox', e1, hcx5⟩ := z5.2 (by omega)
      injection e1 with e1
      injection e1 with e1 e2
      subst e1; subst e2
      have z1 := hcx5 k hlt
      rw [HXK.out] at z1
      have ne0 : ((v : Int) != v) = false := by simp
      by_cases hk0 : k = 0
      · have d1 : ¬ 0 < k := by omega
        have d2 : ¬ (0 : Int) < (k : Int) := by omega
        clear hk0 hcx5 z5
        go_quiet (fail)
        go_wp2_with fail
        go_roundw
        case rel => exact ⟨k + 1, by omega, by go_num, Lib.hid (H5.out.drewN _)⟩
        case measure => simp [intOf]; omega
      · have z2 := hcx5 (k - 1) (by omega)
        have hk1 : k - 1 + 1 = k := by omega
        have ko := KO.out (k - 1) (by omega)
        simp only [hk1] at ko
        rw [HXK.out] at ko
        generalize hy : XS[k - 1]'(by omega) = y at *
        have s1 : Op.bytesLess x.toList y.toList = false := kl_asym ko
        have s2 : (x.toList == y.toList) = false := by rw [kbeq]; exact decide_eq_false (fun e => kl_ne ko e.symm)
        clear ko
        have d1 : 0 < k := by omega
        have d2 : (0 : Int) < (k : Int) := by omega
        clear hcx5 z5
        go_quiet (fail)
        go_wp2_with fail
        go_roundw
        case rel => exact ⟨k + 1, by omega, by go_num, Lib.hid (H5.out.drewN _)⟩
        case measure => simp [intOf]; omega
    · obtain rfl : k = XS.length := by omega
      go_wp2_with fail
      go_ret
      exact ⟨rfl, HH.out.bel⟩
end Go.Proofs.Ytcpbcoeccplliaa
