/-
  Layer 9: SkipWalk, walked.
-/
import Derived.Test.YtcpbcoeccplliaaSkWalkM
set_option linter.unusedVariables false
namespace Go.Proofs.Ytcpbcoeccplliaa
open Go.RowKit Go.Maps

theorem Has.rot4 {w V : World} {A B C D : As} {l : List As} (h : Has w (A :: B :: C :: D :: l) V) : Has w (D :: A :: B :: C :: l) V :=
  h.perm ((List.Perm.cons A ((List.Perm.cons B (List.Perm.swap D C l)).trans (List.Perm.swap D B (C :: l)))).trans (List.Perm.swap D A (B :: C :: l)))
set_option maxRecDepth 100000 in
set_option maxHeartbeats 8000000 in
theorem skipWalk_w (A0 : Option Addr) (n0 c0 : Nat) (w : World) (ds : List Sd9) (hds : SdAt w A0 n0 ds) (hok : ∀ i (h : i < ds.length), (ds[i]'h).ok) (hn : n0 ≤ 9223372036854775807) :
    Calls Try.prog 6 #[.slice A0 n0 c0] w fun e w' => e = .returned (.bool true) ∧ Below w.heap.size w w' := by
  obtain ⟨L, hLe, hl, hS, hst, hsz, hmd⟩ := sk_made9 A0 n0 c0 w ds hds hok hn
  clear hLe
  have MD := Lib.hid hmd
  obtain ⟨XS, hXS⟩ : ∃ x, kstepI L 1 = x := ⟨_, rfl⟩
  have eX : XS = L.map Kv.key := by rw [← hXS, kstep_all hst]
  have hxl : XS.length = L.length := by rw [eX, List.length_map]
  have ST := Lib.hid (fun q W T (h : Has w (skA q L :: T) W) => h.skStep 1 (by omega) (by omega) (by omega))
  rw [hXS] at ST
  have HS := Lib.hid hS
  have HSZ := Lib.hid hsz
  have XG := Lib.hid (fun (i : Nat) (hi : i < XS.length) => (show ∃ hi2 : i < L.length, XS[i]'hi = (L[i]'hi2).key ∧ keyAt L i = XS[i]'hi from by
    subst eX
    have hi2 : i < L.length := by simpa using hi
    exact ⟨hi2, by rw [List.getElem_map], by rw [keyAt_eq hi2, List.getElem_map]⟩))
  have HLN := Lib.hid hxl.symm
  rw [← hxl] at hl
  clear hds hok hn hXS hst eX hS hsz hmd hxl
  go_enter Try.func6, Try.ntmps6
  go_wp2_with (first
    | (go_at_call 27; refine (sk_works _).mono ?_; rintro e w1 ⟨rfl, hb1⟩)
    | (go_at_call 28; refine (MD.out w1 hb1).mono ?_; rintro e V0 ⟨q, b, rfl, h2⟩; have H2 := Lib.hid h2; clear h2 MD hb1))
  have R0 := Lib.hid (show TxRow V0 V0.heap.size (.slice none 0 0) 0 (XS.take 0) from World.ownsRow_nil _ _ _ _)
  have F0 := Lib.hid (show fromAt L 0 ⟨#[]⟩ from ⟨kpos_emp L, by decide⟩)
  go_loopw [5, 7, 8] (fun x y z wr => ∃ (i : Nat) (f : ByteArray), i ≤ XS.length ∧ z = .int .i64 (i : Int) ∧ y = .string f ∧ Hid (fromAt L i f) ∧ Hid (TxRow wr V0.heap.size x i (XS.take i)) ∧ Hid (Below V0.heap.size V0 wr)) (fun _ _ z _ => XS.length - (intOf z).toNat)
  case atStart => exact ⟨0, _, Nat.zero_le _, rfl, rfl, F0, R0, Lib.hid (Below.refl _ _)⟩
  case round =>
    obtain ⟨i, f, hi, rfl, rfl, HF, HR, HB⟩ := hrel
    obtain ⟨A, c, rfl, hat, hle, hcm⟩ := HR.out.form
    obtain ⟨D, hO, hM, _⟩ := (H2.out.keep HB.out).swap.map
    have HO := Lib.hid hO
    have HM := Lib.hid hM
    have FI := Lib.hid ((H2.out.keep HB.out).skFirstB f)
    rw [first_at HF.out] at FI
    clear hO hM hat
    by_cases hlt : i < XS.length
    · obtain ⟨hi2, hx1, hx2⟩ := XG.out i hlt
      rw [hx2, decide_eq_true hi2] at FI
      have htk : XS.take (i + 1) = XS.take i ++ [XS[i]'hlt] := List.take_succ_eq_append_getElem hlt
      have hfr : fromAt L (i + 1) ((XS[i]'hlt) ++ zr) := by
        rw [hx1]
        refine ⟨kpos_next HS.out hi2, ?_⟩
        have := HSZ.out _ (List.getElem_mem hi2)
        rw [ByteArray.size_append]
        show _ + 1 ≤ _
        omega
      have hszx : (XS[i]'hlt).size ≤ 281474976710656 := by rw [hx1]; exact HSZ.out _ (List.getElem_mem hi2)
      generalize XS[i]'hlt = x at *
      have HTK := Lib.hid htk
      have HFR := Lib.hid hfr
      have TO := Lib.hid (fun W => text_one W x)
      clear hx1 hx2 htk hfr
      go_wp2_with (first
        | (at_len; refine wpList_len9 _ rfl _ rfl b 80 _ L XS.length rfl HO.out HM.out HLN.out ?_)
        | (go_at_call 18; (with_reducible refine FI.out.mono ?_); rintro e w3 ⟨rfl, hb3⟩; have HRR := Lib.hid (HR.out.keep (hb3.alloc hb3.size (.cells #[.string x] 9))); have HB3 := Lib.hid ((HB.out.trans (hb3.mono HB.out.size)).alloc (Nat.le_trans HB.out.size hb3.size) (.cells #[.string x] 9)); clear hb3)
        | (at_builtin; refine wpList_appT rfl _ _ rfl V0.heap.size (.slice A i c) i (XS.take i) [x] rfl HRR.out (some ⟨w3.heap.size, 0, none⟩) 1 1 rfl (TO.out _) (by omega) HB3.out.size ?_; intro v1 w4 hr4 hg4; have HB4 := Lib.hid (HB3.out.grown hg4 HB3.out.size (fun k e => (World.ownsRow.lt HRR.out k e).1)); have HR4 := Lib.hid hr4; clear hr4 hg4))
      go_roundw
      case rel => exact ⟨i + 1, x ++ zr, by omega, by go_num, rfl, HFR, Lib.hid (by rw [HTK.out]; exact HR4.out), HB4⟩
      case measure => simp [intOf]; omega
    · obtain rfl : i = XS.length := by omega
      rw [decide_eq_false (by rw [HLN.out]; omega)] at FI
      go_wp2_with (first
        | (at_len; refine wpList_len9 _ rfl _ rfl b 80 _ L XS.length rfl HO.out HM.out HLN.out ?_)
        | (go_at_call 18; (with_reducible refine FI.out.mono ?_); rintro e V1 ⟨rfl, hb3⟩))
      have H3 := Lib.hid (((H2.out.newRow (v := .slice A XS.length c) (xs := XS) (by have := HR.out; rw [List.take_length] at this; exact this) HB.out)).keep hb3)
      have R1 := Lib.hid (show TxRow V1 V1.heap.size (.slice none 0 0) 0 (XS.drop (XS.length - 0)) from by rw [Nat.sub_zero, List.drop_length]; exact World.ownsRow_nil _ _ _ _)
      have T0 := Lib.hid (show toAt L 0 ⟨#[]⟩ from .inl ⟨rfl, rfl⟩)
      clear HR HB HO HM FI HF hb3
      go_loopw [6, 11, 12] (fun x y z wr => ∃ (i : Nat) (f : ByteArray), i ≤ XS.length ∧ z = .int .i64 (i : Int) ∧ y = .string f ∧ Hid (toAt L i f) ∧ Hid (TxRow wr V1.heap.size x i (XS.drop (XS.length - i))) ∧ Hid (Below V1.heap.size V1 wr)) (fun _ _ z _ => XS.length - (intOf z).toNat)
      case atStart => exact ⟨0, _, Nat.zero_le _, rfl, rfl, T0, R1, Lib.hid (Below.refl _ _)⟩
      case round =>
        obtain ⟨i, f, hi, rfl, rfl, HF, HR, HB⟩ := hrel
        obtain ⟨A2, c2, rfl, hat, hle2, hcm2⟩ := HR.out.form
        have HE := Lib.hid (H3.out.keep HB.out)
        obtain ⟨D, hO, hM, _⟩ := HE.out.rot3.map
        have HO := Lib.hid hO
        have HM := Lib.hid hM
        have FI := Lib.hid (HE.out.swap.skLastB f)
        clear hO hM
        by_cases hlt : i < XS.length
        · obtain ⟨q1, q2⟩ := last_at HS.out HF.out (by rw [HLN.out]; exact hlt)
          rw [q1, HLN.out] at FI
          obtain ⟨hi2, hx1, hx2⟩ := XG.out (XS.length - i - 1) (by omega)
          rw [hx2] at FI
          have hdr : XS.drop (XS.length - (i + 1)) = [XS[XS.length - i - 1]'(by omega)] ++ XS.drop (XS.length - i) := by
            rw [show XS.length - (i + 1) = XS.length - i - 1 by omega, List.drop_eq_getElem_cons (by omega), show XS.length - i - 1 + 1 = XS.length - i by omega]
            rfl
          have hto : toAt L (i + 1) (XS[XS.length - i - 1]'(by omega)) := by
            refine .inr ⟨by omega, by rw [HLN.out]; omega, ?_⟩
            rw [hx1]
            congr 2
            rw [HLN.out]
            omega
          generalize XS[XS.length - i - 1]'(by omega) = x at *
          have HDR := Lib.hid hdr
          have HTO := Lib.hid hto
          have TR := Lib.hid (fun W h => text_row W V1.heap.size x h)
          have HAT := Lib.hid hat
          clear hx1 hx2 hdr hto q1 hat
          by_cases hi0 : 0 < i
          · have hne : (f.toList == ([] : List UInt8)) = false := q2 hi0
            have hi0' : (0 : Int) < (i : Int) := by omega
            clear q2
            go_wp2_with (first
              | (at_len; refine wpList_len9 _ rfl _ rfl b 80 _ L XS.length rfl HO.out HM.out HLN.out ?_)
              | (go_at_call 20; (with_reducible refine FI.out.mono ?_); rintro e w3 ⟨rfl, hb3⟩; have hs3 := Nat.le_trans HB.out.size hb3.size; have HAT3 := Lib.hid (HAT.out.below (hb3.alloc hb3.size (.cells #[.string x] 9))); have TR3 := Lib.hid (TR.out w3 hs3); have HB3 := Lib.hid ((HB.out.trans (hb3.mono HB.out.size)).alloc hs3 (.cells #[.string x] 9)); clear hb3 hs3)
              | (at_builtin; refine wpList_appT rfl _ _ rfl V1.heap.size (.slice (some ⟨w3.heap.size, 0, none⟩) 1 1) 1 [x] (XS.drop (XS.length - i)) rfl TR3.out A2 i c2 rfl HAT3.out (by omega) HB3.out.size ?_; intro v1 w4 hr4 hg4; have HB4 := Lib.hid (HB3.out.grown hg4 HB3.out.size (fun k e => (World.ownsRow.lt TR3.out k e).1)); have HR4 := Lib.hid hr4; clear hr4 hg4))
            go_roundw
            case rel => exact ⟨i + 1, x, by omega, by go_num, rfl, HTO, Lib.hid (by rw [HDR.out, Nat.add_comm i 1]; exact HR4.out), HB4⟩
            case measure => simp [intOf]; omega
          · have hi0' : ¬ (0 : Int) < (i : Int) := by omega
            clear q2
            go_wp2_with (first
              | (at_len; refine wpList_len9 _ rfl _ rfl b 80 _ L XS.length rfl HO.out HM.out HLN.out ?_)
              | (go_at_call 20; (with_reducible refine FI.out.mono ?_); rintro e w3 ⟨rfl, hb3⟩; have hs3 := Nat.le_trans HB.out.size hb3.size; have HAT3 := Lib.hid (HAT.out.below (hb3.alloc hb3.size (.cells #[.string x] 9))); have TR3 := Lib.hid (TR.out w3 hs3); have HB3 := Lib.hid ((HB.out.trans (hb3.mono HB.out.size)).alloc hs3 (.cells #[.string x] 9)); clear hb3 hs3)
              | (at_builtin; refine wpList_appT rfl _ _ rfl V1.heap.size (.slice (some ⟨w3.heap.size, 0, none⟩) 1 1) 1 [x] (XS.drop (XS.length - i)) rfl TR3.out A2 i c2 rfl HAT3.out (by omega) HB3.out.size ?_; intro v1 w4 hr4 hg4; have HB4 := Lib.hid (HB3.out.grown hg4 HB3.out.size (fun k e => (World.ownsRow.lt TR3.out k e).1)); have HR4 := Lib.hid hr4; clear hr4 hg4))
            go_roundw
            case rel => exact ⟨i + 1, x, by omega, by go_num, rfl, HTO, Lib.hid (by rw [HDR.out, Nat.add_comm i 1]; exact HR4.out), HB4⟩
            case measure => simp [intOf]; omega
        · obtain rfl : i = XS.length := by omega
          have HN := Lib.hid (H3.out.newRow (v := .slice A2 XS.length c2) (xs := XS) (by have := HR.out; rw [Nat.sub_self, List.drop_zero] at this; exact this) HB.out)
          have hend := last_end HS.out (f := f) (by rw [HLN.out]; exact HF.out)
          rw [HLN.out] at hend
          clear hat
          rcases hend with ⟨k9, e9⟩ | ⟨⟨k9, e9⟩, h0, rfl⟩
          · rw [e9] at FI
            clear e9
            go_wp2_with (first
              | (at_len; refine wpList_len9 _ rfl _ rfl b 80 _ L XS.length rfl HO.out HM.out HLN.out ?_)
              | (go_at_call 20; (with_reducible refine FI.out.mono ?_); rintro e w3 ⟨rfl, hb3⟩; have H4 := Lib.hid (HN.out.keep hb3); clear hb3 HO HM FI; obtain ⟨D, hO, hM, _⟩ := H4.out.rot4.map)
              | (at_len; refine wpList_len9 _ rfl _ rfl b 80 _ L XS.length rfl hO hM HLN.out ?_; clear hO hM)
              | (go_at_call 24; (with_reducible refine (ST.out _ _ _ H4.out.rot3).mono ?_); rintro e w5 ⟨v2, rfl, h5⟩; obtain ⟨A3, c3, rfl, hat3, hle3, hcm3⟩ := h5.txt; have SM := Lib.hid (same9e A A3 XS.length XS.length c c3 XS _ h5.rot4.txtA hat3 (by omega) (by omega)); have H5 := Lib.hid h5; clear h5 hat3 H4)
              | (go_at_call 25; (with_reducible refine SM.out.mono ?_); rintro e w6 ⟨rfl, hb6⟩; have H6 := Lib.hid (H5.out.keep hb6); have SM2 := Lib.hid (same9e A2 A XS.length XS.length c2 c XS _ H6.out.rot3.txtA H6.out.rot4.txtA (by omega) (by omega)); clear SM H5 hb6)
              | (go_at_call 25; (with_reducible refine SM2.out.mono ?_); rintro e w7 ⟨rfl, hb7⟩))
            go_ret
            exact ⟨rfl, bst H6.out.bel hb7⟩
          · rw [e9] at FI
            have h0' : (0 : Int) < (XS.length : Int) := by omega
            clear e9
            go_wp2_with (first
              | (at_len; refine wpList_len9 _ rfl _ rfl b 80 _ L XS.length rfl HO.out HM.out HLN.out ?_)
              | (go_at_call 20; (with_reducible refine FI.out.mono ?_); rintro e w3 ⟨rfl, hb3⟩; have H4 := Lib.hid (HN.out.keep hb3); clear hb3 HO HM FI; obtain ⟨D, hO, hM, _⟩ := H4.out.rot4.map)
              | (at_len; refine wpList_len9 _ rfl _ rfl b 80 _ L XS.length rfl hO hM HLN.out ?_; clear hO hM)
              | (go_at_call 24; (with_reducible refine (ST.out _ _ _ H4.out.rot3).mono ?_); rintro e w5 ⟨v2, rfl, h5⟩; obtain ⟨A3, c3, rfl, hat3, hle3, hcm3⟩ := h5.txt; have SM := Lib.hid (same9e A A3 XS.length XS.length c c3 XS _ h5.rot4.txtA hat3 (by omega) (by omega)); have H5 := Lib.hid h5; clear h5 hat3 H4)
              | (go_at_call 25; (with_reducible refine SM.out.mono ?_); rintro e w6 ⟨rfl, hb6⟩; have H6 := Lib.hid (H5.out.keep hb6); have SM2 := Lib.hid (same9e A2 A XS.length XS.length c2 c XS _ H6.out.rot3.txtA H6.out.rot4.txtA (by omega) (by omega)); clear SM H5 hb6)
              | (go_at_call 25; (with_reducible refine SM2.out.mono ?_); rintro e w7 ⟨rfl, hb7⟩))
            go_ret
            exact ⟨rfl, bst H6.out.bel hb7⟩
end Go.Proofs.Ytcpbcoeccplliaa
