/-
  Layer 9: SkipSteps, walked.
-/
import Derived.Test.YtcpbcoeccplliaaSkOn
set_option linter.unusedVariables false
namespace Go.Proofs.Ytcpbcoeccplliaa
open Go.RowKit Go.Maps

set_option maxRecDepth 100000 in
set_option maxHeartbeats 8000000 in
theorem skipSteps_w (A0 : Option Addr) (n0 c0 : Nat) (w : World) (ds : List Sd9) (hds : SdAt w A0 n0 ds) (hok : ∀ i (h : i < ds.length), (ds[i]'h).ok) (hn : n0 ≤ 9223372036854775807) :
    Calls Try.prog 7 #[.slice A0 n0 c0] w fun e w' => e = .returned (.bool true) ∧ Below w.heap.size w w' := by
  obtain ⟨L, hLe, hl, hS, hst, hsz, hmd⟩ := sk_made9 A0 n0 c0 w ds hds hok hn
  have h16 : ∀ x ∈ L, x.st ≤ 16 := by rw [hLe]; exact listM_16 _ _
  have MD := Lib.hid hmd
  have ST := Lib.hid (fun (p : Nat) (h1 : 1 ≤ p) (h2 : p ≤ 18) q W T (h : Has w (skA q L :: T) W) => (show Calls Try.prog 24 #[pt q, .int .i64 (p : Int)] W fun e w' => ∃ v, e = .returned v ∧ Has w (txA v (ksB L p) :: skA q L :: T) w' from by
    have e := h.skStep ((p : Nat) : Int) (by omega) (by omega) (by omega)
    rw [onB_key L p h1] at e
    exact e))
  have SN := Lib.hid (fun q W T (h : Has w (skA q L :: T) W) key => h.skSteps key)
  have LE := Lib.hid (fun q W T (h : Has w (skA q L :: T) W) => h.skLen)
  have OR := Lib.hid (fun p xs ys (hx : xs = ksB L p) (hy : ys = ksB L (p + 1)) => on_round hS p hx hy)
  have E17 := Lib.hid (show ksB L 17 = [] from by unfold ksB; rw [onB_none (fun x hx => by have := h16 x hx; omega)]; rfl)
  have KL := Lib.hid (fun p => Nat.le_trans (ksB_len L p) hl)
  have CA := Lib.hid (fun p xs ys (hx : xs = ksB L p) (hy : ys = ksB L (p + 1)) => (show cntB L p xs.length = ys.length from by subst hx; subst hy; unfold ksB; rw [List.length_map, List.length_map]; exact cntB_all L p))
  clear hds hok hn hst hS hsz hmd hLe h16
  go_enter Try.func7, Try.ntmps7
  go_wp2_with (first
    | (go_at_call 27; refine (sk_works _).mono ?_; rintro e w1 ⟨rfl, hb1⟩)
    | (go_at_call 28; refine (MD.out w1 hb1).mono ?_; rintro e w2 ⟨q, b, rfl, h2⟩; have H2 := Lib.hid h2; clear h2)
    | (go_at_call 24; refine (ST.out 1 (by omega) (by omega) _ _ _ H2.out).mono ?_; rintro e w4 ⟨v1, rfl, h4⟩; obtain ⟨A1, c1, rfl, _, hle1, hcm1⟩ := h4.txt; have H4 := Lib.hid h4; clear h4))
  go_loopw [5, 6] (fun x y wr => ∃ (p : Nat) (A : Option Addr) (c : Nat) (XS : List ByteArray), 1 ≤ p ∧ p ≤ 17 ∧ x = .slice A XS.length c ∧ y = .int .i64 ((p + 1 : Nat) : Int) ∧ c ≤ 9223372036854775807 ∧ Hid (XS = ksB L p) ∧ Hid (Has w (txA (.slice A XS.length c) XS :: skA q L :: mapA b 80 L :: []) wr)) (fun _ y _ => 20 - (intOf y).toNat)
  case atStart => exact ⟨1, A1, c1, _, by omega, by omega, rfl, rfl, hcm1, Lib.hid rfl, H4⟩
  case round =>
    obtain ⟨p, A, c, XS, hp1, hp2, rfl, rfl, hc, HX, HH⟩ := hrel
    by_cases hlt : p < 17
    · have ST2 := Lib.hid (ST.out (p + 1) (by omega) (by omega))
      go_wp2_with (first
        | (go_at_call 24; refine (ST2.out _ _ _ HH.out.swap).mono ?_; rintro e w5 ⟨v2, rfl, h5⟩; obtain ⟨A2, c2, rfl, _, hle2, hcm2⟩ := h5.txt; have H5 := Lib.hid h5; clear h5))
      obtain ⟨YS, hYS⟩ : ∃ x, ksB L (p + 1) = x := ⟨_, rfl⟩
      obtain ⟨C, hC⟩ : ∃ C : Nat → Nat, cntB L p = C := ⟨_, rfl⟩
      have or2 := OR.out p XS YS HX.out hYS.symm
      have hl1 : XS.length ≤ 80 := by rw [HX.out]; exact KL.out p
      have hl2 : YS.length ≤ 80 := by rw [← hYS]; exact KL.out (p + 1)
      have ca := CA.out p XS YS HX.out hYS.symm
      have cz := cntB_0 L p
      rw [hC] at or2 ca cz
      rw [hYS] at H5 hle2
      have HY := Lib.hid hYS.symm
      have OR2 := Lib.hid or2
      have CA2 := Lib.hid ca
      have CZ := Lib.hid cz
      rw [hYS]
      clear hYS hC or2 ca cz ST2
      go_loopw [8, 9] (fun x y wr => ∃ i : Nat, i ≤ XS.length ∧ x = .int .i64 ((C i : Nat) : Int) ∧ y = .int .i64 (i : Int) ∧ Hid (Has w (txA (.slice A2 YS.length c2) YS :: skA q L :: txA (.slice A XS.length c) XS :: mapA b 80 L :: []) wr)) (fun _ y _ => XS.length - (intOf y).toNat)
      case atStart => exact ⟨0, Nat.zero_le _, by rw [CZ.out]; rfl, rfl, H5⟩
      case round =>
        obtain ⟨i, hi, rfl, rfl, HI⟩ := hrel
        by_cases hix : i < XS.length
        · obtain ⟨st, hst, hcle, hcase⟩ := OR2.out i hix
          obtain ⟨bx, ox, rfl, hcx⟩ := (Has.rot3 HI.out).txtA.2 (by omega)
          have z2 := hcx i hix
          have SN2 := Lib.hid (fun W T (h : Has w (skA q L :: T) W) => SN.out q W T h (XS[i]'hix))
          rw [hst] at SN2
          have HXI := Lib.hid (rfl : XS[i]'hix = XS[i]'hix)
          obtain ⟨x, hx⟩ : ∃ x, XS[i]'hix = x := ⟨_, rfl⟩
          rw [hx] at z2 SN2 hcase
          have i1 : (0 : Int) ≤ (i : Int) := by omega
          have i2 : (i : Int) < (XS.length : Int) := by omega
          have i3 : (0 : Int) ≤ (C i : Int) := by omega
          clear hcx hst HXI hx
          rcases hcase with ⟨hp, ⟨hcl, hyx⟩, hcs⟩ | ⟨hp, hne, hcs⟩
          · obtain ⟨by_, oy, rfl, hcy⟩ := HI.out.txtA.2 (by omega)
            have z1 := hcy (C i) hcl
            rw [hyx] at z1
            have HCS := Lib.hid hcs
            have i4 : (C i : Int) < (YS.length : Int) := by omega
            have s1 : (x.toList == x.toList) = true := by simp
            have p1 : ((p : Int) + 1) ≤ (st : Int) := by omega
            clear hcy hyx hcs
            generalize C i = ci at *
            go_wp2_with fail
            go_quiet (fail)
            have HI2 := Lib.hid (HI.out.drewN nq)
            have z3 : (wr.drewN nq).cell? ⟨bx, ox + i, none⟩ = some (.string x) := z2
            go_wp2_with (first
              | (go_at_call 22; refine (SN2.out _ _ HI2.out.swap).mono ?_; rintro e w6 ⟨rfl, h6⟩; have H6 := Lib.hid h6.swap; clear h6))
            go_roundw
            case rel => exact ⟨i + 1, by omega, by rw [HCS.out]; go_num, by go_num, H6⟩
            case measure => simp [intOf]; omega
          · by_cases hcl : C i < YS.length
            · obtain ⟨by_, oy, rfl, hcy⟩ := HI.out.txtA.2 (by omega)
              have z1 := hcy (C i) hcl
              have hyx := hne hcl
              generalize hy : YS[C i]'hcl = y at *
              have HCS := Lib.hid hcs
              have i4 : (C i : Int) < (YS.length : Int) := by omega
              have s1 : (y.toList == x.toList) = false := by rw [kbeq]; exact decide_eq_false hyx
              have p1 : ¬ ((p : Int) + 1) ≤ (st : Int) := by omega
              clear hcy hyx hcs hne hy
              generalize C i = ci at *
              go_wp2_with fail
              go_quiet (fail)
              have HI2 := Lib.hid (HI.out.drewN nq)
              have z3 : (wr.drewN nq).cell? ⟨bx, ox + i, none⟩ = some (.string x) := z2
              go_wp2_with (first
                | (go_at_call 22; refine (SN2.out _ _ HI2.out.swap).mono ?_; rintro e w6 ⟨rfl, h6⟩; have H6 := Lib.hid h6.swap; clear h6))
              go_roundw
              case rel => exact ⟨i + 1, by omega, by rw [HCS.out], by go_num, H6⟩
              case measure => simp [intOf]; omega
            · have HCS := Lib.hid hcs
              have i4 : ¬ (C i : Int) < (YS.length : Int) := by omega
              have p1 : ¬ ((p : Int) + 1) ≤ (st : Int) := by omega
              clear hcs hne
              generalize C i = ci at *
              go_wp2_with fail
              go_quiet (fail)
              have HI2 := Lib.hid (HI.out.drewN nq)
              have z3 : (wr.drewN nq).cell? ⟨bx, ox + i, none⟩ = some (.string x) := z2
              go_wp2_with (first
                | (go_at_call 22; refine (SN2.out _ _ HI2.out.swap).mono ?_; rintro e w6 ⟨rfl, h6⟩; have H6 := Lib.hid h6.swap; clear h6))
              go_roundw
              case rel => exact ⟨i + 1, by omega, by rw [HCS.out], by go_num, H6⟩
              case measure => simp [intOf]; omega
        · obtain rfl : i = XS.length := by omega
          rw [CA2.out]
          go_wp2_with fail
          go_roundw
          case rel => exact ⟨p + 1, A2, c2, YS, by omega, by omega, rfl, by go_num, hcm2, HY, Lib.hid (HI.out.rot3.tail)⟩
          case measure => simp [intOf]; omega
    · obtain rfl : p = 17 := by omega
      have hx0 := HX.out
      rw [E17.out] at hx0
      subst hx0
      have HLN := Lib.hid (rfl : L.length = L.length)
      have LE2 := Lib.hid (fun W (h : Has w (skA q L :: txA (.slice A 0 c) [] :: mapA b 80 L :: []) W) => (show Calls Try.prog 14 #[pt q] W fun e w' => e = .returned (.int .i64 (L.length : Int)) ∧ Has w (skA q L :: txA (.slice A 0 c) [] :: mapA b 80 L :: []) w' ∧ (Builtin.len_ #[42] 3 #[.map (some b)]).run Try.prog w' = .ok (.int .i64 (L.length : Int)) w' from (LE.out q W _ h).mono (fun e w' hh => ⟨hh.1, hh.2, Has.mapLen hh.2.rot3 rfl⟩)))
      generalize L.length = ln at *
      go_wp2_with (first
        | (go_at_call 14; refine (LE2.out _ HH.out.swap).mono ?_; rintro e w7 ⟨rfl, h7, hm7⟩))
      go_ret
      exact ⟨rfl, h7.bel⟩
end Go.Proofs.Ytcpbcoeccplliaa
