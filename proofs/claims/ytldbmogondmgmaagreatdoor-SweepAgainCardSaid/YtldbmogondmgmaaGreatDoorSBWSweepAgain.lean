/-
  SweepAgain, walked (written by wip/gensw4.py).
-/
import Derived.Test.YtldbmogondmgmaaGreatDoorSBSwQ
set_option linter.unusedVariables false
set_option linter.unusedSimpArgs false
set_option maxRecDepth 100000
namespace Go.Proofs.YtldbmogondmgmaaGreatDoor
open Go.RowKit

set_option maxHeartbeats 8000000 in
theorem sweepAgain_no (A : Option Addr) (n c : Nat) (l : List Ce) (F X : ByteArray) (a b : Int) (w : World) (hx : CeAt w A n l) (hz : ∀ x ∈ l, CeSz x) (hn : n ≤ 9223372036854775807) (hF : F.size ≤ 140737488351232) (hX : X.size ≤ 140737488351232) (ia : -9223372036854775808 ≤ a ∧ a ≤ 9223372036854775807) (ib : -9223372036854775808 ≤ b ∧ b ≤ 9223372036854775807) (hM : MaxL w) (k : Int) (hk : ¬ k = 0) (he : swE F X (a, b) = k) :
    Calls Tryz.prog 7 #[.slice A n c, .agg #[.string F, .string X], sv a b] w fun e w' => e = .returned (.bool true) ∧ Below w.heap.size w w' := by
  have hsc := swC_no (r := ctab l) F X (a, b) (by rw [he]; exact hk)
  have hok := ctab_ok hz
  have HCL := Lib.hid (fun W (hB : Below w.heap.size w W) => claid A n c l W (hx.below hB) hn hz)
  have HOK := Lib.hid hok
  have HWK := Lib.hid (fun W (hB : Below w.heap.size w W) => works15 W (hM.below hB))
  have HSW := Lib.hid (fun (V : World) (p : Nat) (T : List As) (h : Has w (tbA p (ctab l) :: T) V) => swSweep h hok (by decide) hM F X (by omega) (by omega) a b)
  have hz1 : (w.alloc (.cells #[.string F, .string X] 66)).heap.size = w.heap.size + 1 := World.size_alloc _ _
  have h0 := ((Has.nil (Below.refl w.heap.size w)).newBlk 66 #[.string F, .string X]).newBlk 26 #[.int .i64 a, .int .i64 b]
  rw [hz1] at h0
  have H0 := Lib.hid h0
  have hkb : (k != 0) = true := by simpa using hk
  rw [he, hsc] at HSW
  clear he hk hsc hok hx hz hM hz1 h0
  go_enter Tryz.func7, Tryz.ntmps7
  go_wp2_with (first
    | (go_at_call 22; with_reducible refine (HWK.out _ H0.out.bel).mono ?_; rintro e w1 ⟨rfl, hb1⟩
       have H1 := Lib.hid (H0.out.keep hb1)
       clear hb1)
    | (go_at_call 23; with_reducible refine (HCL.out _ H1.out.bel).mono ?_; rintro e w2 ⟨p, b9, rfl, h2⟩
       have H2 := Lib.hid (show Has w (tbA p (ctab l) :: rtA b9 (ctab l) :: blkA (w.heap.size + 1) 26 #[.int .i64 a, .int .i64 b] :: blkA w.heap.size 66 #[.string F, .string X] :: []) w2 from H1.out.join h2)
       have zz := H2.out.blkAt (g := w.heap.size) (t := 66) (cs := #[.string F, .string X]) (by simp)
       have cs0 := zz.cell 0
       have cs1 := zz.cell 1
       simp at cs0 cs1
       clear zz
       have zz := H2.out.blkAt (g := w.heap.size + 1) (t := 26) (cs := #[.int .i64 a, .int .i64 b]) (by simp)
       have ct0 := zz.cell 0
       have ct1 := zz.cell 1
       simp at ct0 ct1
       clear zz
       clear h2)
    | (go_at_call 24; with_reducible refine (HSW.out _ _ _ H2.out).mono ?_; rintro e w4 ⟨A2, c2, rfl, h4, -, hnc, hcm, hq⟩
       have H4 := Lib.hid h4.swap
       have HQ := Lib.hid hq
       clear h4 hq))
  go_ret
  exact ⟨rfl, H4.out.bel⟩
set_option maxHeartbeats 16000000 in
theorem sweepAgain_yes (A : Option Addr) (n c : Nat) (l : List Ce) (F X : ByteArray) (a b : Int) (w : World) (hx : CeAt w A n l) (hz : ∀ x ∈ l, CeSz x) (hn : n ≤ 9223372036854775807) (hF : F.size ≤ 140737488351232) (hX : X.size ≤ 140737488351232) (ia : -9223372036854775808 ≤ a ∧ a ≤ 9223372036854775807) (ib : -9223372036854775808 ≤ b ∧ b ≤ 9223372036854775807) (hM : MaxL w) (he : swE F X (a, b) = 0) :
    Calls Tryz.prog 7 #[.slice A n c, .agg #[.string F, .string X], sv a b] w fun e w' => e = .returned (.bool true) ∧ Below w.heap.size w w' := by
  have hs1 := sw_step1 (ctab_ok hz).sor (ctab_ok hz).szs he
  have hrow := fun x hx => sw_row (ctab_ok hz).sor he (x := x) hx
  have hlen := sw_len (ctab_ok hz).sor he
  have hag := swC_again (ctab_ok hz).sor he
  have hR1 := rdel_ok (ctab_ok hz) (gk (swC (ctab l) F X (a, b)))
  have hmax := (ctab_ok hz).len
  have hok := ctab_ok hz
  have HCL := Lib.hid (fun W (hB : Below w.heap.size w W) => claid A n c l W (hx.below hB) hn hz)
  have HOK := Lib.hid hok
  have HWK := Lib.hid (fun W (hB : Below w.heap.size w W) => works15 W (hM.below hB))
  have HSW := Lib.hid (fun (V : World) (p : Nat) (T : List As) (h : Has w (tbA p (ctab l) :: T) V) => swSweep h hok (by decide) hM F X (by omega) (by omega) a b)
  have hz1 : (w.alloc (.cells #[.string F, .string X] 66)).heap.size = w.heap.size + 1 := World.size_alloc _ _
  have h0 := ((Has.nil (Below.refl w.heap.size w)).newBlk 66 #[.string F, .string X]).newBlk 26 #[.int .i64 a, .int .i64 b]
  rw [hz1] at h0
  have H0 := Lib.hid h0
  have HSW2 := Lib.hid (fun (V : World) (p : Nat) (T : List As) (h : Has w (tbA p (rdel (ctab l) (gk (swC (ctab l) F X (a, b)))) :: T) V) => swSweep h hR1 (by decide) hM F X (by omega) (by omega) a b)
  rw [he] at HSW HSW2
  rw [hag] at HSW2
  have HLS := Lib.hid (fun c d W => less_c a b c d W)
  clear he hag hok hx hz hM hz1 h0 hR1
  generalize swC (ctab l) F X (a, b) = L at *
  generalize hR0 : ctab l = R0 at *
  clear hR0
  obtain ⟨R1, hR1⟩ : ∃ R1, rdel R0 (gk L) = R1 := ⟨_, rfl⟩
  rw [hR1] at HSW2 hlen hrow
  have HS1 := Lib.hid hs1
  have HROW := Lib.hid hrow
  have HLEN := Lib.hid hlen
  have HMX := Lib.hid hmax
  have HR1 := Lib.hid hR1
  clear hs1 hrow hlen hmax hR1
  go_enter Tryz.func7, Tryz.ntmps7
  go_wp2_with (first
    | (go_at_call 22; with_reducible refine (HWK.out _ H0.out.bel).mono ?_; rintro e w1 ⟨rfl, hb1⟩
       have H1 := Lib.hid (H0.out.keep hb1)
       clear hb1)
    | (go_at_call 23; with_reducible refine (HCL.out _ H1.out.bel).mono ?_; rintro e w2 ⟨p, b9, rfl, h2⟩
       have H2 := Lib.hid (show Has w (tbA p R0 :: rtA b9 R0 :: blkA (w.heap.size + 1) 26 #[.int .i64 a, .int .i64 b] :: blkA w.heap.size 66 #[.string F, .string X] :: []) w2 from H1.out.join h2)
       have zz := H2.out.blkAt (g := w.heap.size) (t := 66) (cs := #[.string F, .string X]) (by simp)
       have cs0 := zz.cell 0
       have cs1 := zz.cell 1
       simp at cs0 cs1
       clear zz
       have zz := H2.out.blkAt (g := w.heap.size + 1) (t := 26) (cs := #[.int .i64 a, .int .i64 b]) (by simp)
       have ct0 := zz.cell 0
       have ct1 := zz.cell 1
       simp at ct0 ct1
       clear zz
       clear h2)
    | (go_at_call 24; with_reducible refine (HSW.out _ _ _ H2.out).mono ?_; rintro e w4 ⟨A2, c2, rfl, h4, -, hnc, hcm, hq⟩
       have H4 := Lib.hid h4.swap
       have HQ := Lib.hid hq
       clear h4 hq)
    | (go_at_call 16; refine (Has.tbRowsM H4.out (p := p) (r := R0) (by simp) HOK.out.szs (by have := HMX.out; omega)).mono ?_; rintro e w5 ⟨A4, c4, rfl, h5, -, hnc4, hcm4, -⟩
       have H5 := Lib.hid ((h5.swap).perm (List.Perm.cons _ (List.Perm.swap _ _ _)))
       clear h5))
  have hH6 : Has w (tbA p (rdel R0 (gk (L.take 0))) :: opA (.slice A2 L.length c2) L :: rwA (.slice A4 R0.length c4) R0 :: rtA b9 R0 :: blkA (w.heap.size + 1) 26 #[.int .i64 a, .int .i64 b] :: blkA w.heap.size 66 #[.string F, .string X] :: []) w5 := by
    rw [List.take_zero]
    show Has w (tbA p (rdel R0 []) :: _) _
    rw [rdel_nil]
    exact H5.out
  have H6 := Lib.hid hH6
  clear hH6 H5 H4 H2 H1 H0 HSW HCL HWK
  go_loopw [12] (fun i wr => ∃ j : Nat, j ≤ L.length ∧ i = .int .i64 j ∧ Hid (Has w (tbA p (rdel R0 (gk (L.take j))) :: opA (.slice A2 L.length c2) L :: rwA (.slice A4 R0.length c4) R0 :: rtA b9 R0 :: blkA (w.heap.size + 1) 26 #[.int .i64 a, .int .i64 b] :: blkA w.heap.size 66 #[.string F, .string X] :: []) wr)) (fun i _ => L.length - (intOf i).toNat)
  case atStart => exact ⟨0, Nat.zero_le _, rfl, H6⟩
  case round =>
    obtain ⟨j, hj, rfl, HH⟩ := hrel
    by_cases hlt : j < L.length
    case pos =>
      obtain ⟨q, rfl⟩ := HQ.out (by omega)
      have jz : (0 : Int) ≤ (j : Int) := by omega
      have jn : (j : Int) < (L.length : Int) := by omega
      have hj2 : (j : Int) + 1 < 9223372036854775808 := by have := HLEN.out; have := HMX.out; omega
      obtain ⟨hs1, hs2, hs3⟩ := HS1.out j hlt
      have k1 := slo_one q L.length c2 j wr (by omega)
      have HAP := Lib.hid (Has.applyOne HH.out (rdel_ok HOK.out _) (by decide) rfl hlt hs1 hs2)
      rw [hs3] at HAP
      clear hs1 hs2 hs3
      go_wp2_with (go_at_call 27; refine HAP.out.mono ?_; rintro e w7 ⟨rfl, h7⟩; have H8 := Lib.hid h7; clear h7)
      go_roundw
      case rel => exact ⟨j + 1, by omega, by go_num, H8⟩
      case measure => simp [intOf]; omega
    case neg =>
      obtain rfl : j = L.length := by omega
      have hHA : Has w (tbA p R1 :: opA (.slice A2 L.length c2) L :: rwA (.slice A4 R0.length c4) R0 :: rtA b9 R0 :: blkA (w.heap.size + 1) 26 #[.int .i64 a, .int .i64 b] :: blkA w.heap.size 66 #[.string F, .string X] :: []) wr := by
        have h9 := HH.out
        rw [List.take_length, HR1.out] at h9
        exact h9
      have HA := Lib.hid hHA
      clear HH hHA hlt hj H6
      have zz := HA.out.blkAt (g := w.heap.size) (t := 66) (cs := #[.string F, .string X]) (by simp)
      have cs0 := zz.cell 0
      have cs1 := zz.cell 1
      simp at cs0 cs1
      clear zz
      have zz := HA.out.blkAt (g := w.heap.size + 1) (t := 26) (cs := #[.int .i64 a, .int .i64 b]) (by simp)
      have ct0 := zz.cell 0
      have ct1 := zz.cell 1
      simp at ct0 ct1
      clear zz
      go_wp2_with (first
        | (go_at_call 24; with_reducible refine (HSW2.out _ _ _ HA.out).mono ?_; rintro e w8 ⟨A3, c3, rfl, h8, -, -, -, -⟩
           have HB := Lib.hid h8.tail
           clear h8))
      clear HA HSW2 HS1 HR1
      go_loopw [15] (fun i wr => ∃ j : Nat, j ≤ R0.length ∧ i = .int .i64 j ∧ Hid (Has w (tbA p R1 :: opA (.slice A2 L.length c2) L :: rwA (.slice A4 R0.length c4) R0 :: rtA b9 R0 :: blkA (w.heap.size + 1) 26 #[.int .i64 a, .int .i64 b] :: blkA w.heap.size 66 #[.string F, .string X] :: []) wr)) (fun i _ => R0.length - (intOf i).toNat)
      case atStart => exact ⟨0, Nat.zero_le _, rfl, HB⟩
      case round =>
        obtain ⟨j, hj, rfl, HH⟩ := hrel
        by_cases hlt : j < R0.length
        case neg =>
          have hq : (R1.length : Int) = (R0.length : Int) - (L.length : Int) := by have := HLEN.out; omega
          have hq2 : -9223372036854775808 ≤ (R0.length : Int) - (L.length : Int) ∧ (R0.length : Int) - (L.length : Int) < 9223372036854775808 := by have := HLEN.out; have := HMX.out; omega
          have HQQ := Lib.hid hq
          have HQ2 := Lib.hid hq2
          clear hq
          go_wp2_with (first
            | (go_at_call 30; refine (Has.tbLenM HH.out (p := p) (r := R1) (by simp)).mono ?_; rintro e w9 ⟨rfl, rfl⟩))
          go_ret
          refine ⟨?_, HH.out.bel⟩
          have hq := HQQ.out
          simp [hq]
        case pos =>
          obtain ⟨A5, c5, hv5, hat, -, -⟩ := (Has.rwRow HH.out (v := .slice A4 R0.length c4) (L := R0) (by simp)).form
          injection hv5 with e1 e2 e3
          subst e1 e3
          obtain ⟨b5, o5, rfl, hc5⟩ := hat.2 (by omega)
          obtain ⟨E0, E1⟩ := hc5 j hlt
          have hxm : R0[j]'hlt ∈ R0 := List.getElem_mem hlt
          have hrw := HROW.out _ hxm
          have hxs := HOK.out.szs _ hxm
          generalize R0[j]'hlt = x at *
          obtain ⟨xk, xv⟩ := x
          simp only at E0 E1 hrw hxs
          have jz : (0 : Int) ≤ (j : Int) := by omega
          have jn : (j : Int) < (R0.length : Int) := by omega
          have hRV := fun W => readV_c xk W (by have := hxs.2.1; omega)
          have hTV := fun W => takeV_c xv W (by have := hxs.2.2; omega)
          have K0 := Lib.hid E0
          have K1 := Lib.hid E1
          have hGT := fun W (h : Has w (tbA p R1 :: opA (.slice A2 L.length c2) L :: rwA (.slice (some ⟨b5, o5, none⟩) R0.length c4) R0 :: rtA b9 R0 :: blkA (w.heap.size + 1) 26 #[.int .i64 a, .int .i64 b] :: blkA w.heap.size 66 #[.string F, .string X] :: []) W) => Has.tbGetK h (p := p) (r := R1) (by simp) xk
          generalize rval R1 xk = gv at *
          generalize hrb : rhas R1 xk = rb at *
          clear hc5 hat hxm hxs
          cases hv1 : rdVK (sb xk) with
          | none =>
            rw [hv1] at hRV
            obtain ⟨u, i, nn, hvf⟩ := ansV_form (tkV (sb xv))
            rw [hvf] at hTV
            have hrt : rb = true := by
              rcases hrw with h | ⟨s9, a9, b9_, v9, i9, h9, h10, h11, h12⟩
              · exact h
              · exfalso
                unfold vrd at h9; simp only [hv1] at h9; cases h9
            subst hrt
            have HGT := Lib.hid (show ∀ W, Has w (tbA p R1 :: opA (.slice A2 L.length c2) L :: rwA (.slice (some ⟨b5, o5, none⟩) R0.length c4) R0 :: rtA b9 R0 :: blkA (w.heap.size + 1) 26 #[.int .i64 a, .int .i64 b] :: blkA w.heap.size 66 #[.string F, .string X] :: []) W → Calls Tryz.prog 14 #[pt p, .string xk] W (fun e w' => e = .returned (.tuple #[.string gv, .bool true]) ∧ Has w (tbA p R1 :: opA (.slice A2 L.length c2) L :: rwA (.slice (some ⟨b5, o5, none⟩) R0.length c4) R0 :: rtA b9 R0 :: blkA (w.heap.size + 1) 26 #[.int .i64 a, .int .i64 b] :: blkA w.heap.size 66 #[.string F, .string X] :: []) w' ∧ Below W.heap.size W w') from hGT)
            have HRV := Lib.hid (show ∀ W, Calls Tryz.prog 28 #[.string xk] W fun e w' => e = .returned (.tuple #[.string ⟨#[]⟩, sv 0 0, .int .i64 4]) ∧ Below W.heap.size W w' from hRV)
            have HTV := Lib.hid hTV
            clear hv1 hvf hrw hRV hTV hGT hrb
            go_wp2_with (first
              | (go_at_call 28; with_reducible refine (HRV.out _).mono ?_; rintro e v1 ⟨rfl, hb1⟩
                 have HM1 := Lib.hid ((HH.out.keep hb1).keep (nbl v1 (.cells #[.int .i64 0, .int .i64 0] 26)))
                 have b6 := Lib.hid (Blk.new v1 26 #[.int .i64 0, .int .i64 0])
                 have hbb := bsa hb1 (.cells #[.int .i64 0, .int .i64 0] 26)
                 have g0 := (hbb.cell (World.block_lt_of_cell? _ _ K0.out)).trans K0.out
                 have g1 := (hbb.cell (World.block_lt_of_cell? _ _ K1.out)).trans K1.out
                 have K0 := Lib.hid g0
                 have K1 := Lib.hid g1
                 clear hb1 hbb)
              | (go_at_call 29; with_reducible refine (HTV.out _).mono ?_; rintro e v2 ⟨rfl, hb2⟩
                 have HM2 := Lib.hid (HM1.out.keep hb2)
                 have b7 := Lib.hid (b6.out.below hb2 b6.out.lt)
                 have g0 := (hb2.cell (World.block_lt_of_cell? _ _ K0.out)).trans K0.out
                 have g1 := (hb2.cell (World.block_lt_of_cell? _ _ K1.out)).trans K1.out
                 have K0 := Lib.hid g0
                 have K1 := Lib.hid g1
                 clear hb2)
              | (go_at_call 14; with_reducible refine (HGT.out _ HM2.out).mono ?_; rintro e v3 ⟨rfl, h3, hb3⟩
                 have HM3 := Lib.hid h3
                 have b8 := b7.out.below hb3 b7.out.lt
                 have cq0 := b8.cell 0
                 have cq1 := b8.cell 1
                 simp at cq0 cq1
                 have zz := h3.blkAt (g := w.heap.size) (t := 66) (cs := #[.string F, .string X]) (by simp)
                 have cs0 := zz.cell 0
                 have cs1 := zz.cell 1
                 simp at cs0 cs1
                 clear zz
                 have zz := h3.blkAt (g := w.heap.size + 1) (t := 26) (cs := #[.int .i64 a, .int .i64 b]) (by simp)
                 have ct0 := zz.cell 0
                 have ct1 := zz.cell 1
                 simp at ct0 ct1
                 clear zz
                 clear h3 hb3 b8)
              | fail)
            go_roundw
            case rel => exact ⟨j + 1, by omega, by go_num, HM3⟩
            case measure => simp [intOf]; omega
          | some q =>
            obtain ⟨s2, a2, b2⟩ := q
            rw [hv1] at hRV
            have HRV := Lib.hid (show ∀ W, Calls Tryz.prog 28 #[.string xk] W fun e w' => e = .returned (.tuple #[.string (bs s2), sv a2 b2, .int .i64 0]) ∧ Below W.heap.size W w' from hRV)
            cases hv2 : tkV (sb xv) with
            | none =>
              rw [hv2] at hTV
              have hrt : rb = true := by
                rcases hrw with h | ⟨s9, a9, b9_, v9, i9, h9, h10, h11, h12⟩
                · exact h
                · exfalso
                  unfold vrd at h9; simp only [hv1, hv2] at h9; cases h9
              subst hrt
              have HGT := Lib.hid (show ∀ W, Has w (tbA p R1 :: opA (.slice A2 L.length c2) L :: rwA (.slice (some ⟨b5, o5, none⟩) R0.length c4) R0 :: rtA b9 R0 :: blkA (w.heap.size + 1) 26 #[.int .i64 a, .int .i64 b] :: blkA w.heap.size 66 #[.string F, .string X] :: []) W → Calls Tryz.prog 14 #[pt p, .string xk] W (fun e w' => e = .returned (.tuple #[.string gv, .bool true]) ∧ Has w (tbA p R1 :: opA (.slice A2 L.length c2) L :: rwA (.slice (some ⟨b5, o5, none⟩) R0.length c4) R0 :: rtA b9 R0 :: blkA (w.heap.size + 1) 26 #[.int .i64 a, .int .i64 b] :: blkA w.heap.size 66 #[.string F, .string X] :: []) w' ∧ Below W.heap.size W w') from hGT)
              have HTV := Lib.hid (show ∀ W, Calls Tryz.prog 29 #[.string xv] W fun e w' => e = .returned (.tuple #[.string ⟨#[]⟩, .bool false, .int .i64 4]) ∧ Below W.heap.size W w' from hTV)
              clear hv1 hv2 hrw hRV hTV hGT hrb
              go_wp2_with (first
                | (go_at_call 28; with_reducible refine (HRV.out _).mono ?_; rintro e v1 ⟨rfl, hb1⟩
                   have HM1 := Lib.hid ((HH.out.keep hb1).keep (nbl v1 (.cells #[.int .i64 a2, .int .i64 b2] 26)))
                   have b6 := Lib.hid (Blk.new v1 26 #[.int .i64 a2, .int .i64 b2])
                   have hbb := bsa hb1 (.cells #[.int .i64 a2, .int .i64 b2] 26)
                   have g0 := (hbb.cell (World.block_lt_of_cell? _ _ K0.out)).trans K0.out
                   have g1 := (hbb.cell (World.block_lt_of_cell? _ _ K1.out)).trans K1.out
                   have K0 := Lib.hid g0
                   have K1 := Lib.hid g1
                   clear hb1 hbb)
                | (go_at_call 29; with_reducible refine (HTV.out _).mono ?_; rintro e v2 ⟨rfl, hb2⟩
                   have HM2 := Lib.hid (HM1.out.keep hb2)
                   have b7 := Lib.hid (b6.out.below hb2 b6.out.lt)
                   have g0 := (hb2.cell (World.block_lt_of_cell? _ _ K0.out)).trans K0.out
                   have g1 := (hb2.cell (World.block_lt_of_cell? _ _ K1.out)).trans K1.out
                   have K0 := Lib.hid g0
                   have K1 := Lib.hid g1
                   clear hb2)
                | (go_at_call 14; with_reducible refine (HGT.out _ HM2.out).mono ?_; rintro e v3 ⟨rfl, h3, hb3⟩
                   have HM3 := Lib.hid h3
                   have b8 := b7.out.below hb3 b7.out.lt
                   have cq0 := b8.cell 0
                   have cq1 := b8.cell 1
                   simp at cq0 cq1
                   have zz := h3.blkAt (g := w.heap.size) (t := 66) (cs := #[.string F, .string X]) (by simp)
                   have cs0 := zz.cell 0
                   have cs1 := zz.cell 1
                   simp at cs0 cs1
                   clear zz
                   have zz := h3.blkAt (g := w.heap.size + 1) (t := 26) (cs := #[.int .i64 a, .int .i64 b]) (by simp)
                   have ct0 := zz.cell 0
                   have ct1 := zz.cell 1
                   simp at ct0 ct1
                   clear zz
                   clear h3 hb3 b8)
                | fail)
              go_roundw
              case rel => exact ⟨j + 1, by omega, by go_num, HM3⟩
              case measure => simp [intOf]; omega
            | some q2 =>
              obtain ⟨u, i⟩ := q2
              rw [hv2] at hTV
              have HTV := Lib.hid (show ∀ W, Calls Tryz.prog 29 #[.string xv] W fun e w' => e = .returned (.tuple #[.string u, .bool i, .int .i64 0]) ∧ Below W.heap.size W w' from hTV)
              have hvr : vrd ⟨xk, xv⟩ = some (bs s2, a2, b2, u, i) := by unfold vrd; simp only [hv1, hv2]
              generalize bs s2 = s at *
              clear hv1 hv2 hRV hTV
              cases hf1 : Op.bytesLess s.toList F.toList with
              | true =>
                have hrt : rb = true := by
                  rcases hrw with h | ⟨s9, a9, b9_, v9, i9, h9, h10, h11, h12⟩
                  · exact h
                  · exfalso
                    rw [hvr] at h9; cases h9; rw [hf1] at h11; cases h11
                subst hrt
                have HGT := Lib.hid (show ∀ W, Has w (tbA p R1 :: opA (.slice A2 L.length c2) L :: rwA (.slice (some ⟨b5, o5, none⟩) R0.length c4) R0 :: rtA b9 R0 :: blkA (w.heap.size + 1) 26 #[.int .i64 a, .int .i64 b] :: blkA w.heap.size 66 #[.string F, .string X] :: []) W → Calls Tryz.prog 14 #[pt p, .string xk] W (fun e w' => e = .returned (.tuple #[.string gv, .bool true]) ∧ Has w (tbA p R1 :: opA (.slice A2 L.length c2) L :: rwA (.slice (some ⟨b5, o5, none⟩) R0.length c4) R0 :: rtA b9 R0 :: blkA (w.heap.size + 1) 26 #[.int .i64 a, .int .i64 b] :: blkA w.heap.size 66 #[.string F, .string X] :: []) w' ∧ Below W.heap.size W w') from hGT)
                clear hvr hrw hGT hrb
                go_wp2_with (first
                  | (go_at_call 28; with_reducible refine (HRV.out _).mono ?_; rintro e v1 ⟨rfl, hb1⟩
                     have HM1 := Lib.hid ((HH.out.keep hb1).keep (nbl v1 (.cells #[.int .i64 a2, .int .i64 b2] 26)))
                     have b6 := Lib.hid (Blk.new v1 26 #[.int .i64 a2, .int .i64 b2])
                     have hbb := bsa hb1 (.cells #[.int .i64 a2, .int .i64 b2] 26)
                     have g0 := (hbb.cell (World.block_lt_of_cell? _ _ K0.out)).trans K0.out
                     have g1 := (hbb.cell (World.block_lt_of_cell? _ _ K1.out)).trans K1.out
                     have K0 := Lib.hid g0
                     have K1 := Lib.hid g1
                     clear hb1 hbb)
                  | (go_at_call 29; with_reducible refine (HTV.out _).mono ?_; rintro e v2 ⟨rfl, hb2⟩
                     have HM2 := Lib.hid (HM1.out.keep hb2)
                     have b7 := Lib.hid (b6.out.below hb2 b6.out.lt)
                     have g0 := (hb2.cell (World.block_lt_of_cell? _ _ K0.out)).trans K0.out
                     have g1 := (hb2.cell (World.block_lt_of_cell? _ _ K1.out)).trans K1.out
                     have K0 := Lib.hid g0
                     have K1 := Lib.hid g1
                     clear hb2)
                  | (go_at_call 14; with_reducible refine (HGT.out _ HM2.out).mono ?_; rintro e v3 ⟨rfl, h3, hb3⟩
                     have HM3 := Lib.hid h3
                     have b8 := b7.out.below hb3 b7.out.lt
                     have cq0 := b8.cell 0
                     have cq1 := b8.cell 1
                     simp at cq0 cq1
                     have zz := h3.blkAt (g := w.heap.size) (t := 66) (cs := #[.string F, .string X]) (by simp)
                     have cs0 := zz.cell 0
                     have cs1 := zz.cell 1
                     simp at cs0 cs1
                     clear zz
                     have zz := h3.blkAt (g := w.heap.size + 1) (t := 26) (cs := #[.int .i64 a, .int .i64 b]) (by simp)
                     have ct0 := zz.cell 0
                     have ct1 := zz.cell 1
                     simp at ct0 ct1
                     clear zz
                     clear h3 hb3 b8)
                  | fail)
                go_roundw
                case rel => exact ⟨j + 1, by omega, by go_num, HM3⟩
                case measure => simp [intOf]; omega
              | false =>
                cases hf2 : Op.bytesLess s.toList X.toList with
                | false =>
                  have hrt : rb = true := by
                    rcases hrw with h | ⟨s9, a9, b9_, v9, i9, h9, h10, h11, h12⟩
                    · exact h
                    · exfalso
                      rw [hvr] at h9; cases h9; rw [hf2] at h12; cases h12
                  subst hrt
                  have HGT := Lib.hid (show ∀ W, Has w (tbA p R1 :: opA (.slice A2 L.length c2) L :: rwA (.slice (some ⟨b5, o5, none⟩) R0.length c4) R0 :: rtA b9 R0 :: blkA (w.heap.size + 1) 26 #[.int .i64 a, .int .i64 b] :: blkA w.heap.size 66 #[.string F, .string X] :: []) W → Calls Tryz.prog 14 #[pt p, .string xk] W (fun e w' => e = .returned (.tuple #[.string gv, .bool true]) ∧ Has w (tbA p R1 :: opA (.slice A2 L.length c2) L :: rwA (.slice (some ⟨b5, o5, none⟩) R0.length c4) R0 :: rtA b9 R0 :: blkA (w.heap.size + 1) 26 #[.int .i64 a, .int .i64 b] :: blkA w.heap.size 66 #[.string F, .string X] :: []) w' ∧ Below W.heap.size W w') from hGT)
                  clear hvr hrw hGT hrb
                  go_wp2_with (first
                    | (go_at_call 28; with_reducible refine (HRV.out _).mono ?_; rintro e v1 ⟨rfl, hb1⟩
                       have HM1 := Lib.hid ((HH.out.keep hb1).keep (nbl v1 (.cells #[.int .i64 a2, .int .i64 b2] 26)))
                       have b6 := Lib.hid (Blk.new v1 26 #[.int .i64 a2, .int .i64 b2])
                       have hbb := bsa hb1 (.cells #[.int .i64 a2, .int .i64 b2] 26)
                       have g0 := (hbb.cell (World.block_lt_of_cell? _ _ K0.out)).trans K0.out
                       have g1 := (hbb.cell (World.block_lt_of_cell? _ _ K1.out)).trans K1.out
                       have K0 := Lib.hid g0
                       have K1 := Lib.hid g1
                       clear hb1 hbb)
                    | (go_at_call 29; with_reducible refine (HTV.out _).mono ?_; rintro e v2 ⟨rfl, hb2⟩
                       have HM2 := Lib.hid (HM1.out.keep hb2)
                       have b7 := Lib.hid (b6.out.below hb2 b6.out.lt)
                       have g0 := (hb2.cell (World.block_lt_of_cell? _ _ K0.out)).trans K0.out
                       have g1 := (hb2.cell (World.block_lt_of_cell? _ _ K1.out)).trans K1.out
                       have K0 := Lib.hid g0
                       have K1 := Lib.hid g1
                       clear hb2)
                    | (go_at_call 14; with_reducible refine (HGT.out _ HM2.out).mono ?_; rintro e v3 ⟨rfl, h3, hb3⟩
                       have HM3 := Lib.hid h3
                       have b8 := b7.out.below hb3 b7.out.lt
                       have cq0 := b8.cell 0
                       have cq1 := b8.cell 1
                       simp at cq0 cq1
                       have zz := h3.blkAt (g := w.heap.size) (t := 66) (cs := #[.string F, .string X]) (by simp)
                       have cs0 := zz.cell 0
                       have cs1 := zz.cell 1
                       simp at cs0 cs1
                       clear zz
                       have zz := h3.blkAt (g := w.heap.size + 1) (t := 26) (cs := #[.int .i64 a, .int .i64 b]) (by simp)
                       have ct0 := zz.cell 0
                       have ct1 := zz.cell 1
                       simp at ct0 ct1
                       clear zz
                       clear h3 hb3 b8)
                    | fail)
                  go_roundw
                  case rel => exact ⟨j + 1, by omega, by go_num, HM3⟩
                  case measure => simp [intOf]; omega
                | true =>
                  cases hl : lt (a, b) (a2, b2) with
                  | true =>
                    have hrt : rb = true := by
                      rcases hrw with h | ⟨s9, a9, b9_, v9, i9, h9, h10, h11, h12⟩
                      · exact h
                      · exfalso
                        rw [hvr] at h9; cases h9; rw [hl] at h10; cases h10
                    subst hrt
                    have HGT := Lib.hid (show ∀ W, Has w (tbA p R1 :: opA (.slice A2 L.length c2) L :: rwA (.slice (some ⟨b5, o5, none⟩) R0.length c4) R0 :: rtA b9 R0 :: blkA (w.heap.size + 1) 26 #[.int .i64 a, .int .i64 b] :: blkA w.heap.size 66 #[.string F, .string X] :: []) W → Calls Tryz.prog 14 #[pt p, .string xk] W (fun e w' => e = .returned (.tuple #[.string gv, .bool true]) ∧ Has w (tbA p R1 :: opA (.slice A2 L.length c2) L :: rwA (.slice (some ⟨b5, o5, none⟩) R0.length c4) R0 :: rtA b9 R0 :: blkA (w.heap.size + 1) 26 #[.int .i64 a, .int .i64 b] :: blkA w.heap.size 66 #[.string F, .string X] :: []) w' ∧ Below W.heap.size W w') from hGT)
                    have HLS2 := Lib.hid (fun W => HLS.out a2 b2 W)
                    rw [hl] at HLS2
                    clear hvr hrw hGT hrb hl
                    go_wp2_with (first
                      | (go_at_call 28; with_reducible refine (HRV.out _).mono ?_; rintro e v1 ⟨rfl, hb1⟩
                         have HM1 := Lib.hid ((HH.out.keep hb1).keep (nbl v1 (.cells #[.int .i64 a2, .int .i64 b2] 26)))
                         have b6 := Lib.hid (Blk.new v1 26 #[.int .i64 a2, .int .i64 b2])
                         have hbb := bsa hb1 (.cells #[.int .i64 a2, .int .i64 b2] 26)
                         have g0 := (hbb.cell (World.block_lt_of_cell? _ _ K0.out)).trans K0.out
                         have g1 := (hbb.cell (World.block_lt_of_cell? _ _ K1.out)).trans K1.out
                         have K0 := Lib.hid g0
                         have K1 := Lib.hid g1
                         clear hb1 hbb)
                      | (go_at_call 29; with_reducible refine (HTV.out _).mono ?_; rintro e v2 ⟨rfl, hb2⟩
                         have HM2 := Lib.hid (HM1.out.keep hb2)
                         have b7 := Lib.hid (b6.out.below hb2 b6.out.lt)
                         have g0 := (hb2.cell (World.block_lt_of_cell? _ _ K0.out)).trans K0.out
                         have g1 := (hb2.cell (World.block_lt_of_cell? _ _ K1.out)).trans K1.out
                         have K0 := Lib.hid g0
                         have K1 := Lib.hid g1
                         clear hb2)
                      | (go_at_call 14; with_reducible refine (HGT.out _ HM2.out).mono ?_; rintro e v3 ⟨rfl, h3, hb3⟩
                         have HM3 := Lib.hid h3
                         have b8 := b7.out.below hb3 b7.out.lt
                         have cq0 := b8.cell 0
                         have cq1 := b8.cell 1
                         simp at cq0 cq1
                         have zz := h3.blkAt (g := w.heap.size) (t := 66) (cs := #[.string F, .string X]) (by simp)
                         have cs0 := zz.cell 0
                         have cs1 := zz.cell 1
                         simp at cs0 cs1
                         clear zz
                         have zz := h3.blkAt (g := w.heap.size + 1) (t := 26) (cs := #[.int .i64 a, .int .i64 b]) (by simp)
                         have ct0 := zz.cell 0
                         have ct1 := zz.cell 1
                         simp at ct0 ct1
                         clear zz
                         clear h3 hb3 b8)
                      | (go_at_call 12; with_reducible refine (HLS2.out _).mono ?_; rintro e v4 ⟨rfl, hb4⟩
                         have HM4 := Lib.hid (HM3.out.keep hb4)
                         clear hb4)
                      | fail)
                    go_roundw
                    case rel => exact ⟨j + 1, by omega, by go_num, HM4⟩
                    case measure => simp [intOf]; omega
                  | false =>
                    have HLS2 := Lib.hid (fun W => HLS.out a2 b2 W)
                    rw [hl] at HLS2
                    clear hvr hrw hl hrb
                    cases rb with
                    | true =>
                      have HGT := Lib.hid (show ∀ W, Has w (tbA p R1 :: opA (.slice A2 L.length c2) L :: rwA (.slice (some ⟨b5, o5, none⟩) R0.length c4) R0 :: rtA b9 R0 :: blkA (w.heap.size + 1) 26 #[.int .i64 a, .int .i64 b] :: blkA w.heap.size 66 #[.string F, .string X] :: []) W → Calls Tryz.prog 14 #[pt p, .string xk] W (fun e w' => e = .returned (.tuple #[.string gv, .bool true]) ∧ Has w (tbA p R1 :: opA (.slice A2 L.length c2) L :: rwA (.slice (some ⟨b5, o5, none⟩) R0.length c4) R0 :: rtA b9 R0 :: blkA (w.heap.size + 1) 26 #[.int .i64 a, .int .i64 b] :: blkA w.heap.size 66 #[.string F, .string X] :: []) w' ∧ Below W.heap.size W w') from hGT)
                      clear hGT
                      go_wp2_with (first
                        | (go_at_call 28; with_reducible refine (HRV.out _).mono ?_; rintro e v1 ⟨rfl, hb1⟩
                           have HM1 := Lib.hid ((HH.out.keep hb1).keep (nbl v1 (.cells #[.int .i64 a2, .int .i64 b2] 26)))
                           have b6 := Lib.hid (Blk.new v1 26 #[.int .i64 a2, .int .i64 b2])
                           have hbb := bsa hb1 (.cells #[.int .i64 a2, .int .i64 b2] 26)
                           have g0 := (hbb.cell (World.block_lt_of_cell? _ _ K0.out)).trans K0.out
                           have g1 := (hbb.cell (World.block_lt_of_cell? _ _ K1.out)).trans K1.out
                           have K0 := Lib.hid g0
                           have K1 := Lib.hid g1
                           clear hb1 hbb)
                        | (go_at_call 29; with_reducible refine (HTV.out _).mono ?_; rintro e v2 ⟨rfl, hb2⟩
                           have HM2 := Lib.hid (HM1.out.keep hb2)
                           have b7 := Lib.hid (b6.out.below hb2 b6.out.lt)
                           have g0 := (hb2.cell (World.block_lt_of_cell? _ _ K0.out)).trans K0.out
                           have g1 := (hb2.cell (World.block_lt_of_cell? _ _ K1.out)).trans K1.out
                           have K0 := Lib.hid g0
                           have K1 := Lib.hid g1
                           clear hb2)
                        | (go_at_call 14; with_reducible refine (HGT.out _ HM2.out).mono ?_; rintro e v3 ⟨rfl, h3, hb3⟩
                           have HM3 := Lib.hid h3
                           have b8 := b7.out.below hb3 b7.out.lt
                           have cq0 := b8.cell 0
                           have cq1 := b8.cell 1
                           simp at cq0 cq1
                           have zz := h3.blkAt (g := w.heap.size) (t := 66) (cs := #[.string F, .string X]) (by simp)
                           have cs0 := zz.cell 0
                           have cs1 := zz.cell 1
                           simp at cs0 cs1
                           clear zz
                           have zz := h3.blkAt (g := w.heap.size + 1) (t := 26) (cs := #[.int .i64 a, .int .i64 b]) (by simp)
                           have ct0 := zz.cell 0
                           have ct1 := zz.cell 1
                           simp at ct0 ct1
                           clear zz
                           clear h3 hb3 b8)
                        | (go_at_call 12; with_reducible refine (HLS2.out _).mono ?_; rintro e v4 ⟨rfl, hb4⟩
                           have HM4 := Lib.hid (HM3.out.keep hb4)
                           clear hb4)
                        | fail)
                      go_roundw
                      case rel => exact ⟨j + 1, by omega, by go_num, HM4⟩
                      case measure => simp [intOf]; omega
                    | false =>
                      have HGT := Lib.hid (show ∀ W, Has w (tbA p R1 :: opA (.slice A2 L.length c2) L :: rwA (.slice (some ⟨b5, o5, none⟩) R0.length c4) R0 :: rtA b9 R0 :: blkA (w.heap.size + 1) 26 #[.int .i64 a, .int .i64 b] :: blkA w.heap.size 66 #[.string F, .string X] :: []) W → Calls Tryz.prog 14 #[pt p, .string xk] W (fun e w' => e = .returned (.tuple #[.string gv, .bool false]) ∧ Has w (tbA p R1 :: opA (.slice A2 L.length c2) L :: rwA (.slice (some ⟨b5, o5, none⟩) R0.length c4) R0 :: rtA b9 R0 :: blkA (w.heap.size + 1) 26 #[.int .i64 a, .int .i64 b] :: blkA w.heap.size 66 #[.string F, .string X] :: []) w' ∧ Below W.heap.size W w') from hGT)
                      clear hGT
                      go_wp2_with (first
                        | (go_at_call 28; with_reducible refine (HRV.out _).mono ?_; rintro e v1 ⟨rfl, hb1⟩
                           have HM1 := Lib.hid ((HH.out.keep hb1).keep (nbl v1 (.cells #[.int .i64 a2, .int .i64 b2] 26)))
                           have b6 := Lib.hid (Blk.new v1 26 #[.int .i64 a2, .int .i64 b2])
                           have hbb := bsa hb1 (.cells #[.int .i64 a2, .int .i64 b2] 26)
                           have g0 := (hbb.cell (World.block_lt_of_cell? _ _ K0.out)).trans K0.out
                           have g1 := (hbb.cell (World.block_lt_of_cell? _ _ K1.out)).trans K1.out
                           have K0 := Lib.hid g0
                           have K1 := Lib.hid g1
                           clear hb1 hbb)
                        | (go_at_call 29; with_reducible refine (HTV.out _).mono ?_; rintro e v2 ⟨rfl, hb2⟩
                           have HM2 := Lib.hid (HM1.out.keep hb2)
                           have b7 := Lib.hid (b6.out.below hb2 b6.out.lt)
                           have g0 := (hb2.cell (World.block_lt_of_cell? _ _ K0.out)).trans K0.out
                           have g1 := (hb2.cell (World.block_lt_of_cell? _ _ K1.out)).trans K1.out
                           have K0 := Lib.hid g0
                           have K1 := Lib.hid g1
                           clear hb2)
                        | (go_at_call 14; with_reducible refine (HGT.out _ HM2.out).mono ?_; rintro e v3 ⟨rfl, h3, hb3⟩
                           have HM3 := Lib.hid h3
                           have b8 := b7.out.below hb3 b7.out.lt
                           have cq0 := b8.cell 0
                           have cq1 := b8.cell 1
                           simp at cq0 cq1
                           have zz := h3.blkAt (g := w.heap.size) (t := 66) (cs := #[.string F, .string X]) (by simp)
                           have cs0 := zz.cell 0
                           have cs1 := zz.cell 1
                           simp at cs0 cs1
                           clear zz
                           have zz := h3.blkAt (g := w.heap.size + 1) (t := 26) (cs := #[.int .i64 a, .int .i64 b]) (by simp)
                           have ct0 := zz.cell 0
                           have ct1 := zz.cell 1
                           simp at ct0 ct1
                           clear zz
                           clear h3 hb3 b8)
                        | (go_at_call 12; with_reducible refine (HLS2.out _).mono ?_; rintro e v4 ⟨rfl, hb4⟩
                           have HM4 := Lib.hid (HM3.out.keep hb4)
                           clear hb4)
                        | fail)
                      go_roundw
                      case rel => exact ⟨j + 1, by omega, by go_num, HM4⟩
                      case measure => simp [intOf]; omega
theorem sweepAgain_walk (A : Option Addr) (n c : Nat) (l : List Ce) (F X : ByteArray) (a b : Int) (w : World) (hx : CeAt w A n l) (hz : ∀ x ∈ l, CeSz x) (hn : n ≤ 9223372036854775807) (hF : F.size ≤ 140737488351232) (hX : X.size ≤ 140737488351232) (ia : -9223372036854775808 ≤ a ∧ a ≤ 9223372036854775807) (ib : -9223372036854775808 ≤ b ∧ b ≤ 9223372036854775807) (hM : MaxL w) : Calls Tryz.prog 7 #[.slice A n c, .agg #[.string F, .string X], sv a b] w fun e w' => e = .returned (.bool true) ∧ Below w.heap.size w w' := by
  by_cases he : swE F X (a, b) = 0
  · exact sweepAgain_yes A n c l F X a b w hx hz hn hF hX ia ib hM he
  · exact sweepAgain_no A n c l F X a b w hx hz hn hF hX ia ib hM _ he rfl
end Go.Proofs.YtldbmogondmgmaaGreatDoor
