/-
  PokeRises, walked (written by wip/genporises.py).
-/
import Derived.Test.YtldbmogondmgmaaGreatDoorPRPoPt
import Derived.Test.YtldbmogondmgmaaGreatDoorPRPoAwk
import Derived.Test.YtldbmogondmgmaaGreatDoorPR37
import Derived.Test.YtldbmogondmgmaaGreatDoorPR27
import Derived.Test.YtldbmogondmgmaaGreatDoorPR16
import Derived.Deep.MidRow
set_option linter.unusedVariables false
set_option linter.unusedSimpArgs false
set_option maxRecDepth 100000
namespace Go.Proofs.YtldbmogondmgmaaGreatDoor
open Go.RowKit

theorem run_eqSt2 (a b : Int) (V : World) : (binOp .eql 26 (.agg #[.int .i64 a, .int .i64 b]) (.agg #[.int .i64 a, .int .i64 b])).run Tryz.prog V = .ok (.bool true) V := by
  go_simp
theorem pput_isK {r : List Rw} {key : ByteArray} {c : Ch} {x : Tx} {m : Int × Int} {dd : Dn} (h : pputC r key c x m = (dd, 0)) : isK key = true := by
  unfold pputC at h
  split at h
  · rename_i hc
    exact (chkW_ok hc).1
  · rename_i hc
    injection h with _ h
    exact absurd h hc
theorem Has.pick0 {w V : World} {A B C D E G : As} (h : Has w (A :: B :: C :: D :: E :: G :: []) V) : Has w (C :: A :: G :: []) V := by
  have h1 := h.perm (List.perm_middle (l₁ := [A, B]))
  have h2 := h1.perm (show (C :: ([A, B] ++ D :: E :: G :: [])).Perm ([B, D, E] ++ ([C, A] ++ [G])) from List.perm_append_comm_assoc [C, A] [B, D, E] [G])
  exact Has.dropN [B, D, E] h2
theorem Has.pick1 {w V : World} {A B C D E G : As} (h : Has w (A :: B :: C :: D :: E :: G :: []) V) : Has w (C :: E :: G :: []) V := by
  have h1 := Has.dropN [A, B] h
  exact (h1.swap).tail
theorem Has.pick2 {w V : World} {A B C D E G : As} (h : Has w (A :: B :: C :: D :: E :: G :: []) V) : Has w (B :: E :: G :: []) V := by
  have h1 := h.tail.perm (List.perm_middle (l₁ := [C, D]) (a := B) (l₂ := [E, G])).symm
  exact Has.dropN [C, D] h1
set_option maxHeartbeats 16000000 in
theorem pokeRises_walk (A : Option Addr) (n c : Nat) (l : List Th) (key : ByteArray) (q : Int) (s : ByteArray) (d : Bool) (y : Tx) (m1 m2 : Int) (A0 : Option Addr) (n0 c0 : Nat) (l0 : List Ak) (w : World) (hx : ThAt w A n l) (hz : ∀ y ∈ l, TSz y) (hn : n ≤ 9223372036854775807) (hks : key.size ≤ 140737488351232) (hx0 : AkAt w A0 n0 l0) (hn0 : n0 ≤ 9223372036854775807) (hM : MaxL w) :
    Calls Tryz.prog 3 #[.slice A n c, .agg (askc key q s d y m1 m2), .slice A0 n0 c0] w fun e w' => e = .returned (.bool true) ∧ Below w.heap.size w w' := by
  have H0 := Lib.hid ((Has.nil (Below.refl w.heap.size w)).newBlk 30 (askc key q s d y m1 m2))
  have HX := Lib.hid hx
  have HX0 := Lib.hid hx0
  have HZ := Lib.hid hz
  have HLN := Lib.hid hx0.1
  clear hx hz hx0
  obtain ⟨r, hr⟩ : ∃ r, tabP l = r := ⟨_, rfl⟩
  have HRO := Lib.hid (show ROk 7680 r from hr ▸ tabP_ok HZ.out)
  have HTB := Lib.hid (fun (W : World) (hb : Below w.heap.size w W) => tables13_c A n c l W (HX.out.below hb) hn HZ.out)
  rw [hr] at HTB
  clear hr
  obtain ⟨o, hp⟩ : ∃ o, pputC r key ⟨q, s, d⟩ y (m1, m2) = o := ⟨_, rfl⟩
  obtain ⟨dd, kk⟩ := o
  have HP1 := Lib.hid (fun (T2 : List As) (p : Nat) {W : World} (hh : Has w (tbA p r :: T2) W) => put13_c hh HRO.out (by decide) hM key q s d y m1 m2 (dd, kk) hp)
  by_cases hk : kk = 0
  · subst hk
    have HRI0 := Lib.hid (rin_first HRO.out.sor hp)
    have HOK0 := Lib.hid (show ROk (7680 + 128 * (0 + 1)) (rapp r (opsD key dd)) from (HRO.out.app (opsD_sz hp)).mono (by omega))
    have hik := pput_isK hp
    have HIK := Lib.hid (fun W (hm : MaxL W) => (show Calls Tryz.prog 13 #[.string key] W fun e w' => e = .returned (.tuple #[.string (bs (ikey (sb key))), .int .i64 0]) ∧ Below W.heap.size W w' from by
      have := intentKey_c key W hm
      unfold markK at this
      rw [if_pos hik, List.append_nil] at this
      exact this))
    clear hp hik
    obtain ⟨R0, hR0⟩ : ∃ R0, rapp r (opsD key dd) = R0 := ⟨_, rfl⟩
    rw [hR0] at HRI0 HOK0
    have HR0 := Lib.hid hR0
    clear hR0
    go_enter Tryz.func3, Tryz.ntmps3
    go_wp2_with fail
    refine (HTB.out _ H0.out.bel).mono ?_
    rintro e w1 ⟨p, b, rfl, h1⟩
    have H1 := Lib.hid (show Has w (tbA p r :: rtA b r :: blkA w.heap.size 30 (askc key q s d y m1 m2) :: []) w1 from H0.out.join h1)
    have b3 := H1.out.blkAt (g := w.heap.size) (t := 30) (cs := (askc key q s d y m1 m2)) (by simp)
    have hld := Lib.hid b3
    clear h1 b3
    go_wp2_with (refine wpList_load_row rfl 30 _ rfl w.heap.size rfl 30 (askc key q s d y m1 m2) (0, 0) _ hld.out Tryz.underlying30 rfl (by kernel_rfl) ?_)
    clear hld
    refine (HP1.out _ _ H1.out).mono ?_
    rintro e w2 ⟨qt, AL, nL, cL, A1, n1, c1, rfl, hnL, h2⟩
    rw [if_pos rfl] at h2
    simp only at h2
    rw [HR0.out] at h2
    have h3 := h2.newBlk 41 (dnc dd (.slice AL nL cL) (.slice A1 n1 c1))
    have b8 := h3.blk.1
    have e1 := b8.cell 1
    have e2 := b8.cell 2
    simp at e1 e2
    have h4 := (h3.newBlk 26 #[.int .i64 dd.a, .int .i64 dd.b])
    simp only [World.size_alloc] at h4
    have HL := Lib.hid (show Has w (tbA qt R0 :: blkA (w2.heap.size + 1) 26 #[.int .i64 dd.a, .int .i64 dd.b] :: blkA w.heap.size 30 (askc key q s d y m1 m2) :: []) _ from h4.pick0)
    clear h2 h3 h4 b8 hnL
    go_wp2_with fail
    generalize w2.heap.size + 1 = gL at *
    go_loopw [9, 13] (fun cc i wr => ∃ (j : Nat) (R : List Rw) (la lb : Int) (cp : Nat), j ≤ n0 ∧ j ≤ 20 ∧ i = .int .i64 j ∧ cc = pt cp ∧ Hid (RIn R key y la lb) ∧ Hid (ROk (7680 + 128 * (j + 1)) R) ∧ Hid (Has w (tbA cp R :: blkA gL 26 #[.int .i64 la, .int .i64 lb] :: blkA w.heap.size 30 (askc key q s d y m1 m2) :: []) wr)) (fun _ i _ => 20 - (intOf i).toNat)
    case atStart => exact ⟨0, R0, dd.a, dd.b, qt, Nat.zero_le _, Nat.zero_le _, rfl, rfl, HRI0, HOK0, HL⟩
    case round =>
      obtain ⟨j, R, la, lb, cp, hj, hj2, rfl, rfl, HRI, HOK, HH⟩ := hrel
      clear HL HRI0 HOK0
      by_cases c1 : j < n0
      case neg =>
        obtain ⟨hrh, z9, hz1, hz2, hz3, hz4, hz5⟩ := rin_end HRI.out
        obtain ⟨zi, ze, zp, za, zsw, zsl, zbw, zbl, zl⟩ := z9
        simp only at hz2 hz3 hz4 hz5
        subst hz2 hz3 hz4 hz5
        have HRH := Lib.hid hrh
        have HTI := Lib.hid (fun W => (show Calls Tryz.prog 15 #[.string (rval R (bs (ikey (sb key))))] W fun e w' => AnsI (some ⟨y.id, y.ep, zp, za, la, lb, zbw, zbl, zl⟩) W e w' ∧ Below W.heap.size W w' from hz1 ▸ takeI_c _ W (by have := rval_le HOK.out.szs (bs (ikey (sb key))); omega)))
        simp only [AnsI] at HTI
        have HF := HH
        clear hrh hz1 HRI HOK HH
        have kq := HF.out.blkAt (g := w.heap.size) (t := 30) (cs := (askc key q s d y m1 m2)) (by simp)
        have kq0 := kq.cell 0
        simp at kq0
        clear kq
        go_wp2_with fail
        refine (HIK.out _ (hM.below HF.out.bel)).mono ?_
        rintro e w3 ⟨rfl, hb3⟩
        have H3 := Lib.hid (HF.out.keep hb3)
        clear hb3
        go_wp2_with fail
        refine (Has.tbGetM (p := cp) (r := R) H3.out (by simp) _).mono ?_
        rintro e w4 ⟨rfl, h4⟩
        have H4 := Lib.hid h4
        clear h4
        rw [HRH.out]
        go_wp2_with fail
        refine (HTI.out _).mono ?_
        rintro e w5 ⟨⟨A9, n9, c9, rfl, -, -⟩, hb5⟩
        have H5 := Lib.hid (show Has w (blkA w5.heap.size 39 #[.int .i64 y.id, .int .i64 y.ep, .int .i64 zp, .string za, .int .i64 la, .int .i64 lb, .int .i64 zbw, .int .i64 zbl, .slice A9 n9 c9] :: tbA cp R :: blkA gL 26 #[.int .i64 la, .int .i64 lb] :: blkA w.heap.size 30 (askc key q s d y m1 m2) :: []) (w5.alloc (.cells #[.int .i64 y.id, .int .i64 y.ep, .int .i64 zp, .string za, .int .i64 la, .int .i64 lb, .int .i64 zbw, .int .i64 zbl, .slice A9 n9 c9] 39)) from (H4.out.keep hb5).newBlk 39 #[.int .i64 y.id, .int .i64 y.ep, .int .i64 zp, .string za, .int .i64 la, .int .i64 lb, .int .i64 zbw, .int .i64 zbl, .slice A9 n9 c9])
        clear hb5
        have b3 := H5.out.blkAt (g := w.heap.size) (t := 30) (cs := (askc key q s d y m1 m2)) (by simp)
        have b5 := H5.out.blkAt (g := w5.heap.size) (t := 39) (cs := #[.int .i64 y.id, .int .i64 y.ep, .int .i64 zp, .string za, .int .i64 la, .int .i64 lb, .int .i64 zbw, .int .i64 zbl, .slice A9 n9 c9]) (by simp)
        have bL := H5.out.blkAt (g := gL) (t := 26) (cs := #[.int .i64 la, .int .i64 lb]) (by simp)
        have a4 := b3.cell 4
        have a5 := b3.cell 5
        simp at a4 a5
        have u0 := b5.cell 0
        have u1 := b5.cell 1
        have u4 := b5.cell 4
        have u5 := b5.cell 5
        simp at u0 u1 u4 u5
        have v0 := bL.cell 0
        have v1 := bL.cell 1
        simp at v0 v1
        clear b3 b5 bL
        have HEQ := run_eqSt2 la lb
        have HF5 := H5
        go_wp2_with fail
        refine (awake13 _ (hM.below HF5.out.bel)).mono ?_
        rintro e w9 ⟨rfl, hb9⟩
        have hfin := (HF5.out.keep hb9).bel
        clear hb9
        go_wp2_with fail
        go_ret
        exact ⟨rfl, hfin⟩
      by_cases c2 : j < 20
      case neg =>
        obtain ⟨hrh, z9, hz1, hz2, hz3, hz4, hz5⟩ := rin_end HRI.out
        obtain ⟨zi, ze, zp, za, zsw, zsl, zbw, zbl, zl⟩ := z9
        simp only at hz2 hz3 hz4 hz5
        subst hz2 hz3 hz4 hz5
        have HRH := Lib.hid hrh
        have HTI := Lib.hid (fun W => (show Calls Tryz.prog 15 #[.string (rval R (bs (ikey (sb key))))] W fun e w' => AnsI (some ⟨y.id, y.ep, zp, za, la, lb, zbw, zbl, zl⟩) W e w' ∧ Below W.heap.size W w' from hz1 ▸ takeI_c _ W (by have := rval_le HOK.out.szs (bs (ikey (sb key))); omega)))
        simp only [AnsI] at HTI
        have HF := HH
        clear hrh hz1 HRI HOK HH
        have kq := HF.out.blkAt (g := w.heap.size) (t := 30) (cs := (askc key q s d y m1 m2)) (by simp)
        have kq0 := kq.cell 0
        simp at kq0
        clear kq
        go_wp2_with fail
        refine (HIK.out _ (hM.below HF.out.bel)).mono ?_
        rintro e w3 ⟨rfl, hb3⟩
        have H3 := Lib.hid (HF.out.keep hb3)
        clear hb3
        go_wp2_with fail
        refine (Has.tbGetM (p := cp) (r := R) H3.out (by simp) _).mono ?_
        rintro e w4 ⟨rfl, h4⟩
        have H4 := Lib.hid h4
        clear h4
        rw [HRH.out]
        go_wp2_with fail
        refine (HTI.out _).mono ?_
        rintro e w5 ⟨⟨A9, n9, c9, rfl, -, -⟩, hb5⟩
        have H5 := Lib.hid (show Has w (blkA w5.heap.size 39 #[.int .i64 y.id, .int .i64 y.ep, .int .i64 zp, .string za, .int .i64 la, .int .i64 lb, .int .i64 zbw, .int .i64 zbl, .slice A9 n9 c9] :: tbA cp R :: blkA gL 26 #[.int .i64 la, .int .i64 lb] :: blkA w.heap.size 30 (askc key q s d y m1 m2) :: []) (w5.alloc (.cells #[.int .i64 y.id, .int .i64 y.ep, .int .i64 zp, .string za, .int .i64 la, .int .i64 lb, .int .i64 zbw, .int .i64 zbl, .slice A9 n9 c9] 39)) from (H4.out.keep hb5).newBlk 39 #[.int .i64 y.id, .int .i64 y.ep, .int .i64 zp, .string za, .int .i64 la, .int .i64 lb, .int .i64 zbw, .int .i64 zbl, .slice A9 n9 c9])
        clear hb5
        have b3 := H5.out.blkAt (g := w.heap.size) (t := 30) (cs := (askc key q s d y m1 m2)) (by simp)
        have b5 := H5.out.blkAt (g := w5.heap.size) (t := 39) (cs := #[.int .i64 y.id, .int .i64 y.ep, .int .i64 zp, .string za, .int .i64 la, .int .i64 lb, .int .i64 zbw, .int .i64 zbl, .slice A9 n9 c9]) (by simp)
        have bL := H5.out.blkAt (g := gL) (t := 26) (cs := #[.int .i64 la, .int .i64 lb]) (by simp)
        have a4 := b3.cell 4
        have a5 := b3.cell 5
        simp at a4 a5
        have u0 := b5.cell 0
        have u1 := b5.cell 1
        have u4 := b5.cell 4
        have u5 := b5.cell 5
        simp at u0 u1 u4 u5
        have v0 := bL.cell 0
        have v1 := bL.cell 1
        simp at v0 v1
        clear b3 b5 bL
        have HEQ := run_eqSt2 la lb
        have HF5 := H5
        go_wp2_with fail
        refine (awake13 _ (hM.below HF5.out.bel)).mono ?_
        rintro e w9 ⟨rfl, hb9⟩
        have hfin := (HF5.out.keep hb9).bel
        clear hb9
        go_wp2_with fail
        go_ret
        exact ⟨rfl, hfin⟩
      have hjl : j < l0.length := by rw [HLN.out]; exact c1
      obtain ⟨B, o, rfl, hc⟩ := (HX0.out.below HH.out.bel).2 (by omega)
      have hcc := hc j hjl
      obtain ⟨x, hxx⟩ : ∃ x, l0[j]'hjl = x := ⟨_, rfl⟩
      rw [hxx] at hcc
      have h10 := HH.out.newBlk 30 (askc key q s d y m1 m2)
      have hc1 := (HX0.out.below h10.bel).2 (by omega)
      clear hc hcc
      obtain ⟨B2, o2_, hBo, hc⟩ := hc1
      injection hBo with hBo
      injection hBo with hB1 hB2 _
      subst hB1 hB2
      have hcc := hc j hjl
      rw [hxx] at hcc
      have d1 : (wr.alloc (.cells (askc key q s d y m1 m2) 30)).cell? ⟨B, o + j * 18 + 1, none⟩ = some (.int .i64 x.q) := hcc 1 _ rfl
      have d2 : (wr.alloc (.cells (askc key q s d y m1 m2) 30)).cell? ⟨B, o + j * 18 + 1 + 1, none⟩ = some (.string x.s) := hcc 2 _ rfl
      have d3 : (wr.alloc (.cells (askc key q s d y m1 m2) 30)).cell? ⟨B, o + j * 18 + 1 + 2, none⟩ = some (.bool x.d) := hcc 3 _ rfl
      clear hc hcc h10
      have h10 := HH.out.newBlk 30 (askc key x.q x.s x.d y m1 m2)
      have hc1 := (HX0.out.below h10.bel).2 (by omega)
      obtain ⟨B2, o2_, hBo, hc⟩ := hc1
      injection hBo with hBo
      injection hBo with hB1 hB2 _
      subst hB1 hB2
      have hcc := hc j hjl
      rw [hxx] at hcc
      have d4 : (wr.alloc (.cells (askc key x.q x.s x.d y m1 m2) 30)).cell? ⟨B, o + j * 18 + 16, none⟩ = some (.int .i64 x.m1) := hcc 16 _ rfl
      have d5 : (wr.alloc (.cells (askc key x.q x.s x.d y m1 m2) 30)).cell? ⟨B, o + j * 18 + 16 + 1, none⟩ = some (.int .i64 x.m2) := hcc 17 _ rfl
      clear hc hcc h10 hxx
      have h12 := HH.out.newBlk 30 (askc key x.q x.s x.d y x.m1 x.m2)
      have hld2 := Lib.hid h12.blk.1
      have H4 := Lib.hid h12.swap
      clear h12
      obtain ⟨o2, hp2⟩ : ∃ o2, pputC R key ⟨x.q, x.s, x.d⟩ y (x.m1, x.m2) = o2 := ⟨_, rfl⟩
      obtain ⟨dd2, k2⟩ := o2
      have HP2 := Lib.hid (fun (T2 : List As) (p : Nat) (W : World) (hh : Has w (tbA p R :: T2) W) => put13_c hh HOK.out (by omega) hM key x.q x.s x.d y x.m1 x.m2 (dd2, k2) hp2)
      have b3 := HH.out.blkAt (g := w.heap.size) (t := 30) (cs := (askc key q s d y m1 m2)) (by simp)
      have hld := Lib.hid b3
      clear b3
      go_wp2_with (first | (refine wpList_load_row rfl 30 _ rfl w.heap.size rfl 30 (askc key q s d y m1 m2) (0, 0) _ hld.out Tryz.underlying30 rfl (by kernel_rfl) ?_) | (refine wpList_load_row rfl 30 _ rfl wr.heap.size rfl 30 (askc key x.q x.s x.d y x.m1 x.m2) (0, 0) _ hld2.out Tryz.underlying30 rfl (by kernel_rfl) ?_))
      clear hld hld2 d1 d2 d3 d4 d5
      by_cases hk2 : k2 = 0
      case neg =>
        clear hp2
        have hkb : (k2 == 0) = false := by simpa using hk2
        refine (HP2.out _ _ _ H4.out).mono ?_
        rintro e wp ⟨qt2, AL2, nL2, cL2, A2, n2, c2, rfl, hnL2, h5⟩
        rw [if_neg hk2] at h5
        have H6 := Lib.hid (h5.newBlk 41 (dnc dd2 (.slice AL2 nL2 cL2) (.slice A2 n2 c2)))
        clear h5 hnL2
        go_wp2_with fail
        go_roundw
        case rel => exact ⟨j + 1, R, la, lb, cp, by omega, by omega, by go_num, rfl, HRI, Lib.hid (HOK.out.mono (by omega)), Lib.hid H6.out.pick1⟩
        case measure => simp [intOf]; omega
      subst hk2
      obtain ⟨hst, hri⟩ := rin_step HOK.out.sor HRI.out hp2
      have HRI2 := Lib.hid hri
      have HOK2 := Lib.hid (show ROk (7680 + 128 * (j + 1 + 1)) (rapp R (opsD key dd2)) from (HOK.out.app (opsD_sz hp2)).mono (by omega))
      have HLS := Lib.hid (fun W => (show Calls Tryz.prog 12 #[sv dd2.a dd2.b, sv la lb] W fun e w' => e = .returned (.bool false) ∧ Below W.heap.size W w' from hst ▸ less_c dd2.a dd2.b la lb W))
      clear hp2 hst hri HRI HOK
      refine (HP2.out _ _ _ H4.out).mono ?_
      rintro e wp ⟨qt2, AL2, nL2, cL2, A2, n2, c2, rfl, hnL2, h5⟩
      rw [if_pos rfl] at h5
      have h6 := h5.newBlk 41 (dnc dd2 (.slice AL2 nL2 cL2) (.slice A2 n2 c2))
      have b16 := h6.blk.1
      have bL := h6.blkAt (g := gL) (t := 26) (cs := #[.int .i64 la, .int .i64 lb]) (by simp)
      have u1 := b16.cell 1
      have u2 := b16.cell 2
      simp at u1 u2
      have v0 := bL.cell 0
      have v1 := bL.cell 1
      simp at v0 v1
      have H6 := Lib.hid h6
      clear h5 h6 hnL2 b16 bL
      go_wp2_with fail
      refine (HLS.out _).mono ?_
      rintro e wl ⟨rfl, hbl⟩
      have h7 := H6.out.keep hbl
      have b16 := h7.blk.1
      have bL := h7.blkAt (g := gL) (t := 26) (cs := #[.int .i64 la, .int .i64 lb]) (by simp)
      have u1 := b16.cell 1
      have u2 := b16.cell 2
      simp at u1 u2
      have v0 := bL.cell 0
      have v1 := bL.cell 1
      have vf0 := bL.frozen 0
      have vf1 := bL.frozen 1
      simp at v0 v1
      (try simp at vf0 vf1)
      have H7 := Lib.hid (h7.pick2)
      clear h7 hbl b16 bL
      go_wp2_with fail
      go_roundw
      case rel =>
        have h8 := ((H7.out.swap.setBlk 0 (.int .i64 dd2.a)).setBlk 1 (.int .i64 dd2.b)).swap
        simp at h8
        exact ⟨j + 1, _, _, _, qt2, by omega, by omega, by go_num, rfl, HRI2, HOK2, Lib.hid h8⟩
      case measure => simp [intOf]; omega
  · have hk3 : (kk == 0) = false := by simpa using hk
    clear hp
    obtain ⟨x0, x1, x2, x3, x4, x5, x6, x7, x8, x9, x10, x11⟩ := y
    go_enter Tryz.func3, Tryz.ntmps3
    go_wp2_with fail
    refine (HTB.out _ H0.out.bel).mono ?_
    rintro e w1 ⟨p, b, rfl, h1⟩
    have H1 := Lib.hid (show Has w (tbA p r :: rtA b r :: blkA w.heap.size 30 (askc key q s d ⟨x0, x1, x2, x3, x4, x5, x6, x7, x8, x9, x10, x11⟩ m1 m2) :: []) w1 from H0.out.join h1)
    have b3 := H1.out.blkAt (g := w.heap.size) (t := 30) (cs := (askc key q s d ⟨x0, x1, x2, x3, x4, x5, x6, x7, x8, x9, x10, x11⟩ m1 m2)) (by simp)
    have hld := Lib.hid b3
    clear h1 b3
    go_wp2_with (refine wpList_load_row rfl 30 _ rfl w.heap.size rfl 30 (askc key q s d ⟨x0, x1, x2, x3, x4, x5, x6, x7, x8, x9, x10, x11⟩ m1 m2) (0, 0) _ hld.out Tryz.underlying30 rfl (by kernel_rfl) ?_)
    clear hld
    refine (HP1.out _ _ H1.out).mono ?_
    rintro e w2 ⟨qt, AL, nL, cL, A1, n1, c1, rfl, hnL, h2⟩
    rw [if_neg hk] at h2
    have h3 := h2.newBlk 41 (dnc dd (.slice AL nL cL) (.slice A1 n1 c1))
    have HF := Lib.hid h3
    clear h2 h3 hnL
    go_wp2_with fail
    refine (awake13 _ (hM.below HF.out.bel)).mono ?_
    rintro e w9 ⟨rfl, hb9⟩
    have hfin := (HF.out.keep hb9).bel
    clear hb9
    go_wp2_with fail
    go_ret
    exact ⟨rfl, hfin⟩
end Go.Proofs.YtldbmogondmgmaaGreatDoor
