/-
  Layer 14, the statements' awake (written by wip/gensesm.py).
-/
import Derived.Test.YtldbmogondmgmaaGreatDoorSS35
import Derived.Test.YtldbmogondmgmaaGreatDoorSSSeRef
import Derived.Test.YtldbmogondmgmaaGreatDoorSS37
import Derived.Test.YtldbmogondmgmaaGreatDoorSS04
set_option linter.unusedVariables false
set_option linter.unusedSimpArgs false
set_option maxRecDepth 100000
namespace Go.Proofs.YtldbmogondmgmaaGreatDoor
open Go.RowKit

theorem Has.opCell {w V : World} {l : List As} {A : Option Addr} {n c : Nat} {L : List Op_} (h : Has w l V) (hm : opA (.slice A n c) L ∈ l) (hn : n = L.length) (h0 : 0 < L.length) :
    ∃ q, A = some ⟨q, 0, none⟩ ∧ ∀ i (h : i < L.length), V.cell? ⟨q, 0 + i * 3 + 2, none⟩ = some (.bool (L[i]'h).del) := by
  obtain ⟨F, hF, _⟩ := h.at_ hm
  have hat := opA_at hF hn
  have hr : ORow V 0 (.slice A n c) L.length L := hF.1
  rcases hr.form with ⟨h1, _⟩ | ⟨q, c', h1, _, _⟩
  · omega
  · injection h1 with h1 _ _
    subst h1
    obtain ⟨b, o, e, hc⟩ := hat.2 (by omega)
    injection e with e
    injection e with e1 e2
    subst e1 e2
    exact ⟨q, rfl, fun i hi => (hc i hi).2.2⟩
theorem chapZ : ∀ x ∈ chapP, TSz x := by
  intro x hx
  unfold chapP at hx
  simp only [List.mem_cons, List.not_mem_nil, or_false] at hx
  rcases hx with rfl | rfl <;> (unfold TSz; exact ⟨by decide, by decide, by decide, by decide⟩)
set_option maxHeartbeats 16000000 in
theorem awake14 (w : World) (hM : MaxL w) : Calls Tryz.prog 21 #[] w fun e w' => e = .returned (.bool true) ∧ Below w.heap.size w w' := by
  have OK := Lib.hid (tabP_ok chapZ)
  go_enter Tryz.func21, Tryz.ntmps21
  go_wp2_with fail
  refine (chapter_c _).mono ?_
  rintro e w1 ⟨⟨At, ct, rfl, hth⟩, hb1⟩
  go_wp2_with fail
  refine (tables14_c At 2 ct chapP _ hth (by decide) chapZ).mono ?_
  rintro e w2 ⟨p, b, rfl, h2⟩
  have H0 := Lib.hid (h2.base hb1)
  clear h2 hb1 hth
  go_wp2_with fail
  refine (rec_c 7 3 20 _).mono ?_
  rintro e v1 ⟨rfl, hv1⟩
  have G1 := Lib.hid (H0.out.keep hv1)
  clear hv1
  go_wp2_with fail
  refine (show Calls Tryz.prog 68 #[pt p, .string bA, rcv (recP 7 3 20) (.slice none 0 0)] _ fun e w' => AnsRes ([verO bA 20 0 chZ, goneO bA], 0) w (tbA p (tabP chapP) :: rtA b (tabP chapP) :: []) e w' from sw1 ▸ seResolve G1.out OK.out (by decide) hM bA (recP 7 3 20) none 0 0 (fun W _ => WtAt.nil W none) (by decide)).mono ?_
  rintro e v2 ⟨A0, n0, c0, rfl, hn0, h2⟩
  obtain rfl : n0 = 2 := hn0
  obtain ⟨q0, rfl, -⟩ := h2.opCell (A := A0) (c := c0) (L := [verO bA 20 0 chZ, goneO bA]) (by simp) rfl (by decide)
  have G2 := Lib.hid h2.swap
  clear h2
  go_wp2_with fail
  refine (rec_c 7 3 14 _).mono ?_
  rintro e v3 ⟨rfl, hv3⟩
  have G3 := Lib.hid (G2.out.keep hv3)
  clear hv3
  go_wp2_with fail
  refine (show Calls Tryz.prog 68 #[pt p, .string bA, rcv (recP 7 3 14) (.slice none 0 0)] _ fun e w' => AnsRes ([goneO bA], 0) w (tbA p (tabP chapP) :: opA (.slice (some ⟨q0, 0, none⟩) 2 c0) [verO bA 20 0 chZ, goneO bA] :: rtA b (tabP chapP) :: []) e w' from sw2 ▸ seResolve G3.out OK.out (by decide) hM bA (recP 7 3 14) none 0 0 (fun W _ => WtAt.nil W none) (by decide)).mono ?_
  rintro e v4 ⟨A1, n1, c1, rfl, hn1, h4⟩
  obtain rfl : n1 = 1 := hn1
  obtain ⟨q1, rfl, -⟩ := h4.opCell (A := A1) (c := c1) (L := [goneO bA]) (by simp) rfl (by decide)
  have G4 := Lib.hid h4.swap
  clear h4
  go_wp2_with fail
  refine (rec_c 7 3 20 _).mono ?_
  rintro e v5 ⟨rfl, hv5⟩
  have G5 := Lib.hid ((G4.out.keep hv5).newBlk 69 (rcc (recE 7 1 3 20) (.slice none 0 0))).swap
  clear hv5
  go_wp2_with fail
  refine (show Calls Tryz.prog 68 #[pt p, .string bA, rcv (recE 7 1 3 20) (.slice none 0 0)] _ fun e w' => AnsRes ([goneO bA], 0) w (tbA p (tabP chapP) :: blkA v5.heap.size 69 (rcc (recE 7 1 3 20) (.slice none 0 0)) :: opA (.slice (some ⟨q1, 0, none⟩) 1 c1) [goneO bA] :: opA (.slice (some ⟨q0, 0, none⟩) 2 c0) [verO bA 20 0 chZ, goneO bA] :: rtA b (tabP chapP) :: []) e w' from sw3 ▸ seResolve G5.out OK.out (by decide) hM bA (recE 7 1 3 20) none 0 0 (fun W _ => WtAt.nil W none) (by decide)).mono ?_
  rintro e v6 ⟨A2, n2, c2, rfl, hn2, h6⟩
  obtain rfl : n2 = 1 := hn2
  obtain ⟨q2, rfl, -⟩ := h6.opCell (A := A2) (c := c2) (L := [goneO bA]) (by simp) rfl (by decide)
  have G6 := Lib.hid h6.swap
  clear h6
  go_wp2_with fail
  refine (rec_c 7 1 18 _).mono ?_
  rintro e v7 ⟨rfl, hv7⟩
  have G7 := Lib.hid (G6.out.keep hv7)
  clear hv7
  go_wp2_with fail
  refine (show Calls Tryz.prog 68 #[pt p, .string bA, rcv (recP 7 1 18) (.slice none 0 0)] _ fun e w' => AnsRes ([pushO bA chZ 18 0], 0) w (tbA p (tabP chapP) :: opA (.slice (some ⟨q2, 0, none⟩) 1 c2) [goneO bA] :: blkA v5.heap.size 69 (rcc (recE 7 1 3 20) (.slice none 0 0)) :: opA (.slice (some ⟨q1, 0, none⟩) 1 c1) [goneO bA] :: opA (.slice (some ⟨q0, 0, none⟩) 2 c0) [verO bA 20 0 chZ, goneO bA] :: rtA b (tabP chapP) :: []) e w' from sw4 ▸ seResolve G7.out OK.out (by decide) hM bA (recP 7 1 18) none 0 0 (fun W _ => WtAt.nil W none) (by decide)).mono ?_
  rintro e v8 ⟨A3, n3, c3, rfl, hn3, h8⟩
  obtain rfl : n3 = 1 := hn3
  obtain ⟨q3, rfl, -⟩ := h8.opCell (A := A3) (c := c3) (L := [pushO bA chZ 18 0]) (by simp) rfl (by decide)
  have G8 := Lib.hid h8.swap
  clear h8
  go_wp2_with fail
  refine (rec_c 8 3 20 _).mono ?_
  rintro e v9 ⟨rfl, hv9⟩
  have G9 := Lib.hid (G8.out.keep hv9)
  clear hv9
  go_wp2_with fail
  refine (show Calls Tryz.prog 68 #[pt p, .string bA, rcv (recP 8 3 20) (.slice none 0 0)] _ fun e w' => AnsRes ([], 0) w (tbA p (tabP chapP) :: opA (.slice (some ⟨q3, 0, none⟩) 1 c3) [pushO bA chZ 18 0] :: opA (.slice (some ⟨q2, 0, none⟩) 1 c2) [goneO bA] :: blkA v5.heap.size 69 (rcc (recE 7 1 3 20) (.slice none 0 0)) :: opA (.slice (some ⟨q1, 0, none⟩) 1 c1) [goneO bA] :: opA (.slice (some ⟨q0, 0, none⟩) 2 c0) [verO bA 20 0 chZ, goneO bA] :: rtA b (tabP chapP) :: []) e w' from sw5 ▸ seResolve G9.out OK.out (by decide) hM bA (recP 8 3 20) none 0 0 (fun W _ => WtAt.nil W none) (by decide)).mono ?_
  rintro e v10 ⟨A4, n4, c4, rfl, hn4, h10⟩
  obtain rfl : n4 = 0 := hn4
  have G10 := Lib.hid h10.swap
  clear h10
  go_wp2_with fail
  refine (whole_c _).mono ?_
  rintro e x11 ⟨rfl, hx11⟩
  go_wp2_with fail
  refine (reader14_c 9 12 _).mono ?_
  rintro e y11 ⟨rfl, hy11⟩
  go_wp2_with fail
  refine (at14_c 14 _).mono ?_
  rintro e z11 ⟨rfl, hz11⟩
  have J11 := Lib.hid (((G10.out.keep hx11).keep hy11).keep hz11)
  clear hx11 hy11 hz11
  go_wp2_with fail
  refine (show Calls Tryz.prog 20 #[pt p, .agg #[.string bA, .string bB], txv (rdrP 9 12), sv 14 0, sv 0 0] _ fun e w' => AnsRf (zI, 0) e w' ∧ Has w (tbA p (tabP chapP) :: opA (.slice A4 0 c4) [] :: opA (.slice (some ⟨q3, 0, none⟩) 1 c3) [pushO bA chZ 18 0] :: opA (.slice (some ⟨q2, 0, none⟩) 1 c2) [goneO bA] :: blkA v5.heap.size 69 (rcc (recE 7 1 3 20) (.slice none 0 0)) :: opA (.slice (some ⟨q1, 0, none⟩) 1 c1) [goneO bA] :: opA (.slice (some ⟨q0, 0, none⟩) 2 c0) [verO bA 20 0 chZ, goneO bA] :: rtA b (tabP chapP) :: []) w' from sw6 ▸ seRefresh J11.out OK.out (by decide) hM bA bB (by decide) (by decide) (rdrP 9 12) 14 0 0 0).mono ?_
  rintro e v11 ⟨⟨B0, m0, d0, rfl, -, -⟩, h11⟩
  have G11 := Lib.hid (h11.newBlk 39 (itc zI (.slice B0 m0 d0))).swap
  clear h11
  go_wp2_with fail
  refine (whole_c _).mono ?_
  rintro e x12 ⟨rfl, hx12⟩
  go_wp2_with fail
  refine (reader14_c 9 12 _).mono ?_
  rintro e y12 ⟨rfl, hy12⟩
  go_wp2_with fail
  refine (at14_c 15 _).mono ?_
  rintro e z12 ⟨rfl, hz12⟩
  have J12 := Lib.hid (((G11.out.keep hx12).keep hy12).keep hz12)
  clear hx12 hy12 hz12
  go_wp2_with fail
  refine (show Calls Tryz.prog 20 #[pt p, .agg #[.string bA, .string bB], txv (rdrP 9 12), sv 15 0, sv 0 0] _ fun e w' => AnsRf (chZ, 120) e w' ∧ Has w (tbA p (tabP chapP) :: blkA v11.heap.size 39 (itc zI (.slice B0 m0 d0)) :: opA (.slice A4 0 c4) [] :: opA (.slice (some ⟨q3, 0, none⟩) 1 c3) [pushO bA chZ 18 0] :: opA (.slice (some ⟨q2, 0, none⟩) 1 c2) [goneO bA] :: blkA v5.heap.size 69 (rcc (recE 7 1 3 20) (.slice none 0 0)) :: opA (.slice (some ⟨q1, 0, none⟩) 1 c1) [goneO bA] :: opA (.slice (some ⟨q0, 0, none⟩) 2 c0) [verO bA 20 0 chZ, goneO bA] :: rtA b (tabP chapP) :: []) w' from sw7 ▸ seRefresh J12.out OK.out (by decide) hM bA bB (by decide) (by decide) (rdrP 9 12) 15 0 0 0).mono ?_
  rintro e v12 ⟨⟨B1, m1, d1, rfl, -, -⟩, h12⟩
  have G12 := Lib.hid (h12.newBlk 39 (itc chZ (.slice B1 m1 d1))).swap
  clear h12
  go_wp2_with fail
  refine (whole_c _).mono ?_
  rintro e x13 ⟨rfl, hx13⟩
  go_wp2_with fail
  refine (reader14_c 9 10 _).mono ?_
  rintro e y13 ⟨rfl, hy13⟩
  go_wp2_with fail
  refine (at14_c 14 _).mono ?_
  rintro e z13 ⟨rfl, hz13⟩
  have J13 := Lib.hid (((G12.out.keep hx13).keep hy13).keep hz13)
  clear hx13 hy13 hz13
  go_wp2_with fail
  refine (show Calls Tryz.prog 20 #[pt p, .agg #[.string bA, .string bB], txv (rdrP 9 10), sv 14 0, sv 0 0] _ fun e w' => AnsRf (zI, 202) e w' ∧ Has w (tbA p (tabP chapP) :: blkA v12.heap.size 39 (itc chZ (.slice B1 m1 d1)) :: blkA v11.heap.size 39 (itc zI (.slice B0 m0 d0)) :: opA (.slice A4 0 c4) [] :: opA (.slice (some ⟨q3, 0, none⟩) 1 c3) [pushO bA chZ 18 0] :: opA (.slice (some ⟨q2, 0, none⟩) 1 c2) [goneO bA] :: blkA v5.heap.size 69 (rcc (recE 7 1 3 20) (.slice none 0 0)) :: opA (.slice (some ⟨q1, 0, none⟩) 1 c1) [goneO bA] :: opA (.slice (some ⟨q0, 0, none⟩) 2 c0) [verO bA 20 0 chZ, goneO bA] :: rtA b (tabP chapP) :: []) w' from sw8 ▸ seRefresh J13.out OK.out (by decide) hM bA bB (by decide) (by decide) (rdrP 9 10) 14 0 0 0).mono ?_
  rintro e v13 ⟨⟨B2, m2, d2, rfl, -, -⟩, h13⟩
  have G13 := Lib.hid (h13.newBlk 39 (itc zI (.slice B2 m2 d2))).swap
  clear h13
  go_wp2_with fail
  refine (rec_c 7 2 15 _).mono ?_
  rintro e v14 ⟨rfl, hv14⟩
  have G14 := Lib.hid (G13.out.keep hv14)
  clear hv14
  go_wp2_with fail
  refine (show Calls Tryz.prog 73 #[pt p, .string bA, .int .i64 3, rcv (recP 7 2 15) (.slice none 0 0)] _ fun e w' => e = .returned (.tuple #[.bool true, .int .i64 0]) ∧ Has w (tbA p (tabP chapP) :: blkA v13.heap.size 39 (itc zI (.slice B2 m2 d2)) :: blkA v12.heap.size 39 (itc chZ (.slice B1 m1 d1)) :: blkA v11.heap.size 39 (itc zI (.slice B0 m0 d0)) :: opA (.slice A4 0 c4) [] :: opA (.slice (some ⟨q3, 0, none⟩) 1 c3) [pushO bA chZ 18 0] :: opA (.slice (some ⟨q2, 0, none⟩) 1 c2) [goneO bA] :: blkA v5.heap.size 69 (rcc (recE 7 1 3 20) (.slice none 0 0)) :: opA (.slice (some ⟨q1, 0, none⟩) 1 c1) [goneO bA] :: opA (.slice (some ⟨q0, 0, none⟩) 2 c0) [verO bA 20 0 chZ, goneO bA] :: rtA b (tabP chapP) :: []) w' from by
    have := seQuery G14.out OK.out (by decide) hM bA 3 (recP 7 2 15) none 0 0 (fun W _ => WtAt.nil W none) (by decide)
    rw [sw9] at this
    exact this).mono ?_
  rintro e v15 ⟨rfl, h15⟩
  have G15 := Lib.hid h15
  clear h15
  go_wp2_with fail
  refine (rec_c 7 2 14 _).mono ?_
  rintro e v16 ⟨rfl, hv16⟩
  have G16 := Lib.hid (G15.out.keep hv16)
  clear hv16
  go_wp2_with fail
  refine (show Calls Tryz.prog 73 #[pt p, .string bA, .int .i64 3, rcv (recP 7 2 14) (.slice none 0 0)] _ fun e w' => e = .returned (.tuple #[.bool false, .int .i64 0]) ∧ Has w (tbA p (tabP chapP) :: blkA v13.heap.size 39 (itc zI (.slice B2 m2 d2)) :: blkA v12.heap.size 39 (itc chZ (.slice B1 m1 d1)) :: blkA v11.heap.size 39 (itc zI (.slice B0 m0 d0)) :: opA (.slice A4 0 c4) [] :: opA (.slice (some ⟨q3, 0, none⟩) 1 c3) [pushO bA chZ 18 0] :: opA (.slice (some ⟨q2, 0, none⟩) 1 c2) [goneO bA] :: blkA v5.heap.size 69 (rcc (recE 7 1 3 20) (.slice none 0 0)) :: opA (.slice (some ⟨q1, 0, none⟩) 1 c1) [goneO bA] :: opA (.slice (some ⟨q0, 0, none⟩) 2 c0) [verO bA 20 0 chZ, goneO bA] :: rtA b (tabP chapP) :: []) w' from by
    have := seQuery G16.out OK.out (by decide) hM bA 3 (recP 7 2 14) none 0 0 (fun W _ => WtAt.nil W none) (by decide)
    rw [sw10] at this
    exact this).mono ?_
  rintro e v17 ⟨rfl, h17⟩
  have G17 := Lib.hid h17
  clear h17
  have hfin := G17.out
  obtain ⟨_, e0, f0⟩ := hfin.opCell (A := some ⟨q0, 0, none⟩) (c := c0) (L := [verO bA 20 0 chZ, goneO bA]) (by simp) rfl (by decide)
  injection e0 with e0
  injection e0 with e0 _
  subst e0
  have d00 := f0 0 (by decide)
  have d01 := f0 1 (by decide)
  obtain ⟨_, e1, f1⟩ := hfin.opCell (A := some ⟨q1, 0, none⟩) (c := c1) (L := [goneO bA]) (by simp) rfl (by decide)
  injection e1 with e1
  injection e1 with e1 _
  subst e1
  have d10 := f1 0 (by decide)
  obtain ⟨_, e2, f2⟩ := hfin.opCell (A := some ⟨q2, 0, none⟩) (c := c2) (L := [goneO bA]) (by simp) rfl (by decide)
  injection e2 with e2
  injection e2 with e2 _
  subst e2
  have d20 := f2 0 (by decide)
  obtain ⟨_, e3, f3⟩ := hfin.opCell (A := some ⟨q3, 0, none⟩) (c := c3) (L := [pushO bA chZ 18 0]) (by simp) rfl (by decide)
  injection e3 with e3
  injection e3 with e3 _
  subst e3
  have d30 := f3 0 (by decide)
  simp at d00 d01 d10 d20 d30
  have k0 := (hfin.blkAt (g := v12.heap.size) (t := 39) (cs := itc chZ (.slice B1 m1 d1)) (by simp)).cell 0
  simp at k0
  have hbel := hfin.bel
  clear f0 f1 f2 f3 hfin
  go_wp2_with fail
  go_ret
  exact ⟨rfl, hbel⟩
end Go.Proofs.YtldbmogondmgmaaGreatDoor
