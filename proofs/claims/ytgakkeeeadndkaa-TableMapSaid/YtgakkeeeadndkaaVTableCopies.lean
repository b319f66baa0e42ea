/-
  Layer 10: TableCopies, walked.
-/
import Derived.Test.YtgakkeeeadndkaaTbMadeH
set_option linter.unusedVariables false
namespace Go.Proofs.Ytgakkeeeadndkaa
open Go.RowKit Go.Shelf

section
variable {w V V' : World} {l1 l2 : List As} {A A' : As} {p : Nat} {r : List Rw}
/-- A thing within a walk's own turns. -/
theorem Has.atMid (h : Has w (l1 ++ A :: l2) V) : Has w (A :: (l1 ++ l2)) V := h.perm List.perm_middle
theorem Has.toMid (h : Has w (A :: (l1 ++ l2)) V) : Has w (l1 ++ A :: l2) V := h.perm List.perm_middle.symm
theorem Has.tbApplyM (l1 l2 : List As) (h : Has w (l1 ++ tbA p r :: l2) V) {N : Nat} (hr : ROk N r) (hN : N ≤ 999999000) (A : Option Addr) (n c : Nat) (ops : List Op_) (ho : OAt w A n ops) (hn : n ≤ 9223372036854775807) (hs : OSz ops) (r' : List Rw) (hr' : rapp r ops = r') :
    Calls Try.prog 14 #[pt p, .slice A n c] V fun e w' => e = .returned (.int .i64 (chk ops)) ∧ Has w (l1 ++ tbA p r' :: l2) w' := by
  subst hr'
  refine (Has.tbApply h.atMid hr hN A n c ops ho hn hs).mono ?_
  rintro e w' ⟨rfl, h2, _⟩
  exact ⟨rfl, h2.toMid⟩
end
/-- Where a row lies, of all that a walk has. -/
theorem Has.rwAt {w V : World} {l : List As} {A : Option Addr} {n c : Nat} {L : List Rw} (h : Has w l V) (hm : rwA (.slice A n c) L ∈ l) (hn : n = L.length) : WAt V A n L := by
  subst hn
  obtain ⟨A2, c2, e, h2, _, _⟩ := h.rwForm hm
  injection e with e1 _ e3
  subst e1
  exact h2
set_option maxRecDepth 100000 in
set_option maxHeartbeats 8000000 in
theorem tableCopies_w (A Aa Ab : Option Addr) (n na nb c ca cb : Nat) (w : World) (bs : List (List Op_)) (la lb : List Op_) (hb : BAt w A n bs) (hz : ∀ b ∈ bs, OSz b) (hla : OAt w Aa na la) (hza : OSz la) (hlb : OAt w Ab nb lb) (hzb : OSz lb) (hn : n ≤ 9223372036854775807) (hna : na ≤ 9223372036854775807) (hnb : nb ≤ 9223372036854775807) :
    Calls Try.prog 9 #[.slice A n c, .slice Aa na ca, .slice Ab nb cb] w fun e w' => e = .returned (.bool true) ∧ Below w.heap.size w w' := by
  have hok := tabs_ok hz (min n 30)
  obtain ⟨R, hR⟩ : ∃ R, tabs bs (min n 30) = R := ⟨_, rfl⟩
  rw [hR] at hok
  have hok0 : ROk 3840 R := hok.mono (by omega)
  have hokA := hok0.app hza
  have hokB := hok0.app hzb
  have hokAB := hokA.app hzb
  obtain ⟨RA, hRA⟩ : ∃ r, rapp R la = r := ⟨_, rfl⟩
  obtain ⟨RB, hRB⟩ : ∃ r, rapp R lb = r := ⟨_, rfl⟩
  rw [hRA] at hokA hokAB
  rw [hRB] at hokB
  obtain ⟨RAB, hRAB⟩ : ∃ r, rapp RA lb = r := ⟨_, rfl⟩
  rw [hRAB] at hokAB
  have hl := hok0.len
  have hlA := hokA.len
  have H0 := Lib.hid (Has.nil (Below.refl _ w))
  have HZ := Lib.hid hok0.szs
  have HZA := Lib.hid hokA.szs
  have MA := Lib.hid (fun V l (h : Has w l V) (s : Int) => h.tbMade s A n c bs hb hz hn R hR)
  have AA := Lib.hid (fun V p (l1 l2 : List As) (h : Has w (l1 ++ tbA p R :: l2) V) => h.tbApplyM l1 l2 hok0 (by omega) Aa na ca la hla hna hza RA hRA)
  have AB := Lib.hid (fun V p (l1 l2 : List As) (h : Has w (l1 ++ tbA p R :: l2) V) => h.tbApplyM l1 l2 hok0 (by omega) Ab nb cb lb hlb hnb hzb RB hRB)
  have AAB := Lib.hid (fun V p (l1 l2 : List As) (h : Has w (l1 ++ tbA p RA :: l2) V) => h.tbApplyM l1 l2 hokA (by omega) Ab nb cb lb hlb hnb hzb RAB hRAB)
  have b1 : (((chk la : Nat) : Int) == ((chk la : Nat) : Int)) = true := by simp
  have b2 : (((chk lb : Nat) : Int) == ((chk lb : Nat) : Int)) = true := by simp
  generalize ((chk la : Nat) : Int) = ea at *
  generalize ((chk lb : Nat) : Int) = eb at *
  clear hb hz hla hza hlb hzb hok hok0 hokA hokB hokAB hR hRA hRB hRAB
  go_enter Try.func9, Try.ntmps9
  go_wp2_with (first
    | (go_at_call 20; refine (Has.tbWorks H0.out).mono ?_; rintro e w1 ⟨rfl, h1⟩; have H1 := Lib.hid h1; clear h1 H0)
    | (go_at_call 27; refine (MA.out _ _ H1.out 9).mono ?_; rintro e w2 ⟨p, b, rfl, h2⟩; have H2 := Lib.hid h2; clear h2 H1)
    | (go_at_call 18; (with_reducible refine (Has.tbRowsM (p := p) (r := R) H2.out (by simp) HZ.out (by omega)).mono ?_); rintro e w3 ⟨A3, c3, rfl, h3, hw3, hc3, hd3, -⟩; have H3 := Lib.hid h3; clear h3 hw3 H2)
    | (go_at_call 28; (with_reducible refine (Has.tbCopyM (p := p) (r := R) H3.out (by simp) HZ.out (by omega)).mono ?_); rintro e w4 ⟨p2, rfl, h4, -⟩; have H4 := Lib.hid h4; clear h4 H3)
    | (go_at_call 18; (with_reducible refine (Has.tbRowsM (p := p2) (r := R) H4.out (by simp) HZ.out (by omega)).mono ?_); rintro e w5 ⟨A5, c5, rfl, h5, hw5, hc5, hd5, -⟩; have W5 := Lib.hid hw5; have W35 := Lib.hid (h5.rwAt (A := A3) (c := c3) (L := R) (by simp) rfl); have H5 := Lib.hid h5; clear h5 hw5 H4)
    | (go_at_call 19; (with_reducible refine (Has.sameM H5.out A5 A3 R.length R.length c5 c3 R R W5.out W35.out (by omega) (by omega) rfl).mono ?_); rintro e w6 ⟨rfl, h6, -⟩; have H6 := Lib.hid h6.tail; clear h6 H5)
    | (go_at_call 28; (with_reducible refine (Has.tbCopyM (p := p) (r := R) H6.out (by simp) HZ.out (by omega)).mono ?_); rintro e w7 ⟨p3, rfl, h7, -⟩; have H7 := Lib.hid h7; clear h7 H6)
    | (go_at_call 14; refine (AA.out _ p2 [tbA p3 R] [rwA (.slice A3 R.length c3) R, tbA p R, mpA b 3840 R] H7.out).mono ?_; rintro e w8 ⟨rfl, h8⟩; have H8 := Lib.hid (show Has w [tbA p3 R, tbA p2 RA, rwA (.slice A3 R.length c3) R, tbA p R, mpA b 3840 R] w8 from h8); clear h8 H7)
    | (go_at_call 18; (with_reducible refine (Has.tbRowsM (p := p) (r := R) H8.out (by simp) HZ.out (by omega)).mono ?_); rintro e w9 ⟨A9, c9, rfl, h9, hw9, hc9, hd9, -⟩; have W9 := Lib.hid hw9; have W39 := Lib.hid (h9.rwAt (A := A3) (c := c3) (L := R) (by simp) rfl); have H9 := Lib.hid h9; clear h9 hw9 H8)
    | (go_at_call 19; (with_reducible refine (Has.sameM H9.out A9 A3 R.length R.length c9 c3 R R W9.out W39.out (by omega) (by omega) rfl).mono ?_); rintro e w10 ⟨rfl, h10, -⟩; have H10 := Lib.hid h10.tail; clear h10 H9)
    | (go_at_call 18; (with_reducible refine (Has.tbRowsM (p := p3) (r := R) H10.out (by simp) HZ.out (by omega)).mono ?_); rintro e w11 ⟨A11, c11, rfl, h11, hw11, hc11, hd11, -⟩; have W11 := Lib.hid hw11; have W311 := Lib.hid (h11.rwAt (A := A3) (c := c3) (L := R) (by simp) rfl); have H11 := Lib.hid h11; clear h11 hw11 H10)
    | (go_at_call 19; (with_reducible refine (Has.sameM H11.out A11 A3 R.length R.length c11 c3 R R W11.out W311.out (by omega) (by omega) rfl).mono ?_); rintro e w12 ⟨rfl, h12, -⟩; have H12 := Lib.hid h12.tail; clear h12 H11)
    | (go_at_call 18; (with_reducible refine (Has.tbRowsM (p := p2) (r := RA) H12.out (by simp) HZA.out (by omega)).mono ?_); rintro e w13 ⟨A13, c13, rfl, h13, hw13, hc13, hd13, -⟩; have H13 := Lib.hid h13; clear h13 hw13 H12)
    | (go_at_call 14; refine (AB.out _ p [rwA (.slice A13 RA.length c13) RA, tbA p3 R, tbA p2 RA, rwA (.slice A3 R.length c3) R] [mpA b 3840 R] H13.out).mono ?_; rintro e w14 ⟨rfl, h14⟩; have H14 := Lib.hid (show Has w [rwA (.slice A13 RA.length c13) RA, tbA p3 R, tbA p2 RA, rwA (.slice A3 R.length c3) R, tbA p RB, mpA b 3840 R] w14 from h14); clear h14 H13)
    | (go_at_call 18; (with_reducible refine (Has.tbRowsM (p := p2) (r := RA) H14.out (by simp) HZA.out (by omega)).mono ?_); rintro e w15 ⟨A15, c15, rfl, h15, hw15, hc15, hd15, -⟩; have W15 := Lib.hid hw15; have W1315 := Lib.hid (h15.rwAt (A := A13) (c := c13) (L := RA) (by simp) rfl); have H15 := Lib.hid h15; clear h15 hw15 H14)
    | (go_at_call 19; (with_reducible refine (Has.sameM H15.out A15 A13 RA.length RA.length c15 c13 RA RA W15.out W1315.out (by omega) (by omega) rfl).mono ?_); rintro e w16 ⟨rfl, h16, -⟩; have H16 := Lib.hid h16.tail; clear h16 H15)
    | (go_at_call 18; (with_reducible refine (Has.tbRowsM (p := p3) (r := R) H16.out (by simp) HZ.out (by omega)).mono ?_); rintro e w17 ⟨A17, c17, rfl, h17, hw17, hc17, hd17, -⟩; have W17 := Lib.hid hw17; have W317 := Lib.hid (h17.rwAt (A := A3) (c := c3) (L := R) (by simp) rfl); have H17 := Lib.hid h17; clear h17 hw17 H16)
    | (go_at_call 19; (with_reducible refine (Has.sameM H17.out A17 A3 R.length R.length c17 c3 R R W17.out W317.out (by omega) (by omega) rfl).mono ?_); rintro e w18 ⟨rfl, h18, -⟩; have H18 := Lib.hid h18.tail; clear h18 H17)
    | (go_at_call 14; refine (AA.out _ p3 [rwA (.slice A13 RA.length c13) RA] [tbA p2 RA, rwA (.slice A3 R.length c3) R, tbA p RB, mpA b 3840 R] H18.out).mono ?_; rintro e w19 ⟨rfl, h19⟩; have H19 := Lib.hid (show Has w [rwA (.slice A13 RA.length c13) RA, tbA p3 RA, tbA p2 RA, rwA (.slice A3 R.length c3) R, tbA p RB, mpA b 3840 R] w19 from h19); clear h19 H18)
    | (go_at_call 18; (with_reducible refine (Has.tbRowsM (p := p3) (r := RA) H19.out (by simp) HZA.out (by omega)).mono ?_); rintro e w20 ⟨A20, c20, rfl, h20, hw20, hc20, hd20, -⟩; have W20 := Lib.hid hw20; have W1320 := Lib.hid (h20.rwAt (A := A13) (c := c13) (L := RA) (by simp) rfl); have H20 := Lib.hid h20; clear h20 hw20 H19)
    | (go_at_call 19; (with_reducible refine (Has.sameM H20.out A20 A13 RA.length RA.length c20 c13 RA RA W20.out W1320.out (by omega) (by omega) rfl).mono ?_); rintro e w21 ⟨rfl, h21, -⟩; have H21 := Lib.hid h21.tail; clear h21 H20)
    | (go_at_call 14; refine (AAB.out _ p3 [rwA (.slice A13 RA.length c13) RA] [tbA p2 RA, rwA (.slice A3 R.length c3) R, tbA p RB, mpA b 3840 R] H21.out).mono ?_; rintro e w22 ⟨rfl, h22⟩; have H22 := Lib.hid h22; clear h22 H21))
  go_ret
  exact ⟨rfl, H22.out.bel⟩
end Go.Proofs.Ytgakkeeeadndkaa
