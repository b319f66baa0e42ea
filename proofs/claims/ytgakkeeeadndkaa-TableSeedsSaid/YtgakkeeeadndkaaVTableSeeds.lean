/-
  Layer 10: TableSeeds, walked.
-/
import Derived.Test.YtgakkeeeadndkaaTbMadeH
set_option linter.unusedVariables false
namespace Go.Proofs.Ytgakkeeeadndkaa
open Go.RowKit Go.Shelf

set_option maxRecDepth 100000 in
set_option maxHeartbeats 8000000 in
theorem tableSeeds_w (A : Option Addr) (n c : Nat) (s1 s2 : Int) (key : ByteArray) (w : World) (bs : List (List Op_)) (hb : BAt w A n bs) (hz : ∀ b ∈ bs, OSz b) (hn : n ≤ 9223372036854775807) :
    Calls Try.prog 7 #[.slice A n c, .agg #[.int .i64 s1, .int .i64 s2], .string key] w fun e w' => e = .returned (.bool true) ∧ Below w.heap.size w w' := by
  have hok := tabs_ok hz (min n 30)
  have hl := hok.len
  obtain ⟨R, hR⟩ : ∃ R, tabs bs (min n 30) = R := ⟨_, rfl⟩
  rw [hR] at hok hl
  have hl2 : R.length ≤ 3840 := by omega
  have H0 := Lib.hid ((Has.nil (Below.refl _ w)).newBlk 53 #[.int .i64 s1, .int .i64 s2])
  have HZ := Lib.hid hok.szs
  have MA := Lib.hid (fun V l (h : Has w l V) (s : Int) => h.tbMade s A n c bs hb hz hn R hR)
  have b1 : ((rval R key).toList == (rval R key).toList) = true := by simp
  have b2 : (rhas R key == rhas R key) = true := by simp
  have b3 : ((R.length : Int) == (R.length : Int)) = true := by simp
  have GE := Lib.hid (fun V l (h : Has w l V) p (hm : tbA p R ∈ l) => h.tbGetM hm key)
  generalize rval R key = gv at *
  generalize rhas R key = gh at *
  obtain ⟨B, hB⟩ : ∃ B, (btw R key ⟨#[]⟩).reverse = B := ⟨_, rfl⟩
  have hbl : B.length ≤ 3840 := by rw [← hB, List.length_reverse]; have h1 := btw_len R key ⟨#[]⟩; have h2 := rend_le R ⟨#[]⟩; omega
  have HBB := Lib.hid hB
  clear hb hz hok hl hR hB
  go_enter Try.func7, Try.ntmps7
  go_wp2_with (first
    | (go_at_call 20; refine (Has.tbWorks H0.out).mono ?_; rintro e w1 ⟨rfl, h1⟩; have H1 := Lib.hid h1; have k1 : w1.cell? ⟨w.heap.size, 0, none⟩ = some (.int .i64 s1) := (h1.blkAt (g := w.heap.size) (t := 53) (cs := #[.int .i64 s1, .int .i64 s2]) (by simp)).cell 0; clear h1 H0)
    | (go_at_call 27; refine (MA.out _ _ H1.out s1).mono ?_; rintro e w2 ⟨p, b, rfl, h2⟩; have H2 := Lib.hid h2; have k2 : w2.cell? ⟨w.heap.size, 1, none⟩ = some (.int .i64 s2) := (h2.blkAt (g := w.heap.size) (t := 53) (cs := #[.int .i64 s1, .int .i64 s2]) (by simp)).cell 1; clear h2 H1 k1)
    | (go_at_call 27; refine (MA.out _ _ H2.out s2).mono ?_; rintro e w3 ⟨p2, b2, rfl, h3⟩; have H3 := Lib.hid h3; clear h3 H2 k2)
    | (go_at_call 21; (with_reducible refine (GE.out _ _ H3.out p (by simp)).mono ?_); rintro e w4 ⟨rfl, h4⟩; have H4 := Lib.hid h4; clear h4 H3)
    | (go_at_call 21; (with_reducible refine (GE.out _ _ H4.out p2 (by simp)).mono ?_); rintro e w5 ⟨rfl, h5⟩; have H5 := Lib.hid h5; clear h5 H4)
    | (go_at_call 16; (with_reducible refine (Has.tbLenM (p := p) (r := R) H5.out (by simp)).mono ?_); rintro e w6 ⟨rfl, hw6⟩; obtain rfl : w5 = w6 := hw6.symm)
    | (go_at_call 16; (with_reducible refine (Has.tbLenM (p := p2) (r := R) H5.out (by simp)).mono ?_); rintro e w6 ⟨rfl, hw6⟩; obtain rfl : w5 = w6 := hw6.symm)
    | (go_at_call 18; (with_reducible refine (Has.tbRowsM (p := p) (r := R) H5.out (by simp) HZ.out (by omega)).mono ?_); rintro e w7 ⟨A7, c7, rfl, h7, hw7, hc7, hd7, -⟩; have H7 := Lib.hid h7; have W7 := Lib.hid hw7; clear h7 hw7 H5)
    | (go_at_call 18; (with_reducible refine (Has.tbRowsM (p := p2) (r := R) H7.out (by simp) HZ.out (by omega)).mono ?_); rintro e w8 ⟨A8, c8, rfl, h8, hw8, hc8, hd8, hb8⟩; have H8 := Lib.hid h8; have W8 := Lib.hid hw8; have W78 := Lib.hid (W7.out.below hb8); clear h8 hw8 hb8 H7)
    | (go_at_call 19; (with_reducible refine (Has.sameM H8.out A7 A8 R.length R.length c7 c8 R R W78.out W8.out (by omega) (by omega) rfl).mono ?_); rintro e w9 ⟨rfl, h9, -⟩; have H9 := Lib.hid h9; clear h9 H8)
    | (go_at_call 24; (with_reducible refine (Has.tbRangedDM H9.out (p := p) (r := R) (by simp) HZ.out (by omega) key ⟨#[]⟩ B HBB.out).mono ?_); rintro e w10 ⟨A10, c10, rfl, h10, hw10, hc10, hd10, -⟩; have H10 := Lib.hid h10; have W10 := Lib.hid hw10; clear h10 hw10 H9)
    | (go_at_call 24; (with_reducible refine (Has.tbRangedDM H10.out (p := p2) (r := R) (by simp) HZ.out (by omega) key ⟨#[]⟩ B HBB.out).mono ?_); rintro e w11 ⟨A11, c11, rfl, h11, hw11, hc11, hd11, hb11⟩; have H11 := Lib.hid h11; have W11 := Lib.hid hw11; have W1011 := Lib.hid (W10.out.below hb11); clear h11 hw11 hb11 H10)
    | (go_at_call 19; (with_reducible refine (Has.sameM H11.out A10 A11 B.length B.length c10 c11 B B W1011.out W11.out (by omega) (by omega) rfl).mono ?_); rintro e w12 ⟨rfl, h12, -⟩; have H12 := Lib.hid h12; clear h12 H11))
  go_ret
  exact ⟨rfl, H12.out.bel⟩
end Go.Proofs.Ytgakkeeeadndkaa
