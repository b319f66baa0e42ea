/-
  SweepKnown, walked (written by wip/gensw5.py).
-/
import Derived.Test.YtldbmogondmgmaaGreatDoorSBSwN
set_option linter.unusedVariables false
set_option linter.unusedSimpArgs false
set_option maxRecDepth 100000
namespace Go.Proofs.YtldbmogondmgmaaGreatDoor
open Go.RowKit

def z34 : ByteArray := bs (List.replicate 34 122)
theorem z34_sz : z34.size = 34 := by kernel_rfl
theorem kn_be : swE ⟨#[98]⟩ ⟨#[97]⟩ (1, 0) = 2 := by kernel_rfl
theorem kn_bl : (swC chR ⟨#[98]⟩ ⟨#[97]⟩ (1, 0)).length = 0 := by kernel_rfl
theorem kn_ce : swE ⟨#[]⟩ z34 (1, 0) = 5 := by kernel_rfl
theorem kn_cl : (swC chR ⟨#[]⟩ z34 (1, 0)).length = 0 := by kernel_rfl
theorem kn_de : swE ⟨#[]⟩ t33 (-1, 0) = 2 := by kernel_rfl
theorem kn_dl : (swC chR ⟨#[]⟩ t33 (-1, 0)).length = 0 := by kernel_rfl
theorem kn_ee : swE ⟨#[97]⟩ ⟨#[97, 0]⟩ (1099511627776, 0) = 0 := by kernel_rfl
theorem kn_el : (swC chR ⟨#[97]⟩ ⟨#[97, 0]⟩ (1099511627776, 0)).length = 3 := by kernel_rfl
theorem kn_fe : swE ⟨#[97, 97]⟩ ⟨#[122]⟩ (1099511627776, 0) = 0 := by kernel_rfl
theorem kn_fl : (swC chR ⟨#[97, 97]⟩ ⟨#[122]⟩ (1099511627776, 0)).length = 0 := by kernel_rfl
theorem kn_ge : swE ⟨#[]⟩ t33 (5, 0) = 0 := by kernel_rfl
theorem kn_gl : (swC [] ⟨#[]⟩ t33 (5, 0)).length = 0 := by kernel_rfl
set_option maxHeartbeats 8000000 in
theorem sweepKnown_walk (w : World) (hM : MaxL w) : Calls Tryz.prog 8 #[] w fun e w' => e = .returned (.bool true) ∧ Below w.heap.size w w' := by
  have HCH := Lib.hid (chapter15 w)
  have HRP := Lib.hid (fun V => rep15 122 34 (by decide) V)
  have hz : bs (List.replicate 34 122) = z34 := rfl
  rw [hz] at HRP
  have HWK := Lib.hid (fun W (hB : Below w.heap.size w W) => works15 W (hM.below hB))
  have HNA := Lib.hid (fun V => swNil ⟨#[]⟩ t33 1 0 V)
  have HNH := Lib.hid (fun V => swNil ⟨#[]⟩ ⟨#[]⟩ (-1) 0 V)
  have HKb := Lib.hid (fun (V : World) (p : Nat) (h : Has w [tbA p chR] V) => kn h chR_ok (by decide) hM ⟨#[98]⟩ ⟨#[97]⟩ (by decide) (by decide) 1 0 2 0 kn_be kn_bl)
  have HKc := Lib.hid (fun (V : World) (p : Nat) (h : Has w [tbA p chR] V) => kn h chR_ok (by decide) hM ⟨#[]⟩ z34 (by decide) (by rw [z34_sz]; decide) 1 0 5 0 kn_ce kn_cl)
  have HKd := Lib.hid (fun (V : World) (p : Nat) (h : Has w [tbA p chR] V) => kn h chR_ok (by decide) hM ⟨#[]⟩ t33 (by decide) (by rw [t33_sz]; decide) (-1) 0 2 0 kn_de kn_dl)
  have HKe := Lib.hid (fun (V : World) (p : Nat) (h : Has w [tbA p chR] V) => kn h chR_ok (by decide) hM ⟨#[97]⟩ ⟨#[97, 0]⟩ (by decide) (by decide) 1099511627776 0 0 3 kn_ee kn_el)
  have HKf := Lib.hid (fun (V : World) (p : Nat) (h : Has w [tbA p chR] V) => kn h chR_ok (by decide) hM ⟨#[97, 97]⟩ ⟨#[122]⟩ (by decide) (by decide) 1099511627776 0 0 0 kn_fe kn_fl)
  have HKg := Lib.hid (fun (V : World) (p2 p : Nat) (h : Has w [tbA p2 [], tbA p chR] V) => kn h ROk.nil (by decide) hM ⟨#[]⟩ t33 (by decide) (by rw [t33_sz]; decide) 5 0 0 0 kn_ge kn_gl)
  clear hM hz
  go_enter Tryz.func8, Tryz.ntmps8
  go_wp2_with (first
    | (go_at_call 31; refine HCH.out.mono ?_; rintro e w1 ⟨p, rfl, h1⟩; have H := Lib.hid h1; clear h1)
    | (go_at_call 25; refine (all15 _).mono ?_; rintro e w2 ⟨rfl, hb2⟩; have H := Lib.hid (H.out.keep hb2); clear hb2)
    | (go_at_call 32; with_reducible refine (at15 _ _).mono ?_; rintro e w3 ⟨rfl, hb3⟩; have H := Lib.hid (H.out.keep hb3); clear hb3)
    | (go_at_call 33; refine (HRP.out _).mono ?_; rintro e w4 ⟨rfl, hb4⟩; have H := Lib.hid (H.out.keep hb4); clear hb4)
    | (go_at_call 34; refine (H.out.tbNew 1).mono ?_; rintro e w5 ⟨p2, rfl, h5⟩; have H := Lib.hid h5; clear h5)
    | (go_at_call 22; with_reducible refine (HWK.out _ H.out.bel).mono ?_; rintro e w6 ⟨rfl, hb6⟩; have H := Lib.hid (H.out.keep hb6); clear hb6)
    | (go_at_call 24; first
      | (with_reducible refine (HNA.out _).mono ?_; rintro e w7 ⟨rfl, hb7⟩; have H := Lib.hid (H.out.keep hb7); clear hb7)
      | (with_reducible refine (HNH.out _).mono ?_; rintro e w7 ⟨rfl, hb7⟩; have H := Lib.hid (H.out.keep hb7); clear hb7)
      | (with_reducible refine (HKb.out _ _ H.out).mono ?_; rintro e w8 ⟨A8b, c8b, rfl, h8⟩; have H := Lib.hid h8; clear h8)
      | (with_reducible refine (HKc.out _ _ H.out).mono ?_; rintro e w8 ⟨A8c, c8c, rfl, h8⟩; have H := Lib.hid h8; clear h8)
      | (with_reducible refine (HKd.out _ _ H.out).mono ?_; rintro e w8 ⟨A8d, c8d, rfl, h8⟩; have H := Lib.hid h8; clear h8)
      | (with_reducible refine (HKe.out _ _ H.out).mono ?_; rintro e w8 ⟨A8e, c8e, rfl, h8⟩; have H := Lib.hid h8; clear h8)
      | (with_reducible refine (HKf.out _ _ H.out).mono ?_; rintro e w8 ⟨A8f, c8f, rfl, h8⟩; have H := Lib.hid h8; clear h8)
      | (with_reducible refine (HKg.out _ _ _ H.out).mono ?_; rintro e w8 ⟨A8g, c8g, rfl, h8⟩; have H := Lib.hid h8.tail; clear h8)))
  go_ret
  exact ⟨rfl, H.out.bel⟩
end Go.Proofs.YtldbmogondmgmaaGreatDoor
