/-
  QuillKnown: the walk.
-/
import Derived.Test.YtiakoaipehmdhaaAny
set_option linter.unusedVariables false
namespace Go.Proofs.Ytiakoaipehmdhaa
open Go.RowKit

theorem enc_255 : enc 255 = [1, 255] := by simp [enc, digs]
theorem enc_65535 : enc 65535 = [2, 255, 255] := by simp [enc, digs]
theorem enc_65536 : enc 65536 = [3, 1, 0, 0] := by simp [enc, digs]
theorem enc_9007199254740991 : enc 9007199254740991 = [7, 31, 255, 255, 255, 255, 255, 255] := by simp [enc, digs]
theorem enc_281474976710656 : enc 281474976710656 = [7, 1, 0, 0, 0, 0, 0, 0] := by simp [enc, digs]
theorem enc_281474976710655 : enc 281474976710655 = [6, 255, 255, 255, 255, 255, 255] := by simp [enc, digs]

set_option maxRecDepth 100000 in
set_option maxHeartbeats 4000000 in
theorem quillKnown_walk (w : World) : Calls Try.prog 13 #[] w fun e w' => e = .returned (.bool true) ∧ Below w.heap.size w w' := by
  have l0 := at_list' 5 [1, 255]
  have l1 := at_list' 5 [2, 255, 255]
  have l2 := at_list' 5 [3, 1, 0, 0]
  have l3 := at_list' 5 [7, 31, 255, 255, 255, 255, 255, 255]
  have l4 := at_list' 5 [7, 1, 0, 0, 0, 0, 0, 0]
  have l5 := at_list' 5 [6, 255, 255, 255, 255, 255, 255]
  have l6 := at_list' 5 [1, 0]
  have l7 := at_list' 5 [2, 1]
  have l8 := at_list' 5 [8]
  have l9 := at_list' 5 [7, 32, 0, 0, 0, 0, 0, 0]
  have l10 := at_list' 5 [2, 0, 1]
  have l11 := at_list' 5 [255]
  have l12 := at_list' 5 [1, 2, 97]
  have l13 := at_list' 5 [1, 2]
  have l14 := at_list' 5 [9]
  have l15 := at_list' 5 [0, 5]
  have l16 := at_list' 5 [5]
  simp only [List.map_cons, List.map_nil, bv, List.length_cons, List.length_nil] at l0 l1 l2 l3 l4 l5 l6 l7 l8 l9 l10 l11 l12 l13 l14 l15 l16
  have L0 := Lib.hid l0
  have L1 := Lib.hid l1
  have L2 := Lib.hid l2
  have L3 := Lib.hid l3
  have L4 := Lib.hid l4
  have L5 := Lib.hid l5
  have L6 := Lib.hid l6
  have L7 := Lib.hid l7
  have L8 := Lib.hid l8
  have L9 := Lib.hid l9
  have L10 := Lib.hid l10
  have L11 := Lib.hid l11
  have L12 := Lib.hid l12
  have L13 := Lib.hid l13
  have L14 := Lib.hid l14
  have L15 := Lib.hid l15
  have L16 := Lib.hid l16
  clear l0 l1 l2 l3 l4 l5 l6 l7 l8 l9 l10 l11 l12 l13 l14 l15 l16
  have B0 := Below.refl w.heap.size w
  go_enter Try.func13, Try.ntmps13
  go_wp2_with fail
  refine (is_true 255 2 _ [1, 255] _ (by omega) (L0.out _ _ (by simp)) (by simp) enc_255).mono ?_
  rintro e w1 ⟨rfl, hb⟩
  have B1 := (B0.alloc B0.size _).trans (hb.mono (by have := B0.size; simp <;> omega))
  clear hb
  go_wp2_with fail
  refine (is_true 65535 3 _ [2, 255, 255] _ (by omega) (L1.out _ _ (by simp)) (by simp) enc_65535).mono ?_
  rintro e w2 ⟨rfl, hb⟩
  have B2 := (B1.alloc B1.size _).trans (hb.mono (by have := B1.size; simp <;> omega))
  clear hb
  go_wp2_with fail
  refine (is_true 65536 4 _ [3, 1, 0, 0] _ (by omega) (L2.out _ _ (by simp)) (by simp) enc_65536).mono ?_
  rintro e w3 ⟨rfl, hb⟩
  have B3 := (B2.alloc B2.size _).trans (hb.mono (by have := B2.size; simp <;> omega))
  clear hb
  go_wp2_with fail
  refine (is_true 9007199254740991 8 _ [7, 31, 255, 255, 255, 255, 255, 255] _ (by omega) (L3.out _ _ (by simp)) (by simp) enc_9007199254740991).mono ?_
  rintro e w4 ⟨rfl, hb⟩
  have B4 := (B3.alloc B3.size _).trans (hb.mono (by have := B3.size; simp <;> omega))
  clear hb
  go_wp2_with fail
  refine (is_true 281474976710656 8 _ [7, 1, 0, 0, 0, 0, 0, 0] _ (by omega) (L4.out _ _ (by simp)) (by simp) enc_281474976710656).mono ?_
  rintro e w5 ⟨rfl, hb⟩
  have B5 := (B4.alloc B4.size _).trans (hb.mono (by have := B4.size; simp <;> omega))
  clear hb
  go_wp2_with fail
  refine (is_true 281474976710655 7 _ [6, 255, 255, 255, 255, 255, 255] _ (by omega) (L5.out _ _ (by simp)) (by simp) enc_281474976710655).mono ?_
  rintro e w6 ⟨rfl, hb⟩
  have B6 := (B5.alloc B5.size _).trans (hb.mono (by have := B5.size; simp <;> omega))
  clear hb
  go_wp2_with fail
  refine (num_no (-1) _ (by omega)).mono ?_
  rintro e w7 ⟨rfl, rfl⟩
  go_wp2_with fail
  refine (num_no (9007199254740992) _ (by omega)).mono ?_
  rintro e w7 ⟨rfl, rfl⟩
  go_wp2_with fail
  refine (takeNum_any _ 2 2 [1, 0] [] 0 4 _ (L6.out _ _ (by simp)) (by omega) (by omega) (by omega) (by decide)).mono ?_
  rintro e w7 ⟨A, m, c, rfl, ho, h1, h2, hb⟩
  clear ho h1 h2
  have B7 := (B6.alloc B6.size _).trans (hb.mono (by have := B6.size; simp <;> omega))
  clear hb
  go_wp2_with fail
  refine (takeNum_any _ 2 2 [2, 1] [] 0 3 _ (L7.out _ _ (by simp)) (by omega) (by omega) (by omega) (by decide)).mono ?_
  rintro e w8 ⟨A, m, c, rfl, ho, h1, h2, hb⟩
  clear ho h1 h2
  have B8 := (B7.alloc B7.size _).trans (hb.mono (by have := B7.size; simp <;> omega))
  clear hb
  go_wp2_with fail
  refine (takeNum_any _ 1 1 [8] [] 0 4 _ (L8.out _ _ (by simp)) (by omega) (by omega) (by omega) (by decide)).mono ?_
  rintro e w9 ⟨A, m, c, rfl, ho, h1, h2, hb⟩
  clear ho h1 h2
  have B9 := (B8.alloc B8.size _).trans (hb.mono (by have := B8.size; simp <;> omega))
  clear hb
  go_wp2_with fail
  refine (takeNum_any none 0 0 [] [] 0 3 _ (At.nil _ _) (by omega) (by omega) (by omega) (by decide)).mono ?_
  rintro e w10 ⟨A, m, c, rfl, ho, h1, h2, hb⟩
  clear ho h1 h2
  have B10 := B9.trans (hb.mono B9.size)
  clear hb
  go_wp2_with fail
  refine (takeNum_any _ 8 8 [7, 32, 0, 0, 0, 0, 0, 0] [] 0 4 _ (L9.out _ _ (by simp)) (by omega) (by omega) (by omega) (by decide)).mono ?_
  rintro e w11 ⟨A, m, c, rfl, ho, h1, h2, hb⟩
  clear ho h1 h2
  have B11 := (B10.alloc B10.size _).trans (hb.mono (by have := B10.size; simp <;> omega))
  clear hb
  go_wp2_with fail
  refine (takeNum_any _ 3 3 [2, 0, 1] [] 0 4 _ (L10.out _ _ (by simp)) (by omega) (by omega) (by omega) (by decide)).mono ?_
  rintro e w12 ⟨A, m, c, rfl, ho, h1, h2, hb⟩
  clear ho h1 h2
  have B12 := (B11.alloc B11.size _).trans (hb.mono (by have := B11.size; simp <;> omega))
  clear hb
  go_wp2_with fail
  refine (takeNum_any _ 1 1 [255] [] 0 4 _ (L11.out _ _ (by simp)) (by omega) (by omega) (by omega) (by decide)).mono ?_
  rintro e w13 ⟨A, m, c, rfl, ho, h1, h2, hb⟩
  clear ho h1 h2
  have B13 := (B12.alloc B12.size _).trans (hb.mono (by have := B12.size; simp <;> omega))
  clear hb
  go_wp2_with fail
  refine (str_any ⟨#[97, 98]⟩ (1) [] 5 _ (by decide) (by decide)).mono ?_
  rintro e w14 ⟨A, m, c, rfl, ho, h1, h2, hb⟩
  clear ho h1 h2
  have B14 := B13.trans (hb.mono B13.size)
  clear hb
  go_wp2_with fail
  refine (str_any ⟨#[]⟩ (-1) [] 2 _ (by decide) (by decide)).mono ?_
  rintro e w15 ⟨A, m, c, rfl, ho, h1, h2, hb⟩
  clear ho h1 h2
  have B15 := B14.trans (hb.mono B14.size)
  clear hb
  go_wp2_with fail
  refine (takeStr_any _ 3 3 (2) [1, 2, 97] [] [] 3 _ (L12.out _ _ (by simp)) (by omega) (by omega) (by omega) (by decide)).mono ?_
  rintro e w16 ⟨A, m, c, rfl, ho, h1, h2, hb⟩
  simp only [str_]
  clear ho h1 h2
  have B16 := (B15.alloc B15.size _).trans (hb.mono (by have := B15.size; simp <;> omega))
  clear hb
  go_wp2_with fail
  refine (takeStr_any _ 2 2 (1) [1, 2] [] [] 5 _ (L13.out _ _ (by simp)) (by omega) (by omega) (by omega) (by decide)).mono ?_
  rintro e w17 ⟨A, m, c, rfl, ho, h1, h2, hb⟩
  simp only [str_]
  clear ho h1 h2
  have B17 := (B16.alloc B16.size _).trans (hb.mono (by have := B16.size; simp <;> omega))
  clear hb
  go_wp2_with fail
  refine (takeStr_any _ 1 1 (-1) [9] [] [] 2 _ (L14.out _ _ (by simp)) (by omega) (by omega) (by omega) (by decide)).mono ?_
  rintro e w18 ⟨A, m, c, rfl, ho, h1, h2, hb⟩
  simp only [str_]
  clear ho h1 h2
  have B18 := (B17.alloc B17.size _).trans (hb.mono (by have := B17.size; simp <;> omega))
  clear hb
  go_wp2_with fail
  refine (takeStr_any _ 2 2 (0) [0, 5] [] [5] 0 _ (L15.out _ _ (by simp)) (by omega) (by omega) (by omega) (by decide)).mono ?_
  rintro e w19 ⟨A, m, c, rfl, ho, h1, h2, hb⟩
  simp only [str_]
  obtain rfl : m = 1 := ho.len.symm
  have B19 := (B18.alloc B18.size _).trans (hb.mono (by have := B18.size; simp <;> omega))
  clear hb
  go_wp2_with fail
  refine (works _).mono ?_
  rintro e w20 ⟨rfl, hb⟩
  have ha := (ho.below hb).at_
  clear ho h1 h2
  have B20 := B19.trans (hb.mono B19.size)
  clear hb
  go_wp2_with fail
  refine (eqBytes _ _ 1 1 c 1 [5] [5] _ (ha.alloc _) (L16.out _ _ (by simp)) (by omega)).mono ?_
  rintro e w21 ⟨rfl, j, rfl⟩
  rw [show (([5] : List UInt8) == [5]) = true by decide]
  have B21 := fun o => below_drewN (B20.alloc B20.size o) j
  go_wp2
  go_ret
  exact ⟨rfl, B21 _⟩
end Go.Proofs.Ytiakoaipehmdhaa
