/-
  FrameMakes: the walk, over what the code's functions promise.
-/
import Derived.Test.YthbegaknlhclpaaFWorks
import Derived.Test.YthbegaknlhclpaaFRef
set_option linter.unusedVariables false
namespace Go.Proofs.Ythbegaknlhclpaa
open Go.RowKit

theorem at_7s (W : World) (g : Nat) (hg : g = W.heap.size) : At (W.alloc (.cells #[.int .u8 7, .int .u8 7, .int .u8 7, .int .u8 7, .int .u8 7, .int .u8 7, .int .u8 7, .int .u8 7] 5)) (some ⟨g, 0, none⟩) 8 [7, 7, 7, 7, 7, 7, 7, 7] :=
  at_list' 5 [7, 7, 7, 7, 7, 7, 7, 7] W g hg
theorem get_7s (xs : List UInt8) (k : Nat) (h1 : xs.length ≤ k) (h2 : k < (xs ++ [7, 7, 7, 7, 7, 7, 7, 7]).length) : (xs ++ [7, 7, 7, 7, 7, 7, 7, 7])[k] = 7 := by
  rw [List.getElem_append_right h1]
  have : k - xs.length < 8 := by simp at h2; omega
  have all : ∀ (j : Nat) (hj : j < 8), ([7, 7, 7, 7, 7, 7, 7, 7] : List UInt8)[j] = 7 := fun j hj => match j, hj with
  | 0, _ => rfl
  | 1, _ => rfl
  | 2, _ => rfl
  | 3, _ => rfl
  | 4, _ => rfl
  | 5, _ => rfl
  | 6, _ => rfl
  | 7, _ => rfl
  exact all _ this

set_option maxHeartbeats 2000000 in
theorem frameMakes_w (hF : FrameOk) (hN : NextOk) (A : Option Addr) (n c : Nat) (xs : List UInt8) (w : World) (hx : At w A n xs) (hnc : n ≤ c) (hk : c ≤ 140737488351232) (hz : A = none → c = 0) :
    Calls Try.prog 3 #[.slice A n c] w fun e w' => e = .returned (.bool true) ∧ Below w.heap.size w w' := by
  have HW := Lib.hid (works hF hN)
  have hxl := hx.1
  have HXL := Lib.hid hxl
  clear hxl
  go_enter Try.func3, Try.ntmps3
  go_wp2_with fail
  refine (copyBytes A n c xs _ hx (by omega)).mono ?_
  rintro e1 w1 ⟨v1, rfl, hown1, hb1⟩
  have hs1 := hb1.size
  have hr1 : w1.ownsRow w.heap.size 5 1 v1 n (xs.map bv) := by
    have := hown1
    unfold Own at this
    rw [HXL.out] at this
    exact this
  go_wp2_with (at_builtin; refine wpList_app rfl _ _ 22 rfl w.heap.size 5 Try.underlying22 info5 v1 n xs [7, 7, 7, 7, 7, 7, 7, 7] rfl (hr1.alloc _) _ 8 8 rfl (at_7s _ _ (by first | rfl | simp)) (by omega) (by simp; omega) ?_; intro v2 w2 hown2 hg2 hat2)
  have hb2 : Below w.heap.size w w2 := (hb1.alloc hs1 _).grown hg2 (by simp; omega) (fun j hj => (World.ownsRow.lt hown1 j hj).1)
  have hl2 : (xs ++ [7, 7, 7, 7, 7, 7, 7, 7]).length = n + 8 := by rw [List.length_append, HXL.out]; rfl
  have ho2 : Own w2 w.heap.size v2 (xs ++ [7, 7, 7, 7, 7, 7, 7, 7]) := by
    unfold Own
    rw [hl2]
    simpa using hown2
  obtain ⟨A2, c2, rfl, hA2, h21, h22, _⟩ := ho2.form
  rw [hl2] at hA2 h21 ho2 ⊢
  obtain ⟨g, rfl, hg1, hg2'⟩ := ho2.some_ (by omega)
  have hcutw := fun W (h : At W (some ⟨g, 0, none⟩) (n + 8) (xs ++ [7, 7, 7, 7, 7, 7, 7, 7])) => h.cut (l := 0) (k := n) (m := c2) (by omega) (by omega) (by omega)
  simp only [cutA_zero, Nat.sub_zero, List.drop_zero] at hcutw
  have HCUT := Lib.hid (fun W h => by
    have := hcutw W h
    rw [List.take_left' HXL.out] at this
    exact this)
  have H7 := Lib.hid (fun k h1 h2 => get_7s xs k h1 h2)
  have k1 : ∀ W : World, (Instr.slice 22 (.slice (some ⟨g, 0, none⟩) (n + 8) c2) none (some (.int .i64 (n : Int))) none).run Try.prog W = .ok (.slice (some ⟨g, 0, none⟩) n c2) W := fun W => by
    simpa using slb_h (some ⟨g, 0, none⟩) (n + 8) c2 .i64 n W (by omega) (by omega)
  generalize xs ++ [7, 7, 7, 7, 7, 7, 7, 7] = zs at ho2 hA2 HCUT H7 hl2
  have HL2 := Lib.hid hl2
  clear hown1 hr1 hb1 hs1 hown2 hg2 hat2 hcutw hl2
  have hx2 := hx.below' hb2
  have C1 := fun W h => hF (some ⟨g, 0, none⟩) n c2 xs W h (by omega) h22 (by omega)
  have C2 := fun W h => refFrame A n c xs W h hnc (by omega) (by omega)
  have hyl : (if 65536 < n then [] else fr xs).length ≤ 70000 := by
    by_cases h : 65536 < n
    · rw [if_pos h]; simp
    · have := enc_len n (by omega)
      rw [if_neg h, fr_len, HXL.out]
      omega
  generalize (if 65536 < n then (5 : Int) else 0) = e5 at C1 C2
  generalize (if 65536 < n then [] else fr xs) = y at C1 C2 hyl
  have D1 := Lib.hid C1
  have D2 := Lib.hid C2
  clear hx C1 C2 hF hN
  go_wp2_with fail
  rw [k1]
  go_wp2_with fail
  refine (D1.out _ (HCUT.out _ hA2)).mono ?_
  rintro e3 w3 ⟨v3, rfl, hown3, hb3⟩
  have ho3 := ho2.below hb3
  have hx3 := hx2.below' hb3
  have hB3 := hb2.trans (hb3.mono hb2.size)
  clear hb3 hb2 ho2 hx2 hA2
  go_wp2_with fail
  refine (D2.out _ hx3).mono ?_
  rintro e4 w4 ⟨v4, rfl, hown4, hb4⟩
  have ho4 := ho3.below hb4
  have hx4 := hx3.below' hb4
  have hP4 := hown3.below hb4
  have hB4 := hB3.trans (hb4.mono hB3.size)
  clear hb4 hB3 ho3 hx3 hown3
  obtain ⟨A3, c3, rfl, hA3, _, _, _⟩ := hP4.form
  obtain ⟨A4, c4, rfl, hA4, _, _, _⟩ := hown4.form
  have hq : (y == y) = true := beq_self_eq_true _
  generalize hyy : y.length = yl at *
  clear hyy hP4 hown4
  go_wp2_with fail
  refine (eqBytes A3 A4 yl yl c3 c4 y y _ hA3 hA4 (by omega)).mono ?_
  rintro e6 w6 ⟨rfl, j6, rfl⟩
  rw [hq]
  have hq2 : (xs == xs) = true := beq_self_eq_true _
  go_wp2_with fail
  refine (eqBytes (some ⟨g, 0, none⟩) A n n c2 c xs xs _ (HCUT.out _ (ho4.at_.drewN j6)) (hx4.drewN j6) (by omega)).mono ?_
  rintro e7 w7 ⟨rfl, j7, rfl⟩
  rw [hq2]
  have hB7 := below_drewN (below_drewN hB4 j6) j7
  have ho7 := (ho4.drewN j6).drewN j7
  generalize (w4.drewN j6).drewN j7 = w7 at hB7 ho7 ⊢
  clear hB4 ho4 hx4 hA3 hA4 HCUT
  have hF7 := Lib.hid hB7
  go_wp2_with fail
  go_loopw [8] (fun i wr => ∃ k : Nat, n ≤ k ∧ k ≤ n + 8 ∧ i = .int .i64 k ∧ ∃ j, wr = w7.drewN j) (fun i _ => n + 8 - (intOf i).toNat)
  case atStart => exact ⟨n, Nat.le_refl _, by omega, rfl, 0, rfl⟩
  case round =>
    obtain ⟨k, hk1, hk2, rfl, j, rfl⟩ := hrel
    by_cases hlt : k < n + 8
    · have hc := (ho7.drewN j).cell k hlt
      rw [H7.out k (by rw [HXL.out]; exact hk1) (by rw [HL2.out]; exact hlt)] at hc
      have hc' : (w7.drewN j).cell? ⟨g, k, none⟩ = some (.int .u8 7) := hc
      clear hc
      go_wp2
      go_roundw
      case rel => exact ⟨k + 1, by omega, by omega, by go_num, _, rfl⟩
      case measure => simp [intOf]; omega
    · have hge : n + 8 ≤ k := by omega
      go_wp2_with fail
      refine (HW.out _).mono ?_
      rintro e8 w8 ⟨rfl, hb8⟩
      have hB8 := (below_drewN hF7.out j).trans (hb8.mono (below_drewN hF7.out j).size)
      clear hb8
      go_wp2
      go_ret
      exact ⟨rfl, hB8⟩
end Go.Proofs.Ythbegaknlhclpaa
