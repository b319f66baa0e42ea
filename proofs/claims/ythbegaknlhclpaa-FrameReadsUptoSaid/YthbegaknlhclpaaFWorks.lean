/-
  Layer 4: the chapter's examples, as the statements call them.
-/
import Derived.Test.YthbegaknlhclpaaFOk
import Derived.Test.YthbegaknlhclpaaCCode
import Derived.Test.YthbegaknlhclpaaRef
import Derived.StillTailTactics
set_option linter.unusedVariables false
namespace Go.Proofs.Ythbegaknlhclpaa
open Go.RowKit

theorem enc_one : enc 1 = [1, 1] := by simp [enc, digs]
theorem crc_11a : crcOf [1, 1, 97] = 859714692#32 := by decide +kernel
theorem fr_a : fr [97] = [1, 1, 97, 51, 62, 52, 132] := by
  unfold fr
  rw [show ([97] : List UInt8).length = 1 from rfl, enc_one, show ([1, 1] ++ [97] : List UInt8) = [1, 1, 97] from rfl, crc_11a]
  decide +kernel
theorem N_11a : N (crcOf [1, 1, 97]) = 859714692 := by rw [crc_11a]; decide
theorem nx_a9 : nx [1, 1, 97, 51, 62, 52, 132, 9] = ([97], 7, 0) := by
  have := nx_fr [97] [9] (by decide)
  rw [fr_a] at this
  exact this
theorem nx_a6 : nx [1, 1, 97, 51, 62, 52] = ([], 0, 3) := by
  have := nx_cut [97] 6 (by decide) (by rw [fr_a]; decide)
  rw [fr_a] at this
  exact this
theorem nx_8 : nx [8] = ([], 0, 4) := by decide +kernel
theorem nx_133 : nx [1, 1, 97, 51, 62, 52, 133] = ([], 0, 40) := by decide +kernel

theorem next_a9 (hN : NextOk) (A : Option Addr) (c : Nat) (W : World) (h : At W A 8 [1, 1, 97, 51, 62, 52, 132, 9]) (h1 : 8 ≤ c) (h2 : c ≤ 9223372036854775807) :
    Calls Try.prog 17 #[.slice A 8 c] W fun x W' => ∃ v, x = .returned (.tuple #[v, .int .i64 7, .int .i64 0]) ∧ Own W' W.heap.size v [97] ∧ Below W.heap.size W W' :=
  hN A 8 c [1, 1, 97, 51, 62, 52, 132, 9] [97] 7 0 W h h1 h2 (by omega) nx_a9
theorem next_a6 (hN : NextOk) (A : Option Addr) (c : Nat) (W : World) (h : At W A 6 [1, 1, 97, 51, 62, 52]) (h1 : 6 ≤ c) (h2 : c ≤ 9223372036854775807) :
    Calls Try.prog 17 #[.slice A 6 c] W fun x W' => ∃ v, x = .returned (.tuple #[v, .int .i64 0, .int .i64 3]) ∧ Own W' W.heap.size v [] ∧ Below W.heap.size W W' :=
  hN A 6 c [1, 1, 97, 51, 62, 52] [] 0 3 W h h1 h2 (by omega) nx_a6
theorem next_8 (hN : NextOk) (A : Option Addr) (c : Nat) (W : World) (h : At W A 1 [8]) (h1 : 1 ≤ c) (h2 : c ≤ 9223372036854775807) :
    Calls Try.prog 17 #[.slice A 1 c] W fun x W' => ∃ v, x = .returned (.tuple #[v, .int .i64 0, .int .i64 4]) ∧ Own W' W.heap.size v [] ∧ Below W.heap.size W W' :=
  hN A 1 c [8] [] 0 4 W h h1 h2 (by omega) nx_8
theorem next_133 (hN : NextOk) (A : Option Addr) (c : Nat) (W : World) (h : At W A 7 [1, 1, 97, 51, 62, 52, 133]) (h1 : 7 ≤ c) (h2 : c ≤ 9223372036854775807) :
    Calls Try.prog 17 #[.slice A 7 c] W fun x W' => ∃ v, x = .returned (.tuple #[v, .int .i64 0, .int .i64 40]) ∧ Own W' W.heap.size v [] ∧ Below W.heap.size W W' :=
  hN A 7 c [1, 1, 97, 51, 62, 52, 133] [] 0 40 W h h1 h2 (by omega) nx_133
theorem frame_a (hF : FrameOk) (A : Option Addr) (c : Nat) (W : World) (h : At W A 1 [97]) (h1 : 1 ≤ c) (h2 : c ≤ 9223372036854775807) :
    Calls Try.prog 13 #[.slice A 1 c] W fun x W' => ∃ g c', x = .returned (.tuple #[.slice (some ⟨g, 0, none⟩) 7 c', .int .i64 0]) ∧ Own W' W.heap.size (.slice (some ⟨g, 0, none⟩) 7 c') [1, 1, 97, 51, 62, 52, 132] ∧ 7 ≤ c' ∧ c' ≤ 9223372036854775807 ∧ W.heap.size ≤ g ∧ Below W.heap.size W W' := by
  refine (hF A 1 c [97] W h h1 h2 (by omega)).mono ?_
  rintro x W' ⟨v, rfl, hown, hb⟩
  rw [if_neg (by decide), fr_a] at hown
  obtain ⟨A', c', hv, _, h3, h4, _⟩ := hown.form
  replace hv : v = .slice A' 7 c' := hv
  subst hv
  obtain ⟨g, rfl, h5, _⟩ := hown.some_ (by omega)
  exact ⟨g, c', rfl, hown, h3, h4, h5, hb⟩
theorem of_11a (A : Option Addr) (c : Nat) (W : World) (h : At W A 3 [1, 1, 97]) :
    Calls Try.prog 30 #[.slice A 3 c] W fun e w' => e = .returned (.int .u32 859714692) ∧ Below W.heap.size W w' := by
  have := of_ A 3 c [1, 1, 97] W h (by omega)
  rw [N_11a] at this
  exact this
theorem copy_a (A : Option Addr) (c : Nat) (W : World) (h : At W A 7 [1, 1, 97, 51, 62, 52, 132]) :
    Calls Try.prog 12 #[.slice A 7 c] W fun e w' => ∃ v, e = .returned v ∧ w'.ownsRow W.heap.size 5 1 v 7 ([1, 1, 97, 51, 62, 52, 132].map bv) ∧ Below W.heap.size W w' :=
  copyBytes A 7 c _ W h (by omega)
theorem eq_11a (A B : Option Addr) (c d : Nat) (W : World) (h : At W A 3 [1, 1, 97]) (k : At W B 3 [1, 1, 97]) :
    Calls Try.prog 15 #[.slice A 3 c, .slice B 3 d] W fun e w' => e = .returned (.bool true) ∧ ∃ j, w' = W.drewN j :=
  eqBytes A B 3 3 c d _ _ W h k (by omega)
theorem eq_a (A B : Option Addr) (c d : Nat) (W : World) (h : At W A 1 [97]) (k : At W B 1 [97]) :
    Calls Try.prog 15 #[.slice A 1 c, .slice B 1 d] W fun e w' => e = .returned (.bool true) ∧ ∃ j, w' = W.drewN j :=
  eqBytes A B 1 1 c d _ _ W h k (by omega)
theorem at_a (W : World) (g : Nat) (hg : g = W.heap.size) : At (W.alloc (.cells #[.int .u8 97] 5)) (some ⟨g, 0, none⟩) 1 [97] := at_list' 5 [97] W g hg
theorem at_9 (W : World) (g : Nat) (hg : g = W.heap.size) : At (W.alloc (.cells #[.int .u8 9] 5)) (some ⟨g, 0, none⟩) 1 [9] := at_list' 5 [9] W g hg
theorem at_8 (W : World) (g : Nat) (hg : g = W.heap.size) : At (W.alloc (.cells #[.int .u8 8] 5)) (some ⟨g, 0, none⟩) 1 [8] := at_list' 5 [8] W g hg
theorem at_11a (W : World) (g : Nat) (hg : g = W.heap.size) : At (W.alloc (.cells #[.int .u8 1, .int .u8 1, .int .u8 97] 5)) (some ⟨g, 0, none⟩) 3 [1, 1, 97] := at_list' 5 [1, 1, 97] W g hg

theorem keepW {w V : World} {g B6 c6 : Nat} {A6 : Option Addr} (h : V.cell? ⟨g, 3, none⟩ = some (.int .u8 51) ∧ V.cell? ⟨g, 4, none⟩ = some (.int .u8 62) ∧ V.cell? ⟨g, 5, none⟩ = some (.int .u8 52) ∧ V.cell? ⟨g, 6, none⟩ = some (.int .u8 133) ∧ Own V B6 (.slice A6 1 c6) [97] ∧ Below w.heap.size w V) (o : Obj) :
    (V.alloc o).cell? ⟨g, 3, none⟩ = some (.int .u8 51) ∧ (V.alloc o).cell? ⟨g, 4, none⟩ = some (.int .u8 62) ∧ (V.alloc o).cell? ⟨g, 5, none⟩ = some (.int .u8 52) ∧ (V.alloc o).cell? ⟨g, 6, none⟩ = some (.int .u8 133) ∧ Own (V.alloc o) B6 (.slice A6 1 c6) [97] ∧ Below w.heap.size w (V.alloc o) := by
  obtain ⟨h3, h4, h5, h6, ho, hb⟩ := h
  have k : ∀ p x, V.cell? p = some x → (V.alloc o).cell? p = some x := fun p x hp => by rw [World.cell?_alloc_lt V o p (World.block_lt_of_cell? V _ hp), hp]
  exact ⟨k _ _ h3, k _ _ h4, k _ _ h5, k _ _ h6, ho.below ((Below.refl _ V).alloc (Nat.le_refl _) o), hb.alloc hb.size o⟩
theorem keepJ {w V : World} {g B6 c6 : Nat} {A6 : Option Addr} (h : V.cell? ⟨g, 3, none⟩ = some (.int .u8 51) ∧ V.cell? ⟨g, 4, none⟩ = some (.int .u8 62) ∧ V.cell? ⟨g, 5, none⟩ = some (.int .u8 52) ∧ V.cell? ⟨g, 6, none⟩ = some (.int .u8 133) ∧ Own V B6 (.slice A6 1 c6) [97] ∧ Below w.heap.size w V) (j : Nat) :
    (V.drewN j).cell? ⟨g, 3, none⟩ = some (.int .u8 51) ∧ (V.drewN j).cell? ⟨g, 4, none⟩ = some (.int .u8 62) ∧ (V.drewN j).cell? ⟨g, 5, none⟩ = some (.int .u8 52) ∧ (V.drewN j).cell? ⟨g, 6, none⟩ = some (.int .u8 133) ∧ Own (V.drewN j) B6 (.slice A6 1 c6) [97] ∧ Below w.heap.size w (V.drewN j) :=
  ⟨h.1, h.2.1, h.2.2.1, h.2.2.2.1, h.2.2.2.2.1, below_drewN h.2.2.2.2.2 j⟩
theorem atS {w V : World} {g B6 c6 : Nat} {A6 : Option Addr} (h : V.cell? ⟨g, 3, none⟩ = some (.int .u8 51) ∧ V.cell? ⟨g, 4, none⟩ = some (.int .u8 62) ∧ V.cell? ⟨g, 5, none⟩ = some (.int .u8 52) ∧ V.cell? ⟨g, 6, none⟩ = some (.int .u8 133) ∧ Own V B6 (.slice A6 1 c6) [97] ∧ Below w.heap.size w V) : At V A6 1 [97] := h.2.2.2.2.1.at_

set_option maxHeartbeats 4000000 in
theorem works (hF : FrameOk) (hN : NextOk) (w : World) : Calls Try.prog 16 #[] w fun e w' => e = .returned (.bool true) ∧ Below w.heap.size w w' := by
  have HF := Lib.hid (frame_a hF)
  have HN9 := Lib.hid (next_a9 hN)
  have HN6 := Lib.hid (next_a6 hN)
  have HN8 := Lib.hid (next_8 hN)
  have HN3 := Lib.hid (next_133 hN)
  clear hF hN
  go_enter Try.func16, Try.ntmps16
  go_wp2_with fail
  refine (HF.out _ _ _ (at_a _ _ (by first | rfl | simp)) (by omega) (by omega)).mono ?_
  rintro e w1 ⟨g, c1, rfl, hown1, h11, h12, hg1, hb1⟩
  have hB1 : Below w.heap.size w w1 := ((Below.refl _ _).alloc (Nat.le_refl _) _).trans (hb1.mono (by simp))
  have hgw : w.heap.size ≤ g := by simp at hg1; omega
  have ho1 := hown1.base (B' := w.heap.size) (by simp)
  have hA3 := fun W (h : At W (some ⟨g, 0, none⟩) 7 [1, 1, 97, 51, 62, 52, 132]) => (h.cut (l := 0) (k := 3) (m := c1) (by omega) (by omega) (by omega))
  have hA6 := fun W (h : At W (some ⟨g, 0, none⟩) 7 [1, 1, 97, 51, 62, 52, 132]) => (h.cut (l := 0) (k := 6) (m := c1) (by omega) (by omega) (by omega))
  simp only [cutA_zero, Nat.sub_zero, List.drop_zero, List.take_succ_cons, List.take_zero] at hA3 hA6
  have HA3 := Lib.hid hA3
  have HA6 := Lib.hid hA6
  clear hown1 hb1 hg1 hA3 hA6
  have k3 : ∀ W : World, (Instr.slice 22 (.slice (some ⟨g, 0, none⟩) 7 c1) none (some (.int .i64 3)) none).run Try.prog W = .ok (.slice (some ⟨g, 0, none⟩) 3 c1) W := fun W => by
    simpa using slb_h (some ⟨g, 0, none⟩) 7 c1 .i64 3 W (by omega) (by omega)
  have k6 : ∀ W : World, (Instr.slice 22 (.slice (some ⟨g, 0, none⟩) 7 c1) none (some (.int .i64 6)) none).run Try.prog W = .ok (.slice (some ⟨g, 0, none⟩) 6 c1) W := fun W => by
    simpa using slb_h (some ⟨g, 0, none⟩) 7 c1 .i64 6 W (by omega) (by omega)
  have ho2 := fun o => ho1.below ((Below.refl _ w1).alloc (Nat.le_refl _) o)
  go_wp2_with fail
  refine (eq_11a _ _ c1 3 _ (HA3.out _ (ho2 _).at_) (at_11a _ _ (by first | rfl | simp))).mono ?_
  rintro e w2 ⟨rfl, j2, rfl⟩
  have hB2 := below_drewN (hB1.alloc hB1.size (.cells #[.int .u8 1, .int .u8 1, .int .u8 97] 5)) j2
  have ho3 := (ho2 (.cells #[.int .u8 1, .int .u8 1, .int .u8 97] 5)).drewN j2
  generalize (w1.alloc (.cells #[.int .u8 1, .int .u8 1, .int .u8 97] 5)).drewN j2 = w2 at hB2 ho3 ⊢
  clear ho1 ho2 hB1
  go_wp2_with fail
  refine (of_11a _ c1 _ (HA3.out _ ho3.at_)).mono ?_
  rintro e w3 ⟨rfl, hb3⟩
  have ho4 := ho3.below hb3
  have hB3 := hB2.trans (hb3.mono hB2.size)
  clear hb3 hB2 ho3
  go_wp2_with fail
  refine (copy_a _ c1 _ ho4.at_).mono ?_
  rintro e w4 ⟨v4, rfl, hown4, hb4⟩
  have hs4 := hb4.size
  go_wp2_with (at_builtin; refine wpList_app rfl _ _ 22 rfl w3.heap.size 5 Try.underlying22 info5 v4 7 [1, 1, 97, 51, 62, 52, 132] [9] rfl (hown4.alloc _) _ 1 1 rfl (at_9 _ _ (by first | rfl | simp)) (by omega) (by simp; omega) ?_; intro v5 w5 hown5 hg5 hat5)
  have hb5 : Below w3.heap.size w3 w5 := (hb4.alloc hs4 _).grown hg5 (by simp; omega) (fun j hj => (World.ownsRow.lt hown4 j hj).1)
  have ho5 : Own w5 w3.heap.size v5 [1, 1, 97, 51, 62, 52, 132, 9] := hown5
  obtain ⟨A5, c5, hv5, hA5, h51, h52, _⟩ := ho5.form
  replace hv5 : v5 = .slice A5 8 c5 := hv5
  replace hA5 : At w5 A5 8 [1, 1, 97, 51, 62, 52, 132, 9] := hA5
  replace h51 : 8 ≤ c5 := h51
  subst hv5
  have ho6 := ho4.below hb5
  have hB5 := hB3.trans (hb5.mono hB3.size)
  clear hown5 hg5 hat5 hown4 hb4 hs4 ho4 hb5 hB3 ho5
  refine (HN9.out _ _ _ hA5 h51 h52).mono ?_
  rintro e w6 ⟨v6, rfl, hown6, hb6⟩
  have ho7 := ho6.below hb6
  have hB6 := hB5.trans (hb6.mono hB5.size)
  obtain ⟨A6, c6, hv6, _, h61, h62, _⟩ := hown6.form
  replace hv6 : v6 = .slice A6 1 c6 := hv6
  subst hv6
  obtain ⟨_, hge, _, hgl⟩ := ho6.some_ (by omega)
  have hgl5 : g < w5.heap.size := by
    injection hge with hge
    injection hge with hge
    omega
  obtain ⟨B6, hB6e⟩ : ∃ B6, B6 = w5.heap.size := ⟨_, rfl⟩
  rw [← hB6e] at hown6 hgl5
  clear hb6 ho6 hB5 hA5 hge hgl hB6e
  go_wp2_with fail
  refine (HN6.out _ _ _ (HA6.out _ ho7.at_) (by omega) h12).mono ?_
  rintro e w7 ⟨v7, rfl, hown7, hb7⟩
  have ho8 := ho7.below hb7
  have hP7 := hown6.below hb7
  have hB7 := hB6.trans (hb7.mono hB6.size)
  clear hb7 ho7 hB6 hown7 hown6
  go_wp2_with fail
  have hb8a := (Below.refl w7.heap.size w7).alloc (Nat.le_refl _) (.cells #[.int .u8 8] 5)
  refine (HN8.out _ _ _ (at_8 _ _ (by first | rfl | simp)) (by omega) (by omega)).mono ?_
  rintro e w8 ⟨v8, rfl, hown8, hb8⟩
  have hb8' := hb8a.trans (hb8.mono (by simp))
  have ho9 := ho8.below hb8'
  have hP8 := hP7.below hb8'
  have hB8 := hB7.trans (hb8'.mono hB7.size)
  clear hb8 hb8' hb8a ho8 hB7 hown8 hP7
  have cA : w8.cell? ⟨g, 6, none⟩ = some (.int .u8 132) := ho9.cell 6 (by omega)
  have fA := ho9.free 6
  have hS : Own (w8.setCell ⟨g, 6, none⟩ (.int .u8 133)) w.heap.size (.slice (some ⟨g, 0, none⟩) 7 c1) [1, 1, 97, 51, 62, 52, 133] := ho9.set 6 133
  have hP9 := hP8.far (p := ⟨g, 6, none⟩) hgl5 (.int .u8 133)
  have hB9 := hB8.setCell (p := ⟨g, 6, none⟩) hgw (.int .u8 133)
  have x1 : Go.bits .xor .u8 132 1 = 133 := by decide
  have x2 : Go.bits .xor .u8 133 1 = 132 := by decide
  clear ho9 hP8 hB8
  go_wp2_with fail
  generalize w8.setCell ⟨g, 6, none⟩ (.int .u8 133) = w9 at hS hP9 hB9 ⊢
  refine (HN3.out _ _ _ hS.at_ (by omega) h12).mono ?_
  rintro e w10 ⟨v10, rfl, hown10, hb10⟩
  have hS10 := hS.below hb10
  have hP10 := hP9.below hb10
  have hB10 := hB9.trans (hb10.mono hB9.size)
  have d3 : w10.cell? ⟨g, 3, none⟩ = some (.int .u8 51) := hS10.cell 3 (by omega)
  have d4 : w10.cell? ⟨g, 4, none⟩ = some (.int .u8 62) := hS10.cell 4 (by omega)
  have d5 : w10.cell? ⟨g, 5, none⟩ = some (.int .u8 52) := hS10.cell 5 (by omega)
  have d6 : w10.cell? ⟨g, 6, none⟩ = some (.int .u8 133) := hS10.cell 6 (by omega)
  clear hb10 hS hP9 hB9 hown10 cA fA
  go_wp2_with fail
  have oo : Go.bits .or .u32 (Go.bits .or .u32 (Go.bits .or .u32 (IntKind.u32.wrap (IntKind.u32.wrap 51 * 16777216)) (IntKind.u32.wrap (IntKind.u32.wrap 62 * 65536))) (IntKind.u32.wrap (IntKind.u32.wrap 52 * 256))) (IntKind.u32.wrap 132) = 859714692 := by decide
  go_region_held3 (fun V => V.cell? ⟨g, 3, none⟩ = some (.int .u8 51) ∧ V.cell? ⟨g, 4, none⟩ = some (.int .u8 62) ∧ V.cell? ⟨g, 5, none⟩ = some (.int .u8 52) ∧ V.cell? ⟨g, 6, none⟩ = some (.int .u8 133) ∧ Own V B6 (.slice A6 1 c6) [97] ∧ Below w.heap.size w V) (first | assumption | exact ⟨d3, d4, d5, d6, hP10, hB10⟩ | exact ⟨d3, d4, d5, d6, hP10, hB10.drew⟩ | exact keepW ⟨d3, d4, d5, d6, hP10, hB10⟩ _ | exact keepJ (keepW ⟨d3, d4, d5, d6, hP10, hB10⟩ _) _ | exact keepW (by assumption) _ | exact keepJ (by assumption) _)
    (first
      | (go_at_call 15; refine (eq_a _ _ c6 1 _ ?_ ?_).mono ?_; (exact (atS (by assumption))); (exact at_a _ _ (by first | rfl | simp)); rintro e w11 ⟨rfl, j11, rfl⟩))
  all_goals go_wp2
  all_goals go_ret
  all_goals exact ⟨rfl, below_drewN (hB10.alloc hB10.size _) _⟩
end Go.Proofs.Ythbegaknlhclpaa
