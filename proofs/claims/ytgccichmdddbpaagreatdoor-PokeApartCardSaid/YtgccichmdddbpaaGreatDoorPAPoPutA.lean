/-
  Layer 13, the code: Put, ways of it (written by wip/genpoput.py).
-/
import Derived.Test.YtgccichmdddbpaaGreatDoorPA36
set_option linter.unusedVariables false
set_option linter.unusedSimpArgs false
set_option maxRecDepth 100000
namespace Go.Proofs.YtgccichmdddbpaaGreatDoor
open Go.RowKit

set_option maxHeartbeats 8000000 in
theorem put_arg {w V : World} {T : List As} {p : Nat} {r : List Rw} (hM : MaxL w) (key : ByteArray) (q : Int) (s : ByteArray) (d : Bool) (x0 x1 x2 : Int) (x3 : ByteArray) (x4 x5 x6 x7 x8 x9 x10 x11 m1 m2 : Int) (ce : Int) (hce : ¬ ce = 0) (H1 : Hid (Has w (blkA (V.heap.size + 1 + 1 + 1) 40 #[.slice none 0 0, .int .i64 0, .int .i64 0, .int .i64 0, .int .i64 0, .int .i64 0, .string ⟨#[]⟩, .int .i64 0, .int .i64 0, .int .i64 0, .int .i64 0, .slice none 0 0] :: blkA (V.heap.size + 1 + 1) 26 #[.int .i64 m1, .int .i64 m2] :: blkA (V.heap.size + 1) 28 (txc ⟨x0, x1, x2, x3, x4, x5, x6, x7, x8, x9, x10, x11⟩) :: blkA (V.heap.size) 24 #[.int .i64 q, .string s, .bool d] :: tbA p r :: T) ((((V.alloc (.cells #[.int .i64 q, .string s, .bool d] 24)).alloc (.cells (txc ⟨x0, x1, x2, x3, x4, x5, x6, x7, x8, x9, x10, x11⟩) 28)).alloc (.cells #[.int .i64 m1, .int .i64 m2] 26)).alloc (.cells #[.slice none 0 0, .int .i64 0, .int .i64 0, .int .i64 0, .int .i64 0, .int .i64 0, .string ⟨#[]⟩, .int .i64 0, .int .i64 0, .int .i64 0, .int .i64 0, .slice none 0 0] 40))))
    (HCK : Hid (∀ W, Has w (blkA (V.heap.size + 1 + 1 + 1) 40 #[.slice none 0 0, .int .i64 0, .int .i64 0, .int .i64 0, .int .i64 0, .int .i64 0, .string ⟨#[]⟩, .int .i64 0, .int .i64 0, .int .i64 0, .int .i64 0, .slice none 0 0] :: blkA (V.heap.size + 1 + 1) 26 #[.int .i64 m1, .int .i64 m2] :: blkA (V.heap.size + 1) 28 (txc ⟨x0, x1, x2, x3, x4, x5, x6, x7, x8, x9, x10, x11⟩) :: blkA (V.heap.size) 24 #[.int .i64 q, .string s, .bool d] :: tbA p r :: T) W → Calls Tryz.prog 43 #[pt p, .string key, .agg #[.int .i64 q, .string s, .bool d], txv ⟨x0, x1, x2, x3, x4, x5, x6, x7, x8, x9, x10, x11⟩, sv m1 m2] W fun e w' => e = .returned (.int .i64 ce) ∧ Has w (blkA (V.heap.size + 1 + 1 + 1) 40 #[.slice none 0 0, .int .i64 0, .int .i64 0, .int .i64 0, .int .i64 0, .int .i64 0, .string ⟨#[]⟩, .int .i64 0, .int .i64 0, .int .i64 0, .int .i64 0, .slice none 0 0] :: blkA (V.heap.size + 1 + 1) 26 #[.int .i64 m1, .int .i64 m2] :: blkA (V.heap.size + 1) 28 (txc ⟨x0, x1, x2, x3, x4, x5, x6, x7, x8, x9, x10, x11⟩) :: blkA (V.heap.size) 24 #[.int .i64 q, .string s, .bool d] :: tbA p r :: T) w')) :
    Calls Tryz.prog 12 #[pt p, .string key, .agg #[.int .i64 q, .string s, .bool d], txv ⟨x0, x1, x2, x3, x4, x5, x6, x7, x8, x9, x10, x11⟩, sv m1 m2] V fun e w' => AnsD key (zD, ce) w (tbA p r :: T) e w' := by
  have hce2 : (ce == 0) = false := by simpa using hce
  go_enter Tryz.func12, Tryz.ntmps12
  go_wp2_with fail
  refine (HCK.out _ H1.out).mono ?_
  rintro e w1 ⟨rfl, h1⟩
  have H2 := Lib.hid h1
  clear h1
  have b10 := H2.out.blkAt (g := V.heap.size + 1 + 1 + 1) (t := 40) (cs := #[.slice none 0 0, .int .i64 0, .int .i64 0, .int .i64 0, .int .i64 0, .int .i64 0, .string ⟨#[]⟩, .int .i64 0, .int .i64 0, .int .i64 0, .int .i64 0, .slice none 0 0]) (by simp)
  have p0 := b10.cell 0
  have f0 := b10.frozen 0
  have p1 := b10.cell 1
  have f1 := b10.frozen 1
  have p2 := b10.cell 2
  have f2 := b10.frozen 2
  have p3 := b10.cell 3
  have f3 := b10.frozen 3
  have p4 := b10.cell 4
  have f4 := b10.frozen 4
  have p5 := b10.cell 5
  have f5 := b10.frozen 5
  have p6 := b10.cell 6
  have f6 := b10.frozen 6
  have p7 := b10.cell 7
  have f7 := b10.frozen 7
  have p8 := b10.cell 8
  have f8 := b10.frozen 8
  have p9 := b10.cell 9
  have f9 := b10.frozen 9
  have p10 := b10.cell 10
  have f10 := b10.frozen 10
  have p11 := b10.cell 11
  have f11 := b10.frozen 11
  simp at p0 p1 p2 p3 p4 p5 p6 p7 p8 p9 p10 p11
  clear b10
  go_wp2_with fail
  have hF := Has.all12 (v0 := .slice none 0 0) (v1 := .int .i64 0) (v2 := .int .i64 0) (v3 := .int .i64 0) (v4 := .int .i64 0) (v5 := .int .i64 0) (v6 := .string ⟨#[]⟩) (v7 := .int .i64 0) (v8 := .int .i64 0) (v9 := .int .i64 0) (v10 := .int .i64 0) (v11 := .slice none 0 0) H2.out
  exact ret_dn2 rfl rfl hF.blk.1 rfl rfl (AnsD.of (AL := none) (nL := 0) (cL := 0) (A := none) (n := 0) (c := 0) rfl rfl (Has.rowNil (Has.dropN [_, _, _, _] hF) _ _) (ChAt.nil _ _) (by omega))
set_option maxHeartbeats 8000000 in
theorem put_wait {w V : World} {T : List As} {p : Nat} {r : List Rw} (hM : MaxL w) (key : ByteArray) (q : Int) (s : ByteArray) (d : Bool) (x0 x1 x2 : Int) (x3 : ByteArray) (x4 x5 x6 x7 x8 x9 x10 x11 m1 m2 : Int) (H1 : Hid (Has w (blkA (V.heap.size + 1 + 1 + 1) 40 #[.slice none 0 0, .int .i64 0, .int .i64 0, .int .i64 0, .int .i64 0, .int .i64 0, .string ⟨#[]⟩, .int .i64 0, .int .i64 0, .int .i64 0, .int .i64 0, .slice none 0 0] :: blkA (V.heap.size + 1 + 1) 26 #[.int .i64 m1, .int .i64 m2] :: blkA (V.heap.size + 1) 28 (txc ⟨x0, x1, x2, x3, x4, x5, x6, x7, x8, x9, x10, x11⟩) :: blkA (V.heap.size) 24 #[.int .i64 q, .string s, .bool d] :: tbA p r :: T) ((((V.alloc (.cells #[.int .i64 q, .string s, .bool d] 24)).alloc (.cells (txc ⟨x0, x1, x2, x3, x4, x5, x6, x7, x8, x9, x10, x11⟩) 28)).alloc (.cells #[.int .i64 m1, .int .i64 m2] 26)).alloc (.cells #[.slice none 0 0, .int .i64 0, .int .i64 0, .int .i64 0, .int .i64 0, .int .i64 0, .string ⟨#[]⟩, .int .i64 0, .int .i64 0, .int .i64 0, .int .i64 0, .slice none 0 0] 40))))
    (HCK : Hid (∀ W, Has w (blkA (V.heap.size + 1 + 1 + 1) 40 #[.slice none 0 0, .int .i64 0, .int .i64 0, .int .i64 0, .int .i64 0, .int .i64 0, .string ⟨#[]⟩, .int .i64 0, .int .i64 0, .int .i64 0, .int .i64 0, .slice none 0 0] :: blkA (V.heap.size + 1 + 1) 26 #[.int .i64 m1, .int .i64 m2] :: blkA (V.heap.size + 1) 28 (txc ⟨x0, x1, x2, x3, x4, x5, x6, x7, x8, x9, x10, x11⟩) :: blkA (V.heap.size) 24 #[.int .i64 q, .string s, .bool d] :: tbA p r :: T) W → Calls Tryz.prog 43 #[pt p, .string key, .agg #[.int .i64 q, .string s, .bool d], txv ⟨x0, x1, x2, x3, x4, x5, x6, x7, x8, x9, x10, x11⟩, sv m1 m2] W fun e w' => e = .returned (.int .i64 0) ∧ Has w (blkA (V.heap.size + 1 + 1 + 1) 40 #[.slice none 0 0, .int .i64 0, .int .i64 0, .int .i64 0, .int .i64 0, .int .i64 0, .string ⟨#[]⟩, .int .i64 0, .int .i64 0, .int .i64 0, .int .i64 0, .slice none 0 0] :: blkA (V.heap.size + 1 + 1) 26 #[.int .i64 m1, .int .i64 m2] :: blkA (V.heap.size + 1) 28 (txc ⟨x0, x1, x2, x3, x4, x5, x6, x7, x8, x9, x10, x11⟩) :: blkA (V.heap.size) 24 #[.int .i64 q, .string s, .bool d] :: tbA p r :: T) w'))
    (y0 y1 y2 : Int) (y3 : ByteArray) (y4 y5 y6 y7 : Int) (yl : List Ch) (HIA : Hid (∀ W, Has w (blkA (V.heap.size + 1 + 1 + 1) 40 #[.slice none 0 0, .int .i64 0, .int .i64 0, .int .i64 0, .int .i64 0, .int .i64 0, .string ⟨#[]⟩, .int .i64 0, .int .i64 0, .int .i64 0, .int .i64 0, .slice none 0 0] :: blkA (V.heap.size + 1 + 1) 26 #[.int .i64 m1, .int .i64 m2] :: blkA (V.heap.size + 1) 28 (txc ⟨x0, x1, x2, x3, x4, x5, x6, x7, x8, x9, x10, x11⟩) :: blkA (V.heap.size) 24 #[.int .i64 q, .string s, .bool d] :: tbA p r :: T) W → Calls Tryz.prog 44 #[pt p, .string key] W fun e w' => (∃ A n c, e = .returned (.tuple #[itv ⟨y0, y1, y2, y3, y4, y5, y6, y7, yl⟩ (.slice A n c), .bool true]) ∧ w'.ownsRow W.heap.size 24 3 (.slice A n c) n (yl.flatMap chc) ∧ n = yl.length) ∧ Below W.heap.size W w')) (hid : ¬ y0 = x0) :
    Calls Tryz.prog 12 #[pt p, .string key, .agg #[.int .i64 q, .string s, .bool d], txv ⟨x0, x1, x2, x3, x4, x5, x6, x7, x8, x9, x10, x11⟩, sv m1 m2] V fun e w' => AnsD key (⟨none, 0, 0, ⟨y0, y1, y2, y3, y4, y5, y6, y7, yl⟩⟩, 120) w (tbA p r :: T) e w' := by
  have hid2 : (y0 == x0) = false := by simpa using hid
  go_enter Tryz.func12, Tryz.ntmps12
  go_wp2_with fail
  refine (HCK.out _ H1.out).mono ?_
  rintro e w1 ⟨rfl, h1⟩
  have H2 := Lib.hid h1
  clear h1
  go_wp2_with fail
  refine (HIA.out _ H2.out).mono ?_
  rintro e w2 ⟨⟨A, n, c, rfl, hrow, hnl⟩, hb2⟩
  subst hnl
  have h2 := ((H2.out.newRowG hrow hb2)).newBlk 38 (itc ⟨y0, y1, y2, y3, y4, y5, y6, y7, yl⟩ (.slice A yl.length c))
  have bo := h2.blk.1
  have o0 := bo.cell 0
  have g0 := bo.frozen 0
  have o1 := bo.cell 1
  have g1 := bo.frozen 1
  have o2 := bo.cell 2
  have g2 := bo.frozen 2
  have o3 := bo.cell 3
  have g3 := bo.frozen 3
  have o4 := bo.cell 4
  have g4 := bo.frozen 4
  have o5 := bo.cell 5
  have g5 := bo.frozen 5
  have o6 := bo.cell 6
  have g6 := bo.frozen 6
  have o7 := bo.cell 7
  have g7 := bo.frozen 7
  have o8 := bo.cell 8
  have g8 := bo.frozen 8
  simp at o0 o1 o2 o3 o4 o5 o6 o7 o8
  clear bo hb2 hrow
  have b10 := h2.blkAt (g := V.heap.size + 1 + 1 + 1) (t := 40) (cs := #[.slice none 0 0, .int .i64 0, .int .i64 0, .int .i64 0, .int .i64 0, .int .i64 0, .string ⟨#[]⟩, .int .i64 0, .int .i64 0, .int .i64 0, .int .i64 0, .slice none 0 0]) (by simp)
  have kp0 := b10.cell 0
  have kf0 := b10.frozen 0
  have kp1 := b10.cell 1
  have kf1 := b10.frozen 1
  have kp2 := b10.cell 2
  have kf2 := b10.frozen 2
  have kp3 := b10.cell 3
  have kf3 := b10.frozen 3
  have kp4 := b10.cell 4
  have kf4 := b10.frozen 4
  have kp5 := b10.cell 5
  have kf5 := b10.frozen 5
  have kp6 := b10.cell 6
  have kf6 := b10.frozen 6
  have kp7 := b10.cell 7
  have kf7 := b10.frozen 7
  have kp8 := b10.cell 8
  have kf8 := b10.frozen 8
  have kp9 := b10.cell 9
  have kf9 := b10.frozen 9
  have kp10 := b10.cell 10
  have kf10 := b10.frozen 10
  have kp11 := b10.cell 11
  have kf11 := b10.frozen 11
  simp at kp0 kp1 kp2 kp3 kp4 kp5 kp6 kp7 kp8 kp9 kp10 kp11
  clear b10
  have b8 := h2.blkAt (g := V.heap.size + 1) (t := 28) (cs := txc ⟨x0, x1, x2, x3, x4, x5, x6, x7, x8, x9, x10, x11⟩) (by simp)
  have kt0 := b8.cell 0
  have kt1 := b8.cell 1
  have kt2 := b8.cell 2
  have kt3 := b8.cell 3
  have kt4 := b8.cell 4
  have kt5 := b8.cell 5
  have kt6 := b8.cell 6
  have kt7 := b8.cell 7
  have kt8 := b8.cell 8
  have kt9 := b8.cell 9
  have kt10 := b8.cell 10
  have kt11 := b8.cell 11
  simp at kt0 kt1 kt2 kt3 kt4 kt5 kt6 kt7 kt8 kt9 kt10 kt11
  clear b8
  have H3 := Lib.hid (show Has w (blkA w2.heap.size 38 (itc ⟨y0, y1, y2, y3, y4, y5, y6, y7, yl⟩ (.slice A yl.length c)) :: rowA 24 3 (.slice A yl.length c) yl.length (yl.flatMap chc) :: blkA (V.heap.size + 1 + 1 + 1) 40 #[.slice none 0 0, .int .i64 0, .int .i64 0, .int .i64 0, .int .i64 0, .int .i64 0, .string ⟨#[]⟩, .int .i64 0, .int .i64 0, .int .i64 0, .int .i64 0, .slice none 0 0] :: blkA (V.heap.size + 1 + 1) 26 #[.int .i64 m1, .int .i64 m2] :: blkA (V.heap.size + 1) 28 (txc ⟨x0, x1, x2, x3, x4, x5, x6, x7, x8, x9, x10, x11⟩) :: blkA (V.heap.size) 24 #[.int .i64 q, .string s, .bool d] :: tbA p r :: T) _ from h2)
  clear h2
  go_wp2_with fail
  have hX := H3.out.perm (List.perm_middle (l₁ := [_, _]))
  have hat := chRow H3.out.tail.rowOf
  obtain ⟨A6, c6, hv6, hat6, hnc6, hcm6, -⟩ := hat
  injection hv6 with hv1 hv2 hv3
  subst hv1 hv3
  have hne := hat6.apart hX.blk.1 dz_no
  have hF := Has.all12 (v0 := .slice none 0 0) (v1 := .int .i64 0) (v2 := .int .i64 0) (v3 := .int .i64 y0) (v4 := .int .i64 y1) (v5 := .int .i64 y2) (v6 := .string y3) (v7 := .int .i64 y4) (v8 := .int .i64 y5) (v9 := .int .i64 y6) (v10 := .int .i64 y7) (v11 := .slice A yl.length c) hX
  have hcf := hat6.put12 (v0 := .slice none 0 0) (v1 := .int .i64 0) (v2 := .int .i64 0) (v3 := .int .i64 y0) (v4 := .int .i64 y1) (v5 := .int .i64 y2) (v6 := .string y3) (v7 := .int .i64 y4) (v8 := .int .i64 y5) (v9 := .int .i64 y6) (v10 := .int .i64 y7) (v11 := .slice A yl.length c) hne
  exact ret_dn2 rfl rfl hF.blk.1 rfl rfl (AnsD.of (AL := none) (nL := 0) (cL := 0) rfl rfl (Has.rowNil (Has.dropN [_, _, _, _, _, _] hF) _ _) hcf (by omega))
set_option maxHeartbeats 8000000 in
theorem put_stale {w V : World} {T : List As} {p : Nat} {r : List Rw} (hM : MaxL w) (key : ByteArray) (q : Int) (s : ByteArray) (d : Bool) (x0 x1 x2 : Int) (x3 : ByteArray) (x4 x5 x6 x7 x8 x9 x10 x11 m1 m2 : Int) (H1 : Hid (Has w (blkA (V.heap.size + 1 + 1 + 1) 40 #[.slice none 0 0, .int .i64 0, .int .i64 0, .int .i64 0, .int .i64 0, .int .i64 0, .string ⟨#[]⟩, .int .i64 0, .int .i64 0, .int .i64 0, .int .i64 0, .slice none 0 0] :: blkA (V.heap.size + 1 + 1) 26 #[.int .i64 m1, .int .i64 m2] :: blkA (V.heap.size + 1) 28 (txc ⟨x0, x1, x2, x3, x4, x5, x6, x7, x8, x9, x10, x11⟩) :: blkA (V.heap.size) 24 #[.int .i64 q, .string s, .bool d] :: tbA p r :: T) ((((V.alloc (.cells #[.int .i64 q, .string s, .bool d] 24)).alloc (.cells (txc ⟨x0, x1, x2, x3, x4, x5, x6, x7, x8, x9, x10, x11⟩) 28)).alloc (.cells #[.int .i64 m1, .int .i64 m2] 26)).alloc (.cells #[.slice none 0 0, .int .i64 0, .int .i64 0, .int .i64 0, .int .i64 0, .int .i64 0, .string ⟨#[]⟩, .int .i64 0, .int .i64 0, .int .i64 0, .int .i64 0, .slice none 0 0] 40))))
    (HCK : Hid (∀ W, Has w (blkA (V.heap.size + 1 + 1 + 1) 40 #[.slice none 0 0, .int .i64 0, .int .i64 0, .int .i64 0, .int .i64 0, .int .i64 0, .string ⟨#[]⟩, .int .i64 0, .int .i64 0, .int .i64 0, .int .i64 0, .slice none 0 0] :: blkA (V.heap.size + 1 + 1) 26 #[.int .i64 m1, .int .i64 m2] :: blkA (V.heap.size + 1) 28 (txc ⟨x0, x1, x2, x3, x4, x5, x6, x7, x8, x9, x10, x11⟩) :: blkA (V.heap.size) 24 #[.int .i64 q, .string s, .bool d] :: tbA p r :: T) W → Calls Tryz.prog 43 #[pt p, .string key, .agg #[.int .i64 q, .string s, .bool d], txv ⟨x0, x1, x2, x3, x4, x5, x6, x7, x8, x9, x10, x11⟩, sv m1 m2] W fun e w' => e = .returned (.int .i64 0) ∧ Has w (blkA (V.heap.size + 1 + 1 + 1) 40 #[.slice none 0 0, .int .i64 0, .int .i64 0, .int .i64 0, .int .i64 0, .int .i64 0, .string ⟨#[]⟩, .int .i64 0, .int .i64 0, .int .i64 0, .int .i64 0, .slice none 0 0] :: blkA (V.heap.size + 1 + 1) 26 #[.int .i64 m1, .int .i64 m2] :: blkA (V.heap.size + 1) 28 (txc ⟨x0, x1, x2, x3, x4, x5, x6, x7, x8, x9, x10, x11⟩) :: blkA (V.heap.size) 24 #[.int .i64 q, .string s, .bool d] :: tbA p r :: T) w'))
    (y1 y2 : Int) (y3 : ByteArray) (y4 y5 y6 y7 : Int) (yl : List Ch) (HIA : Hid (∀ W, Has w (blkA (V.heap.size + 1 + 1 + 1) 40 #[.slice none 0 0, .int .i64 0, .int .i64 0, .int .i64 0, .int .i64 0, .int .i64 0, .string ⟨#[]⟩, .int .i64 0, .int .i64 0, .int .i64 0, .int .i64 0, .slice none 0 0] :: blkA (V.heap.size + 1 + 1) 26 #[.int .i64 m1, .int .i64 m2] :: blkA (V.heap.size + 1) 28 (txc ⟨x0, x1, x2, x3, x4, x5, x6, x7, x8, x9, x10, x11⟩) :: blkA (V.heap.size) 24 #[.int .i64 q, .string s, .bool d] :: tbA p r :: T) W → Calls Tryz.prog 44 #[pt p, .string key] W fun e w' => (∃ A n c, e = .returned (.tuple #[itv ⟨x0, y1, y2, y3, y4, y5, y6, y7, yl⟩ (.slice A n c), .bool true]) ∧ w'.ownsRow W.heap.size 24 3 (.slice A n c) n (yl.flatMap chc) ∧ n = yl.length) ∧ Below W.heap.size W w')) (hep : x1 < y1) :
    Calls Tryz.prog 12 #[pt p, .string key, .agg #[.int .i64 q, .string s, .bool d], txv ⟨x0, x1, x2, x3, x4, x5, x6, x7, x8, x9, x10, x11⟩, sv m1 m2] V fun e w' => AnsD key (zD, 201) w (tbA p r :: T) e w' := by
  go_enter Tryz.func12, Tryz.ntmps12
  go_wp2_with fail
  refine (HCK.out _ H1.out).mono ?_
  rintro e w1 ⟨rfl, h1⟩
  have H2 := Lib.hid h1
  clear h1
  go_wp2_with fail
  refine (HIA.out _ H2.out).mono ?_
  rintro e w2 ⟨⟨A, n, c, rfl, hrow, hnl⟩, hb2⟩
  subst hnl
  have h2 := ((H2.out.newRowG hrow hb2)).newBlk 38 (itc ⟨x0, y1, y2, y3, y4, y5, y6, y7, yl⟩ (.slice A yl.length c))
  have bo := h2.blk.1
  have o0 := bo.cell 0
  have g0 := bo.frozen 0
  have o1 := bo.cell 1
  have g1 := bo.frozen 1
  have o2 := bo.cell 2
  have g2 := bo.frozen 2
  have o3 := bo.cell 3
  have g3 := bo.frozen 3
  have o4 := bo.cell 4
  have g4 := bo.frozen 4
  have o5 := bo.cell 5
  have g5 := bo.frozen 5
  have o6 := bo.cell 6
  have g6 := bo.frozen 6
  have o7 := bo.cell 7
  have g7 := bo.frozen 7
  have o8 := bo.cell 8
  have g8 := bo.frozen 8
  simp at o0 o1 o2 o3 o4 o5 o6 o7 o8
  clear bo hb2 hrow
  have b10 := h2.blkAt (g := V.heap.size + 1 + 1 + 1) (t := 40) (cs := #[.slice none 0 0, .int .i64 0, .int .i64 0, .int .i64 0, .int .i64 0, .int .i64 0, .string ⟨#[]⟩, .int .i64 0, .int .i64 0, .int .i64 0, .int .i64 0, .slice none 0 0]) (by simp)
  have kp0 := b10.cell 0
  have kf0 := b10.frozen 0
  have kp1 := b10.cell 1
  have kf1 := b10.frozen 1
  have kp2 := b10.cell 2
  have kf2 := b10.frozen 2
  have kp3 := b10.cell 3
  have kf3 := b10.frozen 3
  have kp4 := b10.cell 4
  have kf4 := b10.frozen 4
  have kp5 := b10.cell 5
  have kf5 := b10.frozen 5
  have kp6 := b10.cell 6
  have kf6 := b10.frozen 6
  have kp7 := b10.cell 7
  have kf7 := b10.frozen 7
  have kp8 := b10.cell 8
  have kf8 := b10.frozen 8
  have kp9 := b10.cell 9
  have kf9 := b10.frozen 9
  have kp10 := b10.cell 10
  have kf10 := b10.frozen 10
  have kp11 := b10.cell 11
  have kf11 := b10.frozen 11
  simp at kp0 kp1 kp2 kp3 kp4 kp5 kp6 kp7 kp8 kp9 kp10 kp11
  clear b10
  have b8 := h2.blkAt (g := V.heap.size + 1) (t := 28) (cs := txc ⟨x0, x1, x2, x3, x4, x5, x6, x7, x8, x9, x10, x11⟩) (by simp)
  have kt0 := b8.cell 0
  have kt1 := b8.cell 1
  have kt2 := b8.cell 2
  have kt3 := b8.cell 3
  have kt4 := b8.cell 4
  have kt5 := b8.cell 5
  have kt6 := b8.cell 6
  have kt7 := b8.cell 7
  have kt8 := b8.cell 8
  have kt9 := b8.cell 9
  have kt10 := b8.cell 10
  have kt11 := b8.cell 11
  simp at kt0 kt1 kt2 kt3 kt4 kt5 kt6 kt7 kt8 kt9 kt10 kt11
  clear b8
  have H3 := Lib.hid (show Has w (blkA w2.heap.size 38 (itc ⟨x0, y1, y2, y3, y4, y5, y6, y7, yl⟩ (.slice A yl.length c)) :: rowA 24 3 (.slice A yl.length c) yl.length (yl.flatMap chc) :: blkA (V.heap.size + 1 + 1 + 1) 40 #[.slice none 0 0, .int .i64 0, .int .i64 0, .int .i64 0, .int .i64 0, .int .i64 0, .string ⟨#[]⟩, .int .i64 0, .int .i64 0, .int .i64 0, .int .i64 0, .slice none 0 0] :: blkA (V.heap.size + 1 + 1) 26 #[.int .i64 m1, .int .i64 m2] :: blkA (V.heap.size + 1) 28 (txc ⟨x0, x1, x2, x3, x4, x5, x6, x7, x8, x9, x10, x11⟩) :: blkA (V.heap.size) 24 #[.int .i64 q, .string s, .bool d] :: tbA p r :: T) _ from h2)
  clear h2
  go_wp2_with fail
  have hX := H3.out.perm (List.perm_middle (l₁ := [_, _]))
  have hF := Has.all12 (v0 := .slice none 0 0) (v1 := .int .i64 0) (v2 := .int .i64 0) (v3 := .int .i64 0) (v4 := .int .i64 0) (v5 := .int .i64 0) (v6 := .string ⟨#[]⟩) (v7 := .int .i64 0) (v8 := .int .i64 0) (v9 := .int .i64 0) (v10 := .int .i64 0) (v11 := .slice none 0 0) hX
  exact ret_dn2 rfl rfl hF.blk.1 rfl rfl (AnsD.of (AL := none) (nL := 0) (cL := 0) (A := none) (n := 0) (c := 0) rfl rfl (Has.rowNil (Has.dropN [_, _, _, _, _, _] hF) _ _) (ChAt.nil _ _) (by omega))
end Go.Proofs.YtgccichmdddbpaaGreatDoor
