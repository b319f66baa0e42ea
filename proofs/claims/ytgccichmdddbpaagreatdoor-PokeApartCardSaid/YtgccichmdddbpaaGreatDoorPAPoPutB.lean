/-
  Layer 13, the code: Put, ways of it (written by wip/genpoput.py).
-/
import Derived.Test.YtgccichmdddbpaaGreatDoorPA36
set_option linter.unusedVariables false
set_option linter.unusedSimpArgs false
set_option maxRecDepth 100000
namespace Go.Proofs.YtgccichmdddbpaaGreatDoor
open Go.RowKit

set_option maxHeartbeats 8000000 in
theorem put_new0 {w V : World} {T : List As} {p : Nat} {r : List Rw} (hM : MaxL w) (key : ByteArray) (q : Int) (s : ByteArray) (d : Bool) (x0 x2 : Int) (x3 : ByteArray) (x4 x5 x6 x7 x8 x9 x10 x11 m1 m2 : Int) (dd : Dn) (kk : Int) (H1 : Hid (Has w (blkA (V.heap.size + 1 + 1 + 1) 40 #[.slice none 0 0, .int .i64 0, .int .i64 0, .int .i64 0, .int .i64 0, .int .i64 0, .string ⟨#[]⟩, .int .i64 0, .int .i64 0, .int .i64 0, .int .i64 0, .slice none 0 0] :: blkA (V.heap.size + 1 + 1) 26 #[.int .i64 m1, .int .i64 m2] :: blkA (V.heap.size + 1) 28 (txc ⟨x0, 0, x2, x3, x4, x5, x6, x7, x8, x9, x10, x11⟩) :: blkA (V.heap.size) 24 #[.int .i64 q, .string s, .bool d] :: tbA p r :: T) ((((V.alloc (.cells #[.int .i64 q, .string s, .bool d] 24)).alloc (.cells (txc ⟨x0, 0, x2, x3, x4, x5, x6, x7, x8, x9, x10, x11⟩) 28)).alloc (.cells #[.int .i64 m1, .int .i64 m2] 26)).alloc (.cells #[.slice none 0 0, .int .i64 0, .int .i64 0, .int .i64 0, .int .i64 0, .int .i64 0, .string ⟨#[]⟩, .int .i64 0, .int .i64 0, .int .i64 0, .int .i64 0, .slice none 0 0] 40))))
    (HCK : Hid (∀ W, Has w (blkA (V.heap.size + 1 + 1 + 1) 40 #[.slice none 0 0, .int .i64 0, .int .i64 0, .int .i64 0, .int .i64 0, .int .i64 0, .string ⟨#[]⟩, .int .i64 0, .int .i64 0, .int .i64 0, .int .i64 0, .slice none 0 0] :: blkA (V.heap.size + 1 + 1) 26 #[.int .i64 m1, .int .i64 m2] :: blkA (V.heap.size + 1) 28 (txc ⟨x0, 0, x2, x3, x4, x5, x6, x7, x8, x9, x10, x11⟩) :: blkA (V.heap.size) 24 #[.int .i64 q, .string s, .bool d] :: tbA p r :: T) W → Calls Tryz.prog 43 #[pt p, .string key, .agg #[.int .i64 q, .string s, .bool d], txv ⟨x0, 0, x2, x3, x4, x5, x6, x7, x8, x9, x10, x11⟩, sv m1 m2] W fun e w' => e = .returned (.int .i64 0) ∧ Has w (blkA (V.heap.size + 1 + 1 + 1) 40 #[.slice none 0 0, .int .i64 0, .int .i64 0, .int .i64 0, .int .i64 0, .int .i64 0, .string ⟨#[]⟩, .int .i64 0, .int .i64 0, .int .i64 0, .int .i64 0, .slice none 0 0] :: blkA (V.heap.size + 1 + 1) 26 #[.int .i64 m1, .int .i64 m2] :: blkA (V.heap.size + 1) 28 (txc ⟨x0, 0, x2, x3, x4, x5, x6, x7, x8, x9, x10, x11⟩) :: blkA (V.heap.size) 24 #[.int .i64 q, .string s, .bool d] :: tbA p r :: T) w'))
    (HIA : Hid (∀ W, Has w (blkA (V.heap.size + 1 + 1 + 1) 40 #[.slice none 0 0, .int .i64 0, .int .i64 0, .int .i64 0, .int .i64 0, .int .i64 0, .string ⟨#[]⟩, .int .i64 0, .int .i64 0, .int .i64 0, .int .i64 0, .slice none 0 0] :: blkA (V.heap.size + 1 + 1) 26 #[.int .i64 m1, .int .i64 m2] :: blkA (V.heap.size + 1) 28 (txc ⟨x0, 0, x2, x3, x4, x5, x6, x7, x8, x9, x10, x11⟩) :: blkA (V.heap.size) 24 #[.int .i64 q, .string s, .bool d] :: tbA p r :: T) W → Calls Tryz.prog 44 #[pt p, .string key] W fun e w' => e = .returned (.tuple #[.agg #[.int .i64 0, .int .i64 0, .int .i64 0, .string ⟨#[]⟩, .int .i64 0, .int .i64 0, .int .i64 0, .int .i64 0, .slice none 0 0], .bool false]) ∧ Below W.heap.size W w'))
    (HAD : Hid (∀ T2 W, Has w (rowA 24 3 (.slice none 0 0) 0 [] :: tbA p r :: T2) W → Calls Tryz.prog 46 #[pt p, .string key, .agg #[.int .i64 0, .int .i64 0, .int .i64 0, .string ⟨#[]⟩, .int .i64 0, .int .i64 0, .int .i64 0, .int .i64 0, .slice none 0 0], .agg #[.int .i64 q, .string s, .bool d], txv ⟨x0, 0, x2, x3, x4, x5, x6, x7, x8, x9, x10, x11⟩, sv m1 m2] W fun e w' => AnsD key (dd, kk) w (tbA p r :: T2) e w')) (HFD : Hid (∀ W, Calls Tryz.prog 45 #[.slice none 0 0, .agg #[.int .i64 q, .string s, .bool d]] W fun e w' => e = .returned (.tuple #[.bool false, .int .i64 0]) ∧ Below W.heap.size W w')) :
    Calls Tryz.prog 12 #[pt p, .string key, .agg #[.int .i64 q, .string s, .bool d], txv ⟨x0, 0, x2, x3, x4, x5, x6, x7, x8, x9, x10, x11⟩, sv m1 m2] V fun e w' => AnsD key (dd, kk) w (tbA p r :: T) e w' := by
  go_enter Tryz.func12, Tryz.ntmps12
  go_wp2_with fail
  refine (HCK.out _ H1.out).mono ?_
  rintro e w1 ⟨rfl, h1⟩
  have H2 := Lib.hid h1
  clear h1
  go_wp2_with fail
  refine (HIA.out _ H2.out).mono ?_
  rintro e w2 ⟨rfl, hb2⟩
  have h2 := ((H2.out.keep hb2).rowNil 24 3).newBlk 38 #[.int .i64 0, .int .i64 0, .int .i64 0, .string ⟨#[]⟩, .int .i64 0, .int .i64 0, .int .i64 0, .int .i64 0, .slice none 0 0]
  have bo := h2.blk.1
  have o0 := bo.cell 0
  have g0 := bo.frozen 0
  have o1 := bo.cell 1
  have g1 := bo.frozen 1
  have o2 := bo.cell 2
  have g2 := bo.frozen 2
  have o3 := bo.cell 3
  have g3 := bo.frozen 3
  have o4 := bo.cell 4
  have g4 := bo.frozen 4
  have o5 := bo.cell 5
  have g5 := bo.frozen 5
  have o6 := bo.cell 6
  have g6 := bo.frozen 6
  have o7 := bo.cell 7
  have g7 := bo.frozen 7
  have o8 := bo.cell 8
  have g8 := bo.frozen 8
  simp at o0 o1 o2 o3 o4 o5 o6 o7 o8
  clear bo hb2
  have b8 := h2.blkAt (g := V.heap.size + 1) (t := 28) (cs := txc ⟨x0, 0, x2, x3, x4, x5, x6, x7, x8, x9, x10, x11⟩) (by simp)
  have kt0 := b8.cell 0
  have kt1 := b8.cell 1
  have kt2 := b8.cell 2
  have kt3 := b8.cell 3
  have kt4 := b8.cell 4
  have kt5 := b8.cell 5
  have kt6 := b8.cell 6
  have kt7 := b8.cell 7
  have kt8 := b8.cell 8
  have kt9 := b8.cell 9
  have kt10 := b8.cell 10
  have kt11 := b8.cell 11
  simp at kt0 kt1 kt2 kt3 kt4 kt5 kt6 kt7 kt8 kt9 kt10 kt11
  clear b8
  have b7 := h2.blkAt (g := V.heap.size) (t := 24) (cs := #[.int .i64 q, .string s, .bool d]) (by simp)
  have kc0 := b7.cell 0
  have kc1 := b7.cell 1
  have kc2 := b7.cell 2
  simp at kc0 kc1 kc2
  clear b7
  have H3 := Lib.hid (show Has w (blkA w2.heap.size 38 #[.int .i64 0, .int .i64 0, .int .i64 0, .string ⟨#[]⟩, .int .i64 0, .int .i64 0, .int .i64 0, .int .i64 0, .slice none 0 0] :: rowA 24 3 (.slice none 0 0) 0 [] :: blkA (V.heap.size + 1 + 1 + 1) 40 #[.slice none 0 0, .int .i64 0, .int .i64 0, .int .i64 0, .int .i64 0, .int .i64 0, .string ⟨#[]⟩, .int .i64 0, .int .i64 0, .int .i64 0, .int .i64 0, .slice none 0 0] :: blkA (V.heap.size + 1 + 1) 26 #[.int .i64 m1, .int .i64 m2] :: blkA (V.heap.size + 1) 28 (txc ⟨x0, 0, x2, x3, x4, x5, x6, x7, x8, x9, x10, x11⟩) :: blkA (V.heap.size) 24 #[.int .i64 q, .string s, .bool d] :: tbA p r :: T) _ from h2)
  clear h2
  have H4 := H3
  go_wp2_with fail
  refine (HFD.out _).mono ?_
  rintro e w5 ⟨rfl, hb5⟩
  have h5 := H4.out.keep hb5
  have bo := h5.blk.1
  have wq0 := bo.cell 0
  have wq1 := bo.cell 1
  have wq2 := bo.cell 2
  have wq3 := bo.cell 3
  have wq4 := bo.cell 4
  have wq5 := bo.cell 5
  have wq6 := bo.cell 6
  have wq7 := bo.cell 7
  have wq8 := bo.cell 8
  simp at wq0 wq1 wq2 wq3 wq4 wq5 wq6 wq7 wq8
  clear bo
  have b8 := h5.blkAt (g := V.heap.size + 1) (t := 28) (cs := txc ⟨x0, 0, x2, x3, x4, x5, x6, x7, x8, x9, x10, x11⟩) (by simp)
  have nt0 := b8.cell 0
  have nt1 := b8.cell 1
  have nt2 := b8.cell 2
  have nt3 := b8.cell 3
  have nt4 := b8.cell 4
  have nt5 := b8.cell 5
  have nt6 := b8.cell 6
  have nt7 := b8.cell 7
  have nt8 := b8.cell 8
  have nt9 := b8.cell 9
  have nt10 := b8.cell 10
  have nt11 := b8.cell 11
  simp at nt0 nt1 nt2 nt3 nt4 nt5 nt6 nt7 nt8 nt9 nt10 nt11
  clear b8
  have b7 := h5.blkAt (g := V.heap.size) (t := 24) (cs := #[.int .i64 q, .string s, .bool d]) (by simp)
  have nc0 := b7.cell 0
  have nc1 := b7.cell 1
  have nc2 := b7.cell 2
  simp at nc0 nc1 nc2
  clear b7
  have b9 := h5.blkAt (g := V.heap.size + 1 + 1) (t := 26) (cs := #[.int .i64 m1, .int .i64 m2]) (by simp)
  have ns0 := b9.cell 0
  have ns1 := b9.cell 1
  simp at ns0 ns1
  clear b9
  have H5 := Lib.hid (show Has w (rowA 24 3 (.slice none 0 0) 0 [] :: tbA p r :: blkA w2.heap.size 38 #[.int .i64 0, .int .i64 0, .int .i64 0, .string ⟨#[]⟩, .int .i64 0, .int .i64 0, .int .i64 0, .int .i64 0, .slice none 0 0] :: blkA (V.heap.size + 1 + 1 + 1) 40 #[.slice none 0 0, .int .i64 0, .int .i64 0, .int .i64 0, .int .i64 0, .int .i64 0, .string ⟨#[]⟩, .int .i64 0, .int .i64 0, .int .i64 0, .int .i64 0, .slice none 0 0] :: blkA (V.heap.size + 1 + 1) 26 #[.int .i64 m1, .int .i64 m2] :: blkA (V.heap.size + 1) 28 (txc ⟨x0, 0, x2, x3, x4, x5, x6, x7, x8, x9, x10, x11⟩) :: blkA (V.heap.size) 24 #[.int .i64 q, .string s, .bool d] :: T) w5 from h5.toAdd)
  clear h5 hb5
  go_wp2_with fail
  refine (HAD.out _ _ H5.out).mono ?_
  rintro e w6 ⟨AL, nL, cL, A6, n6, c6, rfl, hnL, h6, hch, hn6⟩
  have HNL := Lib.hid hnL
  clear hnL
  have hX := h6.perm (List.perm_middle (l₁ := [_, _, _]))
  have b10 := hX.blk.1
  have zp0 := b10.cell 0
  have zf0 := b10.frozen 0
  have zp1 := b10.cell 1
  have zf1 := b10.frozen 1
  have zp2 := b10.cell 2
  have zf2 := b10.frozen 2
  have zp3 := b10.cell 3
  have zf3 := b10.frozen 3
  have zp4 := b10.cell 4
  have zf4 := b10.frozen 4
  have zp5 := b10.cell 5
  have zf5 := b10.frozen 5
  have zp6 := b10.cell 6
  have zf6 := b10.frozen 6
  have zp7 := b10.cell 7
  have zf7 := b10.frozen 7
  have zp8 := b10.cell 8
  have zf8 := b10.frozen 8
  have zp9 := b10.cell 9
  have zf9 := b10.frozen 9
  have zp10 := b10.cell 10
  have zf10 := b10.frozen 10
  have zp11 := b10.cell 11
  have zf11 := b10.frozen 11
  simp at zp0 zp1 zp2 zp3 zp4 zp5 zp6 zp7 zp8 zp9 zp10 zp11
  have hne2 := hch.apart b10 dz_no
  have HX := Lib.hid hX
  clear b10 hX h6
  go_wp2_with fail
  have hF := Has.all12 (v0 := .slice AL nL cL) (v1 := .int .i64 dd.a) (v2 := .int .i64 dd.b) (v3 := .int .i64 dd.way.id) (v4 := .int .i64 dd.way.ep) (v5 := .int .i64 dd.way.pr) (v6 := .string dd.way.an) (v7 := .int .i64 dd.way.sw) (v8 := .int .i64 dd.way.sl) (v9 := .int .i64 dd.way.bw) (v10 := .int .i64 dd.way.bl) (v11 := .slice A6 n6 c6) HX.out
  have hcf := hch.put12 (v0 := .slice AL nL cL) (v1 := .int .i64 dd.a) (v2 := .int .i64 dd.b) (v3 := .int .i64 dd.way.id) (v4 := .int .i64 dd.way.ep) (v5 := .int .i64 dd.way.pr) (v6 := .string dd.way.an) (v7 := .int .i64 dd.way.sw) (v8 := .int .i64 dd.way.sl) (v9 := .int .i64 dd.way.bw) (v10 := .int .i64 dd.way.bl) (v11 := .slice A6 n6 c6) hne2
  exact ret_dn2 rfl rfl hF.blk.1 rfl rfl (AnsD.of rfl HNL.out hF.dropTb3 hcf hn6)
end Go.Proofs.YtgccichmdddbpaaGreatDoor
