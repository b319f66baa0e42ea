/-
  Layer 13, the statements' helpers: awake, walked (written by wip/genpoawk.py).
-/
import Derived.Test.YtgccichmdddbpaaGreatDoorPA39
set_option linter.unusedVariables false
set_option linter.unusedSimpArgs false
set_option maxRecDepth 100000
namespace Go.Proofs.YtgccichmdddbpaaGreatDoor
open Go.RowKit

theorem Has.rowDrop {w V V' : World} {T : List As} {E : TypeId} {sz n : Nat} {v : Value} {xs : List Value} (h : Has w (rowA E sz v n xs :: T) V) (hg : V.grownBy V' v.ownBlock) : Has w T V' := by
  obtain ⟨F, h1, _, h2⟩ := h.step
  have hG : Grow F V V' := ⟨hg.os, hg.tape, hg.output, hg.size, fun k hk hn => hg.block k hk (fun e => hn ((h1.2 k).2 e.symm))⟩
  exact (h2 V' (rowA E sz (.slice none 0 0) 0 []) (fun _ => False) hG ⟨World.ownsRow_nil _ _ _ _, fun k => ⟨fun e => e.elim, fun e => nomatch e⟩⟩ (fun k e => e.elim)).tail
theorem opsA_sz : OSz (opsD bA (dnA 15 0)) := by
  intro o ho
  have e : opsD bA (dnA 15 0) = [⟨bs (ikey (sb bA)), bs (txI (itA 15 0)), false⟩] := rfl
  rw [e] at ho
  rw [List.mem_singleton.1 ho]
  exact ⟨of_decide_eq_true (by kernel_rfl), of_decide_eq_true (by kernel_rfl)⟩
set_option maxHeartbeats 16000000 in
theorem awake13 (w : World) (hM : MaxL w) : Calls Tryz.prog 18 #[] w fun e w' => e = .returned (.bool true) ∧ Below w.heap.size w w' := by
  have hmix : Tryz.prog.follows .mixedOrders = true := by kernel_rfl
  have OK3 := Lib.hid ((tabP_ok oneZ).app opsA_sz)
  go_enter Tryz.func18, Tryz.ntmps18
  go_wp2_with fail
  refine (at13_c 10 _).mono ?_
  rintro e u1 ⟨rfl, hb1⟩
  have hr1 : (u1.alloc (.cells (thc (thV ⟨#[120]⟩ 10) (.slice none 0 0)) 105)).ownsRow u1.heap.size 105 15 (.slice (some ⟨u1.heap.size, 0, none⟩) 1 1) 1 (tfl [((thV ⟨#[120]⟩ 10), .slice none 0 0)]) := ⟨rfl, .inr ⟨u1.heap.size, 1, _, rfl, Nat.le_refl _, World.alloc_heap_new _ _, Nat.le_refl _, by decide, rfl, rfl⟩⟩
  obtain ⟨At1, ct1, hv1, hth1⟩ := thRow13 hr1 (fun q hq => by obtain rfl := List.mem_singleton.1 hq; exact ⟨none, 0, 0, rfl, ChAt.nil _ _, by omega⟩)
  injection hv1 with hv1a hv1b hv1c
  subst hv1a hv1c
  have H0 := Lib.hid ((Has.nil hb1).newRowG hr1 (nbl _ _))
  clear hb1 hr1
  go_wp2_with fail
  refine (tables13_c _ 1 1 oneP _ hth1 (by decide) oneZ).mono ?_
  rintro e w1 ⟨p1, b1, rfl, h1⟩
  have HT1 := Lib.hid (show Has w (tbA p1 (tabP oneP) :: rtA b1 (tabP oneP) :: rowA 105 15 (.slice (some ⟨u1.heap.size, 0, none⟩) 1 1) 1 (tfl [((thV ⟨#[120]⟩ 10), .slice none 0 0)]) :: []) w1 from H0.out.join h1)
  clear h1 hth1 H0
  go_wp2_with fail
  refine (one13_c 2 ⟨#[122]⟩ _).mono ?_
  rintro e va1 ⟨rfl, ha1⟩
  go_wp2_with fail
  refine (writer13_c 15 _).mono ?_
  rintro e vb1 ⟨rfl, hb1⟩
  go_wp2_with fail
  refine (at13_c 5 _).mono ?_
  rintro e vc1 ⟨rfl, hc1⟩
  have HQ1 := Lib.hid (((HT1.out.keep ha1).keep hb1).keep hc1)
  clear ha1 hb1 hc1
  go_wp2_with fail
  refine (poIs po1 HQ1.out (tabP_ok oneZ) (by decide) hM).mono ?_
  rintro e g1 ⟨AL1, nL1, cL1, A1, n1, c1, rfl, hn1, h1, -, -⟩
  obtain rfl : nL1 = 1 := hn1
  have H1 := Lib.hid (h1.newBlk 40 (dnc (dnA 15 0) (.slice AL1 1 cL1) (.slice A1 n1 c1)))
  clear h1
  go_wp2_with fail
  refine (one13_c 2 ⟨#[122]⟩ _).mono ?_
  rintro e va2 ⟨rfl, ha2⟩
  go_wp2_with fail
  refine (writer13_c 15 _).mono ?_
  rintro e vb2 ⟨rfl, hb2⟩
  go_wp2_with fail
  refine (at13_c 15 _).mono ?_
  rintro e vc2 ⟨rfl, hc2⟩
  have HQ2 := Lib.hid ((((H1.out.perm (List.perm_middle (l₁ := [_, _]))).keep ha2).keep hb2).keep hc2)
  clear ha2 hb2 hc2
  go_wp2_with fail
  refine (poIs po2 HQ2.out (tabP_ok oneZ) (by decide) hM).mono ?_
  rintro e g2 ⟨AL2, nL2, cL2, A2, n2, c2, rfl, hn2, h2, -, -⟩
  obtain rfl : nL2 = 1 := hn2
  have H2 := Lib.hid (h2.newBlk 40 (dnc (dnA 15 1) (.slice AL2 1 cL2) (.slice A2 n2 c2)))
  clear h2
  have HR := Lib.hid (H2.out.perm (List.perm_middle (l₁ := [_, _, _, _, _, _])))
  go_wp2_with fail
  refine (at13_c 20 _).mono ?_
  rintro e v20 ⟨rfl, hv20⟩
  have hX := (HR.out.keep hv20).keep (nbl v20 (.cells (thc (thV ⟨#[121]⟩ 20) (.slice none 0 0)) 105))
  have HRW := Lib.hid hX.rowOf
  have HON := Lib.hid (th_one13 v20 (thV ⟨#[121]⟩ 20) (.slice none 0 0))
  have HX1 := Lib.hid hX
  clear hv20 hX
  go_wp2_with (first
    | (at_builtin; refine wpList_appTh13 rfl _ _ rfl 0 _ 1 [((thV ⟨#[120]⟩ 10), .slice none 0 0)] [((thV ⟨#[121]⟩ 20), .slice none 0 0)] rfl HRW.out ⟨v20.heap.size, 0, none⟩ 1 1 rfl rfl HON.out (th_cells _ _ _ _) (by decide) (Nat.zero_le _) ?_; intro vv2 t2 hrt2 hgt2
       have HRT2 := Lib.hid hrt2
       have HGT2 := Lib.hid hgt2
       clear hrt2 hgt2))
  obtain ⟨At2, ct2, rfl, hth2⟩ := thRow13 HRT2.out (fun q hq => by
    simp only [List.cons_append, List.nil_append, List.mem_cons, List.not_mem_nil, or_false] at hq
    rcases hq with rfl | rfl <;> exact ⟨none, 0, 0, rfl, ChAt.nil _ _, by omega⟩)
  have HJ := Lib.hid (HX1.out.rowDrop HGT2.out)
  clear HRT2 HRW HON HX1
  go_wp2_with fail
  refine (tables13_c At2 2 ct2 twoP _ hth2 (by decide) twoZ).mono ?_
  rintro e w2 ⟨p2, b2, rfl, h2⟩
  have HT2 := Lib.hid (show Has w (tbA p2 (tabP twoP) :: rtA b2 (tabP twoP) :: blkA g2.heap.size 40 (dnc (dnA 15 1) (.slice AL2 1 cL2) (.slice A2 n2 c2)) :: opA (.slice AL2 1 cL2) (opsD bA (dnA 15 1)) :: tbA p1 (tabP oneP) :: blkA g1.heap.size 40 (dnc (dnA 15 0) (.slice AL1 1 cL1) (.slice A1 n1 c1)) :: opA (.slice AL1 1 cL1) (opsD bA (dnA 15 0)) :: rtA b1 (tabP oneP) :: []) w2 from HJ.out.join h2)
  clear h2 hth2 HJ HGT2
  go_wp2_with fail
  refine (one13_c 2 ⟨#[122]⟩ _).mono ?_
  rintro e va3 ⟨rfl, ha3⟩
  go_wp2_with fail
  refine (writer13_c 15 _).mono ?_
  rintro e vb3 ⟨rfl, hb3⟩
  go_wp2_with fail
  refine (at13_c 5 _).mono ?_
  rintro e vc3 ⟨rfl, hc3⟩
  have HQ3 := Lib.hid (((HT2.out.keep ha3).keep hb3).keep hc3)
  clear ha3 hb3 hc3
  go_wp2_with fail
  refine (poIs po3 HQ3.out (tabP_ok twoZ) (by decide) hM).mono ?_
  rintro e g3 ⟨AL3, nL3, cL3, A3, n3, c3, rfl, hn3, h3, -, -⟩
  obtain rfl : nL3 = 1 := hn3
  have H3 := Lib.hid (h3.newBlk 40 (dnc (dnA 20 1) (.slice AL3 1 cL3) (.slice A3 n3 c3)))
  clear h3
  have LA := Lib.hid (fun V (hV : Has w (blkA g3.heap.size 40 (dnc (dnA 20 1) (.slice AL3 1 cL3) (.slice A3 n3 c3)) :: opA (.slice AL3 1 cL3) (opsD bA (dnA 20 1)) :: tbA p2 (tabP twoP) :: rtA b2 (tabP twoP) :: blkA g2.heap.size 40 (dnc (dnA 15 1) (.slice AL2 1 cL2) (.slice A2 n2 c2)) :: opA (.slice AL2 1 cL2) (opsD bA (dnA 15 1)) :: tbA p1 (tabP oneP) :: blkA g1.heap.size 40 (dnc (dnA 15 0) (.slice AL1 1 cL1) (.slice A1 n1 c1)) :: opA (.slice AL1 1 cL1) (opsD bA (dnA 15 0)) :: rtA b1 (tabP oneP) :: []) V) => (show V.cell? ⟨g1.heap.size, 0, none⟩ = some (.slice AL1 1 cL1) ∧ V.cell? ⟨g1.heap.size, 1, none⟩ = some (.int .i64 15) ∧ V.cell? ⟨g1.heap.size, 2, none⟩ = some (.int .i64 0) ∧ V.cell? ⟨g2.heap.size, 1, none⟩ = some (.int .i64 15) ∧ V.cell? ⟨g2.heap.size, 2, none⟩ = some (.int .i64 1) ∧ V.cell? ⟨g3.heap.size, 1, none⟩ = some (.int .i64 20) ∧ V.cell? ⟨g3.heap.size, 2, none⟩ = some (.int .i64 1) from by
    have k1 := hV.blkAt (g := g1.heap.size) (t := 40) (cs := dnc (dnA 15 0) (.slice AL1 1 cL1) (.slice A1 n1 c1)) (by simp)
    have k2 := hV.blkAt (g := g2.heap.size) (t := 40) (cs := dnc (dnA 15 1) (.slice AL2 1 cL2) (.slice A2 n2 c2)) (by simp)
    have k3 := hV.blkAt (g := g3.heap.size) (t := 40) (cs := dnc (dnA 20 1) (.slice AL3 1 cL3) (.slice A3 n3 c3)) (by simp)
    exact ⟨(k1.cell 0), (k1.cell 1), (k1.cell 2), (k2.cell 1), (k2.cell 2), (k3.cell 1), (k3.cell 2)⟩))
  go_upto_region 7 with fail
  refine wp_region_held_drew (S := Has w (blkA g3.heap.size 40 (dnc (dnA 20 1) (.slice AL3 1 cL3) (.slice A3 n3 c3)) :: opA (.slice AL3 1 cL3) (opsD bA (dnA 20 1)) :: tbA p2 (tabP twoP) :: rtA b2 (tabP twoP) :: blkA g2.heap.size 40 (dnc (dnA 15 1) (.slice AL2 1 cL2) (.slice A2 n2 c2)) :: opA (.slice AL2 1 cL2) (opsD bA (dnA 15 1)) :: tbA p1 (tabP oneP) :: blkA g1.heap.size 40 (dnc (dnA 15 0) (.slice AL1 1 cL1) (.slice A1 n1 c1)) :: opA (.slice AL1 1 cL1) (opsD bA (dnA 15 0)) :: rtA b1 (tabP oneP) :: [])) hmix (H3.out.drew) (fun hS => ?_)
  simp only [List.size_toArray, List.length_cons, List.length_nil, Nat.reduceAdd, Array.replicate_succ, Array.replicate_zero]
  refine wpAnyH_take (i := 0) (oi := ⟨some 60, Op.move (Operand.tmp 5), 41, "outright.go:35", #[], none⟩) (v := ?v0z) rfl (by kernel_rfl) (by kernel_rfl) (by kernel_rfl) (fun _ _ _ h => h) (Or.inl ⟨by rfl, ?hy0z⟩) (by assumption) ?rest0z
  case hy0z => (intro V2 hSw; (try dsimp only at hSw); go_simp; all_goals (with_reducible rfl))
  try simp only [Act.put, List.setIfInBounds_toArray, List.set_cons_zero, List.set_cons_succ]
  refine wpAnyH_take (i := 1) (oi := ⟨some 61, Op.binOp BinOp.neq 41 (Operand.tmp 60) (Operand.const (Value.int IntKind.i64 0)) 41, 4, "outright.go:35", #[⟨0, .data⟩], none⟩) (v := .bool false) rfl (by kernel_rfl) (by kernel_rfl) (by kernel_rfl) (fun _ _ _ h => h) (Or.inl ⟨by rfl, ?hy1z⟩) (by assumption) ?rest1z
  case hy1z => (intro V2 hSw; (try dsimp only at hSw); go_simp; all_goals (with_reducible rfl))
  try simp only [Act.put, List.setIfInBounds_toArray, List.set_cons_zero, List.set_cons_succ]
  refine wpAnyH_take (i := 2) (oi := ⟨some 62, Op.move (Operand.tmp 61), 4, "outright.go:35", #[⟨1, .data⟩], none⟩) (v := ?v2z) rfl (by kernel_rfl) (by kernel_rfl) (by kernel_rfl) (fun _ _ _ h => h) (Or.inl ⟨by rfl, ?hy2z⟩) (by assumption) ?rest2z
  case hy2z => (intro V2 hSw; (try dsimp only at hSw); go_simp; all_goals (with_reducible rfl))
  try simp only [Act.put, List.setIfInBounds_toArray, List.set_cons_zero, List.set_cons_succ]
  refine wpAnyH_take (i := 3) (oi := ⟨some 63, Op.move (Operand.tmp 7), 41, "outright.go:35", #[⟨2, .guard⟩], some (2, false)⟩) (v := ?v3z) rfl (by kernel_rfl) (by kernel_rfl) (by kernel_rfl) (fun _ _ _ h => h) (Or.inl ⟨by rfl, ?hy3z⟩) (by assumption) ?rest3z
  case hy3z => (intro V2 hSw; (try dsimp only at hSw); go_simp; all_goals (with_reducible rfl))
  try simp only [Act.put, List.setIfInBounds_toArray, List.set_cons_zero, List.set_cons_succ]
  refine wpAnyH_take (i := 4) (oi := ⟨some 64, Op.binOp BinOp.neq 41 (Operand.tmp 63) (Operand.const (Value.int IntKind.i64 0)) 41, 4, "outright.go:35", #[⟨3, .data⟩, ⟨2, .guard⟩], some (2, false)⟩) (v := .bool false) rfl (by kernel_rfl) (by kernel_rfl) (by kernel_rfl) (fun _ _ _ h => h) (Or.inl ⟨by rfl, ?hy4z⟩) (by assumption) ?rest4z
  case hy4z => (intro V2 hSw; (try dsimp only at hSw); go_simp; all_goals (with_reducible rfl))
  try simp only [Act.put, List.setIfInBounds_toArray, List.set_cons_zero, List.set_cons_succ]
  refine wpAnyH_take (i := 5) (oi := ⟨some 65, Op.pick (Operand.tmp 62) (Operand.const (Value.bool true)) (Operand.tmp 64), 4, "outright.go:35", #[⟨2, .data⟩, ⟨4, .data⟩], none⟩) (v := .bool false) rfl (by kernel_rfl) (by kernel_rfl) (by kernel_rfl) (fun _ _ _ h => h) (Or.inl ⟨by rfl, ?hy5z⟩) (by assumption) ?rest5z
  case hy5z => (intro V2 hSw; (try dsimp only at hSw); go_simp; all_goals (with_reducible rfl))
  try simp only [Act.put, List.setIfInBounds_toArray, List.set_cons_zero, List.set_cons_succ]
  refine wpAnyH_take (i := 6) (oi := ⟨some 66, Op.move (Operand.tmp 65), 4, "outright.go:35", #[⟨5, .data⟩, ⟨2, .chain⟩], none⟩) (v := ?v6z) rfl (by kernel_rfl) (by kernel_rfl) (by kernel_rfl) (fun _ _ _ h => h) (Or.inl ⟨by rfl, ?hy6z⟩) (by assumption) ?rest6z
  case hy6z => (intro V2 hSw; (try dsimp only at hSw); go_simp; all_goals (with_reducible rfl))
  try simp only [Act.put, List.setIfInBounds_toArray, List.set_cons_zero, List.set_cons_succ]
  refine wpAnyH_take (i := 7) (oi := ⟨some 67, Op.move (Operand.tmp 11), 41, "outright.go:35", #[⟨6, .guard⟩], some (6, false)⟩) (v := ?v7z) rfl (by kernel_rfl) (by kernel_rfl) (by kernel_rfl) (fun _ _ _ h => h) (Or.inl ⟨by rfl, ?hy7z⟩) (by assumption) ?rest7z
  case hy7z => (intro V2 hSw; (try dsimp only at hSw); go_simp; all_goals (with_reducible rfl))
  try simp only [Act.put, List.setIfInBounds_toArray, List.set_cons_zero, List.set_cons_succ]
  refine wpAnyH_take (i := 8) (oi := ⟨some 68, Op.binOp BinOp.neq 41 (Operand.tmp 67) (Operand.const (Value.int IntKind.i64 0)) 41, 4, "outright.go:35", #[⟨7, .data⟩, ⟨6, .guard⟩], some (6, false)⟩) (v := .bool false) rfl (by kernel_rfl) (by kernel_rfl) (by kernel_rfl) (fun _ _ _ h => h) (Or.inl ⟨by rfl, ?hy8z⟩) (by assumption) ?rest8z
  case hy8z => (intro V2 hSw; (try dsimp only at hSw); go_simp; all_goals (with_reducible rfl))
  try simp only [Act.put, List.setIfInBounds_toArray, List.set_cons_zero, List.set_cons_succ]
  refine wpAnyH_take (i := 9) (oi := ⟨some 69, Op.pick (Operand.tmp 66) (Operand.const (Value.bool true)) (Operand.tmp 68), 4, "outright.go:35", #[⟨6, .data⟩, ⟨8, .data⟩], none⟩) (v := .bool false) rfl (by kernel_rfl) (by kernel_rfl) (by kernel_rfl) (fun _ _ _ h => h) (Or.inl ⟨by rfl, ?hy9z⟩) (by assumption) ?rest9z
  case hy9z => (intro V2 hSw; (try dsimp only at hSw); go_simp; all_goals (with_reducible rfl))
  try simp only [Act.put, List.setIfInBounds_toArray, List.set_cons_zero, List.set_cons_succ]
  refine wpAnyH_take (i := 10) (oi := ⟨some 70, Op.move (Operand.tmp 69), 4, "outright.go:35", #[⟨9, .data⟩, ⟨6, .chain⟩], none⟩) (v := ?v10z) rfl (by kernel_rfl) (by kernel_rfl) (by kernel_rfl) (fun _ _ _ h => h) (Or.inl ⟨by rfl, ?hy10z⟩) (by assumption) ?rest10z
  case hy10z => (intro V2 hSw; (try dsimp only at hSw); go_simp; all_goals (with_reducible rfl))
  try simp only [Act.put, List.setIfInBounds_toArray, List.set_cons_zero, List.set_cons_succ]
  refine wpAnyH_take (i := 11) (oi := ⟨some 71, Op.fieldAddr 40 (Operand.tmp 4) 0, 0, "outright.go:35", #[⟨10, .guard⟩], some (10, false)⟩) (v := ?v11z) rfl (by kernel_rfl) (by kernel_rfl) (by kernel_rfl) (fun _ _ _ h => h) (Or.inl ⟨by rfl, ?hy11z⟩) (by assumption) ?rest11z
  case hy11z => (intro V2 hSw; (try dsimp only at hSw); go_simp; all_goals (with_reducible rfl))
  try simp only [Act.put, List.setIfInBounds_toArray, List.set_cons_zero, List.set_cons_succ]
  refine wpAnyH_take (i := 12) (oi := ⟨some 72, Op.load 35 (Operand.tmp 71), 35, "outright.go:35", #[⟨11, .data⟩, ⟨10, .guard⟩], some (10, false)⟩) (v := ?v12z) rfl (by kernel_rfl) (by kernel_rfl) (by kernel_rfl) (fun _ _ _ h => h) (Or.inl ⟨by rfl, ?hy12z⟩) (by assumption) ?rest12z
  case hy12z => (intro V2 hSw; (try dsimp only at hSw); obtain ⟨z1, z2, z3, z4, z5, z6, z7⟩ := LA.out V2 hSw; go_simp; all_goals (with_reducible rfl))
  try simp only [Act.put, List.setIfInBounds_toArray, List.set_cons_zero, List.set_cons_succ]
  refine wpAnyH_take (i := 13) (oi := ⟨some 73, Op.call { callee := Callee.builtin Builtin.len, args := #[Operand.tmp 72], argTypes := #[35] }, 3, "outright.go:35", #[⟨12, .data⟩, ⟨10, .guard⟩], some (10, false)⟩) (v := ?v13z) rfl (by kernel_rfl) (by kernel_rfl) (by kernel_rfl) (fun _ _ _ h => h) (Or.inl ⟨by rfl, ?hy13z⟩) (by assumption) ?rest13z
  case hy13z => (intro V2 hSw; (try dsimp only at hSw); go_simp; all_goals (with_reducible rfl))
  try simp only [Act.put, List.setIfInBounds_toArray, List.set_cons_zero, List.set_cons_succ]
  refine wpAnyH_take (i := 14) (oi := ⟨some 74, Op.binOp BinOp.neq 3 (Operand.tmp 73) (Operand.const (Value.int IntKind.i64 1)) 3, 4, "outright.go:35", #[⟨13, .data⟩, ⟨10, .guard⟩], some (10, false)⟩) (v := .bool false) rfl (by kernel_rfl) (by kernel_rfl) (by kernel_rfl) (fun _ _ _ h => h) (Or.inl ⟨by rfl, ?hy14z⟩) (by assumption) ?rest14z
  case hy14z => (intro V2 hSw; (try dsimp only at hSw); go_simp; all_goals (with_reducible rfl))
  try simp only [Act.put, List.setIfInBounds_toArray, List.set_cons_zero, List.set_cons_succ]
  refine wpAnyH_take (i := 15) (oi := ⟨some 75, Op.pick (Operand.tmp 70) (Operand.const (Value.bool true)) (Operand.tmp 74), 4, "outright.go:35", #[⟨10, .data⟩, ⟨14, .data⟩], none⟩) (v := .bool false) rfl (by kernel_rfl) (by kernel_rfl) (by kernel_rfl) (fun _ _ _ h => h) (Or.inl ⟨by rfl, ?hy15z⟩) (by assumption) ?rest15z
  case hy15z => (intro V2 hSw; (try dsimp only at hSw); go_simp; all_goals (with_reducible rfl))
  try simp only [Act.put, List.setIfInBounds_toArray, List.set_cons_zero, List.set_cons_succ]
  refine wpAnyH_take (i := 16) (oi := ⟨some 76, Op.move (Operand.tmp 75), 4, "outright.go:35", #[⟨15, .data⟩, ⟨10, .chain⟩], none⟩) (v := ?v16z) rfl (by kernel_rfl) (by kernel_rfl) (by kernel_rfl) (fun _ _ _ h => h) (Or.inl ⟨by rfl, ?hy16z⟩) (by assumption) ?rest16z
  case hy16z => (intro V2 hSw; (try dsimp only at hSw); go_simp; all_goals (with_reducible rfl))
  try simp only [Act.put, List.setIfInBounds_toArray, List.set_cons_zero, List.set_cons_succ]
  refine wpAnyH_take (i := 17) (oi := ⟨some 77, Op.fieldAddr 40 (Operand.tmp 4) 1, 0, "outright.go:35", #[⟨16, .guard⟩], some (16, false)⟩) (v := ?v17z) rfl (by kernel_rfl) (by kernel_rfl) (by kernel_rfl) (fun _ _ _ h => h) (Or.inl ⟨by rfl, ?hy17z⟩) (by assumption) ?rest17z
  case hy17z => (intro V2 hSw; (try dsimp only at hSw); go_simp; all_goals (with_reducible rfl))
  try simp only [Act.put, List.setIfInBounds_toArray, List.set_cons_zero, List.set_cons_succ]
  refine wpAnyH_take (i := 18) (oi := ⟨some 78, Op.load 26 (Operand.tmp 77), 26, "outright.go:35", #[⟨17, .data⟩, ⟨16, .guard⟩], some (16, false)⟩) (v := ?v18z) rfl (by kernel_rfl) (by kernel_rfl) (by kernel_rfl) (fun _ _ _ h => h) (Or.inl ⟨by rfl, ?hy18z⟩) (by assumption) ?rest18z
  case hy18z => (intro V2 hSw; (try dsimp only at hSw); obtain ⟨z1, z2, z3, z4, z5, z6, z7⟩ := LA.out V2 hSw; go_simp; all_goals (with_reducible rfl))
  try simp only [Act.put, List.setIfInBounds_toArray, List.set_cons_zero, List.set_cons_succ]
  refine wpAnyH_ready (rs := [19]) (by kernel_rfl) (by simp) ?_
  refine AllReadyH.cons (o := ⟨some 79, Op.call { callee := Callee.value (Operand.func 57), args := #[Operand.const (Value.int IntKind.i64 15)], argTypes := #[3] }, 26, "outright.go:35", #[⟨16, .chain⟩, ⟨16, .guard⟩], some (16, false)⟩) rfl (fun K hK => ?_) AllReadyH.nil
  go_simp
  refine (at13_c 15 _).mono ?_
  rintro e ua ⟨rfl, hua⟩
  refine hK.out _ _ (hS.keep hua) (fun hS => ?_)
  clear hK K
  try simp only [Act.put, List.setIfInBounds_toArray, List.set_cons_zero, List.set_cons_succ]
  refine wpAnyH_take (i := 20) (oi := ⟨some 80, Op.binOp BinOp.neq 26 (Operand.tmp 78) (Operand.tmp 79) 26, 4, "outright.go:35", #[⟨18, .data⟩, ⟨19, .data⟩, ⟨16, .guard⟩], some (16, false)⟩) (v := .bool false) rfl (by kernel_rfl) (by kernel_rfl) (by kernel_rfl) (fun _ _ _ h => h) (Or.inl ⟨by rfl, ?hy20z⟩) (by assumption) ?rest20z
  case hy20z => (intro V2 hSw; (try dsimp only at hSw); go_simp; all_goals (with_reducible rfl))
  try simp only [Act.put, List.setIfInBounds_toArray, List.set_cons_zero, List.set_cons_succ]
  refine wpAnyH_take (i := 21) (oi := ⟨some 81, Op.pick (Operand.tmp 76) (Operand.const (Value.bool true)) (Operand.tmp 80), 4, "outright.go:35", #[⟨16, .data⟩, ⟨20, .data⟩], none⟩) (v := .bool false) rfl (by kernel_rfl) (by kernel_rfl) (by kernel_rfl) (fun _ _ _ h => h) (Or.inl ⟨by rfl, ?hy21z⟩) (by assumption) ?rest21z
  case hy21z => (intro V2 hSw; (try dsimp only at hSw); go_simp; all_goals (with_reducible rfl))
  try simp only [Act.put, List.setIfInBounds_toArray, List.set_cons_zero, List.set_cons_succ]
  refine wpAnyH_take (i := 22) (oi := ⟨some 82, Op.move (Operand.tmp 81), 4, "outright.go:35", #[⟨21, .data⟩, ⟨19, .chain⟩], none⟩) (v := ?v22z) rfl (by kernel_rfl) (by kernel_rfl) (by kernel_rfl) (fun _ _ _ h => h) (Or.inl ⟨by rfl, ?hy22z⟩) (by assumption) ?rest22z
  case hy22z => (intro V2 hSw; (try dsimp only at hSw); go_simp; all_goals (with_reducible rfl))
  try simp only [Act.put, List.setIfInBounds_toArray, List.set_cons_zero, List.set_cons_succ]
  refine wpAnyH_take (i := 23) (oi := ⟨some 83, Op.fieldAddr 40 (Operand.tmp 6) 1, 0, "outright.go:35", #[⟨22, .guard⟩], some (22, false)⟩) (v := ?v23z) rfl (by kernel_rfl) (by kernel_rfl) (by kernel_rfl) (fun _ _ _ h => h) (Or.inl ⟨by rfl, ?hy23z⟩) (by assumption) ?rest23z
  case hy23z => (intro V2 hSw; (try dsimp only at hSw); go_simp; all_goals (with_reducible rfl))
  try simp only [Act.put, List.setIfInBounds_toArray, List.set_cons_zero, List.set_cons_succ]
  refine wpAnyH_take (i := 24) (oi := ⟨some 84, Op.load 26 (Operand.tmp 83), 26, "outright.go:35", #[⟨23, .data⟩, ⟨22, .guard⟩], some (22, false)⟩) (v := ?v24z) rfl (by kernel_rfl) (by kernel_rfl) (by kernel_rfl) (fun _ _ _ h => h) (Or.inl ⟨by rfl, ?hy24z⟩) (by assumption) ?rest24z
  case hy24z => (intro V2 hSw; (try dsimp only at hSw); obtain ⟨z1, z2, z3, z4, z5, z6, z7⟩ := LA.out V2 hSw; go_simp; all_goals (with_reducible rfl))
  try simp only [Act.put, List.setIfInBounds_toArray, List.set_cons_zero, List.set_cons_succ]
  refine wpAnyH_take (i := 25) (oi := ⟨some 85, Op.build 26 #[(0, Operand.const (Value.int IntKind.i64 15)), (1, Operand.const (Value.int IntKind.i64 1))], 26, "outright.go:35", #[⟨22, .guard⟩], some (22, false)⟩) (v := ?v25z) rfl (by kernel_rfl) (by kernel_rfl) (by kernel_rfl) (fun _ _ _ h => h) (Or.inl ⟨by rfl, ?hy25z⟩) (by assumption) ?rest25z
  case hy25z => (intro V2 hSw; (try dsimp only at hSw); go_simp; all_goals (with_reducible rfl))
  try simp only [Act.put, List.setIfInBounds_toArray, List.set_cons_zero, List.set_cons_succ]
  refine wpAnyH_take (i := 26) (oi := ⟨some 86, Op.binOp BinOp.neq 26 (Operand.tmp 84) (Operand.tmp 85) 26, 4, "outright.go:35", #[⟨24, .data⟩, ⟨25, .data⟩, ⟨22, .guard⟩], some (22, false)⟩) (v := .bool false) rfl (by kernel_rfl) (by kernel_rfl) (by kernel_rfl) (fun _ _ _ h => h) (Or.inl ⟨by rfl, ?hy26z⟩) (by assumption) ?rest26z
  case hy26z => (intro V2 hSw; (try dsimp only at hSw); go_simp; all_goals (with_reducible rfl))
  try simp only [Act.put, List.setIfInBounds_toArray, List.set_cons_zero, List.set_cons_succ]
  refine wpAnyH_take (i := 27) (oi := ⟨some 87, Op.pick (Operand.tmp 82) (Operand.const (Value.bool true)) (Operand.tmp 86), 4, "outright.go:35", #[⟨22, .data⟩, ⟨26, .data⟩], none⟩) (v := .bool false) rfl (by kernel_rfl) (by kernel_rfl) (by kernel_rfl) (fun _ _ _ h => h) (Or.inl ⟨by rfl, ?hy27z⟩) (by assumption) ?rest27z
  case hy27z => (intro V2 hSw; (try dsimp only at hSw); go_simp; all_goals (with_reducible rfl))
  try simp only [Act.put, List.setIfInBounds_toArray, List.set_cons_zero, List.set_cons_succ]
  refine wpAnyH_take (i := 28) (oi := ⟨some 88, Op.move (Operand.tmp 87), 4, "outright.go:35", #[⟨27, .data⟩, ⟨22, .chain⟩], none⟩) (v := ?v28z) rfl (by kernel_rfl) (by kernel_rfl) (by kernel_rfl) (fun _ _ _ h => h) (Or.inl ⟨by rfl, ?hy28z⟩) (by assumption) ?rest28z
  case hy28z => (intro V2 hSw; (try dsimp only at hSw); go_simp; all_goals (with_reducible rfl))
  try simp only [Act.put, List.setIfInBounds_toArray, List.set_cons_zero, List.set_cons_succ]
  refine wpAnyH_take (i := 29) (oi := ⟨some 89, Op.fieldAddr 40 (Operand.tmp 10) 1, 0, "outright.go:35", #[⟨28, .guard⟩], some (28, false)⟩) (v := ?v29z) rfl (by kernel_rfl) (by kernel_rfl) (by kernel_rfl) (fun _ _ _ h => h) (Or.inl ⟨by rfl, ?hy29z⟩) (by assumption) ?rest29z
  case hy29z => (intro V2 hSw; (try dsimp only at hSw); go_simp; all_goals (with_reducible rfl))
  try simp only [Act.put, List.setIfInBounds_toArray, List.set_cons_zero, List.set_cons_succ]
  refine wpAnyH_take (i := 30) (oi := ⟨some 90, Op.load 26 (Operand.tmp 89), 26, "outright.go:35", #[⟨29, .data⟩, ⟨28, .guard⟩], some (28, false)⟩) (v := ?v30z) rfl (by kernel_rfl) (by kernel_rfl) (by kernel_rfl) (fun _ _ _ h => h) (Or.inl ⟨by rfl, ?hy30z⟩) (by assumption) ?rest30z
  case hy30z => (intro V2 hSw; (try dsimp only at hSw); obtain ⟨z1, z2, z3, z4, z5, z6, z7⟩ := LA.out V2 hSw; go_simp; all_goals (with_reducible rfl))
  try simp only [Act.put, List.setIfInBounds_toArray, List.set_cons_zero, List.set_cons_succ]
  refine wpAnyH_take (i := 31) (oi := ⟨some 91, Op.build 26 #[(0, Operand.const (Value.int IntKind.i64 20)), (1, Operand.const (Value.int IntKind.i64 1))], 26, "outright.go:35", #[⟨28, .guard⟩], some (28, false)⟩) (v := ?v31z) rfl (by kernel_rfl) (by kernel_rfl) (by kernel_rfl) (fun _ _ _ h => h) (Or.inl ⟨by rfl, ?hy31z⟩) (by assumption) ?rest31z
  case hy31z => (intro V2 hSw; (try dsimp only at hSw); go_simp; all_goals (with_reducible rfl))
  try simp only [Act.put, List.setIfInBounds_toArray, List.set_cons_zero, List.set_cons_succ]
  refine wpAnyH_take (i := 32) (oi := ⟨some 92, Op.binOp BinOp.neq 26 (Operand.tmp 90) (Operand.tmp 91) 26, 4, "outright.go:35", #[⟨30, .data⟩, ⟨31, .data⟩, ⟨28, .guard⟩], some (28, false)⟩) (v := .bool false) rfl (by kernel_rfl) (by kernel_rfl) (by kernel_rfl) (fun _ _ _ h => h) (Or.inl ⟨by rfl, ?hy32z⟩) (by assumption) ?rest32z
  case hy32z => (intro V2 hSw; (try dsimp only at hSw); go_simp; all_goals (with_reducible rfl))
  try simp only [Act.put, List.setIfInBounds_toArray, List.set_cons_zero, List.set_cons_succ]
  refine wpAnyH_take (i := 33) (oi := ⟨some 93, Op.pick (Operand.tmp 88) (Operand.const (Value.bool true)) (Operand.tmp 92), 4, "outright.go:35", #[⟨28, .data⟩, ⟨32, .data⟩], none⟩) (v := .bool false) rfl (by kernel_rfl) (by kernel_rfl) (by kernel_rfl) (fun _ _ _ h => h) (Or.inl ⟨by rfl, ?hy33z⟩) (by assumption) ?rest33z
  case hy33z => (intro V2 hSw; (try dsimp only at hSw); go_simp; all_goals (with_reducible rfl))
  try simp only [Act.put, List.setIfInBounds_toArray, List.set_cons_zero, List.set_cons_succ]
  refine wpAnyH_done (by kernel_rfl) ?_ _
  have H7 := Lib.hid hS
  obtain ⟨z1, -, -, -, -, -, -⟩ := LA.out _ H7.out
  have H8 := Lib.hid ((Has.dropN [_, _, _, _, _, _] H7.out).perm (List.Perm.cons _ (List.Perm.swap _ _ _)))
  go_wp2_with fail
  refine (H8.out.tbApplyB (tabP_ok oneZ) (by decide) AL1 1 cL1 (opsD bA (dnA 15 0)) (fun W F2 hb => opA_at hb rfl) (by decide) opsA_sz).mono ?_
  rintro e w9 ⟨rfl, h9, -⟩
  have H9 := Lib.hid h9
  clear h9 z1
  go_wp2_with fail
  refine (one13_c 2 ⟨#[122]⟩ _).mono ?_
  rintro e va4 ⟨rfl, ha4⟩
  go_wp2_with fail
  refine (writer13_c 15 _).mono ?_
  rintro e vb4 ⟨rfl, hb4⟩
  go_wp2_with fail
  refine (at13_c 99 _).mono ?_
  rintro e vc4 ⟨rfl, hc4⟩
  have HQ4 := Lib.hid (((H9.out.keep ha4).keep hb4).keep hc4)
  clear ha4 hb4 hc4
  go_wp2_with fail
  refine (poIs po4 HQ4.out OK3.out (by decide) hM).mono ?_
  rintro e g4 ⟨AL4, nL4, cL4, A4, n4, c4, rfl, hn4, h4, -, -⟩
  obtain rfl : nL4 = 0 := hn4
  have H4 := Lib.hid (h4.newBlk 40 (dnc ⟨none, 15, 0, zI⟩ (.slice AL4 0 cL4) (.slice A4 n4 c4)))
  clear h4
  go_wp2_with fail
  refine (one13_c 1 ⟨#[119]⟩ _).mono ?_
  rintro e va5 ⟨rfl, ha5⟩
  go_wp2_with fail
  refine (writer13_c 15 _).mono ?_
  rintro e vb5 ⟨rfl, hb5⟩
  go_wp2_with fail
  refine (at13_c 5 _).mono ?_
  rintro e vc5 ⟨rfl, hc5⟩
  have HQ5 := Lib.hid ((((H4.out.perm (List.perm_middle (l₁ := [_, _]))).keep ha5).keep hb5).keep hc5)
  clear ha5 hb5 hc5
  go_wp2_with fail
  refine (poIs po5 HQ5.out OK3.out (by decide) hM).mono ?_
  rintro e g5 ⟨AL5, nL5, cL5, A5, n5, c5, rfl, hn5, h5, -, -⟩
  obtain rfl : nL5 = 0 := hn5
  have H5 := Lib.hid (h5.newBlk 40 (dnc zD (.slice AL5 0 cL5) (.slice A5 n5 c5)))
  clear h5
  go_wp2_with fail
  refine (writer13_c 15 _).mono ?_
  rintro e vt ⟨rfl, hvt⟩
  have HX0 := Lib.hid ((H5.out.keep hvt).newBlk 28 #[.int .i64 8, .int .i64 (wrt 15).ep, .int .i64 (wrt 15).pr, .string (wrt 15).an, .int .i64 (wrt 15).rw, .int .i64 (wrt 15).rl, .int .i64 (wrt 15).ww, .int .i64 (wrt 15).wl, .int .i64 (wrt 15).lw, .int .i64 (wrt 15).ll, .int .i64 (wrt 15).bw, .int .i64 (wrt 15).bl])
  clear hvt
  go_upto_region 14 with fail
  have HX0 := Lib.hid (show Has w (tbA p1 (rapp (tabP oneP) (opsD bA (dnA 15 0))) :: blkA vt.heap.size 28 (txc (oth 15)) :: blkA g5.heap.size 40 (dnc zD (.slice AL5 0 cL5) (.slice A5 n5 c5)) :: opA (.slice AL5 0 cL5) (opsD bA zD) :: blkA g4.heap.size 40 (dnc ⟨none, 15, 0, zI⟩ (.slice AL4 0 cL4) (.slice A4 n4 c4)) :: opA (.slice AL4 0 cL4) (opsD bA ⟨none, 15, 0, zI⟩) :: opA (.slice AL1 1 cL1) (opsD bA (dnA 15 0)) :: blkA g1.heap.size 40 (dnc (dnA 15 0) (.slice AL1 1 cL1) (.slice A1 n1 c1)) :: rtA b1 (tabP oneP) :: []) _ from (HX0.out.perm (List.perm_middle (l₁ := [_, _, _]))))
  go_cut [17, 18] from 116 to 123 (fun v u wx => ∃ gz AL6 cL6 A6 n6 c6, v = .pointer (some ⟨gz, 0, none⟩) ∧ u = .int .i64 120 ∧ Hid (Has w (blkA gz 40 (dnc ⟨none, 0, 0, itA 15 0⟩ (.slice AL6 0 cL6) (.slice A6 n6 c6)) :: opA (.slice AL6 0 cL6) (opsD bA ⟨none, 0, 0, itA 15 0⟩) :: tbA p1 (rapp (tabP oneP) (opsD bA (dnA 15 0))) :: blkA vt.heap.size 28 (txc (oth 15)) :: blkA g5.heap.size 40 (dnc zD (.slice AL5 0 cL5) (.slice A5 n5 c5)) :: opA (.slice AL5 0 cL5) (opsD bA zD) :: blkA g4.heap.size 40 (dnc ⟨none, 15, 0, zI⟩ (.slice AL4 0 cL4) (.slice A4 n4 c4)) :: opA (.slice AL4 0 cL4) (opsD bA ⟨none, 15, 0, zI⟩) :: opA (.slice AL1 1 cL1) (opsD bA (dnA 15 0)) :: blkA g1.heap.size 40 (dnc (dnA 15 0) (.slice AL1 1 cL1) (.slice A1 n1 c1)) :: rtA b1 (tabP oneP) :: []) wx))
  case first =>
    obtain ⟨V14, hV14⟩ : ∃ V14, (vt.alloc (.cells #[.int .i64 8, .int .i64 (wrt 15).ep, .int .i64 (wrt 15).pr, .string (wrt 15).an, .int .i64 (wrt 15).rw, .int .i64 (wrt 15).rl, .int .i64 (wrt 15).ww, .int .i64 (wrt 15).wl, .int .i64 (wrt 15).lw, .int .i64 (wrt 15).ll, .int .i64 (wrt 15).bw, .int .i64 (wrt 15).bl] 28)) = V14 := ⟨_, rfl⟩
    rw [hV14] at HX0 ⊢
    clear hV14
    have HX0 := Lib.hid HX0.out.drew
    refine wp_region_held_drew (S := Has w (tbA p1 (rapp (tabP oneP) (opsD bA (dnA 15 0))) :: blkA vt.heap.size 28 (txc (oth 15)) :: blkA g5.heap.size 40 (dnc zD (.slice AL5 0 cL5) (.slice A5 n5 c5)) :: opA (.slice AL5 0 cL5) (opsD bA zD) :: blkA g4.heap.size 40 (dnc ⟨none, 15, 0, zI⟩ (.slice AL4 0 cL4) (.slice A4 n4 c4)) :: opA (.slice AL4 0 cL4) (opsD bA ⟨none, 15, 0, zI⟩) :: opA (.slice AL1 1 cL1) (opsD bA (dnA 15 0)) :: blkA g1.heap.size 40 (dnc (dnA 15 0) (.slice AL1 1 cL1) (.slice A1 n1 c1)) :: rtA b1 (tabP oneP) :: [])) hmix (HX0.out) (fun hS => ?_)
    simp only [List.size_toArray, List.length_cons, List.length_nil, Nat.reduceAdd, Array.replicate_succ, Array.replicate_zero]
    refine wpAnyH_take (i := 0) (oi := ⟨some 117, Op.move (Operand.tmp 2), 31, "outright.go:43", #[], none⟩) (v := ?v0y) rfl (by kernel_rfl) (by kernel_rfl) (by kernel_rfl) (fun _ _ _ h => h) (Or.inl ⟨by rfl, ?hy0y⟩) (by assumption) ?rest0y
    case hy0y => (intro V2 hSw; (try dsimp only at hSw); go_simp; all_goals (with_reducible rfl))
    try simp only [Act.put, List.setIfInBounds_toArray, List.set_cons_zero, List.set_cons_succ]
    refine wpAnyH_take (i := 2) (oi := ⟨some 119, Op.load 28 (Operand.tmp 16), 28, "outright.go:43", #[], none⟩) (v := ?v2y) rfl (by kernel_rfl) (by kernel_rfl) (by kernel_rfl) (fun _ _ _ h => h) (Or.inl ⟨by rfl, ?hy2y⟩) (by assumption) ?rest2y
    case hy2y => (intro V2 hSw; (try dsimp only at hSw); have tq := hSw.blkAt (g := vt.heap.size) (t := 28) (cs := txc (oth 15)) (by simp); have t0 := tq.cell 0; have t1 := tq.cell 1; have t2 := tq.cell 2; have t3 := tq.cell 3; have t4 := tq.cell 4; have t5 := tq.cell 5; have t6 := tq.cell 6; have t7 := tq.cell 7; have t8 := tq.cell 8; have t9 := tq.cell 9; have t10 := tq.cell 10; have t11 := tq.cell 11; simp at t0 t1 t2 t3 t4 t5 t6 t7 t8 t9 t10 t11; go_simp; all_goals (with_reducible rfl))
    try simp only [Act.put, List.setIfInBounds_toArray, List.set_cons_zero, List.set_cons_succ]
    refine wpAnyH_ready (rs := [1, 8]) (by kernel_rfl) (by simp) ?_
    refine AllReadyH.cons (o := ⟨some 118, Op.call { callee := Callee.value (Operand.func 58), args := #[Operand.const (Value.int IntKind.i64 2), Operand.const (Value.string { data := #[122] })], argTypes := #[3, 9] }, 24, "outright.go:43", #[], none⟩) rfl (fun K hK => ?_) ?_
    · go_simp
      refine (one13_c 2 ⟨#[122]⟩ _).mono ?_
      rintro e y1 ⟨rfl, hy⟩
      have hX := HX0.out.keep hy
      refine hK.out _ _ (hX) (fun hS => ?_)
      clear hK K
      try simp only [Act.put, List.setIfInBounds_toArray, List.set_cons_zero, List.set_cons_succ]
      have HX1 := Lib.hid hX
      clear hX
      clear hy
      refine wpAnyH_ready (rs := [3, 8]) (by kernel_rfl) (by simp) ?_
      refine AllReadyH.cons (o := ⟨some 120, Op.call { callee := Callee.value (Operand.func 57), args := #[Operand.const (Value.int IntKind.i64 5)], argTypes := #[3] }, 26, "outright.go:43", #[⟨1, .chain⟩], none⟩) rfl (fun K hK => ?_) ?_
      · go_simp
        refine (at13_c 5 _).mono ?_
        rintro e y2 ⟨rfl, hy⟩
        have hX := HX1.out.keep hy
        refine hK.out _ _ (hX) (fun hS => ?_)
        clear hK K
        try simp only [Act.put, List.setIfInBounds_toArray, List.set_cons_zero, List.set_cons_succ]
        have HX2 := Lib.hid hX
        clear hX
        clear hy
        refine wpAnyH_ready (rs := [4, 8]) (by kernel_rfl) (by simp) ?_
        refine AllReadyH.cons (o := ⟨some 121, Op.call { callee := Callee.value (Operand.func 12), args := #[Operand.tmp 117, Operand.const (Value.string { data := #[97] }), Operand.tmp 118, Operand.tmp 119, Operand.tmp 120], argTypes := #[31, 9, 24, 28, 26] }, 42, "outright.go:43", #[⟨0, .data⟩, ⟨1, .data⟩, ⟨2, .data⟩, ⟨3, .data⟩, ⟨3, .chain⟩], none⟩) rfl (fun K hK => ?_) ?_
        · go_simp
          refine (poIs po6 HX2.out OK3.out (by decide) hM).mono ?_
          rintro e g6 ⟨AL6, nL6, cL6, A6, n6, c6, rfl, hn6, h6, -, -⟩
          obtain rfl : nL6 = 0 := hn6
          have hX := h6
          refine hK.out _ _ (hX.tail) (fun hS => ?_)
          clear hK K
          try simp only [Act.put, List.setIfInBounds_toArray, List.set_cons_zero, List.set_cons_succ]
          have HX3 := Lib.hid hX
          clear hX
          clear h6
          refine wpAnyH_take (i := 5) (oi := ⟨some 116, Op.move (Operand.tmp 121), 42, "outright.go:43", #[⟨4, .data⟩], none⟩) (v := ?v5yaaa) rfl (by kernel_rfl) (by kernel_rfl) (by kernel_rfl) (fun _ _ _ h => h) (Or.inl ⟨by rfl, ?hy5yaaa⟩) (by assumption) ?rest5yaaa
          case hy5yaaa => (intro V2 hSw; (try dsimp only at hSw); go_simp; all_goals (with_reducible rfl))
          try simp only [Act.put, List.setIfInBounds_toArray, List.set_cons_zero, List.set_cons_succ]
          refine wpAnyH_take (i := 6) (oi := ⟨some 122, Op.extract (Operand.tmp 116) 0, 40, "outright.go:43", #[⟨5, .data⟩], none⟩) (v := ?v6yaaa) rfl (by kernel_rfl) (by kernel_rfl) (by kernel_rfl) (fun _ _ _ h => h) (Or.inl ⟨by rfl, ?hy6yaaa⟩) (by assumption) ?rest6yaaa
          case hy6yaaa => (intro V2 hSw; (try dsimp only at hSw); go_simp; all_goals (with_reducible rfl))
          try simp only [Act.put, List.setIfInBounds_toArray, List.set_cons_zero, List.set_cons_succ]
          refine wpAnyH_take (i := 7) (oi := ⟨some 123, Op.extract (Operand.tmp 116) 1, 41, "outright.go:43", #[⟨5, .data⟩, { on := 9, ground := Ground.gcOnly Departure.lateStores }], none⟩) (v := ?v7yaaa) rfl (by kernel_rfl) (by kernel_rfl) (by kernel_rfl) (fun _ _ _ h => h) (Or.inl ⟨by rfl, ?hy7yaaa⟩) (by assumption) ?rest7yaaa
          case hy7yaaa => (intro V2 hSw; (try dsimp only at hSw); go_simp; all_goals (with_reducible rfl))
          try simp only [Act.put, List.setIfInBounds_toArray, List.set_cons_zero, List.set_cons_succ]
          refine wpAnyH_ready (rs := [8]) (by kernel_rfl) (by simp) ?_
          refine AllReadyH.cons (o := ⟨some 17, Op.alloc 40, 0, "outright.go:43", #[], none⟩) rfl (fun K hK => ?_) AllReadyH.nil
          go_simp
          have hX := HX3.out.newBlk 40 #[.slice none 0 0, .int .i64 0, .int .i64 0, .int .i64 0, .int .i64 0, .int .i64 0, .string ⟨#[]⟩, .int .i64 0, .int .i64 0, .int .i64 0, .int .i64 0, .slice none 0 0]
          (try simp only [World.size_alloc] at hX)
          refine hK.out _ _ (hX.tail.tail) (fun hS => ?_)
          clear hK K
          try simp only [Act.put, List.setIfInBounds_toArray, List.set_cons_zero, List.set_cons_succ]
          have HX4 := Lib.hid hX
          clear hX
          refine wpAnyH_ready (rs := [9]) (by kernel_rfl) (by simp) ?_
          refine AllReadyH.cons (o := ⟨none, Op.store 40 (Operand.tmp 17) (Operand.tmp 122), 0, "outright.go:43", #[⟨8, .data⟩, ⟨6, .data⟩, ⟨4, .chain⟩, ⟨0, .phase⟩, ⟨1, .phase⟩, ⟨2, .phase⟩, ⟨3, .phase⟩, ⟨4, .phase⟩, ⟨5, .phase⟩, ⟨6, .phase⟩, { on := 7, ground := Ground.textOnly Departure.lateStores }, ⟨8, .phase⟩], none⟩) rfl (fun K hK => ?_) AllReadyH.nil
          go_simp
          have hX := HX3.out.newBlk 40 (dnc ⟨none, 0, 0, itA 15 0⟩ (.slice AL6 0 cL6) (.slice A6 n6 c6))
          (try simp only [World.size_alloc] at hX)
          refine hK.out _ _ (hX.tail.tail) (fun hS => ?_)
          clear hK K
          try simp only [Act.put, List.setIfInBounds_toArray, List.set_cons_zero, List.set_cons_succ]
          have HX5 := Lib.hid hX
          clear hX
          refine wpAnyH_take (i := 10) (oi := ⟨some 18, Op.assign (Operand.tmp 123), 41, "outright.go:43", #[⟨7, .data⟩, ⟨9, .chain⟩, ⟨0, .phase⟩, ⟨1, .phase⟩, ⟨2, .phase⟩, ⟨3, .phase⟩, ⟨4, .phase⟩, ⟨5, .phase⟩, ⟨6, .phase⟩, ⟨7, .phase⟩, ⟨8, .phase⟩, ⟨9, .phase⟩], none⟩) (v := ?v10yaaa) rfl (by kernel_rfl) (by kernel_rfl) (by kernel_rfl) (fun _ _ _ h => h) (Or.inl ⟨by rfl, ?hy10yaaa⟩) (by assumption) ?rest10yaaa
          case hy10yaaa => (intro V2 hSw; (try dsimp only at hSw); go_simp; all_goals (with_reducible rfl))
          try simp only [Act.put, List.setIfInBounds_toArray, List.set_cons_zero, List.set_cons_succ]
          refine wpAnyH_done (by kernel_rfl) ?_ _
          (try go_wp2_with fail)
          go_meet
          exact ⟨_, AL6, cL6, A6, n6, c6, rfl, rfl, HX5⟩
        refine AllReadyH.cons (o := ⟨some 17, Op.alloc 40, 0, "outright.go:43", #[], none⟩) rfl (fun K hK => ?_) AllReadyH.nil
        go_simp
        have hX := HX2.out.newBlk 40 #[.slice none 0 0, .int .i64 0, .int .i64 0, .int .i64 0, .int .i64 0, .int .i64 0, .string ⟨#[]⟩, .int .i64 0, .int .i64 0, .int .i64 0, .int .i64 0, .slice none 0 0]
        (try simp only [World.size_alloc] at hX)
        refine hK.out _ _ (hX.tail) (fun hS => ?_)
        clear hK K
        try simp only [Act.put, List.setIfInBounds_toArray, List.set_cons_zero, List.set_cons_succ]
        have HX3 := Lib.hid hX
        clear hX
        refine wpAnyH_ready (rs := [4]) (by kernel_rfl) (by simp) ?_
        refine AllReadyH.cons (o := ⟨some 121, Op.call { callee := Callee.value (Operand.func 12), args := #[Operand.tmp 117, Operand.const (Value.string { data := #[97] }), Operand.tmp 118, Operand.tmp 119, Operand.tmp 120], argTypes := #[31, 9, 24, 28, 26] }, 42, "outright.go:43", #[⟨0, .data⟩, ⟨1, .data⟩, ⟨2, .data⟩, ⟨3, .data⟩, ⟨3, .chain⟩], none⟩) rfl (fun K hK => ?_) AllReadyH.nil
        go_simp
        refine (poIs po6 HX3.out.swap OK3.out (by decide) hM).mono ?_
        rintro e g6 ⟨AL6, nL6, cL6, A6, n6, c6, rfl, hn6, h6, -, -⟩
        obtain rfl : nL6 = 0 := hn6
        have hX := h6.perm (List.perm_middle (l₁ := [_, _]))
        refine hK.out _ _ (hX.tail.tail) (fun hS => ?_)
        clear hK K
        try simp only [Act.put, List.setIfInBounds_toArray, List.set_cons_zero, List.set_cons_succ]
        have HX4 := Lib.hid hX
        clear hX
        clear h6
        refine wpAnyH_take (i := 5) (oi := ⟨some 116, Op.move (Operand.tmp 121), 42, "outright.go:43", #[⟨4, .data⟩], none⟩) (v := ?v5yaab) rfl (by kernel_rfl) (by kernel_rfl) (by kernel_rfl) (fun _ _ _ h => h) (Or.inl ⟨by rfl, ?hy5yaab⟩) (by assumption) ?rest5yaab
        case hy5yaab => (intro V2 hSw; (try dsimp only at hSw); go_simp; all_goals (with_reducible rfl))
        try simp only [Act.put, List.setIfInBounds_toArray, List.set_cons_zero, List.set_cons_succ]
        refine wpAnyH_take (i := 6) (oi := ⟨some 122, Op.extract (Operand.tmp 116) 0, 40, "outright.go:43", #[⟨5, .data⟩], none⟩) (v := ?v6yaab) rfl (by kernel_rfl) (by kernel_rfl) (by kernel_rfl) (fun _ _ _ h => h) (Or.inl ⟨by rfl, ?hy6yaab⟩) (by assumption) ?rest6yaab
        case hy6yaab => (intro V2 hSw; (try dsimp only at hSw); go_simp; all_goals (with_reducible rfl))
        try simp only [Act.put, List.setIfInBounds_toArray, List.set_cons_zero, List.set_cons_succ]
        refine wpAnyH_take (i := 7) (oi := ⟨some 123, Op.extract (Operand.tmp 116) 1, 41, "outright.go:43", #[⟨5, .data⟩, { on := 9, ground := Ground.gcOnly Departure.lateStores }], none⟩) (v := ?v7yaab) rfl (by kernel_rfl) (by kernel_rfl) (by kernel_rfl) (fun _ _ _ h => h) (Or.inl ⟨by rfl, ?hy7yaab⟩) (by assumption) ?rest7yaab
        case hy7yaab => (intro V2 hSw; (try dsimp only at hSw); go_simp; all_goals (with_reducible rfl))
        try simp only [Act.put, List.setIfInBounds_toArray, List.set_cons_zero, List.set_cons_succ]
        refine wpAnyH_ready (rs := [9]) (by kernel_rfl) (by simp) ?_
        refine AllReadyH.cons (o := ⟨none, Op.store 40 (Operand.tmp 17) (Operand.tmp 122), 0, "outright.go:43", #[⟨8, .data⟩, ⟨6, .data⟩, ⟨4, .chain⟩, ⟨0, .phase⟩, ⟨1, .phase⟩, ⟨2, .phase⟩, ⟨3, .phase⟩, ⟨4, .phase⟩, ⟨5, .phase⟩, ⟨6, .phase⟩, { on := 7, ground := Ground.textOnly Departure.lateStores }, ⟨8, .phase⟩], none⟩) rfl (fun K hK => ?_) AllReadyH.nil
        have kB := HX4.out.blk.1
        have p0 := kB.cell 0
        have f0 := kB.frozen 0
        have p1 := kB.cell 1
        have f1 := kB.frozen 1
        have p2 := kB.cell 2
        have f2 := kB.frozen 2
        have p3 := kB.cell 3
        have f3 := kB.frozen 3
        have p4 := kB.cell 4
        have f4 := kB.frozen 4
        have p5 := kB.cell 5
        have f5 := kB.frozen 5
        have p6 := kB.cell 6
        have f6 := kB.frozen 6
        have p7 := kB.cell 7
        have f7 := kB.frozen 7
        have p8 := kB.cell 8
        have f8 := kB.frozen 8
        have p9 := kB.cell 9
        have f9 := kB.frozen 9
        have p10 := kB.cell 10
        have f10 := kB.frozen 10
        have p11 := kB.cell 11
        have f11 := kB.frozen 11
        simp at p0 p1 p2 p3 p4 p5 p6 p7 p8 p9 p10 p11
        (try simp at f0 f1 f2 f3 f4 f5 f6 f7 f8 f9 f10 f11)
        have hX := Has.all12 (v0 := .slice AL6 0 cL6) (v1 := .int .i64 0) (v2 := .int .i64 0) (v3 := .int .i64 7) (v4 := .int .i64 0) (v5 := .int .i64 1) (v6 := .string bA) (v7 := .int .i64 15) (v8 := .int .i64 0) (v9 := .int .i64 0) (v10 := .int .i64 0) (v11 := .slice A6 n6 c6) HX4.out
        go_simp
        refine hK.out _ _ (hX.tail.tail) (fun hS => ?_)
        clear hK K
        try simp only [Act.put, List.setIfInBounds_toArray, List.set_cons_zero, List.set_cons_succ]
        have HX5 := Lib.hid hX
        clear hX
        clear kB
        refine wpAnyH_take (i := 10) (oi := ⟨some 18, Op.assign (Operand.tmp 123), 41, "outright.go:43", #[⟨7, .data⟩, ⟨9, .chain⟩, ⟨0, .phase⟩, ⟨1, .phase⟩, ⟨2, .phase⟩, ⟨3, .phase⟩, ⟨4, .phase⟩, ⟨5, .phase⟩, ⟨6, .phase⟩, ⟨7, .phase⟩, ⟨8, .phase⟩, ⟨9, .phase⟩], none⟩) (v := ?v10yaab) rfl (by kernel_rfl) (by kernel_rfl) (by kernel_rfl) (fun _ _ _ h => h) (Or.inl ⟨by rfl, ?hy10yaab⟩) (by assumption) ?rest10yaab
        case hy10yaab => (intro V2 hSw; (try dsimp only at hSw); go_simp; all_goals (with_reducible rfl))
        try simp only [Act.put, List.setIfInBounds_toArray, List.set_cons_zero, List.set_cons_succ]
        refine wpAnyH_done (by kernel_rfl) ?_ _
        (try go_wp2_with fail)
        go_meet
        exact ⟨_, AL6, cL6, A6, n6, c6, rfl, rfl, HX5⟩
      refine AllReadyH.cons (o := ⟨some 17, Op.alloc 40, 0, "outright.go:43", #[], none⟩) rfl (fun K hK => ?_) AllReadyH.nil
      go_simp
      have hX := HX1.out.newBlk 40 #[.slice none 0 0, .int .i64 0, .int .i64 0, .int .i64 0, .int .i64 0, .int .i64 0, .string ⟨#[]⟩, .int .i64 0, .int .i64 0, .int .i64 0, .int .i64 0, .slice none 0 0]
      (try simp only [World.size_alloc] at hX)
      refine hK.out _ _ (hX.tail) (fun hS => ?_)
      clear hK K
      try simp only [Act.put, List.setIfInBounds_toArray, List.set_cons_zero, List.set_cons_succ]
      have HX2 := Lib.hid hX
      clear hX
      refine wpAnyH_ready (rs := [3]) (by kernel_rfl) (by simp) ?_
      refine AllReadyH.cons (o := ⟨some 120, Op.call { callee := Callee.value (Operand.func 57), args := #[Operand.const (Value.int IntKind.i64 5)], argTypes := #[3] }, 26, "outright.go:43", #[⟨1, .chain⟩], none⟩) rfl (fun K hK => ?_) AllReadyH.nil
      go_simp
      refine (at13_c 5 _).mono ?_
      rintro e y3 ⟨rfl, hy⟩
      have hX := HX2.out.keep hy
      refine hK.out _ _ (hX.tail) (fun hS => ?_)
      clear hK K
      try simp only [Act.put, List.setIfInBounds_toArray, List.set_cons_zero, List.set_cons_succ]
      have HX3 := Lib.hid hX
      clear hX
      clear hy
      refine wpAnyH_ready (rs := [4]) (by kernel_rfl) (by simp) ?_
      refine AllReadyH.cons (o := ⟨some 121, Op.call { callee := Callee.value (Operand.func 12), args := #[Operand.tmp 117, Operand.const (Value.string { data := #[97] }), Operand.tmp 118, Operand.tmp 119, Operand.tmp 120], argTypes := #[31, 9, 24, 28, 26] }, 42, "outright.go:43", #[⟨0, .data⟩, ⟨1, .data⟩, ⟨2, .data⟩, ⟨3, .data⟩, ⟨3, .chain⟩], none⟩) rfl (fun K hK => ?_) AllReadyH.nil
      go_simp
      refine (poIs po6 HX3.out.swap OK3.out (by decide) hM).mono ?_
      rintro e g6 ⟨AL6, nL6, cL6, A6, n6, c6, rfl, hn6, h6, -, -⟩
      obtain rfl : nL6 = 0 := hn6
      have hX := h6.perm (List.perm_middle (l₁ := [_, _]))
      refine hK.out _ _ (hX.tail.tail) (fun hS => ?_)
      clear hK K
      try simp only [Act.put, List.setIfInBounds_toArray, List.set_cons_zero, List.set_cons_succ]
      have HX4 := Lib.hid hX
      clear hX
      clear h6
      refine wpAnyH_take (i := 5) (oi := ⟨some 116, Op.move (Operand.tmp 121), 42, "outright.go:43", #[⟨4, .data⟩], none⟩) (v := ?v5yab) rfl (by kernel_rfl) (by kernel_rfl) (by kernel_rfl) (fun _ _ _ h => h) (Or.inl ⟨by rfl, ?hy5yab⟩) (by assumption) ?rest5yab
      case hy5yab => (intro V2 hSw; (try dsimp only at hSw); go_simp; all_goals (with_reducible rfl))
      try simp only [Act.put, List.setIfInBounds_toArray, List.set_cons_zero, List.set_cons_succ]
      refine wpAnyH_take (i := 6) (oi := ⟨some 122, Op.extract (Operand.tmp 116) 0, 40, "outright.go:43", #[⟨5, .data⟩], none⟩) (v := ?v6yab) rfl (by kernel_rfl) (by kernel_rfl) (by kernel_rfl) (fun _ _ _ h => h) (Or.inl ⟨by rfl, ?hy6yab⟩) (by assumption) ?rest6yab
      case hy6yab => (intro V2 hSw; (try dsimp only at hSw); go_simp; all_goals (with_reducible rfl))
      try simp only [Act.put, List.setIfInBounds_toArray, List.set_cons_zero, List.set_cons_succ]
      refine wpAnyH_take (i := 7) (oi := ⟨some 123, Op.extract (Operand.tmp 116) 1, 41, "outright.go:43", #[⟨5, .data⟩, { on := 9, ground := Ground.gcOnly Departure.lateStores }], none⟩) (v := ?v7yab) rfl (by kernel_rfl) (by kernel_rfl) (by kernel_rfl) (fun _ _ _ h => h) (Or.inl ⟨by rfl, ?hy7yab⟩) (by assumption) ?rest7yab
      case hy7yab => (intro V2 hSw; (try dsimp only at hSw); go_simp; all_goals (with_reducible rfl))
      try simp only [Act.put, List.setIfInBounds_toArray, List.set_cons_zero, List.set_cons_succ]
      refine wpAnyH_ready (rs := [9]) (by kernel_rfl) (by simp) ?_
      refine AllReadyH.cons (o := ⟨none, Op.store 40 (Operand.tmp 17) (Operand.tmp 122), 0, "outright.go:43", #[⟨8, .data⟩, ⟨6, .data⟩, ⟨4, .chain⟩, ⟨0, .phase⟩, ⟨1, .phase⟩, ⟨2, .phase⟩, ⟨3, .phase⟩, ⟨4, .phase⟩, ⟨5, .phase⟩, ⟨6, .phase⟩, { on := 7, ground := Ground.textOnly Departure.lateStores }, ⟨8, .phase⟩], none⟩) rfl (fun K hK => ?_) AllReadyH.nil
      have kB := HX4.out.blk.1
      have p0 := kB.cell 0
      have f0 := kB.frozen 0
      have p1 := kB.cell 1
      have f1 := kB.frozen 1
      have p2 := kB.cell 2
      have f2 := kB.frozen 2
      have p3 := kB.cell 3
      have f3 := kB.frozen 3
      have p4 := kB.cell 4
      have f4 := kB.frozen 4
      have p5 := kB.cell 5
      have f5 := kB.frozen 5
      have p6 := kB.cell 6
      have f6 := kB.frozen 6
      have p7 := kB.cell 7
      have f7 := kB.frozen 7
      have p8 := kB.cell 8
      have f8 := kB.frozen 8
      have p9 := kB.cell 9
      have f9 := kB.frozen 9
      have p10 := kB.cell 10
      have f10 := kB.frozen 10
      have p11 := kB.cell 11
      have f11 := kB.frozen 11
      simp at p0 p1 p2 p3 p4 p5 p6 p7 p8 p9 p10 p11
      (try simp at f0 f1 f2 f3 f4 f5 f6 f7 f8 f9 f10 f11)
      have hX := Has.all12 (v0 := .slice AL6 0 cL6) (v1 := .int .i64 0) (v2 := .int .i64 0) (v3 := .int .i64 7) (v4 := .int .i64 0) (v5 := .int .i64 1) (v6 := .string bA) (v7 := .int .i64 15) (v8 := .int .i64 0) (v9 := .int .i64 0) (v10 := .int .i64 0) (v11 := .slice A6 n6 c6) HX4.out
      go_simp
      refine hK.out _ _ (hX.tail.tail) (fun hS => ?_)
      clear hK K
      try simp only [Act.put, List.setIfInBounds_toArray, List.set_cons_zero, List.set_cons_succ]
      have HX5 := Lib.hid hX
      clear hX
      clear kB
      refine wpAnyH_take (i := 10) (oi := ⟨some 18, Op.assign (Operand.tmp 123), 41, "outright.go:43", #[⟨7, .data⟩, ⟨9, .chain⟩, ⟨0, .phase⟩, ⟨1, .phase⟩, ⟨2, .phase⟩, ⟨3, .phase⟩, ⟨4, .phase⟩, ⟨5, .phase⟩, ⟨6, .phase⟩, ⟨7, .phase⟩, ⟨8, .phase⟩, ⟨9, .phase⟩], none⟩) (v := ?v10yab) rfl (by kernel_rfl) (by kernel_rfl) (by kernel_rfl) (fun _ _ _ h => h) (Or.inl ⟨by rfl, ?hy10yab⟩) (by assumption) ?rest10yab
      case hy10yab => (intro V2 hSw; (try dsimp only at hSw); go_simp; all_goals (with_reducible rfl))
      try simp only [Act.put, List.setIfInBounds_toArray, List.set_cons_zero, List.set_cons_succ]
      refine wpAnyH_done (by kernel_rfl) ?_ _
      (try go_wp2_with fail)
      go_meet
      exact ⟨_, AL6, cL6, A6, n6, c6, rfl, rfl, HX5⟩
    refine AllReadyH.cons (o := ⟨some 17, Op.alloc 40, 0, "outright.go:43", #[], none⟩) rfl (fun K hK => ?_) AllReadyH.nil
    go_simp
    have hX := HX0.out.newBlk 40 #[.slice none 0 0, .int .i64 0, .int .i64 0, .int .i64 0, .int .i64 0, .int .i64 0, .string ⟨#[]⟩, .int .i64 0, .int .i64 0, .int .i64 0, .int .i64 0, .slice none 0 0]
    (try simp only [World.size_alloc] at hX)
    refine hK.out _ _ (hX.tail) (fun hS => ?_)
    clear hK K
    try simp only [Act.put, List.setIfInBounds_toArray, List.set_cons_zero, List.set_cons_succ]
    have HX1 := Lib.hid hX
    clear hX
    refine wpAnyH_ready (rs := [1]) (by kernel_rfl) (by simp) ?_
    refine AllReadyH.cons (o := ⟨some 118, Op.call { callee := Callee.value (Operand.func 58), args := #[Operand.const (Value.int IntKind.i64 2), Operand.const (Value.string { data := #[122] })], argTypes := #[3, 9] }, 24, "outright.go:43", #[], none⟩) rfl (fun K hK => ?_) AllReadyH.nil
    go_simp
    refine (one13_c 2 ⟨#[122]⟩ _).mono ?_
    rintro e y2 ⟨rfl, hy⟩
    have hX := HX1.out.keep hy
    refine hK.out _ _ (hX.tail) (fun hS => ?_)
    clear hK K
    try simp only [Act.put, List.setIfInBounds_toArray, List.set_cons_zero, List.set_cons_succ]
    have HX2 := Lib.hid hX
    clear hX
    clear hy
    refine wpAnyH_ready (rs := [3]) (by kernel_rfl) (by simp) ?_
    refine AllReadyH.cons (o := ⟨some 120, Op.call { callee := Callee.value (Operand.func 57), args := #[Operand.const (Value.int IntKind.i64 5)], argTypes := #[3] }, 26, "outright.go:43", #[⟨1, .chain⟩], none⟩) rfl (fun K hK => ?_) AllReadyH.nil
    go_simp
    refine (at13_c 5 _).mono ?_
    rintro e y3 ⟨rfl, hy⟩
    have hX := HX2.out.keep hy
    refine hK.out _ _ (hX.tail) (fun hS => ?_)
    clear hK K
    try simp only [Act.put, List.setIfInBounds_toArray, List.set_cons_zero, List.set_cons_succ]
    have HX3 := Lib.hid hX
    clear hX
    clear hy
    refine wpAnyH_ready (rs := [4]) (by kernel_rfl) (by simp) ?_
    refine AllReadyH.cons (o := ⟨some 121, Op.call { callee := Callee.value (Operand.func 12), args := #[Operand.tmp 117, Operand.const (Value.string { data := #[97] }), Operand.tmp 118, Operand.tmp 119, Operand.tmp 120], argTypes := #[31, 9, 24, 28, 26] }, 42, "outright.go:43", #[⟨0, .data⟩, ⟨1, .data⟩, ⟨2, .data⟩, ⟨3, .data⟩, ⟨3, .chain⟩], none⟩) rfl (fun K hK => ?_) AllReadyH.nil
    go_simp
    refine (poIs po6 HX3.out.swap OK3.out (by decide) hM).mono ?_
    rintro e g6 ⟨AL6, nL6, cL6, A6, n6, c6, rfl, hn6, h6, -, -⟩
    obtain rfl : nL6 = 0 := hn6
    have hX := h6.perm (List.perm_middle (l₁ := [_, _]))
    refine hK.out _ _ (hX.tail.tail) (fun hS => ?_)
    clear hK K
    try simp only [Act.put, List.setIfInBounds_toArray, List.set_cons_zero, List.set_cons_succ]
    have HX4 := Lib.hid hX
    clear hX
    clear h6
    refine wpAnyH_take (i := 5) (oi := ⟨some 116, Op.move (Operand.tmp 121), 42, "outright.go:43", #[⟨4, .data⟩], none⟩) (v := ?v5yb) rfl (by kernel_rfl) (by kernel_rfl) (by kernel_rfl) (fun _ _ _ h => h) (Or.inl ⟨by rfl, ?hy5yb⟩) (by assumption) ?rest5yb
    case hy5yb => (intro V2 hSw; (try dsimp only at hSw); go_simp; all_goals (with_reducible rfl))
    try simp only [Act.put, List.setIfInBounds_toArray, List.set_cons_zero, List.set_cons_succ]
    refine wpAnyH_take (i := 6) (oi := ⟨some 122, Op.extract (Operand.tmp 116) 0, 40, "outright.go:43", #[⟨5, .data⟩], none⟩) (v := ?v6yb) rfl (by kernel_rfl) (by kernel_rfl) (by kernel_rfl) (fun _ _ _ h => h) (Or.inl ⟨by rfl, ?hy6yb⟩) (by assumption) ?rest6yb
    case hy6yb => (intro V2 hSw; (try dsimp only at hSw); go_simp; all_goals (with_reducible rfl))
    try simp only [Act.put, List.setIfInBounds_toArray, List.set_cons_zero, List.set_cons_succ]
    refine wpAnyH_take (i := 7) (oi := ⟨some 123, Op.extract (Operand.tmp 116) 1, 41, "outright.go:43", #[⟨5, .data⟩, { on := 9, ground := Ground.gcOnly Departure.lateStores }], none⟩) (v := ?v7yb) rfl (by kernel_rfl) (by kernel_rfl) (by kernel_rfl) (fun _ _ _ h => h) (Or.inl ⟨by rfl, ?hy7yb⟩) (by assumption) ?rest7yb
    case hy7yb => (intro V2 hSw; (try dsimp only at hSw); go_simp; all_goals (with_reducible rfl))
    try simp only [Act.put, List.setIfInBounds_toArray, List.set_cons_zero, List.set_cons_succ]
    refine wpAnyH_ready (rs := [9]) (by kernel_rfl) (by simp) ?_
    refine AllReadyH.cons (o := ⟨none, Op.store 40 (Operand.tmp 17) (Operand.tmp 122), 0, "outright.go:43", #[⟨8, .data⟩, ⟨6, .data⟩, ⟨4, .chain⟩, ⟨0, .phase⟩, ⟨1, .phase⟩, ⟨2, .phase⟩, ⟨3, .phase⟩, ⟨4, .phase⟩, ⟨5, .phase⟩, ⟨6, .phase⟩, { on := 7, ground := Ground.textOnly Departure.lateStores }, ⟨8, .phase⟩], none⟩) rfl (fun K hK => ?_) AllReadyH.nil
    have kB := HX4.out.blk.1
    have p0 := kB.cell 0
    have f0 := kB.frozen 0
    have p1 := kB.cell 1
    have f1 := kB.frozen 1
    have p2 := kB.cell 2
    have f2 := kB.frozen 2
    have p3 := kB.cell 3
    have f3 := kB.frozen 3
    have p4 := kB.cell 4
    have f4 := kB.frozen 4
    have p5 := kB.cell 5
    have f5 := kB.frozen 5
    have p6 := kB.cell 6
    have f6 := kB.frozen 6
    have p7 := kB.cell 7
    have f7 := kB.frozen 7
    have p8 := kB.cell 8
    have f8 := kB.frozen 8
    have p9 := kB.cell 9
    have f9 := kB.frozen 9
    have p10 := kB.cell 10
    have f10 := kB.frozen 10
    have p11 := kB.cell 11
    have f11 := kB.frozen 11
    simp at p0 p1 p2 p3 p4 p5 p6 p7 p8 p9 p10 p11
    (try simp at f0 f1 f2 f3 f4 f5 f6 f7 f8 f9 f10 f11)
    have hX := Has.all12 (v0 := .slice AL6 0 cL6) (v1 := .int .i64 0) (v2 := .int .i64 0) (v3 := .int .i64 7) (v4 := .int .i64 0) (v5 := .int .i64 1) (v6 := .string bA) (v7 := .int .i64 15) (v8 := .int .i64 0) (v9 := .int .i64 0) (v10 := .int .i64 0) (v11 := .slice A6 n6 c6) HX4.out
    go_simp
    refine hK.out _ _ (hX.tail.tail) (fun hS => ?_)
    clear hK K
    try simp only [Act.put, List.setIfInBounds_toArray, List.set_cons_zero, List.set_cons_succ]
    have HX5 := Lib.hid hX
    clear hX
    clear kB
    refine wpAnyH_take (i := 10) (oi := ⟨some 18, Op.assign (Operand.tmp 123), 41, "outright.go:43", #[⟨7, .data⟩, ⟨9, .chain⟩, ⟨0, .phase⟩, ⟨1, .phase⟩, ⟨2, .phase⟩, ⟨3, .phase⟩, ⟨4, .phase⟩, ⟨5, .phase⟩, ⟨6, .phase⟩, ⟨7, .phase⟩, ⟨8, .phase⟩, ⟨9, .phase⟩], none⟩) (v := ?v10yb) rfl (by kernel_rfl) (by kernel_rfl) (by kernel_rfl) (fun _ _ _ h => h) (Or.inl ⟨by rfl, ?hy10yb⟩) (by assumption) ?rest10yb
    case hy10yb => (intro V2 hSw; (try dsimp only at hSw); go_simp; all_goals (with_reducible rfl))
    try simp only [Act.put, List.setIfInBounds_toArray, List.set_cons_zero, List.set_cons_succ]
    refine wpAnyH_done (by kernel_rfl) ?_ _
    (try go_wp2_with fail)
    go_meet
    exact ⟨_, AL6, cL6, A6, n6, c6, rfl, rfl, HX5⟩
  case rest =>
    obtain ⟨gz, AL6, cL6, A6, n6, c6, rfl, rfl, HS⟩ := hcut
    go_upto_region 15 with fail
    have LB := Lib.hid (fun V (hV : Has w (blkA gz 40 (dnc ⟨none, 0, 0, itA 15 0⟩ (.slice AL6 0 cL6) (.slice A6 n6 c6)) :: opA (.slice AL6 0 cL6) (opsD bA ⟨none, 0, 0, itA 15 0⟩) :: tbA p1 (rapp (tabP oneP) (opsD bA (dnA 15 0))) :: blkA vt.heap.size 28 (txc (oth 15)) :: blkA g5.heap.size 40 (dnc zD (.slice AL5 0 cL5) (.slice A5 n5 c5)) :: opA (.slice AL5 0 cL5) (opsD bA zD) :: blkA g4.heap.size 40 (dnc ⟨none, 15, 0, zI⟩ (.slice AL4 0 cL4) (.slice A4 n4 c4)) :: opA (.slice AL4 0 cL4) (opsD bA ⟨none, 15, 0, zI⟩) :: opA (.slice AL1 1 cL1) (opsD bA (dnA 15 0)) :: blkA g1.heap.size 40 (dnc (dnA 15 0) (.slice AL1 1 cL1) (.slice A1 n1 c1)) :: rtA b1 (tabP oneP) :: []) V) => (show V.cell? ⟨g4.heap.size, 0, none⟩ = some (.slice AL4 0 cL4) ∧ V.cell? ⟨g4.heap.size, 1, none⟩ = some (.int .i64 15) ∧ V.cell? ⟨g4.heap.size, 2, none⟩ = some (.int .i64 0) ∧ V.cell? ⟨gz, 3, none⟩ = some (.int .i64 7) ∧ V.cell? ⟨gz, 0, none⟩ = some (.slice AL6 0 cL6) from by
      have k4 := hV.blkAt (g := g4.heap.size) (t := 40) (cs := dnc ⟨none, 15, 0, zI⟩ (.slice AL4 0 cL4) (.slice A4 n4 c4)) (by simp)
      have k6 := hV.blkAt (g := gz) (t := 40) (cs := dnc ⟨none, 0, 0, itA 15 0⟩ (.slice AL6 0 cL6) (.slice A6 n6 c6)) (by simp)
      exact ⟨k4.cell 0, k4.cell 1, k4.cell 2, k6.cell 3, k6.cell 0⟩))
    refine wp_region_held_drew (S := Has w (blkA gz 40 (dnc ⟨none, 0, 0, itA 15 0⟩ (.slice AL6 0 cL6) (.slice A6 n6 c6)) :: opA (.slice AL6 0 cL6) (opsD bA ⟨none, 0, 0, itA 15 0⟩) :: tbA p1 (rapp (tabP oneP) (opsD bA (dnA 15 0))) :: blkA vt.heap.size 28 (txc (oth 15)) :: blkA g5.heap.size 40 (dnc zD (.slice AL5 0 cL5) (.slice A5 n5 c5)) :: opA (.slice AL5 0 cL5) (opsD bA zD) :: blkA g4.heap.size 40 (dnc ⟨none, 15, 0, zI⟩ (.slice AL4 0 cL4) (.slice A4 n4 c4)) :: opA (.slice AL4 0 cL4) (opsD bA ⟨none, 15, 0, zI⟩) :: opA (.slice AL1 1 cL1) (opsD bA (dnA 15 0)) :: blkA g1.heap.size 40 (dnc (dnA 15 0) (.slice AL1 1 cL1) (.slice A1 n1 c1)) :: rtA b1 (tabP oneP) :: [])) hmix (HS.out.drew) (fun hS => ?_)
    simp only [List.size_toArray, List.length_cons, List.length_nil, Nat.reduceAdd, Array.replicate_succ, Array.replicate_zero]
    refine wpAnyH_take (i := 0) (oi := ⟨some 124, Op.move (Operand.tmp 13), 41, "outright.go:44", #[], none⟩) (v := ?v0x) rfl (by kernel_rfl) (by kernel_rfl) (by kernel_rfl) (fun _ _ _ h => h) (Or.inl ⟨by rfl, ?hy0x⟩) (by assumption) ?rest0x
    case hy0x => (intro V2 hSw; (try dsimp only at hSw); go_simp; all_goals (with_reducible rfl))
    try simp only [Act.put, List.setIfInBounds_toArray, List.set_cons_zero, List.set_cons_succ]
    refine wpAnyH_take (i := 1) (oi := ⟨some 125, Op.binOp BinOp.eql 41 (Operand.tmp 124) (Operand.const (Value.int IntKind.i64 0)) 41, 4, "outright.go:44", #[⟨0, .data⟩], none⟩) (v := .bool true) rfl (by kernel_rfl) (by kernel_rfl) (by kernel_rfl) (fun _ _ _ h => h) (Or.inl ⟨by rfl, ?hy1x⟩) (by assumption) ?rest1x
    case hy1x => (intro V2 hSw; (try dsimp only at hSw); go_simp; all_goals (with_reducible rfl))
    try simp only [Act.put, List.setIfInBounds_toArray, List.set_cons_zero, List.set_cons_succ]
    refine wpAnyH_take (i := 2) (oi := ⟨some 126, Op.move (Operand.tmp 125), 4, "outright.go:44", #[⟨1, .data⟩], none⟩) (v := ?v2x) rfl (by kernel_rfl) (by kernel_rfl) (by kernel_rfl) (fun _ _ _ h => h) (Or.inl ⟨by rfl, ?hy2x⟩) (by assumption) ?rest2x
    case hy2x => (intro V2 hSw; (try dsimp only at hSw); go_simp; all_goals (with_reducible rfl))
    try simp only [Act.put, List.setIfInBounds_toArray, List.set_cons_zero, List.set_cons_succ]
    refine wpAnyH_take (i := 3) (oi := ⟨some 127, Op.fieldAddr 40 (Operand.tmp 12) 0, 0, "outright.go:44", #[⟨2, .guard⟩], some (2, true)⟩) (v := ?v3x) rfl (by kernel_rfl) (by kernel_rfl) (by kernel_rfl) (fun _ _ _ h => h) (Or.inl ⟨by rfl, ?hy3x⟩) (by assumption) ?rest3x
    case hy3x => (intro V2 hSw; (try dsimp only at hSw); go_simp; all_goals (with_reducible rfl))
    try simp only [Act.put, List.setIfInBounds_toArray, List.set_cons_zero, List.set_cons_succ]
    refine wpAnyH_take (i := 4) (oi := ⟨some 128, Op.load 35 (Operand.tmp 127), 35, "outright.go:44", #[⟨3, .data⟩, ⟨2, .guard⟩], some (2, true)⟩) (v := ?v4x) rfl (by kernel_rfl) (by kernel_rfl) (by kernel_rfl) (fun _ _ _ h => h) (Or.inl ⟨by rfl, ?hy4x⟩) (by assumption) ?rest4x
    case hy4x => (intro V2 hSw; (try dsimp only at hSw); obtain ⟨z1, z2, z3, z4, z5⟩ := LB.out V2 hSw; go_simp; all_goals (with_reducible rfl))
    try simp only [Act.put, List.setIfInBounds_toArray, List.set_cons_zero, List.set_cons_succ]
    refine wpAnyH_take (i := 5) (oi := ⟨some 129, Op.call { callee := Callee.builtin Builtin.len, args := #[Operand.tmp 128], argTypes := #[35] }, 3, "outright.go:44", #[⟨4, .data⟩, ⟨2, .guard⟩], some (2, true)⟩) (v := ?v5x) rfl (by kernel_rfl) (by kernel_rfl) (by kernel_rfl) (fun _ _ _ h => h) (Or.inl ⟨by rfl, ?hy5x⟩) (by assumption) ?rest5x
    case hy5x => (intro V2 hSw; (try dsimp only at hSw); go_simp; all_goals (with_reducible rfl))
    try simp only [Act.put, List.setIfInBounds_toArray, List.set_cons_zero, List.set_cons_succ]
    refine wpAnyH_take (i := 6) (oi := ⟨some 130, Op.binOp BinOp.eql 3 (Operand.tmp 129) (Operand.const (Value.int IntKind.i64 0)) 3, 4, "outright.go:44", #[⟨5, .data⟩, ⟨2, .guard⟩], some (2, true)⟩) (v := .bool true) rfl (by kernel_rfl) (by kernel_rfl) (by kernel_rfl) (fun _ _ _ h => h) (Or.inl ⟨by rfl, ?hy6x⟩) (by assumption) ?rest6x
    case hy6x => (intro V2 hSw; (try dsimp only at hSw); go_simp; all_goals (with_reducible rfl))
    try simp only [Act.put, List.setIfInBounds_toArray, List.set_cons_zero, List.set_cons_succ]
    refine wpAnyH_take (i := 7) (oi := ⟨some 131, Op.pick (Operand.tmp 126) (Operand.tmp 130) (Operand.const (Value.bool false)), 4, "outright.go:44", #[⟨2, .data⟩, ⟨6, .data⟩], none⟩) (v := .bool true) rfl (by kernel_rfl) (by kernel_rfl) (by kernel_rfl) (fun _ _ _ h => h) (Or.inl ⟨by rfl, ?hy7x⟩) (by assumption) ?rest7x
    case hy7x => (intro V2 hSw; (try dsimp only at hSw); go_simp; all_goals (with_reducible rfl))
    try simp only [Act.put, List.setIfInBounds_toArray, List.set_cons_zero, List.set_cons_succ]
    refine wpAnyH_take (i := 8) (oi := ⟨some 132, Op.move (Operand.tmp 131), 4, "outright.go:44", #[⟨7, .data⟩, ⟨2, .chain⟩], none⟩) (v := ?v8x) rfl (by kernel_rfl) (by kernel_rfl) (by kernel_rfl) (fun _ _ _ h => h) (Or.inl ⟨by rfl, ?hy8x⟩) (by assumption) ?rest8x
    case hy8x => (intro V2 hSw; (try dsimp only at hSw); go_simp; all_goals (with_reducible rfl))
    try simp only [Act.put, List.setIfInBounds_toArray, List.set_cons_zero, List.set_cons_succ]
    refine wpAnyH_take (i := 9) (oi := ⟨some 133, Op.fieldAddr 40 (Operand.tmp 12) 1, 0, "outright.go:44", #[⟨8, .guard⟩], some (8, true)⟩) (v := ?v9x) rfl (by kernel_rfl) (by kernel_rfl) (by kernel_rfl) (fun _ _ _ h => h) (Or.inl ⟨by rfl, ?hy9x⟩) (by assumption) ?rest9x
    case hy9x => (intro V2 hSw; (try dsimp only at hSw); go_simp; all_goals (with_reducible rfl))
    try simp only [Act.put, List.setIfInBounds_toArray, List.set_cons_zero, List.set_cons_succ]
    refine wpAnyH_take (i := 10) (oi := ⟨some 134, Op.load 26 (Operand.tmp 133), 26, "outright.go:44", #[⟨9, .data⟩, ⟨8, .guard⟩], some (8, true)⟩) (v := ?v10x) rfl (by kernel_rfl) (by kernel_rfl) (by kernel_rfl) (fun _ _ _ h => h) (Or.inl ⟨by rfl, ?hy10x⟩) (by assumption) ?rest10x
    case hy10x => (intro V2 hSw; (try dsimp only at hSw); obtain ⟨z1, z2, z3, z4, z5⟩ := LB.out V2 hSw; go_simp; all_goals (with_reducible rfl))
    try simp only [Act.put, List.setIfInBounds_toArray, List.set_cons_zero, List.set_cons_succ]
    refine wpAnyH_ready (rs := [11]) (by kernel_rfl) (by simp) ?_
    refine AllReadyH.cons (o := ⟨some 135, Op.call { callee := Callee.value (Operand.func 57), args := #[Operand.const (Value.int IntKind.i64 15)], argTypes := #[3] }, 26, "outright.go:44", #[⟨8, .chain⟩, ⟨8, .guard⟩], some (8, true)⟩) rfl (fun K hK => ?_) AllReadyH.nil
    go_simp
    refine (at13_c 15 _).mono ?_
    rintro e ub ⟨rfl, hub⟩
    refine hK.out _ _ (hS.keep hub) (fun hS => ?_)
    clear hK K
    try simp only [Act.put, List.setIfInBounds_toArray, List.set_cons_zero, List.set_cons_succ]
    refine wpAnyH_take (i := 12) (oi := ⟨some 136, Op.binOp BinOp.eql 26 (Operand.tmp 134) (Operand.tmp 135) 26, 4, "outright.go:44", #[⟨10, .data⟩, ⟨11, .data⟩, ⟨8, .guard⟩], some (8, true)⟩) (v := .bool true) rfl (by kernel_rfl) (by kernel_rfl) (by kernel_rfl) (fun _ _ _ h => h) (Or.inl ⟨by rfl, ?hy12x⟩) (by assumption) ?rest12x
    case hy12x => (intro V2 hSw; (try dsimp only at hSw); go_simp; all_goals (with_reducible rfl))
    try simp only [Act.put, List.setIfInBounds_toArray, List.set_cons_zero, List.set_cons_succ]
    refine wpAnyH_take (i := 13) (oi := ⟨some 137, Op.pick (Operand.tmp 132) (Operand.tmp 136) (Operand.const (Value.bool false)), 4, "outright.go:44", #[⟨8, .data⟩, ⟨12, .data⟩], none⟩) (v := .bool true) rfl (by kernel_rfl) (by kernel_rfl) (by kernel_rfl) (fun _ _ _ h => h) (Or.inl ⟨by rfl, ?hy13x⟩) (by assumption) ?rest13x
    case hy13x => (intro V2 hSw; (try dsimp only at hSw); go_simp; all_goals (with_reducible rfl))
    try simp only [Act.put, List.setIfInBounds_toArray, List.set_cons_zero, List.set_cons_succ]
    refine wpAnyH_take (i := 14) (oi := ⟨some 138, Op.move (Operand.tmp 137), 4, "outright.go:44", #[⟨13, .data⟩, ⟨11, .chain⟩], none⟩) (v := ?v14x) rfl (by kernel_rfl) (by kernel_rfl) (by kernel_rfl) (fun _ _ _ h => h) (Or.inl ⟨by rfl, ?hy14x⟩) (by assumption) ?rest14x
    case hy14x => (intro V2 hSw; (try dsimp only at hSw); go_simp; all_goals (with_reducible rfl))
    try simp only [Act.put, List.setIfInBounds_toArray, List.set_cons_zero, List.set_cons_succ]
    refine wpAnyH_take (i := 15) (oi := ⟨some 139, Op.move (Operand.tmp 15), 41, "outright.go:44", #[⟨14, .guard⟩], some (14, true)⟩) (v := ?v15x) rfl (by kernel_rfl) (by kernel_rfl) (by kernel_rfl) (fun _ _ _ h => h) (Or.inl ⟨by rfl, ?hy15x⟩) (by assumption) ?rest15x
    case hy15x => (intro V2 hSw; (try dsimp only at hSw); go_simp; all_goals (with_reducible rfl))
    try simp only [Act.put, List.setIfInBounds_toArray, List.set_cons_zero, List.set_cons_succ]
    refine wpAnyH_take (i := 16) (oi := ⟨some 140, Op.binOp BinOp.eql 41 (Operand.tmp 139) (Operand.const (Value.int IntKind.i64 201)) 41, 4, "outright.go:44", #[⟨15, .data⟩, ⟨14, .guard⟩], some (14, true)⟩) (v := .bool true) rfl (by kernel_rfl) (by kernel_rfl) (by kernel_rfl) (fun _ _ _ h => h) (Or.inl ⟨by rfl, ?hy16x⟩) (by assumption) ?rest16x
    case hy16x => (intro V2 hSw; (try dsimp only at hSw); go_simp; all_goals (with_reducible rfl))
    try simp only [Act.put, List.setIfInBounds_toArray, List.set_cons_zero, List.set_cons_succ]
    refine wpAnyH_take (i := 17) (oi := ⟨some 141, Op.pick (Operand.tmp 138) (Operand.tmp 140) (Operand.const (Value.bool false)), 4, "outright.go:44", #[⟨14, .data⟩, ⟨16, .data⟩], none⟩) (v := .bool true) rfl (by kernel_rfl) (by kernel_rfl) (by kernel_rfl) (fun _ _ _ h => h) (Or.inl ⟨by rfl, ?hy17x⟩) (by assumption) ?rest17x
    case hy17x => (intro V2 hSw; (try dsimp only at hSw); go_simp; all_goals (with_reducible rfl))
    try simp only [Act.put, List.setIfInBounds_toArray, List.set_cons_zero, List.set_cons_succ]
    refine wpAnyH_take (i := 18) (oi := ⟨some 142, Op.move (Operand.tmp 141), 4, "outright.go:44", #[⟨17, .data⟩, ⟨14, .chain⟩], none⟩) (v := ?v18x) rfl (by kernel_rfl) (by kernel_rfl) (by kernel_rfl) (fun _ _ _ h => h) (Or.inl ⟨by rfl, ?hy18x⟩) (by assumption) ?rest18x
    case hy18x => (intro V2 hSw; (try dsimp only at hSw); go_simp; all_goals (with_reducible rfl))
    try simp only [Act.put, List.setIfInBounds_toArray, List.set_cons_zero, List.set_cons_succ]
    refine wpAnyH_take (i := 19) (oi := ⟨some 143, Op.move (Operand.tmp 18), 41, "outright.go:44", #[⟨18, .guard⟩], some (18, true)⟩) (v := ?v19x) rfl (by kernel_rfl) (by kernel_rfl) (by kernel_rfl) (fun _ _ _ h => h) (Or.inl ⟨by rfl, ?hy19x⟩) (by assumption) ?rest19x
    case hy19x => (intro V2 hSw; (try dsimp only at hSw); go_simp; all_goals (with_reducible rfl))
    try simp only [Act.put, List.setIfInBounds_toArray, List.set_cons_zero, List.set_cons_succ]
    refine wpAnyH_take (i := 20) (oi := ⟨some 144, Op.binOp BinOp.eql 41 (Operand.tmp 143) (Operand.const (Value.int IntKind.i64 120)) 41, 4, "outright.go:44", #[⟨19, .data⟩, ⟨18, .guard⟩], some (18, true)⟩) (v := .bool true) rfl (by kernel_rfl) (by kernel_rfl) (by kernel_rfl) (fun _ _ _ h => h) (Or.inl ⟨by rfl, ?hy20x⟩) (by assumption) ?rest20x
    case hy20x => (intro V2 hSw; (try dsimp only at hSw); go_simp; all_goals (with_reducible rfl))
    try simp only [Act.put, List.setIfInBounds_toArray, List.set_cons_zero, List.set_cons_succ]
    refine wpAnyH_take (i := 21) (oi := ⟨some 145, Op.pick (Operand.tmp 142) (Operand.tmp 144) (Operand.const (Value.bool false)), 4, "outright.go:44", #[⟨18, .data⟩, ⟨20, .data⟩], none⟩) (v := .bool true) rfl (by kernel_rfl) (by kernel_rfl) (by kernel_rfl) (fun _ _ _ h => h) (Or.inl ⟨by rfl, ?hy21x⟩) (by assumption) ?rest21x
    case hy21x => (intro V2 hSw; (try dsimp only at hSw); go_simp; all_goals (with_reducible rfl))
    try simp only [Act.put, List.setIfInBounds_toArray, List.set_cons_zero, List.set_cons_succ]
    refine wpAnyH_take (i := 22) (oi := ⟨some 146, Op.move (Operand.tmp 145), 4, "outright.go:44", #[⟨21, .data⟩, ⟨18, .chain⟩], none⟩) (v := ?v22x) rfl (by kernel_rfl) (by kernel_rfl) (by kernel_rfl) (fun _ _ _ h => h) (Or.inl ⟨by rfl, ?hy22x⟩) (by assumption) ?rest22x
    case hy22x => (intro V2 hSw; (try dsimp only at hSw); go_simp; all_goals (with_reducible rfl))
    try simp only [Act.put, List.setIfInBounds_toArray, List.set_cons_zero, List.set_cons_succ]
    refine wpAnyH_take (i := 23) (oi := ⟨some 147, Op.fieldAddr 40 (Operand.tmp 17) 2, 0, "outright.go:44", #[⟨22, .guard⟩], some (22, true)⟩) (v := ?v23x) rfl (by kernel_rfl) (by kernel_rfl) (by kernel_rfl) (fun _ _ _ h => h) (Or.inl ⟨by rfl, ?hy23x⟩) (by assumption) ?rest23x
    case hy23x => (intro V2 hSw; (try dsimp only at hSw); go_simp; all_goals (with_reducible rfl))
    try simp only [Act.put, List.setIfInBounds_toArray, List.set_cons_zero, List.set_cons_succ]
    refine wpAnyH_take (i := 24) (oi := ⟨some 148, Op.fieldAddr 38 (Operand.tmp 147) 0, 0, "outright.go:44", #[⟨23, .data⟩, ⟨22, .guard⟩], some (22, true)⟩) (v := ?v24x) rfl (by kernel_rfl) (by kernel_rfl) (by kernel_rfl) (fun _ _ _ h => h) (Or.inl ⟨by rfl, ?hy24x⟩) (by assumption) ?rest24x
    case hy24x => (intro V2 hSw; (try dsimp only at hSw); go_simp; all_goals (with_reducible rfl))
    try simp only [Act.put, List.setIfInBounds_toArray, List.set_cons_zero, List.set_cons_succ]
    refine wpAnyH_take (i := 25) (oi := ⟨some 149, Op.load 3 (Operand.tmp 148), 3, "outright.go:44", #[⟨24, .data⟩, ⟨22, .guard⟩], some (22, true)⟩) (v := ?v25x) rfl (by kernel_rfl) (by kernel_rfl) (by kernel_rfl) (fun _ _ _ h => h) (Or.inl ⟨by rfl, ?hy25x⟩) (by assumption) ?rest25x
    case hy25x => (intro V2 hSw; (try dsimp only at hSw); obtain ⟨z1, z2, z3, z4, z5⟩ := LB.out V2 hSw; go_simp; all_goals (with_reducible rfl))
    try simp only [Act.put, List.setIfInBounds_toArray, List.set_cons_zero, List.set_cons_succ]
    refine wpAnyH_take (i := 26) (oi := ⟨some 150, Op.binOp BinOp.eql 3 (Operand.tmp 149) (Operand.const (Value.int IntKind.i64 7)) 3, 4, "outright.go:44", #[⟨25, .data⟩, ⟨22, .guard⟩], some (22, true)⟩) (v := .bool true) rfl (by kernel_rfl) (by kernel_rfl) (by kernel_rfl) (fun _ _ _ h => h) (Or.inl ⟨by rfl, ?hy26x⟩) (by assumption) ?rest26x
    case hy26x => (intro V2 hSw; (try dsimp only at hSw); go_simp; all_goals (with_reducible rfl))
    try simp only [Act.put, List.setIfInBounds_toArray, List.set_cons_zero, List.set_cons_succ]
    refine wpAnyH_take (i := 27) (oi := ⟨some 151, Op.pick (Operand.tmp 146) (Operand.tmp 150) (Operand.const (Value.bool false)), 4, "outright.go:44", #[⟨22, .data⟩, ⟨26, .data⟩], none⟩) (v := .bool true) rfl (by kernel_rfl) (by kernel_rfl) (by kernel_rfl) (fun _ _ _ h => h) (Or.inl ⟨by rfl, ?hy27x⟩) (by assumption) ?rest27x
    case hy27x => (intro V2 hSw; (try dsimp only at hSw); go_simp; all_goals (with_reducible rfl))
    try simp only [Act.put, List.setIfInBounds_toArray, List.set_cons_zero, List.set_cons_succ]
    refine wpAnyH_take (i := 28) (oi := ⟨some 152, Op.move (Operand.tmp 151), 4, "outright.go:44", #[⟨27, .data⟩, ⟨22, .chain⟩], none⟩) (v := ?v28x) rfl (by kernel_rfl) (by kernel_rfl) (by kernel_rfl) (fun _ _ _ h => h) (Or.inl ⟨by rfl, ?hy28x⟩) (by assumption) ?rest28x
    case hy28x => (intro V2 hSw; (try dsimp only at hSw); go_simp; all_goals (with_reducible rfl))
    try simp only [Act.put, List.setIfInBounds_toArray, List.set_cons_zero, List.set_cons_succ]
    refine wpAnyH_take (i := 29) (oi := ⟨some 153, Op.fieldAddr 40 (Operand.tmp 17) 0, 0, "outright.go:44", #[⟨28, .guard⟩], some (28, true)⟩) (v := ?v29x) rfl (by kernel_rfl) (by kernel_rfl) (by kernel_rfl) (fun _ _ _ h => h) (Or.inl ⟨by rfl, ?hy29x⟩) (by assumption) ?rest29x
    case hy29x => (intro V2 hSw; (try dsimp only at hSw); go_simp; all_goals (with_reducible rfl))
    try simp only [Act.put, List.setIfInBounds_toArray, List.set_cons_zero, List.set_cons_succ]
    refine wpAnyH_take (i := 30) (oi := ⟨some 154, Op.load 35 (Operand.tmp 153), 35, "outright.go:44", #[⟨29, .data⟩, ⟨28, .guard⟩], some (28, true)⟩) (v := ?v30x) rfl (by kernel_rfl) (by kernel_rfl) (by kernel_rfl) (fun _ _ _ h => h) (Or.inl ⟨by rfl, ?hy30x⟩) (by assumption) ?rest30x
    case hy30x => (intro V2 hSw; (try dsimp only at hSw); obtain ⟨z1, z2, z3, z4, z5⟩ := LB.out V2 hSw; go_simp; all_goals (with_reducible rfl))
    try simp only [Act.put, List.setIfInBounds_toArray, List.set_cons_zero, List.set_cons_succ]
    refine wpAnyH_take (i := 31) (oi := ⟨some 155, Op.call { callee := Callee.builtin Builtin.len, args := #[Operand.tmp 154], argTypes := #[35] }, 3, "outright.go:44", #[⟨30, .data⟩, ⟨28, .guard⟩], some (28, true)⟩) (v := ?v31x) rfl (by kernel_rfl) (by kernel_rfl) (by kernel_rfl) (fun _ _ _ h => h) (Or.inl ⟨by rfl, ?hy31x⟩) (by assumption) ?rest31x
    case hy31x => (intro V2 hSw; (try dsimp only at hSw); go_simp; all_goals (with_reducible rfl))
    try simp only [Act.put, List.setIfInBounds_toArray, List.set_cons_zero, List.set_cons_succ]
    refine wpAnyH_take (i := 32) (oi := ⟨some 156, Op.binOp BinOp.eql 3 (Operand.tmp 155) (Operand.const (Value.int IntKind.i64 0)) 3, 4, "outright.go:44", #[⟨31, .data⟩, ⟨28, .guard⟩], some (28, true)⟩) (v := .bool true) rfl (by kernel_rfl) (by kernel_rfl) (by kernel_rfl) (fun _ _ _ h => h) (Or.inl ⟨by rfl, ?hy32x⟩) (by assumption) ?rest32x
    case hy32x => (intro V2 hSw; (try dsimp only at hSw); go_simp; all_goals (with_reducible rfl))
    try simp only [Act.put, List.setIfInBounds_toArray, List.set_cons_zero, List.set_cons_succ]
    refine wpAnyH_take (i := 33) (oi := ⟨some 157, Op.pick (Operand.tmp 152) (Operand.tmp 156) (Operand.const (Value.bool false)), 4, "outright.go:44", #[⟨28, .data⟩, ⟨32, .data⟩], none⟩) (v := .bool true) rfl (by kernel_rfl) (by kernel_rfl) (by kernel_rfl) (fun _ _ _ h => h) (Or.inl ⟨by rfl, ?hy33x⟩) (by assumption) ?rest33x
    case hy33x => (intro V2 hSw; (try dsimp only at hSw); go_simp; all_goals (with_reducible rfl))
    try simp only [Act.put, List.setIfInBounds_toArray, List.set_cons_zero, List.set_cons_succ]
    refine wpAnyH_take (i := 34) (oi := ⟨some 0, Op.assign (Operand.tmp 157), 4, "outright.go:44", #[⟨33, .data⟩, ⟨28, .chain⟩, ⟨0, .phase⟩, ⟨1, .phase⟩, ⟨2, .phase⟩, ⟨3, .phase⟩, ⟨4, .phase⟩, ⟨5, .phase⟩, ⟨6, .phase⟩, ⟨7, .phase⟩, ⟨8, .phase⟩, ⟨9, .phase⟩, ⟨10, .phase⟩, ⟨11, .phase⟩, ⟨12, .phase⟩, ⟨13, .phase⟩, ⟨14, .phase⟩, ⟨15, .phase⟩, ⟨16, .phase⟩, ⟨17, .phase⟩, ⟨18, .phase⟩, ⟨19, .phase⟩, ⟨20, .phase⟩, ⟨21, .phase⟩, ⟨22, .phase⟩, ⟨23, .phase⟩, ⟨24, .phase⟩, ⟨25, .phase⟩, ⟨26, .phase⟩, ⟨27, .phase⟩, ⟨28, .phase⟩, ⟨29, .phase⟩, ⟨30, .phase⟩, ⟨31, .phase⟩, ⟨32, .phase⟩, ⟨33, .phase⟩], none⟩) (v := ?v34x) rfl (by kernel_rfl) (by kernel_rfl) (by kernel_rfl) (fun _ _ _ h => h) (Or.inl ⟨by rfl, ?hy34x⟩) (by assumption) ?rest34x
    case hy34x => (intro V2 hSw; (try dsimp only at hSw); go_simp; all_goals (with_reducible rfl))
    try simp only [Act.put, List.setIfInBounds_toArray, List.set_cons_zero, List.set_cons_succ]
    refine wpAnyH_done (by kernel_rfl) ?_ _
    have hfin := hS.bel
    go_wp2_with fail
    go_ret
    exact ⟨rfl, hfin⟩
end Go.Proofs.YtgccichmdddbpaaGreatDoor
