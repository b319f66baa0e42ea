/-
  Layer 13, the statements' put (written by wip/genpord.py).
-/
import Derived.Test.YtgccichmdddbpaaGreatDoorPA33
import Derived.Test.YtgccichmdddbpaaGreatDoorPA37
import Derived.Test.YtgccichmdddbpaaGreatDoorPA39
import Derived.Test.YtgccichmdddbpaaGreatDoorPA15
import Derived.Test.YtgccichmdddbpaaGreatDoorPA18
set_option linter.unusedVariables false
set_option linter.unusedSimpArgs false
set_option maxRecDepth 100000
namespace Go.Proofs.YtgccichmdddbpaaGreatDoor
open Go.RowKit

theorem ret_dn3 {fn : Func} {Q : Ending → World → Prop} {a : Act} {w : World} {p u v : Tmp} {g : Nat} {cs : Array Value} (hr : fn.results = #[.tmp v, .cell p 40, .tmp u]) (hp : a.tmps.getD p undef = .pointer (some ⟨g, 0, none⟩))
    (hB : Blk w g 40 cs) (hs : cs.size = 12) (hd : a.defers = []) (hR : Q (.returned (.tuple #[a.tmps.getD v undef, .agg cs, a.tmps.getD u undef])) w) : bodyPost Tryz.prog fn Q .ret a w := by
  refine bodyPost_ret ?_ hd hR
  have hp' : a.tmps[p]?.getD undef = .pointer (some ⟨g, 0, none⟩) := by simpa using hp
  simp [results, hr, hp', asAddr, run_loadVar_row w g 40 40 _ (0, 0) _ hB Tryz.underlying40 rfl (by rw [hs]; kernel_rfl)]
/-- What law13's put answers. -/
def AnsP (key : ByteArray) (r : List Rw) (o : Dn × Int) (w : World) (L : List As) (e : Ending) (w' : World) : Prop :=
  ∃ qt AL nL cL A n c, e = .returned (.tuple #[pt qt, dnv o.1 (.slice AL nL cL) (.slice A n c), .int .i64 o.2]) ∧ nL = (opsD key o.1).length ∧ Has w (tbA qt (if o.2 = 0 then rapp r (opsD key o.1) else r) :: L) w'
theorem Has.pickP {w V : World} {A B C D E G : As} {T : List As} (h : Has w (A :: B :: C :: D :: E :: G :: T) V) : Has w (B :: E :: T) V := by
  have h1 := h.tail.perm (List.Perm.cons B (List.perm_middle (l₁ := [C, D]) (a := E) (l₂ := G :: T)))
  have h2 := h1.perm (show (B :: E :: ([C, D] ++ G :: T)).Perm ([C, D, G] ++ (B :: E :: T)) from by
    refine List.Perm.trans ?_ (List.perm_append_comm_assoc [B, E] [C, D, G] T)
    exact List.Perm.refl _)
  exact Has.dropN [C, D, G] h2
set_option maxHeartbeats 8000000 in
theorem put13_c {w V : World} {T : List As} {p N : Nat} {r : List Rw} (h : Has w (tbA p r :: T) V) (hr : ROk N r) (hN : N ≤ 1000000) (hM : MaxL w) (key : ByteArray) (q : Int) (s : ByteArray) (d : Bool) (x : Tx) (m1 m2 : Int) (o : Dn × Int) (hp : pputC r key ⟨q, s, d⟩ x (m1, m2) = o) :
    Calls Tryz.prog 24 #[pt p, .agg (askc key q s d x m1 m2)] V fun e w' => AnsP key r o w (tbA p r :: T) e w' := by
  have hmix : Tryz.prog.follows .mixedOrders = true := by kernel_rfl
  obtain ⟨dd, kk⟩ := o
  have HOZ := Lib.hid (opsD_sz hp)
  have HOL := Lib.hid (opsD_len key dd)
  have h1 := (h.newBlk 30 (askc key q s d x m1 m2)).newBlk 40 #[.slice none 0 0, .int .i64 0, .int .i64 0, .int .i64 0, .int .i64 0, .int .i64 0, .string ⟨#[]⟩, .int .i64 0, .int .i64 0, .int .i64 0, .int .i64 0, .slice none 0 0]
  simp only [World.size_alloc] at h1
  have h2 := h1.perm (List.perm_middle (l₁ := [_, _]))
  obtain ⟨F, hA, _⟩ := h2.get
  have HCP := Lib.hid (tb_copy hA hr.szs (by have := hr.len; omega))
  have H2 := Lib.hid h2
  have HPP := Lib.hid (fun (T2 : List As) (W : World) (hh : Has w (tbA p r :: T2) W) => (show Calls Tryz.prog 12 #[pt p, .string key, .agg #[.int .i64 q, .string s, .bool d], txv x, sv m1 m2] W fun e w' => AnsD key (dd, kk) w (tbA p r :: T2) e w' from hp ▸ poPut hh hr (by omega) hM key ⟨q, s, d⟩ x m1 m2))
  have HR := Lib.hid hr
  unfold AnsP
  simp only
  clear h h1 h2 hA hr hp
  by_cases hk : kk = 0
  · subst hk
    rw [if_pos rfl]
    go_enter Tryz.func24, Tryz.ntmps24
    go_wp2_with fail
    refine HCP.out.mono ?_
    rintro e w1 ⟨qt, rfl, hq⟩
    have hj := H2.out.join hq
    have H3 := Lib.hid (show Has w (tbA p r :: tbA qt r :: blkA (V.heap.size + 1) 40 #[.slice none 0 0, .int .i64 0, .int .i64 0, .int .i64 0, .int .i64 0, .int .i64 0, .string ⟨#[]⟩, .int .i64 0, .int .i64 0, .int .i64 0, .int .i64 0, .slice none 0 0] :: blkA V.heap.size 30 (askc key q s d x m1 m2) :: T) w1 from (show Has w (tbA qt r :: tbA p r :: blkA (V.heap.size + 1) 40 #[.slice none 0 0, .int .i64 0, .int .i64 0, .int .i64 0, .int .i64 0, .int .i64 0, .string ⟨#[]⟩, .int .i64 0, .int .i64 0, .int .i64 0, .int .i64 0, .slice none 0 0] :: blkA V.heap.size 30 (askc key q s d x m1 m2) :: T) w1 from hj).swap)
    have b3 := H3.out.blkAt (g := V.heap.size) (t := 30) (cs := (askc key q s d x m1 m2)) (by simp)
    have a0 := b3.cell 0
    have a1 := b3.cell 1
    have a2 := b3.cell 2
    have a3 := b3.cell 3
    have a4 := b3.cell 4
    have a5 := b3.cell 5
    have a6 := b3.cell 6
    have a7 := b3.cell 7
    have a8 := b3.cell 8
    have a9 := b3.cell 9
    have a10 := b3.cell 10
    have a11 := b3.cell 11
    have a12 := b3.cell 12
    have a13 := b3.cell 13
    have a14 := b3.cell 14
    have a15 := b3.cell 15
    have a16 := b3.cell 16
    have a17 := b3.cell 17
    simp at a0 a1 a2 a3 a4 a5 a6 a7 a8 a9 a10 a11 a12 a13 a14 a15 a16 a17
    clear hj hq b3 HCP
    go_wp2_with fail
    refine (HPP.out _ _ H3.out).mono ?_
    rintro e w2 ⟨AL, nL, cL, A, n, c, rfl, hnL, h4, -, -⟩
    have HNL := Lib.hid hnL
    have HLE := Lib.hid (show nL ≤ 1 by rw [hnL]; exact HOL.out)
    clear hnL
    have h5 := h4.newBlk 40 (dnc dd (.slice AL nL cL) (.slice A n c))
    have H5 := Lib.hid (show Has w (tbA qt r :: opA (.slice AL nL cL) (opsD key dd) :: blkA w2.heap.size 40 (dnc dd (.slice AL nL cL) (.slice A n c)) :: tbA p r :: blkA (V.heap.size + 1) 40 #[.slice none 0 0, .int .i64 0, .int .i64 0, .int .i64 0, .int .i64 0, .int .i64 0, .string ⟨#[]⟩, .int .i64 0, .int .i64 0, .int .i64 0, .int .i64 0, .slice none 0 0] :: blkA V.heap.size 30 (askc key q s d x m1 m2) :: T) _ from (h5.perm (List.perm_middle (l₁ := [_, _, _]))).perm (List.Perm.cons _ (List.Perm.swap _ _ _)))
    have b8 := h5.blk.1
    have e0 := b8.cell 0
    simp at e0
    clear h4 h5 b8
    go_wp2_with fail
    refine (H5.out.tbApplyB HR.out (by omega) AL nL cL (opsD key dd) (fun W F2 hb => opA_at hb HNL.out) (by have := HLE.out; omega) HOZ.out).mono ?_
    rintro e w6 ⟨rfl, h6, -⟩
    have HX5 := Lib.hid (h6.perm (List.perm_middle (l₁ := [_, _, _, _])))
    clear h6 e0
    go_upto_region 5 with fail
    obtain ⟨V5, hV5⟩ : ∃ V5, w6 = V5 := ⟨_, rfl⟩
    rw [hV5] at HX5 ⊢
    clear hV5
    have HX5a := HX5
    have HX5 := Lib.hid HX5a.out.drew
    refine wp_region_held_drew (S := fun V2 => ∃ cs, Has w (blkA (V.heap.size + 1) 40 cs :: tbA qt (rapp r (opsD key dd)) :: opA (.slice AL nL cL) (opsD key dd) :: blkA w2.heap.size 40 (dnc dd (.slice AL nL cL) (.slice A n c)) :: tbA p r :: blkA V.heap.size 30 (askc key q s d x m1 m2) :: T) V2) hmix (⟨_, HX5.out⟩) (fun hS => ?_)
    simp only [List.size_toArray, List.length_cons, List.length_nil, Nat.reduceAdd, Array.replicate_succ, Array.replicate_zero]
    refine wpAnyH_take (i := 0) (oi := ⟨some 31, Op.move (Operand.tmp 7), 31, "outright.go:54", #[], none⟩) (v := ?v0z) rfl (by kernel_rfl) (by kernel_rfl) (by kernel_rfl) (fun _ _ _ h => h) (Or.inl ⟨by rfl, ?hy0z⟩) (by assumption) ?rest0z
    case hy0z => (intro V2 hSw; (try dsimp only at hSw); go_simp; all_goals (with_reducible rfl))
    try simp only [Act.put, List.setIfInBounds_toArray, List.set_cons_zero, List.set_cons_succ]
    refine wpAnyH_take (i := 1) (oi := ⟨some 32, Op.load 40 (Operand.tmp 8), 40, "outright.go:54", #[{ on := 3, ground := Ground.gcOnly Departure.lateStores }], none⟩) (v := ?v1z) rfl (by kernel_rfl) (by kernel_rfl) (by kernel_rfl) (fun _ _ _ h => h) (Or.inl ⟨by rfl, ?hy1z⟩) (by assumption) ?rest1z
    case hy1z => (intro V2 hSw; (try dsimp only at hSw); obtain ⟨csw, hSw⟩ := hSw; have tq := hSw.blkAt (g := w2.heap.size) (t := 40) (cs := (dnc dd (.slice AL nL cL) (.slice A n c))) (by simp); have t0 := tq.cell 0; have t1 := tq.cell 1; have t2 := tq.cell 2; have t3 := tq.cell 3; have t4 := tq.cell 4; have t5 := tq.cell 5; have t6 := tq.cell 6; have t7 := tq.cell 7; have t8 := tq.cell 8; have t9 := tq.cell 9; have t10 := tq.cell 10; have t11 := tq.cell 11; simp at t0 t1 t2 t3 t4 t5 t6 t7 t8 t9 t10 t11; go_simp; all_goals (with_reducible rfl))
    try simp only [Act.put, List.setIfInBounds_toArray, List.set_cons_zero, List.set_cons_succ]
    refine wpAnyH_take (i := 2) (oi := ⟨some 33, Op.move (Operand.tmp 9), 41, "outright.go:54", #[{ on := 4, ground := Ground.gcOnly Departure.lateStores }], none⟩) (v := ?v2z) rfl (by kernel_rfl) (by kernel_rfl) (by kernel_rfl) (fun _ _ _ h => h) (Or.inl ⟨by rfl, ?hy2z⟩) (by assumption) ?rest2z
    case hy2z => (intro V2 hSw; (try dsimp only at hSw); go_simp; all_goals (with_reducible rfl))
    try simp only [Act.put, List.setIfInBounds_toArray, List.set_cons_zero, List.set_cons_succ]
    refine wpAnyH_take (i := 3) (oi := ⟨some 4, Op.assign (Operand.tmp 31), 31, "outright.go:54", #[⟨0, .data⟩, ⟨0, .phase⟩, { on := 1, ground := Ground.textOnly Departure.lateStores }, { on := 2, ground := Ground.textOnly Departure.lateStores }], none⟩) (v := ?v3z) rfl (by kernel_rfl) (by kernel_rfl) (by kernel_rfl) (fun _ _ _ h => h) (Or.inl ⟨by rfl, ?hy3z⟩) (by assumption) ?rest3z
    case hy3z => (intro V2 hSw; (try dsimp only at hSw); go_simp; all_goals (with_reducible rfl))
    try simp only [Act.put, List.setIfInBounds_toArray, List.set_cons_zero, List.set_cons_succ]
    refine wpAnyH_ready (rs := [4]) (by kernel_rfl) (by simp) ?_
    refine AllReadyH.cons (o := ⟨none, Op.store 40 (Operand.tmp 5) (Operand.tmp 32), 0, "outright.go:54", #[⟨1, .data⟩, ⟨3, .chain⟩, ⟨0, .phase⟩, ⟨1, .phase⟩, { on := 2, ground := Ground.textOnly Departure.lateStores }, ⟨3, .phase⟩], none⟩) rfl (fun K hK => ?_) AllReadyH.nil
    have kB := HX5.out.blk.1
    have p0 := kB.cell 0
    have f0 := kB.frozen 0
    have p1 := kB.cell 1
    have f1 := kB.frozen 1
    have p2 := kB.cell 2
    have f2 := kB.frozen 2
    have p3 := kB.cell 3
    have f3 := kB.frozen 3
    have p4 := kB.cell 4
    have f4 := kB.frozen 4
    have p5 := kB.cell 5
    have f5 := kB.frozen 5
    have p6 := kB.cell 6
    have f6 := kB.frozen 6
    have p7 := kB.cell 7
    have f7 := kB.frozen 7
    have p8 := kB.cell 8
    have f8 := kB.frozen 8
    have p9 := kB.cell 9
    have f9 := kB.frozen 9
    have p10 := kB.cell 10
    have f10 := kB.frozen 10
    have p11 := kB.cell 11
    have f11 := kB.frozen 11
    simp at p0 p1 p2 p3 p4 p5 p6 p7 p8 p9 p10 p11
    (try simp at f0 f1 f2 f3 f4 f5 f6 f7 f8 f9 f10 f11)
    have hX := (Has.all12 (v0 := .slice AL nL cL) (v1 := .int .i64 dd.a) (v2 := .int .i64 dd.b) (v3 := .int .i64 dd.way.id) (v4 := .int .i64 dd.way.ep) (v5 := .int .i64 dd.way.pr) (v6 := .string dd.way.an) (v7 := .int .i64 dd.way.sw) (v8 := .int .i64 dd.way.sl) (v9 := .int .i64 dd.way.bw) (v10 := .int .i64 dd.way.bl) (v11 := .slice A n c) HX5a.out).drew
    go_simp
    refine hK.out _ _ (⟨_, hX⟩) (fun hS => ?_)
    clear hK K
    try simp only [Act.put, List.setIfInBounds_toArray, List.set_cons_zero, List.set_cons_succ]
    have HX6 := Lib.hid hX
    clear hX kB
    refine wpAnyH_take (i := 5) (oi := ⟨some 6, Op.assign (Operand.tmp 33), 41, "outright.go:54", #[⟨2, .data⟩, ⟨4, .chain⟩, ⟨0, .phase⟩, ⟨1, .phase⟩, ⟨2, .phase⟩, ⟨3, .phase⟩, ⟨4, .phase⟩], none⟩) (v := ?v5z) rfl (by kernel_rfl) (by kernel_rfl) (by kernel_rfl) (fun _ _ _ h => h) (Or.inl ⟨by rfl, ?hy5z⟩) (by assumption) ?rest5z
    case hy5z => (intro V2 hSw; (try dsimp only at hSw); go_simp; all_goals (with_reducible rfl))
    try simp only [Act.put, List.setIfInBounds_toArray, List.set_cons_zero, List.set_cons_succ]
    refine wpAnyH_done (by kernel_rfl) ?_ _
    skip
    go_wp2_with fail
    exact ret_dn3 rfl rfl HX6.out.blk.1 rfl rfl ⟨_, AL, nL, cL, A, n, c, rfl, HNL.out, Has.pickP HX6.out⟩
  · rw [if_neg hk]
    have hk2 : (kk == 0) = false := by simpa using hk
    go_enter Tryz.func24, Tryz.ntmps24
    go_wp2_with fail
    refine HCP.out.mono ?_
    rintro e w1 ⟨qt, rfl, hq⟩
    have hj := H2.out.join hq
    have H3 := Lib.hid (show Has w (tbA p r :: tbA qt r :: blkA (V.heap.size + 1) 40 #[.slice none 0 0, .int .i64 0, .int .i64 0, .int .i64 0, .int .i64 0, .int .i64 0, .string ⟨#[]⟩, .int .i64 0, .int .i64 0, .int .i64 0, .int .i64 0, .slice none 0 0] :: blkA V.heap.size 30 (askc key q s d x m1 m2) :: T) w1 from (show Has w (tbA qt r :: tbA p r :: blkA (V.heap.size + 1) 40 #[.slice none 0 0, .int .i64 0, .int .i64 0, .int .i64 0, .int .i64 0, .int .i64 0, .string ⟨#[]⟩, .int .i64 0, .int .i64 0, .int .i64 0, .int .i64 0, .slice none 0 0] :: blkA V.heap.size 30 (askc key q s d x m1 m2) :: T) w1 from hj).swap)
    have b3 := H3.out.blkAt (g := V.heap.size) (t := 30) (cs := (askc key q s d x m1 m2)) (by simp)
    have a0 := b3.cell 0
    have a1 := b3.cell 1
    have a2 := b3.cell 2
    have a3 := b3.cell 3
    have a4 := b3.cell 4
    have a5 := b3.cell 5
    have a6 := b3.cell 6
    have a7 := b3.cell 7
    have a8 := b3.cell 8
    have a9 := b3.cell 9
    have a10 := b3.cell 10
    have a11 := b3.cell 11
    have a12 := b3.cell 12
    have a13 := b3.cell 13
    have a14 := b3.cell 14
    have a15 := b3.cell 15
    have a16 := b3.cell 16
    have a17 := b3.cell 17
    simp at a0 a1 a2 a3 a4 a5 a6 a7 a8 a9 a10 a11 a12 a13 a14 a15 a16 a17
    clear hj hq b3 HCP
    go_wp2_with fail
    refine (HPP.out _ _ H3.out).mono ?_
    rintro e w2 ⟨AL, nL, cL, A, n, c, rfl, hnL, h4, -, -⟩
    have HNL := Lib.hid hnL
    have HLE := Lib.hid (show nL ≤ 1 by rw [hnL]; exact HOL.out)
    clear hnL
    have h5 := h4.newBlk 40 (dnc dd (.slice AL nL cL) (.slice A n c))
    have HX5 := Lib.hid (show Has w (blkA (V.heap.size + 1) 40 #[.slice none 0 0, .int .i64 0, .int .i64 0, .int .i64 0, .int .i64 0, .int .i64 0, .string ⟨#[]⟩, .int .i64 0, .int .i64 0, .int .i64 0, .int .i64 0, .slice none 0 0] :: tbA qt r :: opA (.slice AL nL cL) (opsD key dd) :: blkA w2.heap.size 40 (dnc dd (.slice AL nL cL) (.slice A n c)) :: tbA p r :: blkA V.heap.size 30 (askc key q s d x m1 m2) :: T) _ from ((h5.perm (List.perm_middle (l₁ := [_, _, _]))).perm (List.Perm.cons _ (List.Perm.swap _ _ _))).perm (List.perm_middle (l₁ := [_, _, _, _])))
    clear h4 h5
    go_upto_region 5 with fail
    obtain ⟨V5, hV5⟩ : ∃ V5, (w2.alloc (.cells (dnc dd (.slice AL nL cL) (.slice A n c)) 40)) = V5 := ⟨_, rfl⟩
    rw [hV5] at HX5 ⊢
    clear hV5
    have HX5a := HX5
    have HX5 := Lib.hid HX5a.out.drew
    refine wp_region_held_drew (S := fun V2 => ∃ cs, Has w (blkA (V.heap.size + 1) 40 cs :: tbA qt r :: opA (.slice AL nL cL) (opsD key dd) :: blkA w2.heap.size 40 (dnc dd (.slice AL nL cL) (.slice A n c)) :: tbA p r :: blkA V.heap.size 30 (askc key q s d x m1 m2) :: T) V2) hmix (⟨_, HX5.out⟩) (fun hS => ?_)
    simp only [List.size_toArray, List.length_cons, List.length_nil, Nat.reduceAdd, Array.replicate_succ, Array.replicate_zero]
    refine wpAnyH_take (i := 0) (oi := ⟨some 31, Op.move (Operand.tmp 7), 31, "outright.go:54", #[], none⟩) (v := ?v0y) rfl (by kernel_rfl) (by kernel_rfl) (by kernel_rfl) (fun _ _ _ h => h) (Or.inl ⟨by rfl, ?hy0y⟩) (by assumption) ?rest0y
    case hy0y => (intro V2 hSw; (try dsimp only at hSw); go_simp; all_goals (with_reducible rfl))
    try simp only [Act.put, List.setIfInBounds_toArray, List.set_cons_zero, List.set_cons_succ]
    refine wpAnyH_take (i := 1) (oi := ⟨some 32, Op.load 40 (Operand.tmp 8), 40, "outright.go:54", #[{ on := 3, ground := Ground.gcOnly Departure.lateStores }], none⟩) (v := ?v1y) rfl (by kernel_rfl) (by kernel_rfl) (by kernel_rfl) (fun _ _ _ h => h) (Or.inl ⟨by rfl, ?hy1y⟩) (by assumption) ?rest1y
    case hy1y => (intro V2 hSw; (try dsimp only at hSw); obtain ⟨csw, hSw⟩ := hSw; have tq := hSw.blkAt (g := w2.heap.size) (t := 40) (cs := (dnc dd (.slice AL nL cL) (.slice A n c))) (by simp); have t0 := tq.cell 0; have t1 := tq.cell 1; have t2 := tq.cell 2; have t3 := tq.cell 3; have t4 := tq.cell 4; have t5 := tq.cell 5; have t6 := tq.cell 6; have t7 := tq.cell 7; have t8 := tq.cell 8; have t9 := tq.cell 9; have t10 := tq.cell 10; have t11 := tq.cell 11; simp at t0 t1 t2 t3 t4 t5 t6 t7 t8 t9 t10 t11; go_simp; all_goals (with_reducible rfl))
    try simp only [Act.put, List.setIfInBounds_toArray, List.set_cons_zero, List.set_cons_succ]
    refine wpAnyH_take (i := 2) (oi := ⟨some 33, Op.move (Operand.tmp 9), 41, "outright.go:54", #[{ on := 4, ground := Ground.gcOnly Departure.lateStores }], none⟩) (v := ?v2y) rfl (by kernel_rfl) (by kernel_rfl) (by kernel_rfl) (fun _ _ _ h => h) (Or.inl ⟨by rfl, ?hy2y⟩) (by assumption) ?rest2y
    case hy2y => (intro V2 hSw; (try dsimp only at hSw); go_simp; all_goals (with_reducible rfl))
    try simp only [Act.put, List.setIfInBounds_toArray, List.set_cons_zero, List.set_cons_succ]
    refine wpAnyH_take (i := 3) (oi := ⟨some 4, Op.assign (Operand.tmp 31), 31, "outright.go:54", #[⟨0, .data⟩, ⟨0, .phase⟩, { on := 1, ground := Ground.textOnly Departure.lateStores }, { on := 2, ground := Ground.textOnly Departure.lateStores }], none⟩) (v := ?v3y) rfl (by kernel_rfl) (by kernel_rfl) (by kernel_rfl) (fun _ _ _ h => h) (Or.inl ⟨by rfl, ?hy3y⟩) (by assumption) ?rest3y
    case hy3y => (intro V2 hSw; (try dsimp only at hSw); go_simp; all_goals (with_reducible rfl))
    try simp only [Act.put, List.setIfInBounds_toArray, List.set_cons_zero, List.set_cons_succ]
    refine wpAnyH_ready (rs := [4]) (by kernel_rfl) (by simp) ?_
    refine AllReadyH.cons (o := ⟨none, Op.store 40 (Operand.tmp 5) (Operand.tmp 32), 0, "outright.go:54", #[⟨1, .data⟩, ⟨3, .chain⟩, ⟨0, .phase⟩, ⟨1, .phase⟩, { on := 2, ground := Ground.textOnly Departure.lateStores }, ⟨3, .phase⟩], none⟩) rfl (fun K hK => ?_) AllReadyH.nil
    have kB := HX5.out.blk.1
    have p0 := kB.cell 0
    have f0 := kB.frozen 0
    have p1 := kB.cell 1
    have f1 := kB.frozen 1
    have p2 := kB.cell 2
    have f2 := kB.frozen 2
    have p3 := kB.cell 3
    have f3 := kB.frozen 3
    have p4 := kB.cell 4
    have f4 := kB.frozen 4
    have p5 := kB.cell 5
    have f5 := kB.frozen 5
    have p6 := kB.cell 6
    have f6 := kB.frozen 6
    have p7 := kB.cell 7
    have f7 := kB.frozen 7
    have p8 := kB.cell 8
    have f8 := kB.frozen 8
    have p9 := kB.cell 9
    have f9 := kB.frozen 9
    have p10 := kB.cell 10
    have f10 := kB.frozen 10
    have p11 := kB.cell 11
    have f11 := kB.frozen 11
    simp at p0 p1 p2 p3 p4 p5 p6 p7 p8 p9 p10 p11
    (try simp at f0 f1 f2 f3 f4 f5 f6 f7 f8 f9 f10 f11)
    have hX := (Has.all12 (v0 := .slice AL nL cL) (v1 := .int .i64 dd.a) (v2 := .int .i64 dd.b) (v3 := .int .i64 dd.way.id) (v4 := .int .i64 dd.way.ep) (v5 := .int .i64 dd.way.pr) (v6 := .string dd.way.an) (v7 := .int .i64 dd.way.sw) (v8 := .int .i64 dd.way.sl) (v9 := .int .i64 dd.way.bw) (v10 := .int .i64 dd.way.bl) (v11 := .slice A n c) HX5a.out).drew
    go_simp
    refine hK.out _ _ (⟨_, hX⟩) (fun hS => ?_)
    clear hK K
    try simp only [Act.put, List.setIfInBounds_toArray, List.set_cons_zero, List.set_cons_succ]
    have HX6 := Lib.hid hX
    clear hX kB
    refine wpAnyH_take (i := 5) (oi := ⟨some 6, Op.assign (Operand.tmp 33), 41, "outright.go:54", #[⟨2, .data⟩, ⟨4, .chain⟩, ⟨0, .phase⟩, ⟨1, .phase⟩, ⟨2, .phase⟩, ⟨3, .phase⟩, ⟨4, .phase⟩], none⟩) (v := ?v5y) rfl (by kernel_rfl) (by kernel_rfl) (by kernel_rfl) (fun _ _ _ h => h) (Or.inl ⟨by rfl, ?hy5y⟩) (by assumption) ?rest5y
    case hy5y => (intro V2 hSw; (try dsimp only at hSw); go_simp; all_goals (with_reducible rfl))
    try simp only [Act.put, List.setIfInBounds_toArray, List.set_cons_zero, List.set_cons_succ]
    refine wpAnyH_done (by kernel_rfl) ?_ _
    skip
    go_wp2_with fail
    exact ret_dn3 rfl rfl HX6.out.blk.1 rfl rfl ⟨_, AL, nL, cL, A, n, c, rfl, HNL.out, Has.pickP HX6.out⟩
end Go.Proofs.YtgccichmdddbpaaGreatDoor
