/-
  Layer 12, the code: Get (written by wip/genpkget.py).
-/
import Derived.Test.YtldbmogondmgmaaGreatDoorSS39
import Derived.Test.YtldbmogondmgmaaGreatDoorSS38
import Derived.Test.YtldbmogondmgmaaGreatDoorSS31
set_option linter.unusedVariables false
set_option linter.unusedSimpArgs false
set_option maxRecDepth 100000
namespace Go.Proofs.YtldbmogondmgmaaGreatDoor
open Go.RowKit

theorem chk_no {ok : Bool} {x : Tx} {l : Int × Int} (h : chkP ok x l = 0) : ok = true ∧ mayX x = true := by
  unfold chkP at h
  split at h
  · cases h
  · rename_i hh
    cases ok <;> cases hx : mayX x <;> simp [hx] at hh ⊢
set_option maxHeartbeats 8000000 in
theorem pkGet {w V : World} {T : List As} {p N : Nat} {r : List Rw} (h : Has w (tbA p r :: T) V) (hr : ROk N r) (hN : N ≤ 999999000) (hM : MaxL w) (key : ByteArray) (hks : key.size ≤ 281474976710656) (x : Tx) (lw ll : Int) :
    Calls Tryz.prog 18 #[pt p, .string key, txv x, sv lw ll] V fun e w' => AnsF (pgetC r key x (lw, ll)) e w' ∧ Has w (tbA p r :: T) w' := by
  unfold pgetC
  rw [pget_chk]
  have hcx : chkP (isK key) x (lw, ll) = 0 → isK key = true ∧ mayX x = true := chk_no
  have hC := fun (T2 : List As) W (hh : Has w (tbA p r :: T2) W) => pkCheck hh hr hN (isK key) x lw ll
  have hR := fun (T2 : List As) W (hh : Has w (tbA p r :: T2) W) (hk : isK key = true) (hx : mayX x = true) => read_c (F := hh.get.choose) hh.get.choose_spec.1 hr.szs (hM.below hh.bel) key hk x hx
  have HK := Lib.hid (pkIsKey key)
  generalize isK key = ik at *
  generalize chkP ik x (lw, ll) = ce at *
  generalize preadC r key x = o at *
  obtain ⟨f, k⟩ := o
  obtain ⟨x0, x1, x2, x3, x4, x5, x6, x7, x8, x9, x10, x11⟩ := x
  have h1 := (((h.newBlk 28 (txc ⟨x0, x1, x2, x3, x4, x5, x6, x7, x8, x9, x10, x11⟩)).newBlk 26 #[.int .i64 lw, .int .i64 ll]).newBlk 60 (fdc zF (.slice none 0 0)))
  have hz1 : (V.alloc (.cells (txc ⟨x0, x1, x2, x3, x4, x5, x6, x7, x8, x9, x10, x11⟩) 28)).heap.size = V.heap.size + 1 := World.size_alloc _ _
  have hz2 : ((V.alloc (.cells (txc ⟨x0, x1, x2, x3, x4, x5, x6, x7, x8, x9, x10, x11⟩) 28)).alloc (.cells #[.int .i64 lw, .int .i64 ll] 26)).heap.size = V.heap.size + 1 + 1 := (World.size_alloc _ _).trans (by rw [hz1])
  rw [hz2, hz1] at h1
  have H1 := Lib.hid h1
  have HC := Lib.hid (fun W (hh : Has w (blkA (V.heap.size + 1 + 1) 60 (fdc zF (.slice none 0 0)) :: blkA (V.heap.size + 1) 26 #[.int .i64 lw, .int .i64 ll] :: blkA V.heap.size 28 (txc ⟨x0, x1, x2, x3, x4, x5, x6, x7, x8, x9, x10, x11⟩) :: tbA p r :: T) W) => (show Calls Tryz.prog 57 #[pt p, .bool ik, txv ⟨x0, x1, x2, x3, x4, x5, x6, x7, x8, x9, x10, x11⟩, sv lw ll] W fun e w' => e = .returned (.int .i64 ce) ∧ Has w (blkA (V.heap.size + 1 + 1) 60 (fdc zF (.slice none 0 0)) :: blkA (V.heap.size + 1) 26 #[.int .i64 lw, .int .i64 ll] :: blkA V.heap.size 28 (txc ⟨x0, x1, x2, x3, x4, x5, x6, x7, x8, x9, x10, x11⟩) :: tbA p r :: T) w' from
    (hC _ W (hh.perm (List.perm_middle (l₁ := [_, _, _])))).mono fun e w' hq => ⟨hq.1, hq.2.perm (List.perm_middle (l₁ := [_, _, _])).symm⟩))
  have HR := Lib.hid (fun (hz : ce = 0) W (hh : Has w (blkA (V.heap.size + 1 + 1) 60 (fdc zF (.slice none 0 0)) :: blkA (V.heap.size + 1) 26 #[.int .i64 lw, .int .i64 ll] :: blkA V.heap.size 28 (txc ⟨x0, x1, x2, x3, x4, x5, x6, x7, x8, x9, x10, x11⟩) :: tbA p r :: T) W) => (show Calls Tryz.prog 59 #[pt p, .string key, txv ⟨x0, x1, x2, x3, x4, x5, x6, x7, x8, x9, x10, x11⟩] W fun e w' => AnsF (f, k) e w' ∧ Has w (blkA (V.heap.size + 1 + 1) 60 (fdc zF (.slice none 0 0)) :: blkA (V.heap.size + 1) 26 #[.int .i64 lw, .int .i64 ll] :: blkA V.heap.size 28 (txc ⟨x0, x1, x2, x3, x4, x5, x6, x7, x8, x9, x10, x11⟩) :: tbA p r :: T) w' from
    (hR _ W (hh.perm (List.perm_middle (l₁ := [_, _, _]))) (hcx hz).1 (hcx hz).2).mono fun e w' hq => ⟨hq.1, hh.keep hq.2⟩))
  have hmix : Tryz.prog.follows .mixedOrders = true := by kernel_rfl
  clear h h1 hz1 hz2 hC hR hcx hr hN
  by_cases hz : ce = 0
  · rw [if_pos hz]
    have HR2 := Lib.hid (HR.out hz)
    clear HR
    subst hz
    go_enter Tryz.func18, Tryz.ntmps18
    go_wp2_with fail
    refine wp_region_held_drew (S := Has w (blkA (V.heap.size + 1 + 1) 60 (fdc zF (.slice none 0 0)) :: blkA (V.heap.size + 1) 26 #[.int .i64 lw, .int .i64 ll] :: blkA V.heap.size 28 (txc ⟨x0, x1, x2, x3, x4, x5, x6, x7, x8, x9, x10, x11⟩) :: tbA p r :: T)) hmix (H1.out.drew) (fun hS => ?_)
    simp only [List.size_toArray, List.length_cons, List.length_nil, Nat.reduceAdd, Array.replicate_succ, Array.replicate_zero]
    refine wpAnyH_take (i := 0) (oi := { dst := some 11, op := Op.move (Operand.tmp 0), type := 32, pos := "peek.go:30", after := #[], guard := none }) (v := ?v0a) rfl (by kernel_rfl) (by kernel_rfl) (by kernel_rfl) (fun _ _ _ h => h) (Or.inl ⟨by rfl, ?hy0a⟩) (by assumption) ?rest0a
    case hy0a => (intro V2 hSw; (try dsimp only at hSw); go_simp; all_goals (with_reducible rfl))
    try simp only [Act.put, List.setIfInBounds_toArray, List.set_cons_zero, List.set_cons_succ]
    refine wpAnyH_take (i := 1) (oi := { dst := some 12, op := Op.move (Operand.tmp 1), type := 9, pos := "peek.go:30", after := #[], guard := none }) (v := ?v1a) rfl (by kernel_rfl) (by kernel_rfl) (by kernel_rfl) (fun _ _ _ h => h) (Or.inl ⟨by rfl, ?hy1a⟩) (by assumption) ?rest1a
    case hy1a => (intro V2 hSw; (try dsimp only at hSw); go_simp; all_goals (with_reducible rfl))
    try simp only [Act.put, List.setIfInBounds_toArray, List.set_cons_zero, List.set_cons_succ]
    refine wpAnyH_take (i := 3) (oi := { dst := some 14, op := Op.load 28 (Operand.tmp 6), type := 28, pos := "peek.go:30", after := #[], guard := none }) (v := ?v3a) rfl (by kernel_rfl) (by kernel_rfl) (by kernel_rfl) (fun _ _ _ h => h) (Or.inl ⟨by rfl, ?hy3a⟩) (by assumption) ?rest3a
    case hy3a => (intro V2 hSw; (try dsimp only at hSw); have tq := (hSw.blkIn (g := V.heap.size) (t := 28) (cs := txc ⟨x0, x1, x2, x3, x4, x5, x6, x7, x8, x9, x10, x11⟩) (by simp)); have t0 := tq.cell 0; have t1 := tq.cell 1; have t2 := tq.cell 2; have t3 := tq.cell 3; have t4 := tq.cell 4; have t5 := tq.cell 5; have t6 := tq.cell 6; have t7 := tq.cell 7; have t8 := tq.cell 8; have t9 := tq.cell 9; have t10 := tq.cell 10; have t11 := tq.cell 11; simp at t0 t1 t2 t3 t4 t5 t6 t7 t8 t9 t10 t11; go_simp; all_goals (with_reducible rfl))
    try simp only [Act.put, List.setIfInBounds_toArray, List.set_cons_zero, List.set_cons_succ]
    refine wpAnyH_take (i := 4) (oi := { dst := some 15, op := Op.load 26 (Operand.tmp 7), type := 26, pos := "peek.go:30", after := #[], guard := none }) (v := ?v4a) rfl (by kernel_rfl) (by kernel_rfl) (by kernel_rfl) (fun _ _ _ h => h) (Or.inl ⟨by rfl, ?hy4a⟩) (by assumption) ?rest4a
    case hy4a => (intro V2 hSw; (try dsimp only at hSw); have tq := (hSw.blkIn (g := V.heap.size + 1) (t := 26) (cs := #[.int .i64 lw, .int .i64 ll]) (by simp)); have t0 := tq.cell 0; have t1 := tq.cell 1; simp at t0 t1; go_simp; all_goals (with_reducible rfl))
    try simp only [Act.put, List.setIfInBounds_toArray, List.set_cons_zero, List.set_cons_succ]
    refine wpAnyH_ready (rs := [2]) (by kernel_rfl) (by simp) ?_
    refine AllReadyH.cons (o := { dst := some 13, op := Op.call { callee := Callee.value (Operand.func 58), args := #[Operand.tmp 12], argTypes := #[9] }, type := 4, pos := "peek.go:30", after := #[{ on := 1, ground := Ground.data }], guard := none }) rfl (fun K hK => ?_) AllReadyH.nil
    go_simp
    refine (HK.out _ (hM.below hS.bel)).mono ?_
    rintro e v1 ⟨rfl, hb1⟩
    refine hK.out _ _ (hS.keep hb1) (fun hS => ?_)
    clear hK K
    try simp only [Act.put, List.setIfInBounds_toArray, List.set_cons_zero, List.set_cons_succ]
    clear hb1
    refine wpAnyH_ready (rs := [5]) (by kernel_rfl) (by simp) ?_
    refine AllReadyH.cons (o := { dst := some 16, op := Op.call { callee := Callee.value (Operand.func 57), args := #[Operand.tmp 11, Operand.tmp 13, Operand.tmp 14, Operand.tmp 15], argTypes := #[32, 4, 28, 26] }, type := 42, pos := "peek.go:30", after := #[{ on := 0, ground := Ground.data }, { on := 2, ground := Ground.data }, { on := 3, ground := Ground.data }, { on := 4, ground := Ground.data }, { on := 2, ground := Ground.chain }], guard := none }) rfl (fun K hK => ?_) AllReadyH.nil
    go_simp
    refine (HC.out _ hS).mono ?_
    rintro e v2 ⟨rfl, hh2⟩
    refine hK.out _ _ (hh2) (fun hS => ?_)
    clear hK K
    try simp only [Act.put, List.setIfInBounds_toArray, List.set_cons_zero, List.set_cons_succ]
    have H2 := Lib.hid hh2
    clear hh2
    refine wpAnyH_take (i := 6) (oi := { dst := some 10, op := Op.assign (Operand.tmp 16), type := 42, pos := "peek.go:30", after := #[{ on := 5, ground := Ground.data }, { on := 5, ground := Ground.chain }, { on := 0, ground := Ground.phase }, { on := 1, ground := Ground.phase }, { on := 2, ground := Ground.phase }, { on := 3, ground := Ground.phase }, { on := 4, ground := Ground.phase }, { on := 5, ground := Ground.phase }], guard := none }) (v := ?v6a) rfl (by kernel_rfl) (by kernel_rfl) (by kernel_rfl) (fun _ _ _ h => h) (Or.inl ⟨by rfl, ?hy6a⟩) (by assumption) ?rest6a
    case hy6a => (intro V2 hSw; (try dsimp only at hSw); go_simp; all_goals (with_reducible rfl))
    try simp only [Act.put, List.setIfInBounds_toArray, List.set_cons_zero, List.set_cons_succ]
    refine wpAnyH_done (by kernel_rfl) ?_ _
    go_wp2_with fail
    refine wp_region_held_drew (S := fun V2 => ∃ cs, Has w (blkA (V.heap.size + 1 + 1) 60 cs :: blkA (V.heap.size + 1) 26 #[.int .i64 lw, .int .i64 ll] :: blkA V.heap.size 28 (txc ⟨x0, x1, x2, x3, x4, x5, x6, x7, x8, x9, x10, x11⟩) :: tbA p r :: T) V2) hmix (⟨_, H2.out.drew⟩) (fun hS => ?_)
    simp only [List.size_toArray, List.length_cons, List.length_nil, Nat.reduceAdd, Array.replicate_succ, Array.replicate_zero]
    refine wpAnyH_take (i := 0) (oi := { dst := some 21, op := Op.move (Operand.tmp 0), type := 32, pos := "peek.go:34", after := #[], guard := none }) (v := ?v0b) rfl (by kernel_rfl) (by kernel_rfl) (by kernel_rfl) (fun _ _ _ h => h) (Or.inl ⟨by rfl, ?hy0b⟩) (by assumption) ?rest0b
    case hy0b => (intro V2 hSw; (try dsimp only at hSw); go_simp; all_goals (with_reducible rfl))
    try simp only [Act.put, List.setIfInBounds_toArray, List.set_cons_zero, List.set_cons_succ]
    refine wpAnyH_take (i := 1) (oi := { dst := some 22, op := Op.move (Operand.tmp 1), type := 9, pos := "peek.go:34", after := #[], guard := none }) (v := ?v1b) rfl (by kernel_rfl) (by kernel_rfl) (by kernel_rfl) (fun _ _ _ h => h) (Or.inl ⟨by rfl, ?hy1b⟩) (by assumption) ?rest1b
    case hy1b => (intro V2 hSw; (try dsimp only at hSw); go_simp; all_goals (with_reducible rfl))
    try simp only [Act.put, List.setIfInBounds_toArray, List.set_cons_zero, List.set_cons_succ]
    refine wpAnyH_take (i := 3) (oi := { dst := some 24, op := Op.load 28 (Operand.tmp 6), type := 28, pos := "peek.go:34", after := #[], guard := none }) (v := ?v3b) rfl (by kernel_rfl) (by kernel_rfl) (by kernel_rfl) (fun _ _ _ h => h) (Or.inl ⟨by rfl, ?hy3b⟩) (by assumption) ?rest3b
    case hy3b => (intro V2 hSw; (try dsimp only at hSw); obtain ⟨csw, hSw⟩ := hSw; have tq := (hSw.blkIn (g := V.heap.size) (t := 28) (cs := txc ⟨x0, x1, x2, x3, x4, x5, x6, x7, x8, x9, x10, x11⟩) (by simp)); have t0 := tq.cell 0; have t1 := tq.cell 1; have t2 := tq.cell 2; have t3 := tq.cell 3; have t4 := tq.cell 4; have t5 := tq.cell 5; have t6 := tq.cell 6; have t7 := tq.cell 7; have t8 := tq.cell 8; have t9 := tq.cell 9; have t10 := tq.cell 10; have t11 := tq.cell 11; simp at t0 t1 t2 t3 t4 t5 t6 t7 t8 t9 t10 t11; go_simp; all_goals (with_reducible rfl))
    try simp only [Act.put, List.setIfInBounds_toArray, List.set_cons_zero, List.set_cons_succ]
    refine wpAnyH_ready (rs := [2]) (by kernel_rfl) (by simp) ?_
    refine AllReadyH.cons (o := { dst := some 23, op := Op.call { callee := Callee.value (Operand.func 60), args := #[Operand.tmp 22], argTypes := #[9] }, type := 9, pos := "peek.go:34", after := #[{ on := 1, ground := Ground.data }], guard := none }) rfl (fun K hK => ?_) AllReadyH.nil
    go_simp
    have hS1 := H2.out.drew
    refine (sk_clone key _ hks).mono ?_
    rintro e v3 ⟨rfl, hb3⟩
    have hS3 := hS1.keep hb3
    refine hK.out _ _ (⟨_, hS3⟩) (fun hS => ?_)
    clear hK K
    try simp only [Act.put, List.setIfInBounds_toArray, List.set_cons_zero, List.set_cons_succ]
    have H3 := Lib.hid hS3
    clear hS1 hS3 hb3
    refine wpAnyH_ready (rs := [4]) (by kernel_rfl) (by simp) ?_
    refine AllReadyH.cons (o := { dst := some 25, op := Op.call { callee := Callee.value (Operand.func 59), args := #[Operand.tmp 21, Operand.tmp 23, Operand.tmp 24], argTypes := #[32, 9, 28] }, type := 61, pos := "peek.go:34", after := #[{ on := 0, ground := Ground.data }, { on := 2, ground := Ground.data }, { on := 3, ground := Ground.data }, { on := 2, ground := Ground.chain }], guard := none }) rfl (fun K hK => ?_) AllReadyH.nil
    go_simp
    refine (HR2.out _ H3.out).mono ?_
    rintro e v4 ⟨⟨A, n, c, rfl, hat, hn⟩, hh4⟩
    refine hK.out _ _ (⟨_, hh4⟩) (fun hS => ?_)
    clear hK K
    try simp only [Act.put, List.setIfInBounds_toArray, List.set_cons_zero, List.set_cons_succ]
    have H4 := Lib.hid hh4
    have HAT := Lib.hid hat
    have rb := hh4.blkIn (g := V.heap.size + 1 + 1) (t := 60) (cs := (fdc zF (.slice none 0 0))) (by simp)
    have p0 := rb.cell 0
    have f0 := rb.frozen 0
    have p1 := rb.cell 1
    have f1 := rb.frozen 1
    have p2 := rb.cell 2
    have f2 := rb.frozen 2
    have p3 := rb.cell 3
    have f3 := rb.frozen 3
    have p4 := rb.cell 4
    have f4 := rb.frozen 4
    have p5 := rb.cell 5
    have f5 := rb.frozen 5
    have p6 := rb.cell 6
    have f6 := rb.frozen 6
    have p7 := rb.cell 7
    have f7 := rb.frozen 7
    have p8 := rb.cell 8
    have f8 := rb.frozen 8
    have p9 := rb.cell 9
    have f9 := rb.frozen 9
    have p10 := rb.cell 10
    have f10 := rb.frozen 10
    have p11 := rb.cell 11
    have f11 := rb.frozen 11
    have p12 := rb.cell 12
    have f12 := rb.frozen 12
    have p13 := rb.cell 13
    have f13 := rb.frozen 13
    have p14 := rb.cell 14
    have f14 := rb.frozen 14
    simp at p0 p1 p2 p3 p4 p5 p6 p7 p8 p9 p10 p11 p12 p13 p14
    have RB := Lib.hid rb
    clear hh4 hat rb
    refine wpAnyH_take (i := 5) (oi := { dst := some 26, op := Op.extract (Operand.tmp 25) 0, type := 60, pos := "peek.go:34", after := #[{ on := 4, ground := Ground.data }], guard := none }) (v := ?v5b) rfl (by kernel_rfl) (by kernel_rfl) (by kernel_rfl) (fun _ _ _ h => h) (Or.inl ⟨by rfl, ?hy5b⟩) (by assumption) ?rest5b
    case hy5b => (intro V2 hSw; (try dsimp only at hSw); go_simp; all_goals (with_reducible rfl))
    try simp only [Act.put, List.setIfInBounds_toArray, List.set_cons_zero, List.set_cons_succ]
    refine wpAnyH_take (i := 6) (oi := { dst := some 27, op := Op.extract (Operand.tmp 25) 1, type := 42, pos := "peek.go:34", after := #[{ on := 4, ground := Ground.data }], guard := none }) (v := ?v6b) rfl (by kernel_rfl) (by kernel_rfl) (by kernel_rfl) (fun _ _ _ h => h) (Or.inl ⟨by rfl, ?hy6b⟩) (by assumption) ?rest6b
    case hy6b => (intro V2 hSw; (try dsimp only at hSw); go_simp; all_goals (with_reducible rfl))
    try simp only [Act.put, List.setIfInBounds_toArray, List.set_cons_zero, List.set_cons_succ]
    refine wpAnyH_ready (rs := [7]) (by kernel_rfl) (by simp) ?_
    refine AllReadyH.cons (o := { dst := none, op := Op.store 60 (Operand.tmp 8) (Operand.tmp 26), type := 0, pos := "peek.go:34", after := #[{ on := 5, ground := Ground.data }, { on := 4, ground := Ground.chain }, { on := 0, ground := Ground.phase }, { on := 1, ground := Ground.phase }, { on := 2, ground := Ground.phase }, { on := 3, ground := Ground.phase }, { on := 4, ground := Ground.phase }, { on := 5, ground := Ground.phase }, { on := 6, ground := Ground.phase }], guard := none }) rfl (fun K hK => ?_) AllReadyH.nil
    go_simp
    refine hK.out _ _ (⟨_, Has.all15 (v0 := .string f.key) (v1 := .string f.value) (v2 := .bool f.is_) (v3 := .bool f.own) (v4 := .int .i64 f.sw) (v5 := .int .i64 f.sl) (v6 := .int .i64 f.it.id) (v7 := .int .i64 f.it.ep) (v8 := .int .i64 f.it.pr) (v9 := .string f.it.an) (v10 := .int .i64 f.it.sw) (v11 := .int .i64 f.it.sl) (v12 := .int .i64 f.it.bw) (v13 := .int .i64 f.it.bl) (v14 := .slice A n c) H4.out⟩) (fun hS => ?_)
    clear hK K
    try simp only [Act.put, List.setIfInBounds_toArray, List.set_cons_zero, List.set_cons_succ]
    refine wpAnyH_take (i := 8) (oi := { dst := some 9, op := Op.assign (Operand.tmp 27), type := 42, pos := "peek.go:34", after := #[{ on := 6, ground := Ground.data }, { on := 7, ground := Ground.chain }, { on := 0, ground := Ground.phase }, { on := 1, ground := Ground.phase }, { on := 2, ground := Ground.phase }, { on := 3, ground := Ground.phase }, { on := 4, ground := Ground.phase }, { on := 5, ground := Ground.phase }, { on := 6, ground := Ground.phase }, { on := 7, ground := Ground.phase }], guard := none }) (v := ?v8b) rfl (by kernel_rfl) (by kernel_rfl) (by kernel_rfl) (fun _ _ _ h => h) (Or.inl ⟨by rfl, ?hy8b⟩) (by assumption) ?rest8b
    case hy8b => (intro V2 hSw; (try dsimp only at hSw); go_simp; all_goals (with_reducible rfl))
    try simp only [Act.put, List.setIfInBounds_toArray, List.set_cons_zero, List.set_cons_succ]
    refine wpAnyH_done (by kernel_rfl) ?_ _
    have hch := HAT.out.put15 (v0 := .string f.key) (v1 := .string f.value) (v2 := .bool f.is_) (v3 := .bool f.own) (v4 := .int .i64 f.sw) (v5 := .int .i64 f.sl) (v6 := .int .i64 f.it.id) (v7 := .int .i64 f.it.ep) (v8 := .int .i64 f.it.pr) (v9 := .string f.it.an) (v10 := .int .i64 f.it.sw) (v11 := .int .i64 f.it.sl) (v12 := .int .i64 f.it.bw) (v13 := .int .i64 f.it.bl) (v14 := .slice A n c) (HAT.out.apart (show Blk _ _ _ (fdc zF (.slice none 0 0)) from RB.out) (fd_no _ _ (fun d e => nomatch e)))
    have hfin := Has.all15 (v0 := .string f.key) (v1 := .string f.value) (v2 := .bool f.is_) (v3 := .bool f.own) (v4 := .int .i64 f.sw) (v5 := .int .i64 f.sl) (v6 := .int .i64 f.it.id) (v7 := .int .i64 f.it.ep) (v8 := .int .i64 f.it.pr) (v9 := .string f.it.an) (v10 := .int .i64 f.it.sw) (v11 := .int .i64 f.it.sl) (v12 := .int .i64 f.it.bw) (v13 := .int .i64 f.it.bl) (v14 := .slice A n c) H4.out
    go_wp2_with fail
    exact ret_fd2 rfl rfl (Blk.all15 (v0 := .string f.key) (v1 := .string f.value) (v2 := .bool f.is_) (v3 := .bool f.own) (v4 := .int .i64 f.sw) (v5 := .int .i64 f.sl) (v6 := .int .i64 f.it.id) (v7 := .int .i64 f.it.ep) (v8 := .int .i64 f.it.pr) (v9 := .string f.it.an) (v10 := .int .i64 f.it.sw) (v11 := .int .i64 f.it.sl) (v12 := .int .i64 f.it.bw) (v13 := .int .i64 f.it.bl) (v14 := .slice A n c) (by exact RB.out)) rfl rfl ⟨⟨A, n, c, rfl, hch, hn⟩, hfin.tail.tail.tail⟩
  · rw [if_neg hz]
    have hze : (ce != 0) = true := by simpa using hz
    go_enter Tryz.func18, Tryz.ntmps18
    go_wp2_with fail
    refine wp_region_held_drew (S := Has w (blkA (V.heap.size + 1 + 1) 60 (fdc zF (.slice none 0 0)) :: blkA (V.heap.size + 1) 26 #[.int .i64 lw, .int .i64 ll] :: blkA V.heap.size 28 (txc ⟨x0, x1, x2, x3, x4, x5, x6, x7, x8, x9, x10, x11⟩) :: tbA p r :: T)) hmix (H1.out.drew) (fun hS => ?_)
    simp only [List.size_toArray, List.length_cons, List.length_nil, Nat.reduceAdd, Array.replicate_succ, Array.replicate_zero]
    refine wpAnyH_take (i := 0) (oi := { dst := some 11, op := Op.move (Operand.tmp 0), type := 32, pos := "peek.go:30", after := #[], guard := none }) (v := ?v0c) rfl (by kernel_rfl) (by kernel_rfl) (by kernel_rfl) (fun _ _ _ h => h) (Or.inl ⟨by rfl, ?hy0c⟩) (by assumption) ?rest0c
    case hy0c => (intro V2 hSw; (try dsimp only at hSw); go_simp; all_goals (with_reducible rfl))
    try simp only [Act.put, List.setIfInBounds_toArray, List.set_cons_zero, List.set_cons_succ]
    refine wpAnyH_take (i := 1) (oi := { dst := some 12, op := Op.move (Operand.tmp 1), type := 9, pos := "peek.go:30", after := #[], guard := none }) (v := ?v1c) rfl (by kernel_rfl) (by kernel_rfl) (by kernel_rfl) (fun _ _ _ h => h) (Or.inl ⟨by rfl, ?hy1c⟩) (by assumption) ?rest1c
    case hy1c => (intro V2 hSw; (try dsimp only at hSw); go_simp; all_goals (with_reducible rfl))
    try simp only [Act.put, List.setIfInBounds_toArray, List.set_cons_zero, List.set_cons_succ]
    refine wpAnyH_take (i := 3) (oi := { dst := some 14, op := Op.load 28 (Operand.tmp 6), type := 28, pos := "peek.go:30", after := #[], guard := none }) (v := ?v3c) rfl (by kernel_rfl) (by kernel_rfl) (by kernel_rfl) (fun _ _ _ h => h) (Or.inl ⟨by rfl, ?hy3c⟩) (by assumption) ?rest3c
    case hy3c => (intro V2 hSw; (try dsimp only at hSw); have tq := (hSw.blkIn (g := V.heap.size) (t := 28) (cs := txc ⟨x0, x1, x2, x3, x4, x5, x6, x7, x8, x9, x10, x11⟩) (by simp)); have t0 := tq.cell 0; have t1 := tq.cell 1; have t2 := tq.cell 2; have t3 := tq.cell 3; have t4 := tq.cell 4; have t5 := tq.cell 5; have t6 := tq.cell 6; have t7 := tq.cell 7; have t8 := tq.cell 8; have t9 := tq.cell 9; have t10 := tq.cell 10; have t11 := tq.cell 11; simp at t0 t1 t2 t3 t4 t5 t6 t7 t8 t9 t10 t11; go_simp; all_goals (with_reducible rfl))
    try simp only [Act.put, List.setIfInBounds_toArray, List.set_cons_zero, List.set_cons_succ]
    refine wpAnyH_take (i := 4) (oi := { dst := some 15, op := Op.load 26 (Operand.tmp 7), type := 26, pos := "peek.go:30", after := #[], guard := none }) (v := ?v4c) rfl (by kernel_rfl) (by kernel_rfl) (by kernel_rfl) (fun _ _ _ h => h) (Or.inl ⟨by rfl, ?hy4c⟩) (by assumption) ?rest4c
    case hy4c => (intro V2 hSw; (try dsimp only at hSw); have tq := (hSw.blkIn (g := V.heap.size + 1) (t := 26) (cs := #[.int .i64 lw, .int .i64 ll]) (by simp)); have t0 := tq.cell 0; have t1 := tq.cell 1; simp at t0 t1; go_simp; all_goals (with_reducible rfl))
    try simp only [Act.put, List.setIfInBounds_toArray, List.set_cons_zero, List.set_cons_succ]
    refine wpAnyH_ready (rs := [2]) (by kernel_rfl) (by simp) ?_
    refine AllReadyH.cons (o := { dst := some 13, op := Op.call { callee := Callee.value (Operand.func 58), args := #[Operand.tmp 12], argTypes := #[9] }, type := 4, pos := "peek.go:30", after := #[{ on := 1, ground := Ground.data }], guard := none }) rfl (fun K hK => ?_) AllReadyH.nil
    go_simp
    refine (HK.out _ (hM.below hS.bel)).mono ?_
    rintro e v1 ⟨rfl, hb1⟩
    refine hK.out _ _ (hS.keep hb1) (fun hS => ?_)
    clear hK K
    try simp only [Act.put, List.setIfInBounds_toArray, List.set_cons_zero, List.set_cons_succ]
    clear hb1
    refine wpAnyH_ready (rs := [5]) (by kernel_rfl) (by simp) ?_
    refine AllReadyH.cons (o := { dst := some 16, op := Op.call { callee := Callee.value (Operand.func 57), args := #[Operand.tmp 11, Operand.tmp 13, Operand.tmp 14, Operand.tmp 15], argTypes := #[32, 4, 28, 26] }, type := 42, pos := "peek.go:30", after := #[{ on := 0, ground := Ground.data }, { on := 2, ground := Ground.data }, { on := 3, ground := Ground.data }, { on := 4, ground := Ground.data }, { on := 2, ground := Ground.chain }], guard := none }) rfl (fun K hK => ?_) AllReadyH.nil
    go_simp
    refine (HC.out _ hS).mono ?_
    rintro e v2 ⟨rfl, hh2⟩
    refine hK.out _ _ (hh2) (fun hS => ?_)
    clear hK K
    try simp only [Act.put, List.setIfInBounds_toArray, List.set_cons_zero, List.set_cons_succ]
    have H2 := Lib.hid hh2
    clear hh2
    refine wpAnyH_take (i := 6) (oi := { dst := some 10, op := Op.assign (Operand.tmp 16), type := 42, pos := "peek.go:30", after := #[{ on := 5, ground := Ground.data }, { on := 5, ground := Ground.chain }, { on := 0, ground := Ground.phase }, { on := 1, ground := Ground.phase }, { on := 2, ground := Ground.phase }, { on := 3, ground := Ground.phase }, { on := 4, ground := Ground.phase }, { on := 5, ground := Ground.phase }], guard := none }) (v := ?v6c) rfl (by kernel_rfl) (by kernel_rfl) (by kernel_rfl) (fun _ _ _ h => h) (Or.inl ⟨by rfl, ?hy6c⟩) (by assumption) ?rest6c
    case hy6c => (intro V2 hSw; (try dsimp only at hSw); go_simp; all_goals (with_reducible rfl))
    try simp only [Act.put, List.setIfInBounds_toArray, List.set_cons_zero, List.set_cons_succ]
    refine wpAnyH_done (by kernel_rfl) ?_ _
    have rb := H2.out.blkIn (g := V.heap.size + 1 + 1) (t := 60) (cs := (fdc zF (.slice none 0 0))) (by simp)
    have p0 := rb.cell 0
    have f0 := rb.frozen 0
    have p1 := rb.cell 1
    have f1 := rb.frozen 1
    have p2 := rb.cell 2
    have f2 := rb.frozen 2
    have p3 := rb.cell 3
    have f3 := rb.frozen 3
    have p4 := rb.cell 4
    have f4 := rb.frozen 4
    have p5 := rb.cell 5
    have f5 := rb.frozen 5
    have p6 := rb.cell 6
    have f6 := rb.frozen 6
    have p7 := rb.cell 7
    have f7 := rb.frozen 7
    have p8 := rb.cell 8
    have f8 := rb.frozen 8
    have p9 := rb.cell 9
    have f9 := rb.frozen 9
    have p10 := rb.cell 10
    have f10 := rb.frozen 10
    have p11 := rb.cell 11
    have f11 := rb.frozen 11
    have p12 := rb.cell 12
    have f12 := rb.frozen 12
    have p13 := rb.cell 13
    have f13 := rb.frozen 13
    have p14 := rb.cell 14
    have f14 := rb.frozen 14
    simp at p0 p1 p2 p3 p4 p5 p6 p7 p8 p9 p10 p11 p12 p13 p14
    have RB := Lib.hid rb
    clear rb
    go_wp2_with fail
    have hfin := Has.all15 (v0 := .string ⟨#[]⟩) (v1 := .string ⟨#[]⟩) (v2 := .bool false) (v3 := .bool false) (v4 := .int .i64 0) (v5 := .int .i64 0) (v6 := .int .i64 0) (v7 := .int .i64 0) (v8 := .int .i64 0) (v9 := .string ⟨#[]⟩) (v10 := .int .i64 0) (v11 := .int .i64 0) (v12 := .int .i64 0) (v13 := .int .i64 0) (v14 := .slice none 0 0) H2.out
    exact ret_fd2 rfl rfl (Blk.all15 (v0 := .string ⟨#[]⟩) (v1 := .string ⟨#[]⟩) (v2 := .bool false) (v3 := .bool false) (v4 := .int .i64 0) (v5 := .int .i64 0) (v6 := .int .i64 0) (v7 := .int .i64 0) (v8 := .int .i64 0) (v9 := .string ⟨#[]⟩) (v10 := .int .i64 0) (v11 := .int .i64 0) (v12 := .int .i64 0) (v13 := .int .i64 0) (v14 := .slice none 0 0) (by exact RB.out)) rfl rfl ⟨⟨none, 0, 0, rfl, ChAt.nil _ _, by omega⟩, hfin.tail.tail.tail⟩
end Go.Proofs.YtldbmogondmgmaaGreatDoor
