/-
  Layer 12, the code: check.
  Layer 12, the code: Get (written by wip/genpkget.py).
  Plain: what stands between two keys, as a filter; versions' keys in their order; the greater of two texts.
  Layer 12, plain: what is read at a greater stamp, if no version lies between.
-/
import Derived.Test.YtgccichmdddbpaaGreatDoorPL32
import Derived.Test.YtgccichmdddbpaaGreatDoorPL33
import Derived.Test.YtgccichmdddbpaaGreatDoorPL29
import Derived.Test.YtgccichmdddbpaaGreatDoorPL30
import Derived.Test.YtgccichmdddbpaaGreatDoorPL27
import Derived.Test.YtgccichmdddbpaaGreatDoorPL31
set_option linter.unusedVariables false
set_option linter.unusedSimpArgs false
set_option maxRecDepth 100000
namespace Go.Proofs.YtgccichmdddbpaaGreatDoor
open Go.RowKit

set_option maxHeartbeats 4000000 in
theorem pkCheck {w V : World} {T : List As} {p N : Nat} {r : List Rw} (h : Has w (tbA p r :: T) V) (hr : ROk N r) (hN : N ≤ 999999000) (ok : Bool) (x : Tx) (lw ll : Int) :
    Calls Tryz.prog 72 #[pt p, .bool ok, txv x, sv lw ll] V fun e w' => e = .returned (.int .i64 (chkP ok x (lw, ll))) ∧ Has w (tbA p r :: T) w' := by
  have h1 := ((h.newBlk 28 (txc x)).newBlk 26 #[.int .i64 lw, .int .i64 ll]).perm (List.perm_middle (l₁ := [_, _]))
  have hz1 : (V.alloc (.cells (txc x) 28)).heap.size = V.heap.size + 1 := World.size_alloc _ _
  rw [hz1] at h1
  have HA := Lib.hid (show Calls Tryz.prog 19 #[pt p, .slice none 0 0] ((V.alloc (.cells (txc x) 28)).alloc (.cells #[.int .i64 lw, .int .i64 ll] 26)) fun e w' => e = .returned (.int .i64 0) ∧ Has w (tbA p r :: blkA (V.heap.size + 1) 26 #[.int .i64 lw, .int .i64 ll] :: blkA V.heap.size 28 (txc x) :: T) w' from
    (Has.tbApply h1 hr hN none 0 0 [] ⟨rfl, fun h => absurd h (by omega)⟩ (by omega) (fun o ho => nomatch ho)).mono fun e w' hq => ⟨hq.1, hq.2.1⟩)
  have HM := Lib.hid (pkMay x)
  have HS := Lib.hid (fun W => pkStamps (some ⟨W.heap.size, 0, none⟩) 1 1 [(lw, ll)] (may lw ll) (by simp [mayP]) (W.alloc (.cells #[.int .i64 lw, .int .i64 ll] 26)) (by decide) (one_stamp W lw ll))
  have HL := Lib.hid (fun W => less_c lw ll x.rw x.rl W)
  clear h h1 hr hN hz1
  unfold chkP
  simp only
  generalize mayX x = mx_ at *
  generalize may lw ll = ml_ at *
  generalize lt (lw, ll) (x.rw, x.rl) = lt_ at *
  cases ok
  · go_enter Tryz.func72, Tryz.ntmps72
    go_wp2_with (go_at_call 19; refine HA.out.mono ?_; rintro e w1 ⟨rfl, h2⟩; have HF := Lib.hid h2.swap.tail.swap.tail)
    go_ret
    exact ⟨rfl, HF.out⟩
  cases mx_
  · go_enter Tryz.func72, Tryz.ntmps72
    go_wp2_with (first
      | (go_at_call 19; refine HA.out.mono ?_; rintro e w1 ⟨rfl, h2⟩
         have HF := Lib.hid h2.swap.tail.swap.tail
         have b1 := (h2.blkIn (g := V.heap.size) (t := 28) (cs := txc x) (by simp))
         have t0 := b1.cell 0
         have t1 := b1.cell 1
         have t2 := b1.cell 2
         have t3 := b1.cell 3
         have t4 := b1.cell 4
         have t5 := b1.cell 5
         have t6 := b1.cell 6
         have t7 := b1.cell 7
         have t8 := b1.cell 8
         have t9 := b1.cell 9
         have t10 := b1.cell 10
         have t11 := b1.cell 11
         simp at t0 t1 t2 t3 t4 t5 t6 t7 t8 t9 t10 t11
         clear h2 b1)
      | (go_at_call 121; refine (HM.out _).mono ?_; rintro e w2 ⟨rfl, hb2⟩; have HF2 := Lib.hid (HF.out.keep hb2)))
    go_ret
    exact ⟨rfl, HF2.out⟩
  cases ml_
  · go_enter Tryz.func72, Tryz.ntmps72
    go_wp2_with (first
      | (go_at_call 19; refine HA.out.mono ?_; rintro e w1 ⟨rfl, h2⟩
         have HF := Lib.hid h2
         have b1 := (h2.blkIn (g := V.heap.size) (t := 28) (cs := txc x) (by simp))
         have t0 := b1.cell 0
         have t1 := b1.cell 1
         have t2 := b1.cell 2
         have t3 := b1.cell 3
         have t4 := b1.cell 4
         have t5 := b1.cell 5
         have t6 := b1.cell 6
         have t7 := b1.cell 7
         have t8 := b1.cell 8
         have t9 := b1.cell 9
         have t10 := b1.cell 10
         have t11 := b1.cell 11
         simp at t0 t1 t2 t3 t4 t5 t6 t7 t8 t9 t10 t11
         clear h2 b1)
      | (go_at_call 121; refine (HM.out _).mono ?_; rintro e w2 ⟨rfl, hb2⟩
         have h3 := HF.out.keep hb2
         have b2 := (h3.blkIn (g := V.heap.size + 1) (t := 26) (cs := #[.int .i64 lw, .int .i64 ll]) (by simp))
         have s0 := b2.cell 0
         have s1 := b2.cell 1
         simp at s0 s1
         have HF2 := Lib.hid h3
         have HS2 := Lib.hid (HS.out w2)
         clear hb2 h3 b2)
      | (go_at_call 122; refine HS2.out.mono ?_; rintro e w3 ⟨rfl, hb3⟩
         have h4 := HF2.out.keep (bst (nbl w2 (.cells #[.int .i64 lw, .int .i64 ll] 26)) hb3)
         have b3 := (h4.blkIn (g := V.heap.size + 1) (t := 26) (cs := #[.int .i64 lw, .int .i64 ll]) (by simp))
         have b4 := (h4.blkIn (g := V.heap.size) (t := 28) (cs := txc x) (by simp))
         have z0 := b3.cell 0
         have z1 := b3.cell 1
         have y4 := b4.cell 4
         have y5 := b4.cell 5
         simp at z0 z1 y4 y5
         have HF3 := Lib.hid h4
         clear h4 b3 b4 hb3)
)
    go_ret
    exact ⟨rfl, HF3.out.swap.tail.swap.tail⟩
  cases lt_
  all_goals go_enter Tryz.func72, Tryz.ntmps72
  all_goals go_wp2_with (first
      | (go_at_call 19; refine HA.out.mono ?_; rintro e w1 ⟨rfl, h2⟩
         have HF := Lib.hid h2
         have b1 := (h2.blkIn (g := V.heap.size) (t := 28) (cs := txc x) (by simp))
         have t0 := b1.cell 0
         have t1 := b1.cell 1
         have t2 := b1.cell 2
         have t3 := b1.cell 3
         have t4 := b1.cell 4
         have t5 := b1.cell 5
         have t6 := b1.cell 6
         have t7 := b1.cell 7
         have t8 := b1.cell 8
         have t9 := b1.cell 9
         have t10 := b1.cell 10
         have t11 := b1.cell 11
         simp at t0 t1 t2 t3 t4 t5 t6 t7 t8 t9 t10 t11
         clear h2 b1)
      | (go_at_call 121; refine (HM.out _).mono ?_; rintro e w2 ⟨rfl, hb2⟩
         have h3 := HF.out.keep hb2
         have b2 := (h3.blkIn (g := V.heap.size + 1) (t := 26) (cs := #[.int .i64 lw, .int .i64 ll]) (by simp))
         have s0 := b2.cell 0
         have s1 := b2.cell 1
         simp at s0 s1
         have HF2 := Lib.hid h3
         have HS2 := Lib.hid (HS.out w2)
         clear hb2 h3 b2)
      | (go_at_call 122; refine HS2.out.mono ?_; rintro e w3 ⟨rfl, hb3⟩
         have h4 := HF2.out.keep (bst (nbl w2 (.cells #[.int .i64 lw, .int .i64 ll] 26)) hb3)
         have b3 := (h4.blkIn (g := V.heap.size + 1) (t := 26) (cs := #[.int .i64 lw, .int .i64 ll]) (by simp))
         have b4 := (h4.blkIn (g := V.heap.size) (t := 28) (cs := txc x) (by simp))
         have z0 := b3.cell 0
         have z1 := b3.cell 1
         have y4 := b4.cell 4
         have y5 := b4.cell 5
         simp at z0 z1 y4 y5
         have HF3 := Lib.hid h4
         clear h4 b3 b4 hb3)
      | (go_at_call 22; refine (HL.out _).mono ?_; rintro e w4 ⟨rfl, hb4⟩; have HF4 := Lib.hid (HF3.out.keep hb4)))
  all_goals go_ret
  all_goals exact ⟨rfl, HF4.out.swap.tail.swap.tail⟩
end Go.Proofs.YtgccichmdddbpaaGreatDoor
set_option linter.unusedVariables false
set_option linter.unusedSimpArgs false
set_option maxRecDepth 100000
namespace Go.Proofs.YtgccichmdddbpaaGreatDoor
open Go.RowKit

theorem chk_no {ok : Bool} {x : Tx} {l : Int × Int} (h : chkP ok x l = 0) : ok = true ∧ mayX x = true := by
  unfold chkP at h
  split at h
  · cases h
  · rename_i hh
    cases ok <;> cases hx : mayX x <;> simp [hx] at hh ⊢
set_option maxHeartbeats 8000000 in
theorem pkGet {w V : World} {T : List As} {p N : Nat} {r : List Rw} (h : Has w (tbA p r :: T) V) (hr : ROk N r) (hN : N ≤ 999999000) (hM : MaxL w) (key : ByteArray) (hks : key.size ≤ 281474976710656) (x : Tx) (lw ll : Int) :
    Calls Tryz.prog 27 #[pt p, .string key, txv x, sv lw ll] V fun e w' => AnsF (pgetC r key x (lw, ll)) e w' ∧ Has w (tbA p r :: T) w' := by
  unfold pgetC
  rw [pget_chk]
  have hcx : chkP (isK key) x (lw, ll) = 0 → isK key = true ∧ mayX x = true := chk_no
  have hC := fun (T2 : List As) W (hh : Has w (tbA p r :: T2) W) => pkCheck hh hr hN (isK key) x lw ll
  have hR := fun (T2 : List As) W (hh : Has w (tbA p r :: T2) W) (hk : isK key = true) (hx : mayX x = true) => read_c (F := hh.get.choose) hh.get.choose_spec.1 hr.szs (hM.below hh.bel) key hk x hx
  have HK := Lib.hid (pkIsKey key)
  generalize isK key = ik at *
  generalize chkP ik x (lw, ll) = ce at *
  generalize preadC r key x = o at *
  obtain ⟨f, k⟩ := o
  obtain ⟨x0, x1, x2, x3, x4, x5, x6, x7, x8, x9, x10, x11⟩ := x
  have h1 := (((h.newBlk 28 (txc ⟨x0, x1, x2, x3, x4, x5, x6, x7, x8, x9, x10, x11⟩)).newBlk 26 #[.int .i64 lw, .int .i64 ll]).newBlk 73 (fdc zF (.slice none 0 0)))
  have hz1 : (V.alloc (.cells (txc ⟨x0, x1, x2, x3, x4, x5, x6, x7, x8, x9, x10, x11⟩) 28)).heap.size = V.heap.size + 1 := World.size_alloc _ _
  have hz2 : ((V.alloc (.cells (txc ⟨x0, x1, x2, x3, x4, x5, x6, x7, x8, x9, x10, x11⟩) 28)).alloc (.cells #[.int .i64 lw, .int .i64 ll] 26)).heap.size = V.heap.size + 1 + 1 := (World.size_alloc _ _).trans (by rw [hz1])
  rw [hz2, hz1] at h1
  have H1 := Lib.hid h1
  have HC := Lib.hid (fun W (hh : Has w (blkA (V.heap.size + 1 + 1) 73 (fdc zF (.slice none 0 0)) :: blkA (V.heap.size + 1) 26 #[.int .i64 lw, .int .i64 ll] :: blkA V.heap.size 28 (txc ⟨x0, x1, x2, x3, x4, x5, x6, x7, x8, x9, x10, x11⟩) :: tbA p r :: T) W) => (show Calls Tryz.prog 72 #[pt p, .bool ik, txv ⟨x0, x1, x2, x3, x4, x5, x6, x7, x8, x9, x10, x11⟩, sv lw ll] W fun e w' => e = .returned (.int .i64 ce) ∧ Has w (blkA (V.heap.size + 1 + 1) 73 (fdc zF (.slice none 0 0)) :: blkA (V.heap.size + 1) 26 #[.int .i64 lw, .int .i64 ll] :: blkA V.heap.size 28 (txc ⟨x0, x1, x2, x3, x4, x5, x6, x7, x8, x9, x10, x11⟩) :: tbA p r :: T) w' from
    (hC _ W (hh.perm (List.perm_middle (l₁ := [_, _, _])))).mono fun e w' hq => ⟨hq.1, hq.2.perm (List.perm_middle (l₁ := [_, _, _])).symm⟩))
  have HR := Lib.hid (fun (hz : ce = 0) W (hh : Has w (blkA (V.heap.size + 1 + 1) 73 (fdc zF (.slice none 0 0)) :: blkA (V.heap.size + 1) 26 #[.int .i64 lw, .int .i64 ll] :: blkA V.heap.size 28 (txc ⟨x0, x1, x2, x3, x4, x5, x6, x7, x8, x9, x10, x11⟩) :: tbA p r :: T) W) => (show Calls Tryz.prog 74 #[pt p, .string key, txv ⟨x0, x1, x2, x3, x4, x5, x6, x7, x8, x9, x10, x11⟩] W fun e w' => AnsF (f, k) e w' ∧ Has w (blkA (V.heap.size + 1 + 1) 73 (fdc zF (.slice none 0 0)) :: blkA (V.heap.size + 1) 26 #[.int .i64 lw, .int .i64 ll] :: blkA V.heap.size 28 (txc ⟨x0, x1, x2, x3, x4, x5, x6, x7, x8, x9, x10, x11⟩) :: tbA p r :: T) w' from
    (hR _ W (hh.perm (List.perm_middle (l₁ := [_, _, _]))) (hcx hz).1 (hcx hz).2).mono fun e w' hq => ⟨hq.1, hh.keep hq.2⟩))
  have hmix : Tryz.prog.follows .mixedOrders = true := by kernel_rfl
  clear h h1 hz1 hz2 hC hR hcx hr hN
  by_cases hz : ce = 0
  · rw [if_pos hz]
    have HR2 := Lib.hid (HR.out hz)
    clear HR
    subst hz
    go_enter Tryz.func27, Tryz.ntmps27
    go_wp2_with fail
    refine wp_region_held_drew (S := Has w (blkA (V.heap.size + 1 + 1) 73 (fdc zF (.slice none 0 0)) :: blkA (V.heap.size + 1) 26 #[.int .i64 lw, .int .i64 ll] :: blkA V.heap.size 28 (txc ⟨x0, x1, x2, x3, x4, x5, x6, x7, x8, x9, x10, x11⟩) :: tbA p r :: T)) hmix (H1.out.drew) (fun hS => ?_)
    simp only [List.size_toArray, List.length_cons, List.length_nil, Nat.reduceAdd, Array.replicate_succ, Array.replicate_zero]
    refine wpAnyH_take (i := 0) (oi := { dst := some 11, op := Op.move (Operand.tmp 0), type := 31, pos := "peek.go:30", after := #[], guard := none }) (v := ?v0a) rfl (by kernel_rfl) (by kernel_rfl) (by kernel_rfl) (fun _ _ _ h => h) (Or.inl ⟨by rfl, ?hy0a⟩) (by assumption) ?rest0a
    case hy0a => (intro V2 hSw; (try dsimp only at hSw); go_simp; all_goals (with_reducible rfl))
    try simp only [Act.put, List.setIfInBounds_toArray, List.set_cons_zero, List.set_cons_succ]
    refine wpAnyH_take (i := 1) (oi := { dst := some 12, op := Op.move (Operand.tmp 1), type := 9, pos := "peek.go:30", after := #[], guard := none }) (v := ?v1a) rfl (by kernel_rfl) (by kernel_rfl) (by kernel_rfl) (fun _ _ _ h => h) (Or.inl ⟨by rfl, ?hy1a⟩) (by assumption) ?rest1a
    case hy1a => (intro V2 hSw; (try dsimp only at hSw); go_simp; all_goals (with_reducible rfl))
    try simp only [Act.put, List.setIfInBounds_toArray, List.set_cons_zero, List.set_cons_succ]
    refine wpAnyH_take (i := 3) (oi := { dst := some 14, op := Op.load 28 (Operand.tmp 6), type := 28, pos := "peek.go:30", after := #[], guard := none }) (v := ?v3a) rfl (by kernel_rfl) (by kernel_rfl) (by kernel_rfl) (fun _ _ _ h => h) (Or.inl ⟨by rfl, ?hy3a⟩) (by assumption) ?rest3a
    case hy3a => (intro V2 hSw; (try dsimp only at hSw); have tq := (hSw.blkIn (g := V.heap.size) (t := 28) (cs := txc ⟨x0, x1, x2, x3, x4, x5, x6, x7, x8, x9, x10, x11⟩) (by simp)); have t0 := tq.cell 0; have t1 := tq.cell 1; have t2 := tq.cell 2; have t3 := tq.cell 3; have t4 := tq.cell 4; have t5 := tq.cell 5; have t6 := tq.cell 6; have t7 := tq.cell 7; have t8 := tq.cell 8; have t9 := tq.cell 9; have t10 := tq.cell 10; have t11 := tq.cell 11; simp at t0 t1 t2 t3 t4 t5 t6 t7 t8 t9 t10 t11; go_simp; all_goals (with_reducible rfl))
    try simp only [Act.put, List.setIfInBounds_toArray, List.set_cons_zero, List.set_cons_succ]
    refine wpAnyH_take (i := 4) (oi := { dst := some 15, op := Op.load 26 (Operand.tmp 7), type := 26, pos := "peek.go:30", after := #[], guard := none }) (v := ?v4a) rfl (by kernel_rfl) (by kernel_rfl) (by kernel_rfl) (fun _ _ _ h => h) (Or.inl ⟨by rfl, ?hy4a⟩) (by assumption) ?rest4a
    case hy4a => (intro V2 hSw; (try dsimp only at hSw); have tq := (hSw.blkIn (g := V.heap.size + 1) (t := 26) (cs := #[.int .i64 lw, .int .i64 ll]) (by simp)); have t0 := tq.cell 0; have t1 := tq.cell 1; simp at t0 t1; go_simp; all_goals (with_reducible rfl))
    try simp only [Act.put, List.setIfInBounds_toArray, List.set_cons_zero, List.set_cons_succ]
    refine wpAnyH_ready (rs := [2]) (by kernel_rfl) (by simp) ?_
    refine AllReadyH.cons (o := { dst := some 13, op := Op.call { callee := Callee.value (Operand.func 73), args := #[Operand.tmp 12], argTypes := #[9] }, type := 4, pos := "peek.go:30", after := #[{ on := 1, ground := Ground.data }], guard := none }) rfl (fun K hK => ?_) AllReadyH.nil
    go_simp
    refine (HK.out _ (hM.below hS.bel)).mono ?_
    rintro e v1 ⟨rfl, hb1⟩
    refine hK.out _ _ (hS.keep hb1) (fun hS => ?_)
    clear hK K
    try simp only [Act.put, List.setIfInBounds_toArray, List.set_cons_zero, List.set_cons_succ]
    clear hb1
    refine wpAnyH_ready (rs := [5]) (by kernel_rfl) (by simp) ?_
    refine AllReadyH.cons (o := { dst := some 16, op := Op.call { callee := Callee.value (Operand.func 72), args := #[Operand.tmp 11, Operand.tmp 13, Operand.tmp 14, Operand.tmp 15], argTypes := #[31, 4, 28, 26] }, type := 41, pos := "peek.go:30", after := #[{ on := 0, ground := Ground.data }, { on := 2, ground := Ground.data }, { on := 3, ground := Ground.data }, { on := 4, ground := Ground.data }, { on := 2, ground := Ground.chain }], guard := none }) rfl (fun K hK => ?_) AllReadyH.nil
    go_simp
    refine (HC.out _ hS).mono ?_
    rintro e v2 ⟨rfl, hh2⟩
    refine hK.out _ _ (hh2) (fun hS => ?_)
    clear hK K
    try simp only [Act.put, List.setIfInBounds_toArray, List.set_cons_zero, List.set_cons_succ]
    have H2 := Lib.hid hh2
    clear hh2
    refine wpAnyH_take (i := 6) (oi := { dst := some 10, op := Op.assign (Operand.tmp 16), type := 41, pos := "peek.go:30", after := #[{ on := 5, ground := Ground.data }, { on := 5, ground := Ground.chain }, { on := 0, ground := Ground.phase }, { on := 1, ground := Ground.phase }, { on := 2, ground := Ground.phase }, { on := 3, ground := Ground.phase }, { on := 4, ground := Ground.phase }, { on := 5, ground := Ground.phase }], guard := none }) (v := ?v6a) rfl (by kernel_rfl) (by kernel_rfl) (by kernel_rfl) (fun _ _ _ h => h) (Or.inl ⟨by rfl, ?hy6a⟩) (by assumption) ?rest6a
    case hy6a => (intro V2 hSw; (try dsimp only at hSw); go_simp; all_goals (with_reducible rfl))
    try simp only [Act.put, List.setIfInBounds_toArray, List.set_cons_zero, List.set_cons_succ]
    refine wpAnyH_done (by kernel_rfl) ?_ _
    go_wp2_with fail
    refine wp_region_held_drew (S := fun V2 => ∃ cs, Has w (blkA (V.heap.size + 1 + 1) 73 cs :: blkA (V.heap.size + 1) 26 #[.int .i64 lw, .int .i64 ll] :: blkA V.heap.size 28 (txc ⟨x0, x1, x2, x3, x4, x5, x6, x7, x8, x9, x10, x11⟩) :: tbA p r :: T) V2) hmix (⟨_, H2.out.drew⟩) (fun hS => ?_)
    simp only [List.size_toArray, List.length_cons, List.length_nil, Nat.reduceAdd, Array.replicate_succ, Array.replicate_zero]
    refine wpAnyH_take (i := 0) (oi := { dst := some 21, op := Op.move (Operand.tmp 0), type := 31, pos := "peek.go:34", after := #[], guard := none }) (v := ?v0b) rfl (by kernel_rfl) (by kernel_rfl) (by kernel_rfl) (fun _ _ _ h => h) (Or.inl ⟨by rfl, ?hy0b⟩) (by assumption) ?rest0b
    case hy0b => (intro V2 hSw; (try dsimp only at hSw); go_simp; all_goals (with_reducible rfl))
    try simp only [Act.put, List.setIfInBounds_toArray, List.set_cons_zero, List.set_cons_succ]
    refine wpAnyH_take (i := 1) (oi := { dst := some 22, op := Op.move (Operand.tmp 1), type := 9, pos := "peek.go:34", after := #[], guard := none }) (v := ?v1b) rfl (by kernel_rfl) (by kernel_rfl) (by kernel_rfl) (fun _ _ _ h => h) (Or.inl ⟨by rfl, ?hy1b⟩) (by assumption) ?rest1b
    case hy1b => (intro V2 hSw; (try dsimp only at hSw); go_simp; all_goals (with_reducible rfl))
    try simp only [Act.put, List.setIfInBounds_toArray, List.set_cons_zero, List.set_cons_succ]
    refine wpAnyH_take (i := 3) (oi := { dst := some 24, op := Op.load 28 (Operand.tmp 6), type := 28, pos := "peek.go:34", after := #[], guard := none }) (v := ?v3b) rfl (by kernel_rfl) (by kernel_rfl) (by kernel_rfl) (fun _ _ _ h => h) (Or.inl ⟨by rfl, ?hy3b⟩) (by assumption) ?rest3b
    case hy3b => (intro V2 hSw; (try dsimp only at hSw); obtain ⟨csw, hSw⟩ := hSw; have tq := (hSw.blkIn (g := V.heap.size) (t := 28) (cs := txc ⟨x0, x1, x2, x3, x4, x5, x6, x7, x8, x9, x10, x11⟩) (by simp)); have t0 := tq.cell 0; have t1 := tq.cell 1; have t2 := tq.cell 2; have t3 := tq.cell 3; have t4 := tq.cell 4; have t5 := tq.cell 5; have t6 := tq.cell 6; have t7 := tq.cell 7; have t8 := tq.cell 8; have t9 := tq.cell 9; have t10 := tq.cell 10; have t11 := tq.cell 11; simp at t0 t1 t2 t3 t4 t5 t6 t7 t8 t9 t10 t11; go_simp; all_goals (with_reducible rfl))
    try simp only [Act.put, List.setIfInBounds_toArray, List.set_cons_zero, List.set_cons_succ]
    refine wpAnyH_ready (rs := [2]) (by kernel_rfl) (by simp) ?_
    refine AllReadyH.cons (o := { dst := some 23, op := Op.call { callee := Callee.value (Operand.func 75), args := #[Operand.tmp 22], argTypes := #[9] }, type := 9, pos := "peek.go:34", after := #[{ on := 1, ground := Ground.data }], guard := none }) rfl (fun K hK => ?_) AllReadyH.nil
    go_simp
    have hS1 := H2.out.drew
    refine (sk_clone key _ hks).mono ?_
    rintro e v3 ⟨rfl, hb3⟩
    have hS3 := hS1.keep hb3
    refine hK.out _ _ (⟨_, hS3⟩) (fun hS => ?_)
    clear hK K
    try simp only [Act.put, List.setIfInBounds_toArray, List.set_cons_zero, List.set_cons_succ]
    have H3 := Lib.hid hS3
    clear hS1 hS3 hb3
    refine wpAnyH_ready (rs := [4]) (by kernel_rfl) (by simp) ?_
    refine AllReadyH.cons (o := { dst := some 25, op := Op.call { callee := Callee.value (Operand.func 74), args := #[Operand.tmp 21, Operand.tmp 23, Operand.tmp 24], argTypes := #[31, 9, 28] }, type := 74, pos := "peek.go:34", after := #[{ on := 0, ground := Ground.data }, { on := 2, ground := Ground.data }, { on := 3, ground := Ground.data }, { on := 2, ground := Ground.chain }], guard := none }) rfl (fun K hK => ?_) AllReadyH.nil
    go_simp
    refine (HR2.out _ H3.out).mono ?_
    rintro e v4 ⟨⟨A, n, c, rfl, hat, hn⟩, hh4⟩
    refine hK.out _ _ (⟨_, hh4⟩) (fun hS => ?_)
    clear hK K
    try simp only [Act.put, List.setIfInBounds_toArray, List.set_cons_zero, List.set_cons_succ]
    have H4 := Lib.hid hh4
    have HAT := Lib.hid hat
    have rb := hh4.blkIn (g := V.heap.size + 1 + 1) (t := 73) (cs := (fdc zF (.slice none 0 0))) (by simp)
    have p0 := rb.cell 0
    have f0 := rb.frozen 0
    have p1 := rb.cell 1
    have f1 := rb.frozen 1
    have p2 := rb.cell 2
    have f2 := rb.frozen 2
    have p3 := rb.cell 3
    have f3 := rb.frozen 3
    have p4 := rb.cell 4
    have f4 := rb.frozen 4
    have p5 := rb.cell 5
    have f5 := rb.frozen 5
    have p6 := rb.cell 6
    have f6 := rb.frozen 6
    have p7 := rb.cell 7
    have f7 := rb.frozen 7
    have p8 := rb.cell 8
    have f8 := rb.frozen 8
    have p9 := rb.cell 9
    have f9 := rb.frozen 9
    have p10 := rb.cell 10
    have f10 := rb.frozen 10
    have p11 := rb.cell 11
    have f11 := rb.frozen 11
    have p12 := rb.cell 12
    have f12 := rb.frozen 12
    have p13 := rb.cell 13
    have f13 := rb.frozen 13
    have p14 := rb.cell 14
    have f14 := rb.frozen 14
    simp at p0 p1 p2 p3 p4 p5 p6 p7 p8 p9 p10 p11 p12 p13 p14
    have RB := Lib.hid rb
    clear hh4 hat rb
    refine wpAnyH_take (i := 5) (oi := { dst := some 26, op := Op.extract (Operand.tmp 25) 0, type := 73, pos := "peek.go:34", after := #[{ on := 4, ground := Ground.data }], guard := none }) (v := ?v5b) rfl (by kernel_rfl) (by kernel_rfl) (by kernel_rfl) (fun _ _ _ h => h) (Or.inl ⟨by rfl, ?hy5b⟩) (by assumption) ?rest5b
    case hy5b => (intro V2 hSw; (try dsimp only at hSw); go_simp; all_goals (with_reducible rfl))
    try simp only [Act.put, List.setIfInBounds_toArray, List.set_cons_zero, List.set_cons_succ]
    refine wpAnyH_take (i := 6) (oi := { dst := some 27, op := Op.extract (Operand.tmp 25) 1, type := 41, pos := "peek.go:34", after := #[{ on := 4, ground := Ground.data }], guard := none }) (v := ?v6b) rfl (by kernel_rfl) (by kernel_rfl) (by kernel_rfl) (fun _ _ _ h => h) (Or.inl ⟨by rfl, ?hy6b⟩) (by assumption) ?rest6b
    case hy6b => (intro V2 hSw; (try dsimp only at hSw); go_simp; all_goals (with_reducible rfl))
    try simp only [Act.put, List.setIfInBounds_toArray, List.set_cons_zero, List.set_cons_succ]
    refine wpAnyH_ready (rs := [7]) (by kernel_rfl) (by simp) ?_
    refine AllReadyH.cons (o := { dst := none, op := Op.store 73 (Operand.tmp 8) (Operand.tmp 26), type := 0, pos := "peek.go:34", after := #[{ on := 5, ground := Ground.data }, { on := 4, ground := Ground.chain }, { on := 0, ground := Ground.phase }, { on := 1, ground := Ground.phase }, { on := 2, ground := Ground.phase }, { on := 3, ground := Ground.phase }, { on := 4, ground := Ground.phase }, { on := 5, ground := Ground.phase }, { on := 6, ground := Ground.phase }], guard := none }) rfl (fun K hK => ?_) AllReadyH.nil
    go_simp
    refine hK.out _ _ (⟨_, Has.all15 (v0 := .string f.key) (v1 := .string f.value) (v2 := .bool f.is_) (v3 := .bool f.own) (v4 := .int .i64 f.sw) (v5 := .int .i64 f.sl) (v6 := .int .i64 f.it.id) (v7 := .int .i64 f.it.ep) (v8 := .int .i64 f.it.pr) (v9 := .string f.it.an) (v10 := .int .i64 f.it.sw) (v11 := .int .i64 f.it.sl) (v12 := .int .i64 f.it.bw) (v13 := .int .i64 f.it.bl) (v14 := .slice A n c) H4.out⟩) (fun hS => ?_)
    clear hK K
    try simp only [Act.put, List.setIfInBounds_toArray, List.set_cons_zero, List.set_cons_succ]
    refine wpAnyH_take (i := 8) (oi := { dst := some 9, op := Op.assign (Operand.tmp 27), type := 41, pos := "peek.go:34", after := #[{ on := 6, ground := Ground.data }, { on := 7, ground := Ground.chain }, { on := 0, ground := Ground.phase }, { on := 1, ground := Ground.phase }, { on := 2, ground := Ground.phase }, { on := 3, ground := Ground.phase }, { on := 4, ground := Ground.phase }, { on := 5, ground := Ground.phase }, { on := 6, ground := Ground.phase }, { on := 7, ground := Ground.phase }], guard := none }) (v := ?v8b) rfl (by kernel_rfl) (by kernel_rfl) (by kernel_rfl) (fun _ _ _ h => h) (Or.inl ⟨by rfl, ?hy8b⟩) (by assumption) ?rest8b
    case hy8b => (intro V2 hSw; (try dsimp only at hSw); go_simp; all_goals (with_reducible rfl))
    try simp only [Act.put, List.setIfInBounds_toArray, List.set_cons_zero, List.set_cons_succ]
    refine wpAnyH_done (by kernel_rfl) ?_ _
    have hch := HAT.out.put15 (v0 := .string f.key) (v1 := .string f.value) (v2 := .bool f.is_) (v3 := .bool f.own) (v4 := .int .i64 f.sw) (v5 := .int .i64 f.sl) (v6 := .int .i64 f.it.id) (v7 := .int .i64 f.it.ep) (v8 := .int .i64 f.it.pr) (v9 := .string f.it.an) (v10 := .int .i64 f.it.sw) (v11 := .int .i64 f.it.sl) (v12 := .int .i64 f.it.bw) (v13 := .int .i64 f.it.bl) (v14 := .slice A n c) (HAT.out.apart (show Blk _ _ _ (fdc zF (.slice none 0 0)) from RB.out) (fd_no _ _ (fun d e => nomatch e)))
    have hfin := Has.all15 (v0 := .string f.key) (v1 := .string f.value) (v2 := .bool f.is_) (v3 := .bool f.own) (v4 := .int .i64 f.sw) (v5 := .int .i64 f.sl) (v6 := .int .i64 f.it.id) (v7 := .int .i64 f.it.ep) (v8 := .int .i64 f.it.pr) (v9 := .string f.it.an) (v10 := .int .i64 f.it.sw) (v11 := .int .i64 f.it.sl) (v12 := .int .i64 f.it.bw) (v13 := .int .i64 f.it.bl) (v14 := .slice A n c) H4.out
    go_wp2_with fail
    exact ret_fd2 rfl rfl (Blk.all15 (v0 := .string f.key) (v1 := .string f.value) (v2 := .bool f.is_) (v3 := .bool f.own) (v4 := .int .i64 f.sw) (v5 := .int .i64 f.sl) (v6 := .int .i64 f.it.id) (v7 := .int .i64 f.it.ep) (v8 := .int .i64 f.it.pr) (v9 := .string f.it.an) (v10 := .int .i64 f.it.sw) (v11 := .int .i64 f.it.sl) (v12 := .int .i64 f.it.bw) (v13 := .int .i64 f.it.bl) (v14 := .slice A n c) (by exact RB.out)) rfl rfl ⟨⟨A, n, c, rfl, hch, hn⟩, hfin.tail.tail.tail⟩
  · rw [if_neg hz]
    have hze : (ce != 0) = true := by simpa using hz
    go_enter Tryz.func27, Tryz.ntmps27
    go_wp2_with fail
    refine wp_region_held_drew (S := Has w (blkA (V.heap.size + 1 + 1) 73 (fdc zF (.slice none 0 0)) :: blkA (V.heap.size + 1) 26 #[.int .i64 lw, .int .i64 ll] :: blkA V.heap.size 28 (txc ⟨x0, x1, x2, x3, x4, x5, x6, x7, x8, x9, x10, x11⟩) :: tbA p r :: T)) hmix (H1.out.drew) (fun hS => ?_)
    simp only [List.size_toArray, List.length_cons, List.length_nil, Nat.reduceAdd, Array.replicate_succ, Array.replicate_zero]
    refine wpAnyH_take (i := 0) (oi := { dst := some 11, op := Op.move (Operand.tmp 0), type := 31, pos := "peek.go:30", after := #[], guard := none }) (v := ?v0c) rfl (by kernel_rfl) (by kernel_rfl) (by kernel_rfl) (fun _ _ _ h => h) (Or.inl ⟨by rfl, ?hy0c⟩) (by assumption) ?rest0c
    case hy0c => (intro V2 hSw; (try dsimp only at hSw); go_simp; all_goals (with_reducible rfl))
    try simp only [Act.put, List.setIfInBounds_toArray, List.set_cons_zero, List.set_cons_succ]
    refine wpAnyH_take (i := 1) (oi := { dst := some 12, op := Op.move (Operand.tmp 1), type := 9, pos := "peek.go:30", after := #[], guard := none }) (v := ?v1c) rfl (by kernel_rfl) (by kernel_rfl) (by kernel_rfl) (fun _ _ _ h => h) (Or.inl ⟨by rfl, ?hy1c⟩) (by assumption) ?rest1c
    case hy1c => (intro V2 hSw; (try dsimp only at hSw); go_simp; all_goals (with_reducible rfl))
    try simp only [Act.put, List.setIfInBounds_toArray, List.set_cons_zero, List.set_cons_succ]
    refine wpAnyH_take (i := 3) (oi := { dst := some 14, op := Op.load 28 (Operand.tmp 6), type := 28, pos := "peek.go:30", after := #[], guard := none }) (v := ?v3c) rfl (by kernel_rfl) (by kernel_rfl) (by kernel_rfl) (fun _ _ _ h => h) (Or.inl ⟨by rfl, ?hy3c⟩) (by assumption) ?rest3c
    case hy3c => (intro V2 hSw; (try dsimp only at hSw); have tq := (hSw.blkIn (g := V.heap.size) (t := 28) (cs := txc ⟨x0, x1, x2, x3, x4, x5, x6, x7, x8, x9, x10, x11⟩) (by simp)); have t0 := tq.cell 0; have t1 := tq.cell 1; have t2 := tq.cell 2; have t3 := tq.cell 3; have t4 := tq.cell 4; have t5 := tq.cell 5; have t6 := tq.cell 6; have t7 := tq.cell 7; have t8 := tq.cell 8; have t9 := tq.cell 9; have t10 := tq.cell 10; have t11 := tq.cell 11; simp at t0 t1 t2 t3 t4 t5 t6 t7 t8 t9 t10 t11; go_simp; all_goals (with_reducible rfl))
    try simp only [Act.put, List.setIfInBounds_toArray, List.set_cons_zero, List.set_cons_succ]
    refine wpAnyH_take (i := 4) (oi := { dst := some 15, op := Op.load 26 (Operand.tmp 7), type := 26, pos := "peek.go:30", after := #[], guard := none }) (v := ?v4c) rfl (by kernel_rfl) (by kernel_rfl) (by kernel_rfl) (fun _ _ _ h => h) (Or.inl ⟨by rfl, ?hy4c⟩) (by assumption) ?rest4c
    case hy4c => (intro V2 hSw; (try dsimp only at hSw); have tq := (hSw.blkIn (g := V.heap.size + 1) (t := 26) (cs := #[.int .i64 lw, .int .i64 ll]) (by simp)); have t0 := tq.cell 0; have t1 := tq.cell 1; simp at t0 t1; go_simp; all_goals (with_reducible rfl))
    try simp only [Act.put, List.setIfInBounds_toArray, List.set_cons_zero, List.set_cons_succ]
    refine wpAnyH_ready (rs := [2]) (by kernel_rfl) (by simp) ?_
    refine AllReadyH.cons (o := { dst := some 13, op := Op.call { callee := Callee.value (Operand.func 73), args := #[Operand.tmp 12], argTypes := #[9] }, type := 4, pos := "peek.go:30", after := #[{ on := 1, ground := Ground.data }], guard := none }) rfl (fun K hK => ?_) AllReadyH.nil
    go_simp
    refine (HK.out _ (hM.below hS.bel)).mono ?_
    rintro e v1 ⟨rfl, hb1⟩
    refine hK.out _ _ (hS.keep hb1) (fun hS => ?_)
    clear hK K
    try simp only [Act.put, List.setIfInBounds_toArray, List.set_cons_zero, List.set_cons_succ]
    clear hb1
    refine wpAnyH_ready (rs := [5]) (by kernel_rfl) (by simp) ?_
    refine AllReadyH.cons (o := { dst := some 16, op := Op.call { callee := Callee.value (Operand.func 72), args := #[Operand.tmp 11, Operand.tmp 13, Operand.tmp 14, Operand.tmp 15], argTypes := #[31, 4, 28, 26] }, type := 41, pos := "peek.go:30", after := #[{ on := 0, ground := Ground.data }, { on := 2, ground := Ground.data }, { on := 3, ground := Ground.data }, { on := 4, ground := Ground.data }, { on := 2, ground := Ground.chain }], guard := none }) rfl (fun K hK => ?_) AllReadyH.nil
    go_simp
    refine (HC.out _ hS).mono ?_
    rintro e v2 ⟨rfl, hh2⟩
    refine hK.out _ _ (hh2) (fun hS => ?_)
    clear hK K
    try simp only [Act.put, List.setIfInBounds_toArray, List.set_cons_zero, List.set_cons_succ]
    have H2 := Lib.hid hh2
    clear hh2
    refine wpAnyH_take (i := 6) (oi := { dst := some 10, op := Op.assign (Operand.tmp 16), type := 41, pos := "peek.go:30", after := #[{ on := 5, ground := Ground.data }, { on := 5, ground := Ground.chain }, { on := 0, ground := Ground.phase }, { on := 1, ground := Ground.phase }, { on := 2, ground := Ground.phase }, { on := 3, ground := Ground.phase }, { on := 4, ground := Ground.phase }, { on := 5, ground := Ground.phase }], guard := none }) (v := ?v6c) rfl (by kernel_rfl) (by kernel_rfl) (by kernel_rfl) (fun _ _ _ h => h) (Or.inl ⟨by rfl, ?hy6c⟩) (by assumption) ?rest6c
    case hy6c => (intro V2 hSw; (try dsimp only at hSw); go_simp; all_goals (with_reducible rfl))
    try simp only [Act.put, List.setIfInBounds_toArray, List.set_cons_zero, List.set_cons_succ]
    refine wpAnyH_done (by kernel_rfl) ?_ _
    have rb := H2.out.blkIn (g := V.heap.size + 1 + 1) (t := 73) (cs := (fdc zF (.slice none 0 0))) (by simp)
    have p0 := rb.cell 0
    have f0 := rb.frozen 0
    have p1 := rb.cell 1
    have f1 := rb.frozen 1
    have p2 := rb.cell 2
    have f2 := rb.frozen 2
    have p3 := rb.cell 3
    have f3 := rb.frozen 3
    have p4 := rb.cell 4
    have f4 := rb.frozen 4
    have p5 := rb.cell 5
    have f5 := rb.frozen 5
    have p6 := rb.cell 6
    have f6 := rb.frozen 6
    have p7 := rb.cell 7
    have f7 := rb.frozen 7
    have p8 := rb.cell 8
    have f8 := rb.frozen 8
    have p9 := rb.cell 9
    have f9 := rb.frozen 9
    have p10 := rb.cell 10
    have f10 := rb.frozen 10
    have p11 := rb.cell 11
    have f11 := rb.frozen 11
    have p12 := rb.cell 12
    have f12 := rb.frozen 12
    have p13 := rb.cell 13
    have f13 := rb.frozen 13
    have p14 := rb.cell 14
    have f14 := rb.frozen 14
    simp at p0 p1 p2 p3 p4 p5 p6 p7 p8 p9 p10 p11 p12 p13 p14
    have RB := Lib.hid rb
    clear rb
    go_wp2_with fail
    have hfin := Has.all15 (v0 := .string ⟨#[]⟩) (v1 := .string ⟨#[]⟩) (v2 := .bool false) (v3 := .bool false) (v4 := .int .i64 0) (v5 := .int .i64 0) (v6 := .int .i64 0) (v7 := .int .i64 0) (v8 := .int .i64 0) (v9 := .string ⟨#[]⟩) (v10 := .int .i64 0) (v11 := .int .i64 0) (v12 := .int .i64 0) (v13 := .int .i64 0) (v14 := .slice none 0 0) H2.out
    exact ret_fd2 rfl rfl (Blk.all15 (v0 := .string ⟨#[]⟩) (v1 := .string ⟨#[]⟩) (v2 := .bool false) (v3 := .bool false) (v4 := .int .i64 0) (v5 := .int .i64 0) (v6 := .int .i64 0) (v7 := .int .i64 0) (v8 := .int .i64 0) (v9 := .string ⟨#[]⟩) (v10 := .int .i64 0) (v11 := .int .i64 0) (v12 := .int .i64 0) (v13 := .int .i64 0) (v14 := .slice none 0 0) (by exact RB.out)) rfl rfl ⟨⟨none, 0, 0, rfl, ChAt.nil _ _, by omega⟩, hfin.tail.tail.tail⟩
end Go.Proofs.YtgccichmdddbpaaGreatDoor
set_option linter.unusedVariables false
set_option linter.unusedSimpArgs false
set_option maxRecDepth 100000
namespace Go.Proofs.YtgccichmdddbpaaGreatDoor
open Go.RowKit

theorem st_rpos (x : Rw) (r : List Rw) (k : ByteArray) : rpos (x :: r) k = if kl x.key k = true then rpos r k + 1 else 0 := by
  unfold rpos
  rw [List.takeWhile_cons]
  split <;> simp
theorem st_btw (f t : ByteArray) : ∀ r : List Rw, RSor r → (r.take (rpos r t)).drop (rpos r f) = r.filter (fun x => !(kl x.key f) && kl x.key t)
  | [], _ => by simp [rpos]
  | x :: r, hs => by
    have hs' : RSor r := (List.pairwise_cons.1 hs).2
    have hx := (List.pairwise_cons.1 hs).1
    have ih := st_btw f t r hs'
    rw [st_rpos, st_rpos]
    cases ht : kl x.key t with
    | true =>
      cases hf : kl x.key f with
      | true => simp [ht, hf, ih]
      | false =>
        have h0 : rpos r f = 0 := by
          cases r with
          | nil => rfl
          | cons y r =>
            rw [st_rpos]
            have h1 := hx y (by simp)
            cases h2 : kl y.key f with
            | false => simp
            | true => rw [kl_trans h1 h2] at hf; cases hf
        rw [h0] at ih
        simp [ht, hf]
        simpa using ih
    | false =>
      have h1 : r.filter (fun x => !(kl x.key f) && kl x.key t) = [] := by
        rw [List.filter_eq_nil_iff]
        intro y hy h2
        simp only [Bool.and_eq_true] at h2
        rw [kl_trans (hx y hy) h2.2] at ht
        cases ht
      simp [ht, h1]
theorem btw_filter {r : List Rw} (hs : RSor r) (f t : ByteArray) (ht : t.toList ≠ []) : btw r f t = r.filter (fun x => !(kl x.key f) && kl x.key t) := by
  unfold btw rend
  rw [if_neg ht]
  exact st_btw f t r hs
theorem kl_cmp (a b : ByteArray) : kl a b = decide (Lib.compareBytes (sb a) (sb b) = -1) := by
  unfold kl
  rw [Lib.toList_data, Lib.toList_data]
  rcases cmp3 (sb a) (sb b) with ⟨h1, h2, _⟩ | ⟨h1, h2, _⟩ | ⟨h1, h2, _⟩
  · rw [h1]; exact h2
  · rw [h1]; exact h2
  · rw [h1]; exact h2
theorem cmp_anti {s t : List UInt8} (h1 : Lib.compareBytes s t ≠ -1) (h2 : Lib.compareBytes t s ≠ -1) : s = t := by
  rcases cmp3 s t with ⟨a, _, _⟩ | ⟨a, _, _⟩ | ⟨a, b, _⟩
  · exact absurd a h1
  · exact cmp_eq _ _ a
  · rcases cmp3 t s with ⟨c, _, _⟩ | ⟨c, _, _⟩ | ⟨c, d, _⟩
    · exact absurd c h2
    · exact (cmp_eq _ _ c).symm
    · exact kb_total b d
theorem rdVK_is {k s : List UInt8} {a b : Int} (h : rdVK k = some (s, a, b)) : may a b = true ∧ k = vkey s a b := by
  unfold rdVK at h
  split at h
  · cases h
  · rename_i s' r' hr
    split at h
    · rename_i a' b' hd
      injection h with h
      cases h
      obtain ⟨-, -, -, hk⟩ := rk_size hr
      obtain ⟨hm, ho⟩ := odown_tdown _ _ _ _ hd
      rw [List.append_nil] at ho
      refine ⟨hm, ?_⟩
      rw [hk, ← ho]
      rfl
    · cases h
theorem cmp_vkey (s t : List UInt8) (a b c d : Int) : Lib.compareBytes (vkey s a b) (vkey t c d) = if Lib.compareBytes s t = 0 then Lib.compareBytes (odown a b) (odown c d) else Lib.compareBytes s t := cmp_mark 118 s t (odown a b) (odown c d)
theorem zr_ne (s : ByteArray) : (s ++ zr).toList ≠ [] := by rw [ztoList]; simp
end Go.Proofs.YtgccichmdddbpaaGreatDoor
set_option linter.unusedVariables false
set_option linter.unusedSimpArgs false
set_option maxRecDepth 100000
namespace Go.Proofs.YtgccichmdddbpaaGreatDoor
open Go.RowKit

theorem fs_sub {α β : Type} (p q : α → Bool) (g : α → Option β) : ∀ r : List α, (∀ x ∈ r, ∀ c, g x = some c → p x = true → q x = true) →
    ((r.filter q).findSome? g = none → (r.filter p).findSome? g = none) ∧
    (∀ c, (r.filter q).findSome? g = some c → (∀ x ∈ r, g x = some c → q x = true → p x = true) → (r.filter p).findSome? g = some c)
  | [], _ => ⟨fun _ => rfl, fun c h _ => h⟩
  | x :: r, h => by
    obtain ⟨i1, i2⟩ := fs_sub p q g r (fun y hy => h y (by simp [hy]))
    have h1 := h x (by simp)
    cases hg : g x with
    | none =>
      have e : ∀ o : α → Bool, ((x :: r).filter o).findSome? g = (r.filter o).findSome? g := by
        intro o
        cases ho : o x <;> simp [ho, hg]
      rw [e, e]
      exact ⟨i1, fun c hc hx => i2 c hc (fun y hy => hx y (by simp [hy]))⟩
    | some d =>
      cases hq : q x with
      | true =>
        have e : ((x :: r).filter q).findSome? g = some d := by simp [hq, hg]
        rw [e]
        refine ⟨fun h => (by cases h), fun c hc hx => ?_⟩
        injection hc with hc
        subst hc
        have hp := hx x (by simp) hg hq
        simp [hp, hg]
      | false =>
        have hp : p x = false := by
          cases hp : p x with
          | false => rfl
          | true => rw [h1 d hg hp] at hq; cases hq
        have e : ∀ o : α → Bool, o x = false → ((x :: r).filter o).findSome? g = (r.filter o).findSome? g := fun o ho => by simp [ho]
        rw [e q hq, e p hp]
        exact ⟨i1, fun c hc hx => i2 c hc (fun y hy => hx y (by simp [hy]))⟩
theorem vrow_some' {x : Rw} {c : Ver} (h : vrow x = some c) : ∃ s, rdVK (sb x.key) = some (s, c.1, c.2.1) ∧ tkV (sb x.value) = some (c.2.2.1, c.2.2.2) := by
  unfold vrow at h
  split at h
  · rename_i s a b v i h1 h2
    cases h
    exact ⟨s, h1, h2⟩
  · cases h
/-- Which rows that can be read stand between a key's stamps. -/
theorem st_row' {k : ByteArray} {x : Rw} {s : List UInt8} {a b : Int} (R : Int × Int) (hR : may R.1 R.2 = true) (h : rdVK (sb x.key) = some (s, a, b)) :
    (!(kl x.key (bs (vkey (sb k) R.1 R.2))) && kl x.key (behK k)) = decide (s = sb k ∧ lt R (a, b) = false) := by
  obtain ⟨hm, hk⟩ := rdVK_is h
  have h00 : may 0 0 = true := by decide
  unfold behK
  rw [kl_next, kl_cmp, kl_cmp, sb_bs, sb_bs, hk, cmp_vkey, cmp_vkey, odown_cmp a b R.1 R.2 hm hR, odown_cmp 0 0 a b h00 hm]
  have hm' := may_iff.1 hm
  by_cases hs : s = sb k
  · subst hs
    rw [cmp_refl, if_pos rfl, if_pos rfl]
    by_cases hl : lt R (a, b) = false
    · have hl' := lt_no.1 hl
      simp only at hl'
      have e1 : ¬ (R.1 < a ∨ (a = R.1 ∧ R.2 < b)) := by omega
      have e2 : ¬ (a < 0 ∨ ((0 : Int) = a ∧ b < 0)) := by omega
      rw [if_neg e1, if_neg e2]
      have e3 : ∀ (p : Prop) [Decidable p], decide ((if p then (0 : Int) else 1) = -1) = false := by
        intro p _
        split <;> decide
      rw [e3, e3]
      simp [hl]
    · have hl2 : lt R (a, b) = true := by simpa using hl
      have hl' := lt_iff.1 hl2
      simp only at hl'
      rw [if_pos (by omega)]
      simp [hl2]
  · have hne : ¬ (Lib.compareBytes s (sb k) ≠ -1 ∧ Lib.compareBytes (sb k) s ≠ -1) := fun h => hs (cmp_anti h.1 h.2)
    have h0 : ¬ Lib.compareBytes s (sb k) = 0 := fun e => hs (cmp_eq _ _ e)
    have h0' : ¬ Lib.compareBytes (sb k) s = 0 := fun e => hs (cmp_eq _ _ e).symm
    rw [if_neg h0, if_neg h0']
    simp [hs]
    intro h1
    exact Classical.byContradiction fun h2 => hne ⟨h1, h2⟩
theorem pver_later {r : List Rw} (hs : RSor r) (k : ByteArray) {t1 t2 : Int × Int} (m1 : may t1.1 t1.2 = true) (m2 : may t2.1 t2.2 = true) (hle : lt t2 t1 = false) :
    (pverC r k t2 = none → pverC r k t1 = none) ∧ (∀ c, pverC r k t2 = some c → lt t1 (c.1, c.2.1) = false → pverC r k t1 = some c) := by
  have hne : (behK k).toList ≠ [] := zr_ne _
  have hle' := lt_no.1 hle
  unfold pverC
  rw [btw_filter hs _ _ hne, btw_filter hs _ _ hne]
  obtain ⟨a1, a2⟩ := fs_sub (fun x => !(kl x.key (bs (vkey (sb k) t1.1 t1.2))) && kl x.key (behK k)) (fun x => !(kl x.key (bs (vkey (sb k) t2.1 t2.2))) && kl x.key (behK k)) vrow r (by
    intro y hy c hc h1
    obtain ⟨s, h2, h3⟩ := vrow_some' hc
    rw [st_row' t1 m1 h2] at h1
    rw [st_row' t2 m2 h2]
    obtain ⟨e1, e2⟩ := of_decide_eq_true h1
    have e3 := lt_no.1 e2
    exact decide_eq_true ⟨e1, lt_no.2 (by simp only; omega)⟩)
  refine ⟨a1, fun c hc hl => a2 c hc (fun y hy hv h1 => ?_)⟩
  obtain ⟨s, h2, h3⟩ := vrow_some' hv
  rw [st_row' t2 m2 h2] at h1
  rw [st_row' t1 m1 h2]
  exact decide_eq_true ⟨(of_decide_eq_true h1).1, hl⟩
theorem rdVD_of {k : List UInt8} {q : List UInt8 × Int × Int} (h : rdVK k = some q) : rdVD k = some q := by
  unfold rdVK at h
  split at h
  · cases h
  · rename_i s r hr
    unfold rk at hr
    unfold rdVD
    split at hr
    · rename_i hh
      rw [if_pos hh]
      cases ht : tkey 1000 (k.drop 1) with
      | error x => rw [ht] at hr; cases hr
      | ok p =>
        rw [ht] at hr
        simp only at hr
        split at hr
        · injection hr with hr
          subst hr
          simp only
          exact h
        · cases hr
    · cases hr
theorem pver_mem {r : List Rw} (hs : RSor r) {k : ByteArray} {t : Int × Int} (m : may t.1 t.2 = true) {c : Ver} (h : pverC r k t = some c) : c ∈ vrsD r k := by
  have hne : (behK k).toList ≠ [] := zr_ne _
  unfold pverC at h
  rw [btw_filter hs _ _ hne] at h
  obtain ⟨y, hy, hv⟩ := List.exists_of_findSome?_eq_some h
  obtain ⟨hy1, hy2⟩ := List.mem_filter.1 hy
  obtain ⟨s, h1, h2⟩ := vrow_some' hv
  have h3 := st_row' (k := k) t m h1
  rw [hy2] at h3
  obtain ⟨hsk, -⟩ := of_decide_eq_true h3.symm
  refine List.mem_filterMap.2 ⟨y, hy1, ?_⟩
  unfold vrsR
  rw [rdVD_of h1, h2, hsk]
  simp [bs_sb]
def bwP (r : List Rw) (k : ByteArray) (R S : Int × Int) : Bool := (vrsD r k).any (fun v => !lt (v.1, v.2.1) R && lt (v.1, v.2.1) S)
def atR (x : Tx) (a b : Int) : Tx := ⟨x.id, x.ep, x.pr, x.an, a, b, x.ww, x.wl, x.lw, x.ll, x.bw, x.bl⟩
theorem newF_ok {v : Option Ver} {key : ByteArray} {x : Tx} {f : Fd} (h : newF v key x = (f, 0)) : f = verF key v ∧ lt ((verF key v).sw, (verF key v).sl) (x.rw, x.rl) = true := by
  unfold newF at h
  split at h
  · injection h with _ h; cases h
  · rename_i g
    injection h with h _
    exact ⟨h.symm, by simpa using g⟩
theorem two_may' {x y : Int × Int} (h1 : may x.1 x.2 = true) (h2 : may y.1 y.2 = true) : may (two x y).1 (two x y).2 = true := by
  rcases (two_ge x y).2.2 with h | h <;> rw [h] <;> assumption
theorem pget_later {r : List Rw} (hs : RSor r) {key : ByteArray} {x : Tx} {a b : Int} {low : Int × Int} {f g : Fd} (h1 : pgetC r key x low = (f, 0)) (h2 : pgetC r key (atR x a b) low = (g, 0))
    (hge : lt (a, b) (x.rw, x.rl) = false) (hb : bwP r key (x.rw, x.rl) (a, b) = false ∨ f.own = true) : f = g := by
  unfold pgetC at h1 h2
  rw [pget_chk] at h1 h2
  by_cases c1 : chkP (isK key) x low = 0
  case neg => rw [if_neg c1] at h1; injection h1 with _ h1; exact absurd h1 c1
  by_cases c2 : chkP (isK key) (atR x a b) low = 0
  case neg => rw [if_neg c2] at h2; injection h2 with _ h2; exact absurd h2 c2
  rw [if_pos c1] at h1
  rw [if_pos c2] at h2
  have mx := (chk_no c1).2
  have my := (chk_no c2).2
  unfold mayX at mx my
  simp only [Bool.and_eq_true] at mx my
  have mtx : may (topX x).1 (topX x).2 = true := two_may' mx.2.1 mx.2.2
  have mty : may (topX (atR x a b)).1 (topX (atR x a b)).2 = true := two_may' my.2.1 my.2.2
  have tx := two_ge (x.rw, x.rl) (x.lw, x.ll)
  have ty := two_ge (a, b) (x.lw, x.ll)
  have hle : lt (topX (atR x a b)) (topX x) = false := by
    show lt (two (a, b) (x.lw, x.ll)) (two (x.rw, x.rl) (x.lw, x.ll)) = false
    have t1 := lt_no.1 ty.1
    have t2 := lt_no.1 ty.2.1
    have t3 := lt_no.1 hge
    rw [lt_no]
    simp only at t1 t2 t3 ⊢
    rcases tx.2.2 with e | e <;> rw [e] <;> simp only <;> omega
  have NEW : newF (pverC r key (topX x)) key x = (f, 0) → newF (pverC r key (topX (atR x a b))) key (atR x a b) = (g, 0) → f = g := by
    intro n1 n2
    obtain ⟨e1, l1⟩ := newF_ok n1
    obtain ⟨e2, l2⟩ := newF_ok n2
    have hbw : bwP r key (x.rw, x.rl) (a, b) = false := by
      rcases hb with hb | hb
      · exact hb
      · rw [e1] at hb
        rw [(verF_it key _).2.1] at hb
        cases hb
    obtain ⟨p1, p2⟩ := pver_later hs key mtx mty hle
    cases hv : pverC r key (topX (atR x a b)) with
    | none => rw [e1, e2, p1 hv, hv]
    | some c =>
      have hmem := pver_mem hs mty hv
      rw [hv] at l2
      have l2' : lt (c.1, c.2.1) (a, b) = true := l2
      have hnb := List.any_eq_false.1 hbw c hmem
      simp only [l2', Bool.and_true, Bool.not_eq_true', Bool.not_eq_false] at hnb
      have t1 := lt_no.1 tx.1
      have t2 := lt_iff.1 hnb
      have hl : lt (topX x) (c.1, c.2.1) = false := by
        rw [lt_no]
        show _
        unfold topX
        simp only at t1 t2 ⊢
        omega
      rw [e1, e2, p2 c hv hl, hv]
  unfold preadC preadW at h1 h2
  cases hp : pint r key with
  | none =>
    rw [hp] at h1 h2
    exact NEW h1 h2
  | some y0 =>
    rw [hp] at h1 h2
    simp only at h1 h2
    have i1 : (atR x a b).id = x.id := rfl
    have i2 : (atR x a b).ep = x.ep := rfl
    rw [i1, i2] at h2
    split at h1
    · injection h1 with _ h1; cases h1
    · rename_i g1
      rw [if_neg g1] at h2
      split at h1
      · rename_i g2
        rw [if_pos g2] at h2
        injection h1 with h1 _
        injection h2 with h2 _
        rw [← h1, ← h2]
      · rename_i g2
        rw [if_neg g2] at h2
        split at h1
        · injection h1 with _ h1; cases h1
        · split at h2
          · injection h2 with _ h2; cases h2
          · exact NEW h1 h2
theorem pget_it {r : List Rw} {key : ByteArray} {x : Tx} {low : Int × Int} {f : Fd} (h : pgetC r key x low = (f, 0)) : f.it = zI := by
  unfold pgetC at h
  rw [pget_chk] at h
  split at h
  · have NEW : ∀ v, newF v key x = (f, 0) → f.it = zI := fun v hn => by rw [(newF_ok hn).1]; exact (verF_it key v).1
    unfold preadC preadW at h
    cases hp : pint r key with
    | none => rw [hp] at h; exact NEW _ h
    | some y0 =>
      rw [hp] at h
      simp only at h
      split at h
      · injection h with _ h; cases h
      · split at h
        · injection h with h _
          rw [← h]
          rfl
        · split at h
          · injection h with _ h; cases h
          · exact NEW _ h
  · rename_i c
    injection h with _ h
    exact absurd h c
end Go.Proofs.YtgccichmdddbpaaGreatDoor
