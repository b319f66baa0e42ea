/-
  Layer 12, the code: check.
  Layer 12, the code: Get (written by wip/genpkget.py).
  Layer 12: the document's May; the statements' may; put.
  Layer 12, plain: what a transaction reads that has written last.
  Layer 13, plain: behind a write the transaction reads what it wrote; the same write changes nothing.
  Layer 13, the code: whether stamps may be (written by wip/genpo.py).
  Layer 13, the code: an intent of a transaction (written by wip/genpo.py).
  Layer 13, the code: find (written by wip/genpo.py).
-/
import Derived.Test.YtgccichmdddbpaaGreatDoorPA31
import Derived.Test.YtgccichmdddbpaaGreatDoorPA32
import Derived.Test.YtgccichmdddbpaaGreatDoorPA29
import Derived.Test.YtgccichmdddbpaaGreatDoorPA30
import Derived.Test.YtgccichmdddbpaaGreatDoorPA18
set_option linter.unusedVariables false
set_option linter.unusedSimpArgs false
set_option maxRecDepth 100000
namespace Go.Proofs.YtgccichmdddbpaaGreatDoor
open Go.RowKit

set_option maxHeartbeats 4000000 in
theorem pkCheck {w V : World} {T : List As} {p N : Nat} {r : List Rw} (h : Has w (tbA p r :: T) V) (hr : ROk N r) (hN : N ≤ 999999000) (ok : Bool) (x : Tx) (lw ll : Int) :
    Calls Tryz.prog 72 #[pt p, .bool ok, txv x, sv lw ll] V fun e w' => e = .returned (.int .i64 (chkP ok x (lw, ll))) ∧ Has w (tbA p r :: T) w' := by
  have h1 := ((h.newBlk 28 (txc x)).newBlk 26 #[.int .i64 lw, .int .i64 ll]).perm (List.perm_middle (l₁ := [_, _]))
  have hz1 : (V.alloc (.cells (txc x) 28)).heap.size = V.heap.size + 1 := World.size_alloc _ _
  rw [hz1] at h1
  have HA := Lib.hid (show Calls Tryz.prog 19 #[pt p, .slice none 0 0] ((V.alloc (.cells (txc x) 28)).alloc (.cells #[.int .i64 lw, .int .i64 ll] 26)) fun e w' => e = .returned (.int .i64 0) ∧ Has w (tbA p r :: blkA (V.heap.size + 1) 26 #[.int .i64 lw, .int .i64 ll] :: blkA V.heap.size 28 (txc x) :: T) w' from
    (Has.tbApply h1 hr hN none 0 0 [] ⟨rfl, fun h => absurd h (by omega)⟩ (by omega) (fun o ho => nomatch ho)).mono fun e w' hq => ⟨hq.1, hq.2.1⟩)
  have HM := Lib.hid (pkMay x)
  have HS := Lib.hid (fun W => pkStamps (some ⟨W.heap.size, 0, none⟩) 1 1 [(lw, ll)] (may lw ll) (by simp [mayP]) (W.alloc (.cells #[.int .i64 lw, .int .i64 ll] 26)) (by decide) (one_stamp W lw ll))
  have HL := Lib.hid (fun W => less_c lw ll x.rw x.rl W)
  clear h h1 hr hN hz1
  unfold chkP
  simp only
  generalize mayX x = mx_ at *
  generalize may lw ll = ml_ at *
  generalize lt (lw, ll) (x.rw, x.rl) = lt_ at *
  cases ok
  · go_enter Tryz.func72, Tryz.ntmps72
    go_wp2_with (go_at_call 19; refine HA.out.mono ?_; rintro e w1 ⟨rfl, h2⟩; have HF := Lib.hid h2.swap.tail.swap.tail)
    go_ret
    exact ⟨rfl, HF.out⟩
  cases mx_
  · go_enter Tryz.func72, Tryz.ntmps72
    go_wp2_with (first
      | (go_at_call 19; refine HA.out.mono ?_; rintro e w1 ⟨rfl, h2⟩
         have HF := Lib.hid h2.swap.tail.swap.tail
         have b1 := (h2.blkIn (g := V.heap.size) (t := 28) (cs := txc x) (by simp))
         have t0 := b1.cell 0
         have t1 := b1.cell 1
         have t2 := b1.cell 2
         have t3 := b1.cell 3
         have t4 := b1.cell 4
         have t5 := b1.cell 5
         have t6 := b1.cell 6
         have t7 := b1.cell 7
         have t8 := b1.cell 8
         have t9 := b1.cell 9
         have t10 := b1.cell 10
         have t11 := b1.cell 11
         simp at t0 t1 t2 t3 t4 t5 t6 t7 t8 t9 t10 t11
         clear h2 b1)
      | (go_at_call 121; refine (HM.out _).mono ?_; rintro e w2 ⟨rfl, hb2⟩; have HF2 := Lib.hid (HF.out.keep hb2)))
    go_ret
    exact ⟨rfl, HF2.out⟩
  cases ml_
  · go_enter Tryz.func72, Tryz.ntmps72
    go_wp2_with (first
      | (go_at_call 19; refine HA.out.mono ?_; rintro e w1 ⟨rfl, h2⟩
         have HF := Lib.hid h2
         have b1 := (h2.blkIn (g := V.heap.size) (t := 28) (cs := txc x) (by simp))
         have t0 := b1.cell 0
         have t1 := b1.cell 1
         have t2 := b1.cell 2
         have t3 := b1.cell 3
         have t4 := b1.cell 4
         have t5 := b1.cell 5
         have t6 := b1.cell 6
         have t7 := b1.cell 7
         have t8 := b1.cell 8
         have t9 := b1.cell 9
         have t10 := b1.cell 10
         have t11 := b1.cell 11
         simp at t0 t1 t2 t3 t4 t5 t6 t7 t8 t9 t10 t11
         clear h2 b1)
      | (go_at_call 121; refine (HM.out _).mono ?_; rintro e w2 ⟨rfl, hb2⟩
         have h3 := HF.out.keep hb2
         have b2 := (h3.blkIn (g := V.heap.size + 1) (t := 26) (cs := #[.int .i64 lw, .int .i64 ll]) (by simp))
         have s0 := b2.cell 0
         have s1 := b2.cell 1
         simp at s0 s1
         have HF2 := Lib.hid h3
         have HS2 := Lib.hid (HS.out w2)
         clear hb2 h3 b2)
      | (go_at_call 122; refine HS2.out.mono ?_; rintro e w3 ⟨rfl, hb3⟩
         have h4 := HF2.out.keep (bst (nbl w2 (.cells #[.int .i64 lw, .int .i64 ll] 26)) hb3)
         have b3 := (h4.blkIn (g := V.heap.size + 1) (t := 26) (cs := #[.int .i64 lw, .int .i64 ll]) (by simp))
         have b4 := (h4.blkIn (g := V.heap.size) (t := 28) (cs := txc x) (by simp))
         have z0 := b3.cell 0
         have z1 := b3.cell 1
         have y4 := b4.cell 4
         have y5 := b4.cell 5
         simp at z0 z1 y4 y5
         have HF3 := Lib.hid h4
         clear h4 b3 b4 hb3)
)
    go_ret
    exact ⟨rfl, HF3.out.swap.tail.swap.tail⟩
  cases lt_
  all_goals go_enter Tryz.func72, Tryz.ntmps72
  all_goals go_wp2_with (first
      | (go_at_call 19; refine HA.out.mono ?_; rintro e w1 ⟨rfl, h2⟩
         have HF := Lib.hid h2
         have b1 := (h2.blkIn (g := V.heap.size) (t := 28) (cs := txc x) (by simp))
         have t0 := b1.cell 0
         have t1 := b1.cell 1
         have t2 := b1.cell 2
         have t3 := b1.cell 3
         have t4 := b1.cell 4
         have t5 := b1.cell 5
         have t6 := b1.cell 6
         have t7 := b1.cell 7
         have t8 := b1.cell 8
         have t9 := b1.cell 9
         have t10 := b1.cell 10
         have t11 := b1.cell 11
         simp at t0 t1 t2 t3 t4 t5 t6 t7 t8 t9 t10 t11
         clear h2 b1)
      | (go_at_call 121; refine (HM.out _).mono ?_; rintro e w2 ⟨rfl, hb2⟩
         have h3 := HF.out.keep hb2
         have b2 := (h3.blkIn (g := V.heap.size + 1) (t := 26) (cs := #[.int .i64 lw, .int .i64 ll]) (by simp))
         have s0 := b2.cell 0
         have s1 := b2.cell 1
         simp at s0 s1
         have HF2 := Lib.hid h3
         have HS2 := Lib.hid (HS.out w2)
         clear hb2 h3 b2)
      | (go_at_call 122; refine HS2.out.mono ?_; rintro e w3 ⟨rfl, hb3⟩
         have h4 := HF2.out.keep (bst (nbl w2 (.cells #[.int .i64 lw, .int .i64 ll] 26)) hb3)
         have b3 := (h4.blkIn (g := V.heap.size + 1) (t := 26) (cs := #[.int .i64 lw, .int .i64 ll]) (by simp))
         have b4 := (h4.blkIn (g := V.heap.size) (t := 28) (cs := txc x) (by simp))
         have z0 := b3.cell 0
         have z1 := b3.cell 1
         have y4 := b4.cell 4
         have y5 := b4.cell 5
         simp at z0 z1 y4 y5
         have HF3 := Lib.hid h4
         clear h4 b3 b4 hb3)
      | (go_at_call 22; refine (HL.out _).mono ?_; rintro e w4 ⟨rfl, hb4⟩; have HF4 := Lib.hid (HF3.out.keep hb4)))
  all_goals go_ret
  all_goals exact ⟨rfl, HF4.out.swap.tail.swap.tail⟩
end Go.Proofs.YtgccichmdddbpaaGreatDoor
set_option linter.unusedVariables false
set_option linter.unusedSimpArgs false
set_option maxRecDepth 100000
namespace Go.Proofs.YtgccichmdddbpaaGreatDoor
open Go.RowKit

theorem chk_no {ok : Bool} {x : Tx} {l : Int × Int} (h : chkP ok x l = 0) : ok = true ∧ mayX x = true := by
  unfold chkP at h
  split at h
  · cases h
  · rename_i hh
    cases ok <;> cases hx : mayX x <;> simp [hx] at hh ⊢
set_option maxHeartbeats 8000000 in
theorem pkGet {w V : World} {T : List As} {p N : Nat} {r : List Rw} (h : Has w (tbA p r :: T) V) (hr : ROk N r) (hN : N ≤ 999999000) (hM : MaxL w) (key : ByteArray) (hks : key.size ≤ 281474976710656) (x : Tx) (lw ll : Int) :
    Calls Tryz.prog 27 #[pt p, .string key, txv x, sv lw ll] V fun e w' => AnsF (pgetC r key x (lw, ll)) e w' ∧ Has w (tbA p r :: T) w' := by
  unfold pgetC
  rw [pget_chk]
  have hcx : chkP (isK key) x (lw, ll) = 0 → isK key = true ∧ mayX x = true := chk_no
  have hC := fun (T2 : List As) W (hh : Has w (tbA p r :: T2) W) => pkCheck hh hr hN (isK key) x lw ll
  have hR := fun (T2 : List As) W (hh : Has w (tbA p r :: T2) W) (hk : isK key = true) (hx : mayX x = true) => read_c (F := hh.get.choose) hh.get.choose_spec.1 hr.szs (hM.below hh.bel) key hk x hx
  have HK := Lib.hid (pkIsKey key)
  generalize isK key = ik at *
  generalize chkP ik x (lw, ll) = ce at *
  generalize preadC r key x = o at *
  obtain ⟨f, k⟩ := o
  obtain ⟨x0, x1, x2, x3, x4, x5, x6, x7, x8, x9, x10, x11⟩ := x
  have h1 := (((h.newBlk 28 (txc ⟨x0, x1, x2, x3, x4, x5, x6, x7, x8, x9, x10, x11⟩)).newBlk 26 #[.int .i64 lw, .int .i64 ll]).newBlk 73 (fdc zF (.slice none 0 0)))
  have hz1 : (V.alloc (.cells (txc ⟨x0, x1, x2, x3, x4, x5, x6, x7, x8, x9, x10, x11⟩) 28)).heap.size = V.heap.size + 1 := World.size_alloc _ _
  have hz2 : ((V.alloc (.cells (txc ⟨x0, x1, x2, x3, x4, x5, x6, x7, x8, x9, x10, x11⟩) 28)).alloc (.cells #[.int .i64 lw, .int .i64 ll] 26)).heap.size = V.heap.size + 1 + 1 := (World.size_alloc _ _).trans (by rw [hz1])
  rw [hz2, hz1] at h1
  have H1 := Lib.hid h1
  have HC := Lib.hid (fun W (hh : Has w (blkA (V.heap.size + 1 + 1) 73 (fdc zF (.slice none 0 0)) :: blkA (V.heap.size + 1) 26 #[.int .i64 lw, .int .i64 ll] :: blkA V.heap.size 28 (txc ⟨x0, x1, x2, x3, x4, x5, x6, x7, x8, x9, x10, x11⟩) :: tbA p r :: T) W) => (show Calls Tryz.prog 72 #[pt p, .bool ik, txv ⟨x0, x1, x2, x3, x4, x5, x6, x7, x8, x9, x10, x11⟩, sv lw ll] W fun e w' => e = .returned (.int .i64 ce) ∧ Has w (blkA (V.heap.size + 1 + 1) 73 (fdc zF (.slice none 0 0)) :: blkA (V.heap.size + 1) 26 #[.int .i64 lw, .int .i64 ll] :: blkA V.heap.size 28 (txc ⟨x0, x1, x2, x3, x4, x5, x6, x7, x8, x9, x10, x11⟩) :: tbA p r :: T) w' from
    (hC _ W (hh.perm (List.perm_middle (l₁ := [_, _, _])))).mono fun e w' hq => ⟨hq.1, hq.2.perm (List.perm_middle (l₁ := [_, _, _])).symm⟩))
  have HR := Lib.hid (fun (hz : ce = 0) W (hh : Has w (blkA (V.heap.size + 1 + 1) 73 (fdc zF (.slice none 0 0)) :: blkA (V.heap.size + 1) 26 #[.int .i64 lw, .int .i64 ll] :: blkA V.heap.size 28 (txc ⟨x0, x1, x2, x3, x4, x5, x6, x7, x8, x9, x10, x11⟩) :: tbA p r :: T) W) => (show Calls Tryz.prog 74 #[pt p, .string key, txv ⟨x0, x1, x2, x3, x4, x5, x6, x7, x8, x9, x10, x11⟩] W fun e w' => AnsF (f, k) e w' ∧ Has w (blkA (V.heap.size + 1 + 1) 73 (fdc zF (.slice none 0 0)) :: blkA (V.heap.size + 1) 26 #[.int .i64 lw, .int .i64 ll] :: blkA V.heap.size 28 (txc ⟨x0, x1, x2, x3, x4, x5, x6, x7, x8, x9, x10, x11⟩) :: tbA p r :: T) w' from
    (hR _ W (hh.perm (List.perm_middle (l₁ := [_, _, _]))) (hcx hz).1 (hcx hz).2).mono fun e w' hq => ⟨hq.1, hh.keep hq.2⟩))
  have hmix : Tryz.prog.follows .mixedOrders = true := by kernel_rfl
  clear h h1 hz1 hz2 hC hR hcx hr hN
  by_cases hz : ce = 0
  · rw [if_pos hz]
    have HR2 := Lib.hid (HR.out hz)
    clear HR
    subst hz
    go_enter Tryz.func27, Tryz.ntmps27
    go_wp2_with fail
    refine wp_region_held_drew (S := Has w (blkA (V.heap.size + 1 + 1) 73 (fdc zF (.slice none 0 0)) :: blkA (V.heap.size + 1) 26 #[.int .i64 lw, .int .i64 ll] :: blkA V.heap.size 28 (txc ⟨x0, x1, x2, x3, x4, x5, x6, x7, x8, x9, x10, x11⟩) :: tbA p r :: T)) hmix (H1.out.drew) (fun hS => ?_)
    simp only [List.size_toArray, List.length_cons, List.length_nil, Nat.reduceAdd, Array.replicate_succ, Array.replicate_zero]
    refine wpAnyH_take (i := 0) (oi := ⟨some 11, Op.move (Operand.tmp 0), 31, "peek.go:30", #[], none⟩) (v := ?v0a) rfl (by kernel_rfl) (by kernel_rfl) (by kernel_rfl) (fun _ _ _ h => h) (Or.inl ⟨by rfl, ?hy0a⟩) (by assumption) ?rest0a
    case hy0a => (intro V2 hSw; (try dsimp only at hSw); go_simp; all_goals (with_reducible rfl))
    try simp only [Act.put, List.setIfInBounds_toArray, List.set_cons_zero, List.set_cons_succ]
    refine wpAnyH_take (i := 1) (oi := ⟨some 12, Op.move (Operand.tmp 1), 9, "peek.go:30", #[], none⟩) (v := ?v1a) rfl (by kernel_rfl) (by kernel_rfl) (by kernel_rfl) (fun _ _ _ h => h) (Or.inl ⟨by rfl, ?hy1a⟩) (by assumption) ?rest1a
    case hy1a => (intro V2 hSw; (try dsimp only at hSw); go_simp; all_goals (with_reducible rfl))
    try simp only [Act.put, List.setIfInBounds_toArray, List.set_cons_zero, List.set_cons_succ]
    refine wpAnyH_take (i := 3) (oi := ⟨some 14, Op.load 28 (Operand.tmp 6), 28, "peek.go:30", #[], none⟩) (v := ?v3a) rfl (by kernel_rfl) (by kernel_rfl) (by kernel_rfl) (fun _ _ _ h => h) (Or.inl ⟨by rfl, ?hy3a⟩) (by assumption) ?rest3a
    case hy3a => (intro V2 hSw; (try dsimp only at hSw); have tq := (hSw.blkIn (g := V.heap.size) (t := 28) (cs := txc ⟨x0, x1, x2, x3, x4, x5, x6, x7, x8, x9, x10, x11⟩) (by simp)); have t0 := tq.cell 0; have t1 := tq.cell 1; have t2 := tq.cell 2; have t3 := tq.cell 3; have t4 := tq.cell 4; have t5 := tq.cell 5; have t6 := tq.cell 6; have t7 := tq.cell 7; have t8 := tq.cell 8; have t9 := tq.cell 9; have t10 := tq.cell 10; have t11 := tq.cell 11; simp at t0 t1 t2 t3 t4 t5 t6 t7 t8 t9 t10 t11; go_simp; all_goals (with_reducible rfl))
    try simp only [Act.put, List.setIfInBounds_toArray, List.set_cons_zero, List.set_cons_succ]
    refine wpAnyH_take (i := 4) (oi := ⟨some 15, Op.load 26 (Operand.tmp 7), 26, "peek.go:30", #[], none⟩) (v := ?v4a) rfl (by kernel_rfl) (by kernel_rfl) (by kernel_rfl) (fun _ _ _ h => h) (Or.inl ⟨by rfl, ?hy4a⟩) (by assumption) ?rest4a
    case hy4a => (intro V2 hSw; (try dsimp only at hSw); have tq := (hSw.blkIn (g := V.heap.size + 1) (t := 26) (cs := #[.int .i64 lw, .int .i64 ll]) (by simp)); have t0 := tq.cell 0; have t1 := tq.cell 1; simp at t0 t1; go_simp; all_goals (with_reducible rfl))
    try simp only [Act.put, List.setIfInBounds_toArray, List.set_cons_zero, List.set_cons_succ]
    refine wpAnyH_ready (rs := [2]) (by kernel_rfl) (by simp) ?_
    refine AllReadyH.cons (o := ⟨some 13, Op.call { callee := Callee.value (Operand.func 73), args := #[Operand.tmp 12], argTypes := #[9] }, 4, "peek.go:30", #[⟨1, .data⟩], none⟩) rfl (fun K hK => ?_) AllReadyH.nil
    go_simp
    refine (HK.out _ (hM.below hS.bel)).mono ?_
    rintro e v1 ⟨rfl, hb1⟩
    refine hK.out _ _ (hS.keep hb1) (fun hS => ?_)
    clear hK K
    try simp only [Act.put, List.setIfInBounds_toArray, List.set_cons_zero, List.set_cons_succ]
    clear hb1
    refine wpAnyH_ready (rs := [5]) (by kernel_rfl) (by simp) ?_
    refine AllReadyH.cons (o := ⟨some 16, Op.call { callee := Callee.value (Operand.func 72), args := #[Operand.tmp 11, Operand.tmp 13, Operand.tmp 14, Operand.tmp 15], argTypes := #[31, 4, 28, 26] }, 41, "peek.go:30", #[⟨0, .data⟩, ⟨2, .data⟩, ⟨3, .data⟩, ⟨4, .data⟩, ⟨2, .chain⟩], none⟩) rfl (fun K hK => ?_) AllReadyH.nil
    go_simp
    refine (HC.out _ hS).mono ?_
    rintro e v2 ⟨rfl, hh2⟩
    refine hK.out _ _ (hh2) (fun hS => ?_)
    clear hK K
    try simp only [Act.put, List.setIfInBounds_toArray, List.set_cons_zero, List.set_cons_succ]
    have H2 := Lib.hid hh2
    clear hh2
    refine wpAnyH_take (i := 6) (oi := ⟨some 10, Op.assign (Operand.tmp 16), 41, "peek.go:30", #[⟨5, .data⟩, ⟨5, .chain⟩, ⟨0, .phase⟩, ⟨1, .phase⟩, ⟨2, .phase⟩, ⟨3, .phase⟩, ⟨4, .phase⟩, ⟨5, .phase⟩], none⟩) (v := ?v6a) rfl (by kernel_rfl) (by kernel_rfl) (by kernel_rfl) (fun _ _ _ h => h) (Or.inl ⟨by rfl, ?hy6a⟩) (by assumption) ?rest6a
    case hy6a => (intro V2 hSw; (try dsimp only at hSw); go_simp; all_goals (with_reducible rfl))
    try simp only [Act.put, List.setIfInBounds_toArray, List.set_cons_zero, List.set_cons_succ]
    refine wpAnyH_done (by kernel_rfl) ?_ _
    go_wp2_with fail
    refine wp_region_held_drew (S := fun V2 => ∃ cs, Has w (blkA (V.heap.size + 1 + 1) 73 cs :: blkA (V.heap.size + 1) 26 #[.int .i64 lw, .int .i64 ll] :: blkA V.heap.size 28 (txc ⟨x0, x1, x2, x3, x4, x5, x6, x7, x8, x9, x10, x11⟩) :: tbA p r :: T) V2) hmix (⟨_, H2.out.drew⟩) (fun hS => ?_)
    simp only [List.size_toArray, List.length_cons, List.length_nil, Nat.reduceAdd, Array.replicate_succ, Array.replicate_zero]
    refine wpAnyH_take (i := 0) (oi := ⟨some 21, Op.move (Operand.tmp 0), 31, "peek.go:34", #[], none⟩) (v := ?v0b) rfl (by kernel_rfl) (by kernel_rfl) (by kernel_rfl) (fun _ _ _ h => h) (Or.inl ⟨by rfl, ?hy0b⟩) (by assumption) ?rest0b
    case hy0b => (intro V2 hSw; (try dsimp only at hSw); go_simp; all_goals (with_reducible rfl))
    try simp only [Act.put, List.setIfInBounds_toArray, List.set_cons_zero, List.set_cons_succ]
    refine wpAnyH_take (i := 1) (oi := ⟨some 22, Op.move (Operand.tmp 1), 9, "peek.go:34", #[], none⟩) (v := ?v1b) rfl (by kernel_rfl) (by kernel_rfl) (by kernel_rfl) (fun _ _ _ h => h) (Or.inl ⟨by rfl, ?hy1b⟩) (by assumption) ?rest1b
    case hy1b => (intro V2 hSw; (try dsimp only at hSw); go_simp; all_goals (with_reducible rfl))
    try simp only [Act.put, List.setIfInBounds_toArray, List.set_cons_zero, List.set_cons_succ]
    refine wpAnyH_take (i := 3) (oi := ⟨some 24, Op.load 28 (Operand.tmp 6), 28, "peek.go:34", #[], none⟩) (v := ?v3b) rfl (by kernel_rfl) (by kernel_rfl) (by kernel_rfl) (fun _ _ _ h => h) (Or.inl ⟨by rfl, ?hy3b⟩) (by assumption) ?rest3b
    case hy3b => (intro V2 hSw; (try dsimp only at hSw); obtain ⟨csw, hSw⟩ := hSw; have tq := (hSw.blkIn (g := V.heap.size) (t := 28) (cs := txc ⟨x0, x1, x2, x3, x4, x5, x6, x7, x8, x9, x10, x11⟩) (by simp)); have t0 := tq.cell 0; have t1 := tq.cell 1; have t2 := tq.cell 2; have t3 := tq.cell 3; have t4 := tq.cell 4; have t5 := tq.cell 5; have t6 := tq.cell 6; have t7 := tq.cell 7; have t8 := tq.cell 8; have t9 := tq.cell 9; have t10 := tq.cell 10; have t11 := tq.cell 11; simp at t0 t1 t2 t3 t4 t5 t6 t7 t8 t9 t10 t11; go_simp; all_goals (with_reducible rfl))
    try simp only [Act.put, List.setIfInBounds_toArray, List.set_cons_zero, List.set_cons_succ]
    refine wpAnyH_ready (rs := [2]) (by kernel_rfl) (by simp) ?_
    refine AllReadyH.cons (o := ⟨some 23, Op.call { callee := Callee.value (Operand.func 75), args := #[Operand.tmp 22], argTypes := #[9] }, 9, "peek.go:34", #[⟨1, .data⟩], none⟩) rfl (fun K hK => ?_) AllReadyH.nil
    go_simp
    have hS1 := H2.out.drew
    refine (sk_clone key _ hks).mono ?_
    rintro e v3 ⟨rfl, hb3⟩
    have hS3 := hS1.keep hb3
    refine hK.out _ _ (⟨_, hS3⟩) (fun hS => ?_)
    clear hK K
    try simp only [Act.put, List.setIfInBounds_toArray, List.set_cons_zero, List.set_cons_succ]
    have H3 := Lib.hid hS3
    clear hS1 hS3 hb3
    refine wpAnyH_ready (rs := [4]) (by kernel_rfl) (by simp) ?_
    refine AllReadyH.cons (o := ⟨some 25, Op.call { callee := Callee.value (Operand.func 74), args := #[Operand.tmp 21, Operand.tmp 23, Operand.tmp 24], argTypes := #[31, 9, 28] }, 74, "peek.go:34", #[⟨0, .data⟩, ⟨2, .data⟩, ⟨3, .data⟩, ⟨2, .chain⟩], none⟩) rfl (fun K hK => ?_) AllReadyH.nil
    go_simp
    refine (HR2.out _ H3.out).mono ?_
    rintro e v4 ⟨⟨A, n, c, rfl, hat, hn⟩, hh4⟩
    refine hK.out _ _ (⟨_, hh4⟩) (fun hS => ?_)
    clear hK K
    try simp only [Act.put, List.setIfInBounds_toArray, List.set_cons_zero, List.set_cons_succ]
    have H4 := Lib.hid hh4
    have HAT := Lib.hid hat
    have rb := hh4.blkIn (g := V.heap.size + 1 + 1) (t := 73) (cs := (fdc zF (.slice none 0 0))) (by simp)
    have p0 := rb.cell 0
    have f0 := rb.frozen 0
    have p1 := rb.cell 1
    have f1 := rb.frozen 1
    have p2 := rb.cell 2
    have f2 := rb.frozen 2
    have p3 := rb.cell 3
    have f3 := rb.frozen 3
    have p4 := rb.cell 4
    have f4 := rb.frozen 4
    have p5 := rb.cell 5
    have f5 := rb.frozen 5
    have p6 := rb.cell 6
    have f6 := rb.frozen 6
    have p7 := rb.cell 7
    have f7 := rb.frozen 7
    have p8 := rb.cell 8
    have f8 := rb.frozen 8
    have p9 := rb.cell 9
    have f9 := rb.frozen 9
    have p10 := rb.cell 10
    have f10 := rb.frozen 10
    have p11 := rb.cell 11
    have f11 := rb.frozen 11
    have p12 := rb.cell 12
    have f12 := rb.frozen 12
    have p13 := rb.cell 13
    have f13 := rb.frozen 13
    have p14 := rb.cell 14
    have f14 := rb.frozen 14
    simp at p0 p1 p2 p3 p4 p5 p6 p7 p8 p9 p10 p11 p12 p13 p14
    have RB := Lib.hid rb
    clear hh4 hat rb
    refine wpAnyH_take (i := 5) (oi := ⟨some 26, Op.extract (Operand.tmp 25) 0, 73, "peek.go:34", #[⟨4, .data⟩], none⟩) (v := ?v5b) rfl (by kernel_rfl) (by kernel_rfl) (by kernel_rfl) (fun _ _ _ h => h) (Or.inl ⟨by rfl, ?hy5b⟩) (by assumption) ?rest5b
    case hy5b => (intro V2 hSw; (try dsimp only at hSw); go_simp; all_goals (with_reducible rfl))
    try simp only [Act.put, List.setIfInBounds_toArray, List.set_cons_zero, List.set_cons_succ]
    refine wpAnyH_take (i := 6) (oi := ⟨some 27, Op.extract (Operand.tmp 25) 1, 41, "peek.go:34", #[⟨4, .data⟩], none⟩) (v := ?v6b) rfl (by kernel_rfl) (by kernel_rfl) (by kernel_rfl) (fun _ _ _ h => h) (Or.inl ⟨by rfl, ?hy6b⟩) (by assumption) ?rest6b
    case hy6b => (intro V2 hSw; (try dsimp only at hSw); go_simp; all_goals (with_reducible rfl))
    try simp only [Act.put, List.setIfInBounds_toArray, List.set_cons_zero, List.set_cons_succ]
    refine wpAnyH_ready (rs := [7]) (by kernel_rfl) (by simp) ?_
    refine AllReadyH.cons (o := ⟨none, Op.store 73 (Operand.tmp 8) (Operand.tmp 26), 0, "peek.go:34", #[⟨5, .data⟩, ⟨4, .chain⟩, ⟨0, .phase⟩, ⟨1, .phase⟩, ⟨2, .phase⟩, ⟨3, .phase⟩, ⟨4, .phase⟩, ⟨5, .phase⟩, ⟨6, .phase⟩], none⟩) rfl (fun K hK => ?_) AllReadyH.nil
    go_simp
    refine hK.out _ _ (⟨_, Has.all15 (v0 := .string f.key) (v1 := .string f.value) (v2 := .bool f.is_) (v3 := .bool f.own) (v4 := .int .i64 f.sw) (v5 := .int .i64 f.sl) (v6 := .int .i64 f.it.id) (v7 := .int .i64 f.it.ep) (v8 := .int .i64 f.it.pr) (v9 := .string f.it.an) (v10 := .int .i64 f.it.sw) (v11 := .int .i64 f.it.sl) (v12 := .int .i64 f.it.bw) (v13 := .int .i64 f.it.bl) (v14 := .slice A n c) H4.out⟩) (fun hS => ?_)
    clear hK K
    try simp only [Act.put, List.setIfInBounds_toArray, List.set_cons_zero, List.set_cons_succ]
    refine wpAnyH_take (i := 8) (oi := ⟨some 9, Op.assign (Operand.tmp 27), 41, "peek.go:34", #[⟨6, .data⟩, ⟨7, .chain⟩, ⟨0, .phase⟩, ⟨1, .phase⟩, ⟨2, .phase⟩, ⟨3, .phase⟩, ⟨4, .phase⟩, ⟨5, .phase⟩, ⟨6, .phase⟩, ⟨7, .phase⟩], none⟩) (v := ?v8b) rfl (by kernel_rfl) (by kernel_rfl) (by kernel_rfl) (fun _ _ _ h => h) (Or.inl ⟨by rfl, ?hy8b⟩) (by assumption) ?rest8b
    case hy8b => (intro V2 hSw; (try dsimp only at hSw); go_simp; all_goals (with_reducible rfl))
    try simp only [Act.put, List.setIfInBounds_toArray, List.set_cons_zero, List.set_cons_succ]
    refine wpAnyH_done (by kernel_rfl) ?_ _
    have hch := HAT.out.put15 (v0 := .string f.key) (v1 := .string f.value) (v2 := .bool f.is_) (v3 := .bool f.own) (v4 := .int .i64 f.sw) (v5 := .int .i64 f.sl) (v6 := .int .i64 f.it.id) (v7 := .int .i64 f.it.ep) (v8 := .int .i64 f.it.pr) (v9 := .string f.it.an) (v10 := .int .i64 f.it.sw) (v11 := .int .i64 f.it.sl) (v12 := .int .i64 f.it.bw) (v13 := .int .i64 f.it.bl) (v14 := .slice A n c) (HAT.out.apart (show Blk _ _ _ (fdc zF (.slice none 0 0)) from RB.out) (fd_no _ _ (fun d e => nomatch e)))
    have hfin := Has.all15 (v0 := .string f.key) (v1 := .string f.value) (v2 := .bool f.is_) (v3 := .bool f.own) (v4 := .int .i64 f.sw) (v5 := .int .i64 f.sl) (v6 := .int .i64 f.it.id) (v7 := .int .i64 f.it.ep) (v8 := .int .i64 f.it.pr) (v9 := .string f.it.an) (v10 := .int .i64 f.it.sw) (v11 := .int .i64 f.it.sl) (v12 := .int .i64 f.it.bw) (v13 := .int .i64 f.it.bl) (v14 := .slice A n c) H4.out
    go_wp2_with fail
    exact ret_fd2 rfl rfl (Blk.all15 (v0 := .string f.key) (v1 := .string f.value) (v2 := .bool f.is_) (v3 := .bool f.own) (v4 := .int .i64 f.sw) (v5 := .int .i64 f.sl) (v6 := .int .i64 f.it.id) (v7 := .int .i64 f.it.ep) (v8 := .int .i64 f.it.pr) (v9 := .string f.it.an) (v10 := .int .i64 f.it.sw) (v11 := .int .i64 f.it.sl) (v12 := .int .i64 f.it.bw) (v13 := .int .i64 f.it.bl) (v14 := .slice A n c) (by exact RB.out)) rfl rfl ⟨⟨A, n, c, rfl, hch, hn⟩, hfin.tail.tail.tail⟩
  · rw [if_neg hz]
    have hze : (ce != 0) = true := by simpa using hz
    go_enter Tryz.func27, Tryz.ntmps27
    go_wp2_with fail
    refine wp_region_held_drew (S := Has w (blkA (V.heap.size + 1 + 1) 73 (fdc zF (.slice none 0 0)) :: blkA (V.heap.size + 1) 26 #[.int .i64 lw, .int .i64 ll] :: blkA V.heap.size 28 (txc ⟨x0, x1, x2, x3, x4, x5, x6, x7, x8, x9, x10, x11⟩) :: tbA p r :: T)) hmix (H1.out.drew) (fun hS => ?_)
    simp only [List.size_toArray, List.length_cons, List.length_nil, Nat.reduceAdd, Array.replicate_succ, Array.replicate_zero]
    refine wpAnyH_take (i := 0) (oi := ⟨some 11, Op.move (Operand.tmp 0), 31, "peek.go:30", #[], none⟩) (v := ?v0c) rfl (by kernel_rfl) (by kernel_rfl) (by kernel_rfl) (fun _ _ _ h => h) (Or.inl ⟨by rfl, ?hy0c⟩) (by assumption) ?rest0c
    case hy0c => (intro V2 hSw; (try dsimp only at hSw); go_simp; all_goals (with_reducible rfl))
    try simp only [Act.put, List.setIfInBounds_toArray, List.set_cons_zero, List.set_cons_succ]
    refine wpAnyH_take (i := 1) (oi := ⟨some 12, Op.move (Operand.tmp 1), 9, "peek.go:30", #[], none⟩) (v := ?v1c) rfl (by kernel_rfl) (by kernel_rfl) (by kernel_rfl) (fun _ _ _ h => h) (Or.inl ⟨by rfl, ?hy1c⟩) (by assumption) ?rest1c
    case hy1c => (intro V2 hSw; (try dsimp only at hSw); go_simp; all_goals (with_reducible rfl))
    try simp only [Act.put, List.setIfInBounds_toArray, List.set_cons_zero, List.set_cons_succ]
    refine wpAnyH_take (i := 3) (oi := ⟨some 14, Op.load 28 (Operand.tmp 6), 28, "peek.go:30", #[], none⟩) (v := ?v3c) rfl (by kernel_rfl) (by kernel_rfl) (by kernel_rfl) (fun _ _ _ h => h) (Or.inl ⟨by rfl, ?hy3c⟩) (by assumption) ?rest3c
    case hy3c => (intro V2 hSw; (try dsimp only at hSw); have tq := (hSw.blkIn (g := V.heap.size) (t := 28) (cs := txc ⟨x0, x1, x2, x3, x4, x5, x6, x7, x8, x9, x10, x11⟩) (by simp)); have t0 := tq.cell 0; have t1 := tq.cell 1; have t2 := tq.cell 2; have t3 := tq.cell 3; have t4 := tq.cell 4; have t5 := tq.cell 5; have t6 := tq.cell 6; have t7 := tq.cell 7; have t8 := tq.cell 8; have t9 := tq.cell 9; have t10 := tq.cell 10; have t11 := tq.cell 11; simp at t0 t1 t2 t3 t4 t5 t6 t7 t8 t9 t10 t11; go_simp; all_goals (with_reducible rfl))
    try simp only [Act.put, List.setIfInBounds_toArray, List.set_cons_zero, List.set_cons_succ]
    refine wpAnyH_take (i := 4) (oi := ⟨some 15, Op.load 26 (Operand.tmp 7), 26, "peek.go:30", #[], none⟩) (v := ?v4c) rfl (by kernel_rfl) (by kernel_rfl) (by kernel_rfl) (fun _ _ _ h => h) (Or.inl ⟨by rfl, ?hy4c⟩) (by assumption) ?rest4c
    case hy4c => (intro V2 hSw; (try dsimp only at hSw); have tq := (hSw.blkIn (g := V.heap.size + 1) (t := 26) (cs := #[.int .i64 lw, .int .i64 ll]) (by simp)); have t0 := tq.cell 0; have t1 := tq.cell 1; simp at t0 t1; go_simp; all_goals (with_reducible rfl))
    try simp only [Act.put, List.setIfInBounds_toArray, List.set_cons_zero, List.set_cons_succ]
    refine wpAnyH_ready (rs := [2]) (by kernel_rfl) (by simp) ?_
    refine AllReadyH.cons (o := ⟨some 13, Op.call { callee := Callee.value (Operand.func 73), args := #[Operand.tmp 12], argTypes := #[9] }, 4, "peek.go:30", #[⟨1, .data⟩], none⟩) rfl (fun K hK => ?_) AllReadyH.nil
    go_simp
    refine (HK.out _ (hM.below hS.bel)).mono ?_
    rintro e v1 ⟨rfl, hb1⟩
    refine hK.out _ _ (hS.keep hb1) (fun hS => ?_)
    clear hK K
    try simp only [Act.put, List.setIfInBounds_toArray, List.set_cons_zero, List.set_cons_succ]
    clear hb1
    refine wpAnyH_ready (rs := [5]) (by kernel_rfl) (by simp) ?_
    refine AllReadyH.cons (o := ⟨some 16, Op.call { callee := Callee.value (Operand.func 72), args := #[Operand.tmp 11, Operand.tmp 13, Operand.tmp 14, Operand.tmp 15], argTypes := #[31, 4, 28, 26] }, 41, "peek.go:30", #[⟨0, .data⟩, ⟨2, .data⟩, ⟨3, .data⟩, ⟨4, .data⟩, ⟨2, .chain⟩], none⟩) rfl (fun K hK => ?_) AllReadyH.nil
    go_simp
    refine (HC.out _ hS).mono ?_
    rintro e v2 ⟨rfl, hh2⟩
    refine hK.out _ _ (hh2) (fun hS => ?_)
    clear hK K
    try simp only [Act.put, List.setIfInBounds_toArray, List.set_cons_zero, List.set_cons_succ]
    have H2 := Lib.hid hh2
    clear hh2
    refine wpAnyH_take (i := 6) (oi := ⟨some 10, Op.assign (Operand.tmp 16), 41, "peek.go:30", #[⟨5, .data⟩, ⟨5, .chain⟩, ⟨0, .phase⟩, ⟨1, .phase⟩, ⟨2, .phase⟩, ⟨3, .phase⟩, ⟨4, .phase⟩, ⟨5, .phase⟩], none⟩) (v := ?v6c) rfl (by kernel_rfl) (by kernel_rfl) (by kernel_rfl) (fun _ _ _ h => h) (Or.inl ⟨by rfl, ?hy6c⟩) (by assumption) ?rest6c
    case hy6c => (intro V2 hSw; (try dsimp only at hSw); go_simp; all_goals (with_reducible rfl))
    try simp only [Act.put, List.setIfInBounds_toArray, List.set_cons_zero, List.set_cons_succ]
    refine wpAnyH_done (by kernel_rfl) ?_ _
    have rb := H2.out.blkIn (g := V.heap.size + 1 + 1) (t := 73) (cs := (fdc zF (.slice none 0 0))) (by simp)
    have p0 := rb.cell 0
    have f0 := rb.frozen 0
    have p1 := rb.cell 1
    have f1 := rb.frozen 1
    have p2 := rb.cell 2
    have f2 := rb.frozen 2
    have p3 := rb.cell 3
    have f3 := rb.frozen 3
    have p4 := rb.cell 4
    have f4 := rb.frozen 4
    have p5 := rb.cell 5
    have f5 := rb.frozen 5
    have p6 := rb.cell 6
    have f6 := rb.frozen 6
    have p7 := rb.cell 7
    have f7 := rb.frozen 7
    have p8 := rb.cell 8
    have f8 := rb.frozen 8
    have p9 := rb.cell 9
    have f9 := rb.frozen 9
    have p10 := rb.cell 10
    have f10 := rb.frozen 10
    have p11 := rb.cell 11
    have f11 := rb.frozen 11
    have p12 := rb.cell 12
    have f12 := rb.frozen 12
    have p13 := rb.cell 13
    have f13 := rb.frozen 13
    have p14 := rb.cell 14
    have f14 := rb.frozen 14
    simp at p0 p1 p2 p3 p4 p5 p6 p7 p8 p9 p10 p11 p12 p13 p14
    have RB := Lib.hid rb
    clear rb
    go_wp2_with fail
    have hfin := Has.all15 (v0 := .string ⟨#[]⟩) (v1 := .string ⟨#[]⟩) (v2 := .bool false) (v3 := .bool false) (v4 := .int .i64 0) (v5 := .int .i64 0) (v6 := .int .i64 0) (v7 := .int .i64 0) (v8 := .int .i64 0) (v9 := .string ⟨#[]⟩) (v10 := .int .i64 0) (v11 := .int .i64 0) (v12 := .int .i64 0) (v13 := .int .i64 0) (v14 := .slice none 0 0) H2.out
    exact ret_fd2 rfl rfl (Blk.all15 (v0 := .string ⟨#[]⟩) (v1 := .string ⟨#[]⟩) (v2 := .bool false) (v3 := .bool false) (v4 := .int .i64 0) (v5 := .int .i64 0) (v6 := .int .i64 0) (v7 := .int .i64 0) (v8 := .int .i64 0) (v9 := .string ⟨#[]⟩) (v10 := .int .i64 0) (v11 := .int .i64 0) (v12 := .int .i64 0) (v13 := .int .i64 0) (v14 := .slice none 0 0) (by exact RB.out)) rfl rfl ⟨⟨none, 0, 0, rfl, ChAt.nil _ _, by omega⟩, hfin.tail.tail.tail⟩
end Go.Proofs.YtgccichmdddbpaaGreatDoor
set_option linter.unusedVariables false
set_option linter.unusedSimpArgs false
set_option maxRecDepth 100000
namespace Go.Proofs.YtgccichmdddbpaaGreatDoor
open Go.RowKit

end Go.Proofs.YtgccichmdddbpaaGreatDoor
set_option linter.unusedVariables false
set_option linter.unusedSimpArgs false
set_option maxRecDepth 100000
namespace Go.Proofs.YtgccichmdddbpaaGreatDoor
open Go.RowKit

theorem rapp_val {r : List Rw} (hs : RSor r) (k v : ByteArray) (hk : k.toList ≠ []) : rval (rapp r [⟨k, v, false⟩]) k = v := by
  have hb : opBad ⟨k, v, false⟩ = false := by
    unfold opBad
    cases h : k.toList with
    | nil => exact absurd h hk
    | cons a l => simp
  have hc : chk [⟨k, v, false⟩] = 0 := by unfold chk; simp [hb]
  unfold rapp
  rw [if_pos hc]
  show rval (rone r ⟨k, v, false⟩) k = v
  rw [rone_val hs _ _ (by rw [rone_has hs]; simp)]
  simp
end Go.Proofs.YtgccichmdddbpaaGreatDoor
set_option linter.unusedVariables false
set_option linter.unusedSimpArgs false
set_option maxRecDepth 100000
namespace Go.Proofs.YtgccichmdddbpaaGreatDoor
open Go.RowKit

theorem goW_ok {nv m : Int × Int} {own : It} {c : Ch} {x : Tx} {dd : Dn} (h1 : mayI (wIt x x.ww x.wl [c]) = true) (ho : own = zI ∨ mayI own = true) (h : goW nv own c x m = (dd, 0)) :
    (∃ y, dd.o = some y ∧ mayI y = true ∧ y = wIt x (atW nv m own x).1 (atW nv m own x).2 (own.l ++ [c]) ∧ (dd.a, dd.b) = atW nv m own x ∧ (∀ z ∈ own.l, z.q < c.q) ∧ (nxt (two m nv).1 (two m nv).2).2.2 = 0) ∨
    (dd.o = none ∧ dd.a = own.sw ∧ dd.b = own.sl ∧ findW own.l c = (true, 0)) := by
  cases hd : dd.o with
  | some y =>
    have h2 : (goW nv own c x m).1.o = some y := by rw [h]; exact hd
    obtain ⟨a1, _, a3, a4, a5, a6⟩ := goW_may h1 ho h2
    rw [h] at a4
    exact .inl ⟨y, rfl, a1, a3, a4, a5, a6⟩
  | none =>
    refine .inr ⟨rfl, ?_⟩
    unfold goW at h
    split at h
    · rename_i g1
      split at h
      · rename_i g2
        injection h with h _
        subst h
        exact ⟨rfl, rfl, Prod.ext g2 g1⟩
      · unfold addW at h
        split at h
        · injection h with h _
          subst h
          cases hd
        · rename_i g3
          injection h with _ h
          exact absurd h g3
    · rename_i g1
      injection h with _ h
      exact absurd h g1
theorem goW_err {nv m : Int × Int} {own : It} {c : Ch} {x : Tx} {dd : Dn} {k : Int} (h : goW nv own c x m = (dd, k)) (hk : ¬ k = 0) : dd.o = none := by
  unfold goW at h
  split at h
  · split at h
    · injection h with h h2; exact absurd h2.symm hk
    · unfold addW at h
      split at h
      · injection h with h h2; exact absurd h2.symm hk
      · injection h with h h2; subst h; rfl
  · injection h with h h2; subst h; rfl
theorem pput_err {r : List Rw} {key : ByteArray} {c : Ch} {x : Tx} {m : Int × Int} {dd : Dn} {k : Int} (h : pputC r key c x m = (dd, k)) (hk : ¬ k = 0) : dd.o = none := by
  unfold pputC at h
  split at h
  · unfold putW at h
    split at h
    · exact goW_err h hk
    · split at h
      · injection h with h h2; subst h; rfl
      · split at h
        · injection h with h h2; subst h; rfl
        · split at h
          · exact goW_err h hk
          · exact goW_err h hk
  · injection h with h h2; subst h; rfl
/-- What comes of a write that is well: a new intent, or the one that is there. -/
theorem pput_ok {r : List Rw} {key : ByteArray} {c : Ch} {x : Tx} {m : Int × Int} {dd : Dn} (h : pputC r key c x m = (dd, 0)) :
    chkW (isK key) c x m = 0 ∧ ((∃ y l, dd.o = some y ∧ mayI y = true ∧ y.id = x.id ∧ y.ep = x.ep ∧ dd.a = y.sw ∧ dd.b = y.sl ∧ y.l = l ++ [c] ∧ (∀ z ∈ l, z.q < c.q)) ∨
      (dd.o = none ∧ ∃ y, pint r key = some y ∧ y.id = x.id ∧ y.ep = x.ep ∧ dd.a = y.sw ∧ dd.b = y.sl ∧ findW y.l c = (true, 0))) := by
  unfold pputC at h
  split at h
  · rename_i hc
    refine ⟨hc, ?_⟩
    obtain ⟨hk, hmx, hmm, hmi⟩ := chkW_ok hc
    have new : ∀ own : It, own = zI ∨ mayI own = true → goW (nwV r key) own c x m = (dd, 0) → (∃ y l, dd.o = some y ∧ mayI y = true ∧ y.id = x.id ∧ y.ep = x.ep ∧ dd.a = y.sw ∧ dd.b = y.sl ∧ y.l = l ++ [c] ∧ (∀ z ∈ l, z.q < c.q)) ∨ (dd.o = none ∧ dd.a = own.sw ∧ dd.b = own.sl ∧ findW own.l c = (true, 0)) := by
      intro own ho hg
      rcases goW_ok hmi ho hg with ⟨y, a1, a2, a3, a4, a5, _⟩ | a
      · have b1 := congrArg Prod.fst a4
        have b2 := congrArg Prod.snd a4
        exact .inl ⟨y, own.l, a1, a2, by rw [a3]; rfl, by rw [a3]; rfl, by rw [a3]; exact b1, by rw [a3]; exact b2, by rw [a3]; rfl, a5⟩
      · exact .inr a
    have zno : ¬ findW zI.l c = (true, 0) := fun e => by cases e
    unfold putW at h
    split at h
    · rcases new zI (.inl rfl) h with a | ⟨_, _, _, a⟩
      · exact .inl a
      · exact absurd a zno
    · rename_i y hp
      split at h
      · injection h with _ h; cases h
      · rename_i g1
        have g1' : y.id = x.id := Classical.not_not.1 g1
        split at h
        · injection h with _ h; cases h
        · rename_i g2
          split at h
          · rcases new zI (.inl rfl) h with a | ⟨_, _, _, a⟩
            · exact .inl a
            · exact absurd a zno
          · rename_i g3
            rcases new y (.inr (tkI_back hp).1) h with a | ⟨a1, a2, a3, a4⟩
            · exact .inl a
            · exact .inr ⟨a1, y, hp, g1', by omega, a2, a3, a4⟩
  · rename_i hc
    injection h with _ h
    exact absurd h hc
theorem rapp_nil (r : List Rw) : rapp r [] = r := rfl
theorem ikey_ne (key : ByteArray) : (bs (ikey (sb key))).toList ≠ [] := by rw [Lib.toList_data]; simp [bs, ikey]
/-- The key's intent behind the write. -/
theorem pput_int {r : List Rw} (hs : RSor r) {key : ByteArray} {c : Ch} {x : Tx} {m : Int × Int} {dd : Dn} (h : pputC r key c x m = (dd, 0)) :
    ∃ y, pint (rapp r (opsD key dd)) key = some y ∧ y.id = x.id ∧ y.ep = x.ep ∧ dd.a = y.sw ∧ dd.b = y.sl ∧ findW y.l c = (true, 0) ∧ (dd.o ≠ none → y.l.getLast? = some c) := by
  rcases (pput_ok h).2 with ⟨y, l, a1, a2, a3, a4, a5, a6, a7, a8⟩ | ⟨a1, y, a2, a3, a4, a5, a6, a7⟩
  · refine ⟨y, ?_, a3, a4, a5, a6, by rw [a7]; exact findW_snoc a8, fun _ => by rw [a7]; simp⟩
    unfold pint opsD
    rw [a1]
    simp only
    rw [rapp_val hs _ _ (ikey_ne key), sb_bs]
    exact tkI_tx _ a2
  · refine ⟨y, ?_, a3, a4, a5, a6, a7, fun e => absurd a1 e⟩
    unfold opsD
    rw [a1]
    exact a2
theorem opsD_sz {r : List Rw} {key : ByteArray} {c : Ch} {x : Tx} {m : Int × Int} {dd : Dn} {k : Int} (h : pputC r key c x m = (dd, k)) : OSz (opsD key dd) := by
  intro o ho
  by_cases hk : k = 0
  · subst hk
    obtain ⟨hc, h2⟩ := pput_ok h
    have hkk := isK_iff.1 (chkW_ok hc).1
    unfold opsD at ho
    rcases h2 with ⟨y, l, a1, a2, _⟩ | ⟨a1, _⟩
    · rw [a1] at ho
      rw [List.mem_singleton.1 ho]
      have h1 := okey_len key hkk.2
      have h3 := txI_len y a2
      refine ⟨?_, ?_⟩
      · show (ikey _).length ≤ _
        simp only [ikey, List.length_cons]
        omega
      · show (txI y).length ≤ _
        omega
    · rw [a1] at ho
      cases ho
  · unfold opsD at ho
    rw [pput_err h hk] at ho
    cases ho
theorem opsD_len (key : ByteArray) (dd : Dn) : (opsD key dd).length ≤ 1 := by
  unfold opsD
  split <;> simp
end Go.Proofs.YtgccichmdddbpaaGreatDoor
set_option linter.unusedVariables false
set_option linter.unusedSimpArgs false
set_option maxRecDepth 100000
namespace Go.Proofs.YtgccichmdddbpaaGreatDoor
open Go.RowKit

set_option maxHeartbeats 4000000 in
theorem poIdxP {S : Type} (ok : S → Int × Int → Bool) (nx : S → Int × Int → S) (J : S → World → Prop) (A : Option Addr) (n c : Nat) (l : List (Int × Int)) (hn : n ≤ 9223372036854775807)
    (hat : ∀ s W, J s W → Stamps W A n l)
    (step : ∀ s (c : Int × Int) W, J s W → Calls Tryz.prog 136 #[(sv c.1 c.2)] W fun e w' => e = .returned (.bool (!(ok s c))) ∧ J (nx s c) w')
    (s : S) (w : World) (hJ : J s w) :
    Calls Tryz.prog 180 #[.slice A n c, .func (.func 136) #[] #[]] w fun e w' => ∃ k : Int, e = .returned (.int .i64 k) ∧ decide (0 ≤ k) = !(scan ok nx s l) ∧ ∃ s', J s' w' := by
  have ST := Lib.hid step
  have HF := Lib.hid hat
  clear step hat
  go_enter Tryz.func180, Tryz.ntmps180
  go_wp2
  go_loopw [8] (fun i wr => ∃ (k : Nat) (s' : S), k ≤ n ∧ i = .int .i64 k ∧ Hid (scan ok nx s' (l.drop k) = scan ok nx s l) ∧ J s' wr) (fun i _ => n - (intOf i).toNat)
  case atStart => exact ⟨0, s, Nat.zero_le _, rfl, rfl, hJ⟩
  case round =>
    obtain ⟨k, s', hk, rfl, hrun, hRep⟩ := hrel
    have hfa := HF.out s' wr hRep
    have hlen := hfa.1
    by_cases hlt : k < n
    · have hkl : k < l.length := by omega
      obtain ⟨b, o, rfl, hc⟩ := hfa.2 (by omega)
      obtain ⟨h1, h2⟩ := hc k hkl
      have hs := ST.out s' (l[k]'hkl) wr hRep
      have hd : l.drop k = (l[k]'hkl) :: l.drop (k + 1) := List.drop_eq_getElem_cons hkl
      have hrun' := hrun.out
      rw [hd] at hrun'
      generalize (l[k]'hkl) = x at *
      clear hc hfa HF ST hd hrun
      cases hok : ok s' x with
      | true =>
        have HR := Lib.hid (show scan ok nx (nx s' x) (l.drop (k + 1)) = scan ok nx s l by rw [← hrun', scan, hok, Bool.true_and])
        rw [hok] at hs
        clear hrun' hok
        go_wp2_with fail
        refine hs.mono ?_
        rintro e w2 ⟨rfl, h2⟩
        go_wp2
        go_roundw
        case rel => exact ⟨k + 1, _, by omega, by go_num, HR, h2⟩
        case measure => simp [intOf]; omega
      | false =>
        have HR := Lib.hid (show scan ok nx s l = false by rw [← hrun', scan, hok, Bool.false_and])
        rw [hok] at hs
        clear hrun' hok
        go_wp2_with fail
        refine hs.mono ?_
        rintro e w2 ⟨rfl, h2⟩
        go_wp2
        go_ret
        exact ⟨k, rfl, by rw [HR.out]; exact decide_eq_true (by omega), _, h2⟩
    · have HR := Lib.hid (show scan ok nx s l = true by rw [← hrun.out, List.drop_of_length_le (by omega), scan])
      clear hrun HF ST hfa
      go_wp2
      go_ret
      exact ⟨-1, rfl, by rw [HR.out]; rfl, _, hRep⟩
theorem poConP {S : Type} (ok : S → Int × Int → Bool) (nx : S → Int × Int → S) (J : S → World → Prop) (A : Option Addr) (n c : Nat) (l : List (Int × Int)) (hn : n ≤ 9223372036854775807)
    (hat : ∀ s W, J s W → Stamps W A n l)
    (step : ∀ s (c : Int × Int) W, J s W → Calls Tryz.prog 136 #[(sv c.1 c.2)] W fun e w' => e = .returned (.bool (!(ok s c))) ∧ J (nx s c) w')
    (s : S) (w : World) (hJ : J s w) :
    Calls Tryz.prog 135 #[.slice A n c, .func (.func 136) #[] #[]] w fun e w' => e = .returned (.bool (!(scan ok nx s l))) ∧ ∃ s', J s' w' := by
  have HI := Lib.hid (poIdxP ok nx J A n c l hn hat step s w hJ)
  clear step hat hJ
  go_enter Tryz.func135, Tryz.ntmps135
  go_wp2_with fail
  refine HI.out.mono ?_
  rintro e w1 ⟨k, rfl, hk, h1⟩
  have HK := Lib.hid hk
  clear hk
  go_wp2
  go_ret
  exact ⟨congrArg (fun b => Ending.returned (Value.bool b)) HK.out, h1⟩

theorem poOne (c : Int × Int) (W : World) :
    Calls Tryz.prog 136 #[sv c.1 c.2] W fun e w' => e = .returned (.bool (!(mayP c))) ∧ Below W.heap.size W w' := by
  obtain ⟨x, y⟩ := c
  have h3 := Blk.new W 26 #[.int .i64 x, .int .i64 y]
  have HO := Lib.hid (check_c x y (W.alloc (.cells #[.int .i64 x, .int .i64 y] 26)))
  have c0 := h3.cell 0
  have c1 := h3.cell 1
  simp at c0 c1
  clear h3
  have hck : (ck x y != 0) = !mayP (x, y) := by
    unfold ck mayP
    cases may x y <;> rfl
  obtain ⟨kk, hkk⟩ : ∃ kk, ck x y = kk := ⟨_, rfl⟩
  rw [hkk] at HO hck
  rw [← hck]
  clear hkk hck
  go_enter Tryz.func136, Tryz.ntmps136
  go_wp2_with (go_at_call 23; refine HO.out.mono ?_; rintro e w1 ⟨rfl, q1⟩)
  have q3 := (nbl W (.cells #[.int .i64 x, .int .i64 y] 26)).trans (q1.mono (by simp))
  go_ret
  exact ⟨rfl, q3⟩
theorem poStamps (A : Option Addr) (n c : Nat) (l : List (Int × Int)) (b : Bool) (hb : l.all mayP = b) (w : World) (hn : n ≤ 9223372036854775807) (hx : Stamps w A n l) :
    Calls Tryz.prog 90 #[.slice A n c] w fun e w' => e = .returned (.bool b) ∧ Below w.heap.size w w' := by
  have HC := Lib.hid (poConP (fun (_ : Unit) p => mayP p) (fun u _ => u) (fun _ W => Below w.heap.size w W) A n c l hn (fun s W h => hx.below' h)
    (fun s x W h => (poOne x W).mono fun e w' ⟨h1, h3⟩ => ⟨h1, h.trans (h3.mono h.size)⟩) () w (Below.refl _ _))
  rw [scan_all, hb] at HC
  clear hb hx
  go_enter Tryz.func90, Tryz.ntmps90
  go_wp2_with fail
  refine HC.out.mono ?_
  rintro e w1 ⟨rfl, s', h1⟩
  go_wp2
  go_ret
  exact ⟨by simp, h1⟩
theorem three_stamps (w : World) (a b c d x y : Int) : Stamps (w.alloc (.cells #[.int .i64 a, .int .i64 b, .int .i64 c, .int .i64 d, .int .i64 x, .int .i64 y] 26)) (some ⟨w.heap.size, 0, none⟩) 3 [(a, b), (c, d), (x, y)] := by
  have h := Blk.new w 26 #[.int .i64 a, .int .i64 b, .int .i64 c, .int .i64 d, .int .i64 x, .int .i64 y]
  refine ⟨rfl, fun _ => ⟨w.heap.size, 0, rfl, fun i hi => ?_⟩⟩
  have : i = 0 ∨ i = 1 ∨ i = 2 := by simp at hi; omega
  rcases this with rfl | rfl | rfl
  · exact ⟨h.cell 0, h.cell 1⟩
  · exact ⟨h.cell 2, h.cell 3⟩
  · exact ⟨h.cell 4, h.cell 5⟩
theorem one_change (w : World) (q : Int) (s : ByteArray) (d : Bool) : ChAt (w.alloc (.cells #[.int .i64 q, .string s, .bool d] 24)) (some ⟨w.heap.size, 0, none⟩) 1 [⟨q, s, d⟩] := by
  have k := Blk.new w 24 #[.int .i64 q, .string s, .bool d]
  refine ⟨rfl, fun _ => ⟨w.heap.size, 0, rfl, fun i hi => ?_⟩⟩
  have : i = 0 := by simp at hi; omega
  subst this
  exact ⟨k.cell 0, k.cell 1, k.cell 2⟩
end Go.Proofs.YtgccichmdddbpaaGreatDoor
set_option linter.unusedVariables false
set_option linter.unusedSimpArgs false
set_option maxRecDepth 100000
namespace Go.Proofs.YtgccichmdddbpaaGreatDoor
open Go.RowKit

set_option maxHeartbeats 2000000 in
theorem intentOf_c (x : Tx) (a b : Int) (l : List Ch) (A : Option Addr) (n c : Nat) (w : World) :
    Calls Tryz.prog 92 #[txv x, sv a b, .slice A n c] w fun e w' => e = .returned (itv (wIt x a b l) (.slice A n c)) ∧ Below w.heap.size w w' := by
  have hz1 : (w.alloc (.cells (txc x) 28)).heap.size = w.heap.size + 1 := World.size_alloc _ _
  have hz2 : ((w.alloc (.cells (txc x) 28)).alloc (.cells #[.int .i64 a, .int .i64 b] 26)).heap.size = w.heap.size + 1 + 1 := (World.size_alloc _ _).trans (by rw [hz1])
  have k0 := Blk.new ((w.alloc (.cells (txc x) 28)).alloc (.cells #[.int .i64 a, .int .i64 b] 26)) 38 (itc (wIt x a b l) (.slice A n c))
  rw [hz2] at k0
  have K0 := Lib.hid k0
  have G := Lib.hid (bsa (bsa (nbl w (.cells (txc x) 28)) (.cells #[.int .i64 a, .int .i64 b] 26)) (.cells (itc (wIt x a b l) (.slice A n c)) 38))
  clear k0 hz1 hz2
  obtain ⟨x0, x1, x2, x3, x4, x5, x6, x7, x8, x9, x10, x11⟩ := x
  go_enter Tryz.func92, Tryz.ntmps92
  go_wp2_with fail
  exact ret_it1 rfl rfl K0.out rfl rfl ⟨rfl, G.out⟩
end Go.Proofs.YtgccichmdddbpaaGreatDoor
set_option linter.unusedVariables false
set_option linter.unusedSimpArgs false
set_option maxRecDepth 100000
namespace Go.Proofs.YtgccichmdddbpaaGreatDoor
open Go.RowKit

theorem find_at {α : Type} {P : α → Bool} {l : List α} {k : Nat} (hk : k < l.length) (hno : ∀ y ∈ l.take k, P y = false) (hy : P (l[k]'hk) = true) : l.find? P = some (l[k]'hk) := by
  have h : l = l.take k ++ (l[k]'hk) :: l.drop (k + 1) := by rw [← List.drop_eq_getElem_cons hk, List.take_append_drop]
  have h2 : (l.take k ++ (l[k]'hk) :: l.drop (k + 1)).find? P = some (l[k]'hk) := by
    rw [List.find?_append, List.find?_eq_none.2 (fun y h3 => by rw [hno y h3]; decide), Option.none_or, List.find?_cons_of_pos hy]
  rw [← h] at h2
  exact h2
set_option maxHeartbeats 2000000 in
theorem poSeq (g : Nat) (y c : Ch) (w : World) (hg : Blk w g 24 #[.int .i64 c.q, .string c.s, .bool c.d]) :
    Calls Tryz.prog 95 #[chv y, pt g] w fun e w' => e = .returned (.bool (decide (c.q ≤ y.q))) ∧ Below w.heap.size w w' := by
  obtain ⟨q, s, d⟩ := y
  obtain ⟨q', s', d'⟩ := c
  have hX := Blk.new w 24 #[.int .i64 q, .string s, .bool d]
  have hG := hg.below (nbl w (.cells #[.int .i64 q, .string s, .bool d] 24)) hg.lt
  have HB := Lib.hid (nbl w (.cells #[.int .i64 q, .string s, .bool d] 24))
  have x0 := hX.cell 0
  have y0 := hG.cell 0
  simp at x0 y0
  clear hX hG hg
  go_enter Tryz.func95, Tryz.ntmps95
  go_wp2_with fail
  go_ret
  exact ⟨by first | rfl | simp, HB.out⟩
set_option maxHeartbeats 4000000 in
theorem poIdx (g : Nat) (ch : Ch) (A : Option Addr) (n c : Nat) (l : List Ch) (hn : n ≤ 9223372036854775807) (w : World) (hx : ChAt w A n l) (hg : Blk w g 24 #[.int .i64 ch.q, .string ch.s, .bool ch.d]) :
    Calls Tryz.prog 94 #[.slice A n c, .func (.func 95) #[] #[pt g]] w fun e w' => (∃ k : Int, e = .returned (.int .i64 k) ∧ ((l.find? (fun h => decide (ch.q ≤ h.q)) = none ∧ k = -1) ∨ ∃ (i : Nat) (h : i < l.length), k = (i : Int) ∧ l.find? (fun h => decide (ch.q ≤ h.q)) = some (l[i]'h))) ∧ Below w.heap.size w w' := by
  have HX := Lib.hid hx
  have HG := Lib.hid hg
  have HL := Lib.hid hx.1
  clear hx hg
  go_enter Tryz.func94, Tryz.ntmps94
  go_wp2
  go_loopw [8] (fun i wr => ∃ (k : Nat), k ≤ n ∧ i = .int .i64 k ∧ Hid (∀ y ∈ l.take k, y.q < ch.q) ∧ Hid (Below w.heap.size w wr)) (fun i _ => n - (intOf i).toNat)
  case atStart => exact ⟨0, Nat.zero_le _, rfl, Lib.hid (fun y hy => (nomatch hy)), Lib.hid (Below.refl _ _)⟩
  case round =>
    obtain ⟨k, hk, rfl, HNO, HB⟩ := hrel
    by_cases hlt : k < n
    · have hkl : k < l.length := by rw [HL.out]; exact hlt
      obtain ⟨b, o, rfl, hc⟩ := (HX.out.below HB.out).2 (by omega)
      obtain ⟨h1, h2, h3⟩ := hc k hkl
      have hs := poSeq g (l[k]'hkl) ch wr (HG.out.below HB.out HG.out.lt)
      have HTK := Lib.hid (List.take_succ_eq_append_getElem hkl)
      have HFD := Lib.hid (fun (hy : ch.q ≤ (l[k]'hkl).q) => find_at (P := fun h : Ch => decide (ch.q ≤ h.q)) hkl (fun y hy2 => by have := HNO.out y hy2; simp; omega) (by simpa using hy))
      obtain ⟨y, hy⟩ : ∃ y, l[k]'hkl = y := ⟨_, rfl⟩
      rw [hy] at h1 h2 h3 hs HFD
      have HY := Lib.hid hy
      clear hc hy
      by_cases hq : ch.q ≤ y.q
      · have HF := Lib.hid (HFD.out hq)
        rw [decide_eq_true hq] at hs
        clear hq HFD HTK
        go_wp2_with fail
        refine hs.mono ?_
        rintro e w2 ⟨rfl, hb2⟩
        have HB2 := Lib.hid (bst HB.out hb2)
        clear hb2
        go_wp2
        go_ret
        exact ⟨⟨k, rfl, .inr ⟨k, hkl, rfl, by rw [HF.out, HY.out]⟩⟩, HB2.out⟩
      · have HN2 := Lib.hid (show ∀ z ∈ l.take (k + 1), z.q < ch.q from fun z hz => by
          rw [HTK.out] at hz
          rcases List.mem_append.1 hz with h | h
          · exact HNO.out z h
          · rw [List.mem_singleton.1 h, HY.out]; omega)
        rw [decide_eq_false hq] at hs
        clear hq HFD HTK HNO
        go_wp2_with fail
        refine hs.mono ?_
        rintro e w2 ⟨rfl, hb2⟩
        have HB2 := Lib.hid (bst HB.out hb2)
        clear hb2
        go_wp2
        go_roundw
        case rel => exact ⟨k + 1, by omega, by go_num, HN2, HB2⟩
        case measure => simp [intOf]; omega
    · have HF := Lib.hid (show l.find? (fun h => decide (ch.q ≤ h.q)) = none from by
        refine List.find?_eq_none.2 (fun y hy => ?_)
        have := HNO.out y (by rw [List.take_of_length_le (by have := HL.out; omega)]; exact hy)
        simpa using this)
      clear HNO
      go_wp2
      go_ret
      exact ⟨⟨-1, rfl, .inl ⟨HF.out, rfl⟩⟩, HB.out⟩
set_option maxHeartbeats 4000000 in
theorem find_c (ch : Ch) (A : Option Addr) (n c : Nat) (l : List Ch) (hn : n ≤ 9223372036854775807) (w : World) (hx : ChAt w A n l) :
    Calls Tryz.prog 45 #[.slice A n c, chv ch] w fun e w' => e = .returned (.tuple #[.bool (findW l ch).1, .int .i64 (findW l ch).2]) ∧ Below w.heap.size w w' := by
  obtain ⟨q, s, d⟩ := ch
  have g0 := nbl w (.cells #[.int .i64 q, .string s, .bool d] 24)
  have HI := Lib.hid (poIdx w.heap.size ⟨q, s, d⟩ A n c l hn (w.alloc (.cells #[.int .i64 q, .string s, .bool d] 24)) (hx.below g0) (Blk.new w _ _))
  have HX := Lib.hid (hx.below g0)
  have HL := Lib.hid hx.1
  have HK := Lib.hid (Blk.new w 24 #[.int .i64 q, .string s, .bool d])
  have HB := Lib.hid g0
  clear hx g0
  go_enter Tryz.func45, Tryz.ntmps45
  go_wp2_with fail
  refine HI.out.mono ?_
  rintro e w1 ⟨⟨k, rfl, hk⟩, hb1⟩
  have HB1 := Lib.hid (bst HB.out hb1)
  have kx := HK.out.below hb1 HK.out.lt
  have x0 := kx.cell 0
  have x1 := kx.cell 1
  have x2 := kx.cell 2
  simp at x0 x1 x2
  have HX1 := Lib.hid (HX.out.below hb1)
  clear hb1 kx
  rcases hk with ⟨hf, rfl⟩ | ⟨i, hi, rfl, hf⟩
  · by_cases h16 : n = 16
    · have HF := Lib.hid (show findW l ⟨q, s, d⟩ = (false, 7) from by unfold findW; rw [hf]; simp only; rw [if_pos (by rw [HL.out]; exact h16)])
      clear hf
      subst h16
      go_wp2_with fail
      go_ret2
      rw [HF.out]
      exact ⟨rfl, HB1.out⟩
    · have HF := Lib.hid (show findW l ⟨q, s, d⟩ = (false, 0) from by unfold findW; rw [hf]; simp only; rw [if_neg (by rw [HL.out]; exact h16)])
      have hn16 : ¬ (n : Int) = 16 := by omega
      have hn16b : ((n : Int) == 16) = false := by simpa using hn16
      clear hf
      go_wp2_with fail
      go_ret2
      rw [HF.out]
      exact ⟨rfl, HB1.out⟩
  · obtain ⟨b, o, rfl, hc⟩ := HX1.out.2 (by have := HL.out; omega)
    obtain ⟨h1, h2, h3⟩ := hc i hi
    have hin : i < n := by have := HL.out; omega
    have hi0 : ¬ (i : Int) < 0 := by omega
    have hi1 : (0 : Int) ≤ (i : Int) := by omega
    have hi2 : (i : Int) < (n : Int) := by omega
    obtain ⟨y, hy⟩ : ∃ y, l[i]'hi = y := ⟨_, rfl⟩
    rw [hy] at h1 h2 h3 hf
    obtain ⟨u0, u1, u2⟩ := y
    simp only at h1 h2 h3
    have HFD := Lib.hid (show findW l ⟨q, s, d⟩ = if u0 = q then (if u1 = s ∧ u2 = d then (true, 0) else (false, 2)) else (false, 201) from by unfold findW; rw [hf])
    clear hc hy hf HI HK
    by_cases e0 : u0 = q
    · subst e0
      by_cases e1 : u1 = s
      · subst e1
        have t1 := text_eq u1
        by_cases e2 : u2 = d
        · subst e2
          have HF := Lib.hid (HFD.out.trans (by rw [if_pos rfl, if_pos ⟨rfl, rfl⟩]))
          clear HFD
          go_wp2_with (go_quiet (fail))
          go_ret2
          rw [HF.out]
          exact ⟨rfl, by first | exact HB1.out | exact below_drewN HB1.out _⟩
        · have HF := Lib.hid (HFD.out.trans (by rw [if_pos rfl, if_neg (fun h => e2 h.2)]))
          have n2 : (u2 == d) = false := by simpa using e2
          clear HFD
          go_wp2_with (go_quiet (fail))
          go_ret2
          rw [HF.out]
          exact ⟨rfl, by first | exact HB1.out | exact below_drewN HB1.out _⟩
      · have HF := Lib.hid (HFD.out.trans (by rw [if_pos rfl, if_neg (fun h => e1 h.1)]))
        have n1 := text_ne e1
        clear HFD
        go_wp2_with (go_quiet (fail))
        go_ret2
        rw [HF.out]
        exact ⟨rfl, by first | exact HB1.out | exact below_drewN HB1.out _⟩
    · have HF := Lib.hid (HFD.out.trans (by rw [if_neg e0]))
      have n0 : (u0 == q) = false := by simpa using e0
      clear HFD
      go_wp2_with (go_quiet (fail))
      go_ret2
      rw [HF.out]
      exact ⟨rfl, by first | exact HB1.out | exact below_drewN HB1.out _⟩
end Go.Proofs.YtgccichmdddbpaaGreatDoor
