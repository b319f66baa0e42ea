/-
  SettleResolves, walked (written by wip/gensel.py).
  How a question of layer 14 is opened, with the bound of its record's writes (written by wip/gencpy.py).
-/
import Derived.Test.YthimheckmpepdaaGreatDoorKU38
import Derived.Test.YthimheckmpepdaaGreatDoorKU24
import Derived.Test.YthimheckmpepdaaGreatDoorKU43
import Derived.Test.YthimheckmpepdaaGreatDoorKU45
import Derived.Test.YthimheckmpepdaaGreatDoorKU26
import Derived.Test.YthimheckmpepdaaGreatDoorKU44
import Derived.Test.YthimheckmpepdaaGreatDoorKU32
set_option linter.unusedVariables false
set_option linter.unusedSimpArgs false
set_option maxRecDepth 100000
namespace Go.Proofs.YthimheckmpepdaaGreatDoor
open Go.RowKit

set_option maxHeartbeats 16000000 in
theorem settleResolves_walk (A : Option Addr) (n c : Nat) (l : List Th) (key f t : ByteArray) (q : Int) (x : Rc) (A1 : Option Addr) (n1 c1 : Nat) (y : Tx) (m1 m2 l1 l2 : Int) (w : World) (hx : ThAt w A n l) (hz : ∀ x ∈ l, TSz x) (hn : n ≤ 9223372036854775807) (hw : WtAt w A1 n1 x.l) (hn1 : n1 * 24 ≤ 140737488351232) (hks : key.size ≤ 140737488351232) (hfs : f.size ≤ 140737488351232) (hts : t.size ≤ 140737488351232) (hM : MaxL w) :
    Calls Tryz.prog 5 #[.slice A n c, .agg (askw key f t q x (.slice A1 n1 c1) y m1 m2 l1 l2)] w fun e w' => e = .returned (.bool true) ∧ Below w.heap.size w w' := by
  have hmix : Tryz.prog.follows .mixedOrders = true := by kernel_rfl
  have hn1b : n1 ≤ 9223372036854775807 := by omega
  have H0 := Lib.hid ((Has.nil (Below.refl w.heap.size w)).newBlk 66 (askw key f t q x (.slice A1 n1 c1) y m1 m2 l1 l2))
  have HX := Lib.hid hx
  have HZ := Lib.hid hz
  have HW := Lib.hid hw
  clear hx hz hw
  obtain ⟨r, hr⟩ : ∃ r, tabP l = r := ⟨_, rfl⟩
  have HRO := Lib.hid (show ROk 7680 r from hr ▸ tabP_ok HZ.out)
  have HTB := Lib.hid (fun (W : World) (hb : Below w.heap.size w W) => tables14_c A n c l W (HX.out.below hb) hn HZ.out)
  rw [hr] at HTB
  clear hr
  have HQ1 := Lib.hid (fun (T2 : List As) (p : Nat) (A2 : Option Addr) (c2 : Nat) (W : World) (hh : Has w (tbA p r :: T2) W) (hm : ∀ W, Has w (tbA p r :: T2) W → WtAt W A2 n1 x.l) => seResolve hh HRO.out (by decide) hM key x A2 n1 c2 hm hn1b)
  have HQ2 := Lib.hid (fun (T2 : List As) (b : Nat) (W : World) (hh : Has w (rtA b r :: T2) W) => seRResolve hh HRO.out.szs key x A1 n1 c1 (fun W hW => HW.out.below hW.bel) hn1b)
  have HNL := Lib.hid (resC_len r key x)
  obtain ⟨o, ho⟩ : ∃ o, resC r key x = o := ⟨_, rfl⟩
  obtain ⟨ops, qk⟩ := o
  rw [ho] at HQ1 HQ2 HNL
  unfold AnsRes at HQ1 HQ2
  simp only at HQ1 HQ2 HNL
  clear ho
  go_enter Tryz.func5, Tryz.ntmps5
  go_wp2_with fail
  refine (HTB.out _ H0.out.bel).mono ?_
  rintro e w1 ⟨p, b, rfl, h1⟩
  have H1 := Lib.hid (show Has w (tbA p r :: rtA b r :: blkA w.heap.size 66 (askw key f t q x (.slice A1 n1 c1) y m1 m2 l1 l2) :: []) w1 from H0.out.join h1)
  clear h1
  have z1 := H1.out.blkAt (g := w.heap.size) (t := 66) (cs := (askw key f t q x (.slice A1 n1 c1) y m1 m2 l1 l2)) (by simp)
  have hlr := Lib.hid (askw_rec z1)
  have a1_0 := z1.cell 0
  simp at a1_0
  clear z1
  go_wp2_with (refine wpList_load_mid rfl 64 _ rfl w.heap.size 4 rfl _ _ hlr.out Tryz.underlying64 rfl (by kernel_rfl) ?_)
  clear hlr
  refine (rCopyR2_c x A1 n1 c1 _ (HW.out.below H1.out.bel) hn1).mono ?_
  rintro e w2 ⟨A2, c2, rfl, hwt, hb2, hge⟩
  have h2 := ((H1.out.newWt hb2 hwt hge).newBlk 64 (rcc x (.slice A2 n1 c2))).perm (List.perm_middle (l₁ := [_, _]))
  have H2 := Lib.hid (show Has w (tbA p r :: blkA w2.heap.size 64 (rcc x (.slice A2 n1 c2)) :: wtA A2 n1 x.l :: rtA b r :: blkA w.heap.size 66 (askw key f t q x (.slice A1 n1 c1) y m1 m2 l1 l2) :: []) _ from h2)
  clear h2 hwt hb2 hge
  have z2 := H2.out.blkAt (g := w.heap.size) (t := 66) (cs := (askw key f t q x (.slice A1 n1 c1) y m1 m2 l1 l2)) (by simp)
  have a2_0 := z2.cell 0
  simp at a2_0
  clear z2
  have z7 := H2.out.blkAt (g := w2.heap.size) (t := 64) (cs := rcc x (.slice A2 n1 c2)) (by simp)
  have y7_0 := z7.cell 0
  have y7_1 := z7.cell 1
  have y7_2 := z7.cell 2
  have y7_3 := z7.cell 3
  have y7_4 := z7.cell 4
  have y7_5 := z7.cell 5
  have y7_6 := z7.cell 6
  have y7_7 := z7.cell 7
  have y7_8 := z7.cell 8
  have y7_9 := z7.cell 9
  simp at y7_0 y7_1 y7_2 y7_3 y7_4 y7_5 y7_6 y7_7 y7_8 y7_9
  clear z7
  go_wp2_with fail
  refine (HQ1.out _ _ A2 c2 _ H2.out (fun W hW => hW.wt (by simp))).mono ?_
  rintro e w3 ⟨A3, n3, c3, rfl, hn3, h3⟩
  have H3 := Lib.hid (show Has w (rtA b r :: tbA p r :: opA (.slice A3 n3 c3) ops :: blkA w2.heap.size 64 (rcc x (.slice A2 n1 c2)) :: wtA A2 n1 x.l :: blkA w.heap.size 66 (askw key f t q x (.slice A1 n1 c1) y m1 m2 l1 l2) :: []) w3 from (h3.swap.perm (List.perm_middle (l₁ := [_, _, _, _]))))
  have HN3 := Lib.hid hn3
  clear h3 hn3
  have z3 := H3.out.blkAt (g := w.heap.size) (t := 66) (cs := (askw key f t q x (.slice A1 n1 c1) y m1 m2 l1 l2)) (by simp)
  have hlr := Lib.hid (askw_rec z3)
  have a3_0 := z3.cell 0
  simp at a3_0
  clear z3
  go_wp2_with (refine wpList_load_mid rfl 64 _ rfl w.heap.size 4 rfl _ _ hlr.out Tryz.underlying64 rfl (by kernel_rfl) ?_)
  clear hlr
  refine (HQ2.out _ _ _ H3.out).mono ?_
  rintro e w4 ⟨A4, nO, c4, rfl, hn4, h4⟩
  have hn34 : nO = n3 := hn4.trans HN3.out.symm
  subst hn34
  have HNO := Lib.hid hn4
  clear hn4
  obtain ⟨Ar, cr, hcl, hwa, hc1, hc2⟩ := h4.rtRows (b := b) (r := r) (by simp)
  have HS0 := Lib.hid (show Has w (rtA b r :: opA (.slice A4 nO c4) ops :: tbA p r :: opA (.slice A3 nO c3) ops :: blkA w2.heap.size 64 (rcc x (.slice A2 n1 c2)) :: wtA A2 n1 x.l :: blkA w.heap.size 66 (askw key f t q x (.slice A1 n1 c1) y m1 m2 l1 l2) :: []) w4.drew ∧ w4.drew.cell? ⟨b, 0, none⟩ = some (.slice Ar r.length cr) ∧ WAt w4.drew Ar r.length r from ⟨h4.swap.drew, hcl, hwa⟩)
  clear h4 hcl hwa
  go_upto_region 5 with fail
  refine wp_region_held_drew (S := fun V => (Has w (rtA b r :: opA (.slice A4 nO c4) ops :: tbA p r :: opA (.slice A3 nO c3) ops :: blkA w2.heap.size 64 (rcc x (.slice A2 n1 c2)) :: wtA A2 n1 x.l :: blkA w.heap.size 66 (askw key f t q x (.slice A1 n1 c1) y m1 m2 l1 l2) :: []) V ∧ V.cell? ⟨b, 0, none⟩ = some (.slice Ar r.length cr) ∧ WAt V Ar r.length r)) hmix (HS0.out) (fun hS => ?_)
  simp only [List.size_toArray, List.length_cons, List.length_nil, Nat.reduceAdd, Array.replicate_succ, Array.replicate_zero]
  refine wpAnyH_take (i := 0) (oi := { dst := some 37, op := Op.move (Operand.tmp 9), type := 41, pos := "law.go:72", after := #[], guard := none }) (v := ?v0z) rfl (by kernel_rfl) (by kernel_rfl) (by kernel_rfl) (fun _ _ _ h => h) (Or.inl ⟨by rfl, ?hy0z⟩) (by assumption) ?rest0z
  case hy0z => (intro V2 hSw; (try dsimp only at hSw); go_simp; all_goals (with_reducible rfl))
  try simp only [Act.put, List.setIfInBounds_toArray, List.set_cons_zero, List.set_cons_succ]
  refine wpAnyH_take (i := 1) (oi := { dst := some 38, op := Op.move (Operand.tmp 11), type := 41, pos := "law.go:72", after := #[], guard := none }) (v := ?v1z) rfl (by kernel_rfl) (by kernel_rfl) (by kernel_rfl) (fun _ _ _ h => h) (Or.inl ⟨by rfl, ?hy1z⟩) (by assumption) ?rest1z
  case hy1z => (intro V2 hSw; (try dsimp only at hSw); go_simp; all_goals (with_reducible rfl))
  try simp only [Act.put, List.setIfInBounds_toArray, List.set_cons_zero, List.set_cons_succ]
  refine wpAnyH_take (i := 2) (oi := { dst := some 39, op := Op.binOp BinOp.eql 41 (Operand.tmp 37) (Operand.tmp 38) 41, type := 4, pos := "law.go:72", after := #[{ on := 0, ground := Ground.data }, { on := 1, ground := Ground.data }], guard := none }) (v := .bool true) rfl (by kernel_rfl) (by kernel_rfl) (by kernel_rfl) (fun _ _ _ h => h) (Or.inl ⟨by rfl, ?hy2z⟩) (by assumption) ?rest2z
  case hy2z => (intro V2 hSw; (try dsimp only at hSw); go_simp; all_goals (with_reducible rfl))
  try simp only [Act.put, List.setIfInBounds_toArray, List.set_cons_zero, List.set_cons_succ]
  refine wpAnyH_take (i := 3) (oi := { dst := some 40, op := Op.move (Operand.tmp 39), type := 4, pos := "law.go:72", after := #[{ on := 2, ground := Ground.data }], guard := none }) (v := ?v3z) rfl (by kernel_rfl) (by kernel_rfl) (by kernel_rfl) (fun _ _ _ h => h) (Or.inl ⟨by rfl, ?hy3z⟩) (by assumption) ?rest3z
  case hy3z => (intro V2 hSw; (try dsimp only at hSw); go_simp; all_goals (with_reducible rfl))
  try simp only [Act.put, List.setIfInBounds_toArray, List.set_cons_zero, List.set_cons_succ]
  refine wpAnyH_take (i := 4) (oi := { dst := some 41, op := Op.move (Operand.tmp 8), type := 35, pos := "law.go:72", after := #[{ on := 3, ground := Ground.guard }], guard := some (3, true) }) (v := ?v4z) rfl (by kernel_rfl) (by kernel_rfl) (by kernel_rfl) (fun _ _ _ h => h) (Or.inl ⟨by rfl, ?hy4z⟩) (by assumption) ?rest4z
  case hy4z => (intro V2 hSw; (try dsimp only at hSw); go_simp; all_goals (with_reducible rfl))
  try simp only [Act.put, List.setIfInBounds_toArray, List.set_cons_zero, List.set_cons_succ]
  refine wpAnyH_take (i := 5) (oi := { dst := some 42, op := Op.move (Operand.tmp 10), type := 35, pos := "law.go:72", after := #[{ on := 3, ground := Ground.guard }], guard := some (3, true) }) (v := ?v5z) rfl (by kernel_rfl) (by kernel_rfl) (by kernel_rfl) (fun _ _ _ h => h) (Or.inl ⟨by rfl, ?hy5z⟩) (by assumption) ?rest5z
  case hy5z => (intro V2 hSw; (try dsimp only at hSw); go_simp; all_goals (with_reducible rfl))
  try simp only [Act.put, List.setIfInBounds_toArray, List.set_cons_zero, List.set_cons_succ]
  refine wpAnyH_ready (rs := [6]) (by kernel_rfl) (by simp) ?_
  refine AllReadyH.cons (o := { dst := some 43, op := Op.call { callee := Callee.value (Operand.func 22), args := #[Operand.tmp 41, Operand.tmp 42], argTypes := #[35, 35] }, type := 4, pos := "law.go:72", after := #[{ on := 4, ground := Ground.data }, { on := 5, ground := Ground.data }, { on := 3, ground := Ground.chain }, { on := 3, ground := Ground.guard }], guard := some (3, true) }) rfl (fun K hK => ?_) AllReadyH.nil
  go_simp
  obtain ⟨F3, hF3, -⟩ := hS.1.at_ (A := opA (.slice A3 nO c3) ops) (by simp)
  obtain ⟨F4, hF4, -⟩ := hS.1.at_ (A := opA (.slice A4 nO c4) ops) (by simp)
  have ho3 := opA_at hF3 HNO.out
  have ho4 := opA_at hF4 HNO.out
  have hnO : nO ≤ 9223372036854775807 := by have := HNL.out; have := HNO.out; omega
  clear hF3 hF4
  refine Calls.mono (sameOps14 A3 A4 nO c3 c4 ops _ ho3 ho4 hnO) ?_
  rintro e wo ⟨rfl, hbo⟩
  refine hK.out _ _ (⟨hS.1.keep hbo, (hbo.cell (World.block_lt_of_cell? _ _ hS.2.1)).trans hS.2.1, hS.2.2.below hbo⟩) (fun hS => ?_)
  clear hK K
  try simp only [Act.put, List.setIfInBounds_toArray, List.set_cons_zero, List.set_cons_succ]
  clear ho3 ho4
  refine wpAnyH_take (i := 7) (oi := { dst := some 44, op := Op.pick (Operand.tmp 40) (Operand.tmp 43) (Operand.const (Value.bool false)), type := 4, pos := "law.go:72", after := #[{ on := 3, ground := Ground.data }, { on := 6, ground := Ground.data }], guard := none }) (v := .bool true) rfl (by kernel_rfl) (by kernel_rfl) (by kernel_rfl) (fun _ _ _ h => h) (Or.inl ⟨by rfl, ?hy7z⟩) (by assumption) ?rest7z
  case hy7z => (intro V2 hSw; (try dsimp only at hSw); go_simp; all_goals (with_reducible rfl))
  try simp only [Act.put, List.setIfInBounds_toArray, List.set_cons_zero, List.set_cons_succ]
  refine wpAnyH_take (i := 8) (oi := { dst := some 45, op := Op.move (Operand.tmp 44), type := 4, pos := "law.go:72", after := #[{ on := 7, ground := Ground.data }, { on := 6, ground := Ground.chain }], guard := none }) (v := ?v8z) rfl (by kernel_rfl) (by kernel_rfl) (by kernel_rfl) (fun _ _ _ h => h) (Or.inl ⟨by rfl, ?hy8z⟩) (by assumption) ?rest8z
  case hy8z => (intro V2 hSw; (try dsimp only at hSw); go_simp; all_goals (with_reducible rfl))
  try simp only [Act.put, List.setIfInBounds_toArray, List.set_cons_zero, List.set_cons_succ]
  refine wpAnyH_take (i := 9) (oi := { dst := some 46, op := Op.move (Operand.tmp 5), type := 31, pos := "law.go:72", after := #[{ on := 8, ground := Ground.guard }], guard := some (8, true) }) (v := ?v9z) rfl (by kernel_rfl) (by kernel_rfl) (by kernel_rfl) (fun _ _ _ h => h) (Or.inl ⟨by rfl, ?hy9z⟩) (by assumption) ?rest9z
  case hy9z => (intro V2 hSw; (try dsimp only at hSw); go_simp; all_goals (with_reducible rfl))
  try simp only [Act.put, List.setIfInBounds_toArray, List.set_cons_zero, List.set_cons_succ]
  refine wpAnyH_take (i := 11) (oi := { dst := some 48, op := Op.move (Operand.tmp 6), type := 32, pos := "law.go:72", after := #[{ on := 8, ground := Ground.guard }], guard := some (8, true) }) (v := ?v11z) rfl (by kernel_rfl) (by kernel_rfl) (by kernel_rfl) (fun _ _ _ h => h) (Or.inl ⟨by rfl, ?hy11z⟩) (by assumption) ?rest11z
  case hy11z => (intro V2 hSw; (try dsimp only at hSw); go_simp; all_goals (with_reducible rfl))
  try simp only [Act.put, List.setIfInBounds_toArray, List.set_cons_zero, List.set_cons_succ]
  refine wpAnyH_take (i := 12) (oi := { dst := some 49, op := Op.nilCheck (Operand.tmp 48), type := 0, pos := "law.go:72", after := #[{ on := 11, ground := Ground.data }, { on := 8, ground := Ground.guard }], guard := some (8, true) }) (v := ?v12z) rfl (by kernel_rfl) (by kernel_rfl) (by kernel_rfl) (fun _ _ _ h => h) (Or.inl ⟨by rfl, ?hy12z⟩) (by assumption) ?rest12z
  case hy12z => (intro V2 hSw; (try dsimp only at hSw); go_simp; all_goals (with_reducible rfl))
  try simp only [Act.put, List.setIfInBounds_toArray, List.set_cons_zero, List.set_cons_succ]
  refine wpAnyH_take (i := 13) (oi := { dst := some 50, op := Op.fieldAddr 77 (Operand.tmp 49) 0, type := 0, pos := "law.go:72", after := #[{ on := 12, ground := Ground.data }, { on := 8, ground := Ground.guard }], guard := some (8, true) }) (v := ?v13z) rfl (by kernel_rfl) (by kernel_rfl) (by kernel_rfl) (fun _ _ _ h => h) (Or.inl ⟨by rfl, ?hy13z⟩) (by assumption) ?rest13z
  case hy13z => (intro V2 hSw; (try dsimp only at hSw); go_simp; all_goals (with_reducible rfl))
  try simp only [Act.put, List.setIfInBounds_toArray, List.set_cons_zero, List.set_cons_succ]
  refine wpAnyH_take (i := 14) (oi := { dst := some 51, op := Op.load 74 (Operand.tmp 50), type := 74, pos := "law.go:72", after := #[{ on := 13, ground := Ground.data }, { on := 8, ground := Ground.guard }], guard := some (8, true) }) (v := ?v14z) rfl (by kernel_rfl) (by kernel_rfl) (by kernel_rfl) (fun _ _ _ h => h) (Or.inl ⟨by rfl, ?hy14z⟩) (by assumption) ?rest14z
  case hy14z => (intro V2 hSw; (try dsimp only at hSw); obtain ⟨_, hcl, _⟩ := hSw; (try simp at hcl); go_simp; all_goals (with_reducible rfl))
  try simp only [Act.put, List.setIfInBounds_toArray, List.set_cons_zero, List.set_cons_succ]
  refine wpAnyH_ready (rs := [10]) (by kernel_rfl) (by simp) ?_
  refine AllReadyH.cons (o := { dst := some 47, op := Op.call { callee := Callee.value (Operand.func 24), args := #[Operand.tmp 46], argTypes := #[31] }, type := 74, pos := "law.go:72", after := #[{ on := 9, ground := Ground.data }, { on := 8, ground := Ground.chain }, { on := 8, ground := Ground.guard }], guard := some (8, true) }) rfl (fun K hK => ?_) AllReadyH.nil
  go_simp
  refine (Has.tbRowsM hS.1 (p := p) (r := r) (by simp) HRO.out.szs (by have := HRO.out.len; omega)).mono ?_
  rintro e wr ⟨AR, cR, rfl, -, hwr, hcr1, hcr2, hbr⟩
  refine hK.out _ _ (⟨hS.1.keep hbr, (hbr.cell (World.block_lt_of_cell? _ _ hS.2.1)).trans hS.2.1, hS.2.2.below hbr⟩) (fun hS => ?_)
  clear hK K
  try simp only [Act.put, List.setIfInBounds_toArray, List.set_cons_zero, List.set_cons_succ]
  have HWR := Lib.hid hwr
  clear hwr
  refine wpAnyH_ready (rs := [15]) (by kernel_rfl) (by simp) ?_
  refine AllReadyH.cons (o := { dst := some 52, op := Op.call { callee := Callee.value (Operand.func 23), args := #[Operand.tmp 47, Operand.tmp 51], argTypes := #[74, 74] }, type := 4, pos := "law.go:72", after := #[{ on := 10, ground := Ground.data }, { on := 14, ground := Ground.data }, { on := 10, ground := Ground.chain }, { on := 8, ground := Ground.guard }], guard := some (8, true) }) rfl (fun K hK => ?_) AllReadyH.nil
  go_simp
  refine (sameRows12 AR Ar r.length cR cr r _ (HWR.out) hS.2.2 (by omega)).mono ?_
  rintro e ws ⟨rfl, hbs⟩
  refine hK.out _ _ (⟨hS.1.keep hbs, (hbs.cell (World.block_lt_of_cell? _ _ hS.2.1)).trans hS.2.1, hS.2.2.below hbs⟩) (fun hS => ?_)
  clear hK K
  try simp only [Act.put, List.setIfInBounds_toArray, List.set_cons_zero, List.set_cons_succ]
  refine wpAnyH_take (i := 16) (oi := { dst := some 53, op := Op.pick (Operand.tmp 45) (Operand.tmp 52) (Operand.const (Value.bool false)), type := 4, pos := "law.go:72", after := #[{ on := 8, ground := Ground.data }, { on := 15, ground := Ground.data }], guard := none }) (v := .bool true) rfl (by kernel_rfl) (by kernel_rfl) (by kernel_rfl) (fun _ _ _ h => h) (Or.inl ⟨by rfl, ?hy16z⟩) (by assumption) ?rest16z
  case hy16z => (intro V2 hSw; (try dsimp only at hSw); go_simp; all_goals (with_reducible rfl))
  try simp only [Act.put, List.setIfInBounds_toArray, List.set_cons_zero, List.set_cons_succ]
  refine wpAnyH_take (i := 17) (oi := { dst := some 54, op := Op.move (Operand.tmp 53), type := 4, pos := "law.go:72", after := #[{ on := 16, ground := Ground.data }, { on := 15, ground := Ground.chain }], guard := none }) (v := ?v17z) rfl (by kernel_rfl) (by kernel_rfl) (by kernel_rfl) (fun _ _ _ h => h) (Or.inl ⟨by rfl, ?hy17z⟩) (by assumption) ?rest17z
  case hy17z => (intro V2 hSw; (try dsimp only at hSw); go_simp; all_goals (with_reducible rfl))
  try simp only [Act.put, List.setIfInBounds_toArray, List.set_cons_zero, List.set_cons_succ]
  refine wpAnyH_take (i := 18) (oi := { dst := some 55, op := Op.load 64 (Operand.tmp 7), type := 64, pos := "law.go:72", after := #[{ on := 17, ground := Ground.guard }], guard := some (17, true) }) (v := ?v18z) rfl (by kernel_rfl) (by kernel_rfl) (by kernel_rfl) (fun _ _ _ h => h) (Or.inl ⟨by rfl, ?hy18z⟩) (by assumption) ?rest18z
  case hy18z => (intro V2 hSw; (try dsimp only at hSw); obtain ⟨hH, _, _⟩ := hSw; have b7 := hH.blkAt (g := w2.heap.size) (t := 64) (cs := rcc x (.slice A2 n1 c2)) (by simp); have bx0 := b7.cell 0; have bx1 := b7.cell 1; have bx2 := b7.cell 2; have bx3 := b7.cell 3; have bx4 := b7.cell 4; have bx5 := b7.cell 5; have bx6 := b7.cell 6; have bx7 := b7.cell 7; have bx8 := b7.cell 8; have bx9 := b7.cell 9; simp at bx0 bx1 bx2 bx3 bx4 bx5 bx6 bx7 bx8 bx9; have bk := hH.blkAt (g := w.heap.size) (t := 66) (cs := (askw key f t q x (.slice A1 n1 c1) y m1 m2 l1 l2)) (by simp); have ak4 := bk.cell 4; have ak5 := bk.cell 5; have ak6 := bk.cell 6; have ak7 := bk.cell 7; have ak8 := bk.cell 8; have ak9 := bk.cell 9; have ak10 := bk.cell 10; have ak11 := bk.cell 11; have ak12 := bk.cell 12; have ak13 := bk.cell 13; simp at ak4 ak5 ak6 ak7 ak8 ak9 ak10 ak11 ak12 ak13; go_simp; all_goals (with_reducible rfl))
  try simp only [Act.put, List.setIfInBounds_toArray, List.set_cons_zero, List.set_cons_succ]
  refine wpAnyH_take (i := 19) (oi := { dst := some 56, op := Op.fieldAddr 66 (Operand.tmp 3) 3, type := 0, pos := "law.go:72", after := #[{ on := 17, ground := Ground.guard }], guard := some (17, true) }) (v := ?v19z) rfl (by kernel_rfl) (by kernel_rfl) (by kernel_rfl) (fun _ _ _ h => h) (Or.inl ⟨by rfl, ?hy19z⟩) (by assumption) ?rest19z
  case hy19z => (intro V2 hSw; (try dsimp only at hSw); go_simp; all_goals (with_reducible rfl))
  try simp only [Act.put, List.setIfInBounds_toArray, List.set_cons_zero, List.set_cons_succ]
  refine wpAnyH_take (i := 20) (oi := { dst := some 57, op := Op.load 64 (Operand.tmp 56), type := 64, pos := "law.go:72", after := #[{ on := 19, ground := Ground.data }, { on := 17, ground := Ground.guard }], guard := some (17, true) }) (v := ?v20z) rfl (by kernel_rfl) (by kernel_rfl) (by kernel_rfl) (fun _ _ _ h => h) (Or.inl ⟨by rfl, ?hy20z⟩) (by assumption) ?rest20z
  case hy20z => (intro V2 hSw; (try dsimp only at hSw); obtain ⟨hH, _, _⟩ := hSw; have b7 := hH.blkAt (g := w2.heap.size) (t := 64) (cs := rcc x (.slice A2 n1 c2)) (by simp); have bx0 := b7.cell 0; have bx1 := b7.cell 1; have bx2 := b7.cell 2; have bx3 := b7.cell 3; have bx4 := b7.cell 4; have bx5 := b7.cell 5; have bx6 := b7.cell 6; have bx7 := b7.cell 7; have bx8 := b7.cell 8; have bx9 := b7.cell 9; simp at bx0 bx1 bx2 bx3 bx4 bx5 bx6 bx7 bx8 bx9; have bk := hH.blkAt (g := w.heap.size) (t := 66) (cs := (askw key f t q x (.slice A1 n1 c1) y m1 m2 l1 l2)) (by simp); have ak4 := bk.cell 4; have ak5 := bk.cell 5; have ak6 := bk.cell 6; have ak7 := bk.cell 7; have ak8 := bk.cell 8; have ak9 := bk.cell 9; have ak10 := bk.cell 10; have ak11 := bk.cell 11; have ak12 := bk.cell 12; have ak13 := bk.cell 13; simp at ak4 ak5 ak6 ak7 ak8 ak9 ak10 ak11 ak12 ak13; go_simp; all_goals (with_reducible rfl))
  try simp only [Act.put, List.setIfInBounds_toArray, List.set_cons_zero, List.set_cons_succ]
  refine wpAnyH_ready (rs := [21]) (by kernel_rfl) (by simp) ?_
  refine AllReadyH.cons (o := { dst := some 58, op := Op.call { callee := Callee.value (Operand.func 25), args := #[Operand.tmp 55, Operand.tmp 57], argTypes := #[64, 64] }, type := 4, pos := "law.go:72", after := #[{ on := 18, ground := Ground.data }, { on := 20, ground := Ground.data }, { on := 17, ground := Ground.chain }, { on := 17, ground := Ground.guard }], guard := some (17, true) }) rfl (fun K hK => ?_) AllReadyH.nil
  go_simp
  refine (rSameR_refl x A2 A1 n1 n1 c2 c1 _ (hS.1.wt (by simp)) (HW.out.below hS.1.bel) hn1b).mono ?_
  rintro e wv ⟨rfl, hbv⟩
  refine hK.out _ _ (⟨hS.1.keep hbv, (hbv.cell (World.block_lt_of_cell? _ _ hS.2.1)).trans hS.2.1, hS.2.2.below hbv⟩) (fun hS => ?_)
  clear hK K
  try simp only [Act.put, List.setIfInBounds_toArray, List.set_cons_zero, List.set_cons_succ]
  refine wpAnyH_take (i := 22) (oi := { dst := some 59, op := Op.pick (Operand.tmp 54) (Operand.tmp 58) (Operand.const (Value.bool false)), type := 4, pos := "law.go:72", after := #[{ on := 17, ground := Ground.data }, { on := 21, ground := Ground.data }], guard := none }) (v := .bool true) rfl (by kernel_rfl) (by kernel_rfl) (by kernel_rfl) (fun _ _ _ h => h) (Or.inl ⟨by rfl, ?hy22z⟩) (by assumption) ?rest22z
  case hy22z => (intro V2 hSw; (try dsimp only at hSw); go_simp; all_goals (with_reducible rfl))
  try simp only [Act.put, List.setIfInBounds_toArray, List.set_cons_zero, List.set_cons_succ]
  refine wpAnyH_take (i := 23) (oi := { dst := some 60, op := Op.move (Operand.tmp 59), type := 4, pos := "law.go:72", after := #[{ on := 22, ground := Ground.data }, { on := 21, ground := Ground.chain }], guard := none }) (v := ?v23z) rfl (by kernel_rfl) (by kernel_rfl) (by kernel_rfl) (fun _ _ _ h => h) (Or.inl ⟨by rfl, ?hy23z⟩) (by assumption) ?rest23z
  case hy23z => (intro V2 hSw; (try dsimp only at hSw); go_simp; all_goals (with_reducible rfl))
  try simp only [Act.put, List.setIfInBounds_toArray, List.set_cons_zero, List.set_cons_succ]
  refine wpAnyH_ready (rs := [24]) (by kernel_rfl) (by simp) ?_
  refine AllReadyH.cons (o := { dst := some 61, op := Op.call { callee := Callee.value (Operand.func 26), args := #[], argTypes := #[] }, type := 4, pos := "law.go:72", after := #[{ on := 23, ground := Ground.chain }, { on := 23, ground := Ground.guard }], guard := some (23, true) }) rfl (fun K hK => ?_) AllReadyH.nil
  go_simp
  refine (awake14 _ (hM.below hS.1.bel)).mono ?_
  rintro e wt ⟨rfl, hbt⟩
  refine hK.out _ _ (⟨hS.1.keep hbt, (hbt.cell (World.block_lt_of_cell? _ _ hS.2.1)).trans hS.2.1, hS.2.2.below hbt⟩) (fun hS => ?_)
  clear hK K
  try simp only [Act.put, List.setIfInBounds_toArray, List.set_cons_zero, List.set_cons_succ]
  refine wpAnyH_take (i := 25) (oi := { dst := some 62, op := Op.pick (Operand.tmp 60) (Operand.tmp 61) (Operand.const (Value.bool false)), type := 4, pos := "law.go:72", after := #[{ on := 23, ground := Ground.data }, { on := 24, ground := Ground.data }], guard := none }) (v := .bool true) rfl (by kernel_rfl) (by kernel_rfl) (by kernel_rfl) (fun _ _ _ h => h) (Or.inl ⟨by rfl, ?hy25z⟩) (by assumption) ?rest25z
  case hy25z => (intro V2 hSw; (try dsimp only at hSw); go_simp; all_goals (with_reducible rfl))
  try simp only [Act.put, List.setIfInBounds_toArray, List.set_cons_zero, List.set_cons_succ]
  refine wpAnyH_take (i := 26) (oi := { dst := some 4, op := Op.assign (Operand.tmp 62), type := 4, pos := "law.go:72", after := #[{ on := 25, ground := Ground.data }, { on := 24, ground := Ground.chain }, { on := 0, ground := Ground.phase }, { on := 1, ground := Ground.phase }, { on := 2, ground := Ground.phase }, { on := 3, ground := Ground.phase }, { on := 4, ground := Ground.phase }, { on := 5, ground := Ground.phase }, { on := 6, ground := Ground.phase }, { on := 7, ground := Ground.phase }, { on := 8, ground := Ground.phase }, { on := 9, ground := Ground.phase }, { on := 10, ground := Ground.phase }, { on := 11, ground := Ground.phase }, { on := 12, ground := Ground.phase }, { on := 13, ground := Ground.phase }, { on := 14, ground := Ground.phase }, { on := 15, ground := Ground.phase }, { on := 16, ground := Ground.phase }, { on := 17, ground := Ground.phase }, { on := 18, ground := Ground.phase }, { on := 19, ground := Ground.phase }, { on := 20, ground := Ground.phase }, { on := 21, ground := Ground.phase }, { on := 22, ground := Ground.phase }, { on := 23, ground := Ground.phase }, { on := 24, ground := Ground.phase }, { on := 25, ground := Ground.phase }], guard := none }) (v := ?v26z) rfl (by kernel_rfl) (by kernel_rfl) (by kernel_rfl) (fun _ _ _ h => h) (Or.inl ⟨by rfl, ?hy26z⟩) (by assumption) ?rest26z
  case hy26z => (intro V2 hSw; (try dsimp only at hSw); go_simp; all_goals (with_reducible rfl))
  try simp only [Act.put, List.setIfInBounds_toArray, List.set_cons_zero, List.set_cons_succ]
  refine wpAnyH_done (by kernel_rfl) ?_ _
  have hfin := hS.1.bel
  go_wp2_with fail
  go_ret
  exact ⟨rfl, hfin⟩
end Go.Proofs.YthimheckmpepdaaGreatDoor
set_option linter.unusedVariables false
set_option linter.unusedSimpArgs false
set_option maxRecDepth 100000
namespace Go.Proofs.YthimheckmpepdaaGreatDoor
open Go.ChangeShapes Go.WideShapes Go.ChangeAt Go.RowKit Go.Joins Go.Deep

section
variable {H : Type} {enc : TypeId × Value → H} {w : World} {base : Nat} {held : Bool} {d : DataW H} {p : List MemPlace} {v : Value} {r : Reach} {b0 : Nat} {fuel : Nat} {cs : List Value}
theorem open_ak14r (hf : DataW.trod enc Tryz.prog w base (fun _ => true) held fuel 66 cs = some (d, p)) (hW : ∀ y ∈ d.weights Tryz.prog 66, y ≤ 140737488351232) :
    ∃ (key f t : ByteArray) (q : Int) (x : Rc) (A : Option Addr) (n c : Nat) (y : Tx) (a1 a2 b1 b2 : Int), cs = (askw key f t q x (.slice A n c) y a1 a2 b1 b2).toList ∧ WtAt w A n x.l ∧ n * 24 ≤ 140737488351232 ∧ n ≤ c ∧ c ≤ 9223372036854775807 ∧ key.size ≤ 140737488351232 ∧ f.size ≤ 140737488351232 ∧ t.size ≤ 140737488351232 := by
  obtain ⟨xs, k', hk', hxy, hcl, hxl, hfl⟩ := DataW.trod_struct Tryz.underlying66 hf
  rw [kAsk14] at hcl
  obtain ⟨v0, v1, v2, v3, v4, v5, v6, v7, v8, v9, v10, v11, v12, v13, v14, v15, v16, v17, v18, v19, v20, v21, v22, v23, v24, v25, v26, v27, v28, v29, rfl⟩ := l30 hcl
  obtain ⟨y0, y1, y2, y3, y4, y5, y6, rfl⟩ := l7 hxl
  have hDi : d = .agg ([y0, y1, y2, y3, y4, y5, y6].map (·.1)) := congrArg Prod.fst hxy
  have hwe : ∀ (j : Nat) (t : TypeId) (dd : DataW H), [9, 61, 3, 64, 28, 26, 26][j]? = some t → [y0.1, y1.1, y2.1, y3.1, y4.1, y5.1, y6.1][j]? = some dd → ∀ y ∈ dd.weights Tryz.prog t, y ≤ 140737488351232 := fun j t dd ht hdj y hy => hW y (by
    rw [hDi]
    simp only [DataW.weights, Tryz.underlying66]
    exact DataW.weights_mem_each (j := j) ht hdj y hy)
  have g0 := hfl 0 _ rfl
  have g1 := hfl 1 _ rfl
  have g2 := hfl 2 _ rfl
  have g3 := hfl 3 _ rfl
  have g4 := hfl 4 _ rfl
  have g5 := hfl 5 _ rfl
  have g6 := hfl 6 _ rfl
  simp [kIn, kSt, kSp, kSn, kRc, kTx] at g0 g1 g2 g3 g4 g5 g6
  obtain ⟨s0, e0, x0, _⟩ := DataW.trod_string Tryz.underlying9 g0
  obtain ⟨f, t, e1, zf, zt⟩ := open_spn (d := y1.1) (p := y1.2) g1 (hwe 1 _ _ rfl rfl)
  obtain ⟨q, e2, _, _⟩ := DataW.trod_int Tryz.underlying3 g2
  obtain ⟨x, A, n, c, e3, h1, h2, h3, h4⟩ := open_rc (d := y3.1) (p := y3.2) g3 (hwe 3 _ _ rfl rfl)
  obtain ⟨y, e4⟩ := open_tx (d := y4.1) (p := y4.2) g4
  obtain ⟨m1, m2, e5⟩ := open_sp g5
  obtain ⟨m3, m4, e6⟩ := open_sp g6
  have q0 := hwe 0 _ _ rfl rfl s0.data.toList.length (by rw [x0]; simp [DataW.weights])
  have k0 : s0.data.toList.length = s0.size := by rw [Array.length_toList]; rfl
  simp at e0 e1 e2 e3 e4 e5 e6
  obtain ⟨a0, a1⟩ := e1
  obtain ⟨b0, b1, b2, b3, b4, b5, b6, b7, b8, b9⟩ := e3
  obtain ⟨c0, c1, c2, c3, c4, c5, c6, c7, c8, c9, c10, c11⟩ := e4
  obtain ⟨d0, d1⟩ := e5
  obtain ⟨f0, f1⟩ := e6
  subst e0 a0 a1 e2 b0 b1 b2 b3 b4 b5 b6 b7 b8 b9 c0 c1 c2 c3 c4 c5 c6 c7 c8 c9 c10 c11 d0 d1 f0 f1
  exact ⟨s0, f, t, q, x, A, n, c, y, m1, m2, m3, m4, rfl, h1, h2, h3, h4, by omega, zf, zt⟩
theorem open_ask14r (hval : Value.okWide Tryz.prog w r b0 66 v) (hd : DataW.Trod enc Tryz.prog w base (fun _ => true) held 66 v d p) (hW : ∀ y ∈ d.weights Tryz.prog 66, y ≤ 140737488351232) :
    ∃ (key f t : ByteArray) (q : Int) (x : Rc) (A : Option Addr) (n c : Nat) (y : Tx) (a1 a2 b1 b2 : Int), v = .agg (askw key f t q x (.slice A n c) y a1 a2 b1 b2) ∧ WtAt w A n x.l ∧ n * 24 ≤ 140737488351232 ∧ n ≤ c ∧ c ≤ 9223372036854775807 ∧ key.size ≤ 140737488351232 ∧ f.size ≤ 140737488351232 ∧ t.size ≤ 140737488351232 := by
  obtain ⟨cs, rfl, hsz⟩ : ∃ cs, v = .agg cs ∧ cs.size = Tryz.prog.cellsOf 66 := by
    simp only [Value.okWide, Tryz.underlying66] at hval
    obtain ⟨cs, h1, h2, _⟩ := hval
    exact ⟨cs, h1, h2⟩
  obtain ⟨fuel, hf⟩ := hd
  obtain ⟨key, f, t, q, x, A, n, c, y, a1, a2, b1, b2, hx, h1⟩ := open_ak14r hf hW
  exact ⟨key, f, t, q, x, A, n, c, y, a1, a2, b1, b2, by congr 1; exact Array.ext' hx, h1⟩
end
end Go.Proofs.YthimheckmpepdaaGreatDoor
