/-
  Layer 11: CellRecords: whether it may be, its text, and whether two are the same, is the document's.
-/
import Derived.Test.YtiafmbfeigcinaaDoorLClRTxR
import Derived.Test.YtiafmbfeigcinaaDoorLClCopy
import Derived.Test.YtiafmbfeigcinaaDoorZ16
import Derived.Test.YtiafmbfeigcinaaDoorZ15
set_option linter.unusedVariables false
set_option linter.unusedSimpArgs false
set_option maxRecDepth 100000
namespace Go.Proofs.YtiafmbfeigcinaaDoor
open Go.RowKit

set_option maxHeartbeats 8000000 in
theorem cellRecords_walk (x : Rc) (A : Option Addr) (n c : Nat) (y : Rc) (A2 : Option Addr) (n2 c2 : Nat) (w : World) (hx : WtAt w A n x.l) (kx : n * 24 ≤ 140737488351232) (hy : WtAt w A2 n2 y.l) (ky : n2 * 24 ≤ 140737488351232) (hm : MaxL w) :
    Calls Tryd.prog 4 #[rcv x (.slice A n c), rcv y (.slice A2 n2 c2)] w fun e w' => e = .returned (.bool true) ∧ Below w.heap.size w w' := by
  obtain ⟨s, k, hsk⟩ : ∃ (s : ByteArray) (k : Int), ansT (mayR x) (txR x) = .returned (.tuple #[.string s, .int .i64 k]) := ⟨_, _, rfl⟩
  obtain ⟨bb, hbb⟩ : ∃ bb : Bool, bb = true ↔ x = y := ⟨@decide (x = y) (Classical.propDecidable _), by simp⟩
  have hss : (s.toList == s.toList) = true := by simp
  have hkk : (k == k) = true := by simp
  have hbbb : (bb == bb) = true := by simp
  have hmix : Tryd.prog.follows .mixedOrders = true := by kernel_rfl
  have HSK := Lib.hid hsk
  have HBB := Lib.hid hbb
  have g0 := nbl w (.cells (rcc x (.slice A n c)) 37)
  have g1 := bsa g0 (.cells (rcc y (.slice A2 n2 c2)) 37)
  have hz : (w.alloc (.cells (rcc x (.slice A n c)) 37)).heap.size = w.heap.size + 1 := by simp
  have kX := (Blk.new w 37 (rcc x (.slice A n c))).below (nbl _ (.cells (rcc y (.slice A2 n2 c2)) 37)) (by simp)
  have kY := Blk.new (w.alloc (.cells (rcc x (.slice A n c)) 37)) 37 (rcc y (.slice A2 n2 c2))
  rw [hz] at kY
  have HX := Lib.hid kX
  have HY := Lib.hid kY
  have HLX := Lib.hid (hx.below g1)
  have HLY := Lib.hid (hy.below g1)
  have HM := Lib.hid (hm.below g1)
  have G1 := Lib.hid g1
  cases hmy : mayR x
  · skip
    clear kX kY g0 g1 hx hy hm hsk hbb hz
    have HMY := Lib.hid hmy
    clear hmy
    go_enter Tryd.func4, Tryd.ntmps4
    go_wp2_with (first
      | (go_at_call 13; refine (rCopyR_c x A n c _ HLX.out kx).mono ?_; rintro e w1 ⟨A3, c3, rfl, hat3, b1⟩
         have ba := bsa b1 (.cells (rcc x (.slice A3 n c3)) 37)
         have HX1 := Lib.hid (HX.out.below ba HX.out.lt)
         have HY1 := Lib.hid (HY.out.below ba HY.out.lt)
         have HZ1 := Lib.hid (Blk.new w1 37 (rcc x (.slice A3 n c3)))
         have HLX1 := Lib.hid (HLX.out.below ba)
         have HLY1 := Lib.hid (HLY.out.below ba)
         have HLZ1 := Lib.hid (hat3.below (nbl w1 (.cells (rcc x (.slice A3 n c3)) 37)))
         have HM1 := Lib.hid (HM.out.below ba)
         have G2 := Lib.hid (bst G1.out ba)
         clear hat3 ba b1)
      | (go_at_call 14; refine (record_c x A3 n c3 _ HLZ1.out (by omega)).mono ?_; rintro e w2 ⟨he, b2⟩; rw [HSK.out] at he; subst he
         have HX2 := Lib.hid (HX1.out.below b2 HX1.out.lt)
         have kk := HX2.out
         have e0 := kk.cell 0
         have e1 := kk.cell 1
         have e2 := kk.cell 2
         have e3 := kk.cell 3
         have e4 := kk.cell 4
         have e5 := kk.cell 5
         have e6 := kk.cell 6
         have e7 := kk.cell 7
         have e8 := kk.cell 8
         have e9 := kk.cell 9
         simp at e0 e1 e2 e3 e4 e5 e6 e7 e8 e9
         clear kk)
      | (go_at_call 15; refine (rRecord_c x A n c _ (HLX1.out.below b2) (by omega)).mono ?_; rintro e w3 ⟨he, b3⟩; rw [HSK.out] at he; subst he
         have c23 := bst b2 b3
         have HZ3 := Lib.hid (HZ1.out.below c23 HZ1.out.lt)
         have kk := HZ3.out
         have e0 := kk.cell 0
         have e1 := kk.cell 1
         have e2 := kk.cell 2
         have e3 := kk.cell 3
         have e4 := kk.cell 4
         have e5 := kk.cell 5
         have e6 := kk.cell 6
         have e7 := kk.cell 7
         have e8 := kk.cell 8
         have e9 := kk.cell 9
         simp at e0 e1 e2 e3 e4 e5 e6 e7 e8 e9
         clear kk)
      | (go_at_call 16; refine (checkR x A3 n c3 _ (HLZ1.out.below c23) (by omega)).mono ?_; rintro e w5 ⟨he, b5⟩; rw [HMY.out] at he; subst he
         have c25 := bst c23 b5
         have HX5 := Lib.hid (HX1.out.below c25 HX1.out.lt)
         have HY5 := Lib.hid (HY1.out.below c25 HY1.out.lt)
         have HZ5 := Lib.hid (HZ1.out.below c25 HZ1.out.lt)
         have HLX5 := Lib.hid (HLX1.out.below c25)
         have HLY5 := Lib.hid (HLY1.out.below c25)
         have HLZ5 := Lib.hid (HLZ1.out.below c25)
         have HM5 := Lib.hid (HM1.out.below c25)
         have G5 := Lib.hid (bst G2.out c25)))
    have LC := Lib.hid (fun (V : World) (hb : Below w5.heap.size w5 V) => (show V.cell? ⟨w.heap.size, 0, none⟩ = some (.int .i64 x.id) ∧ V.cell? ⟨w.heap.size, 1, none⟩ = some (.int .i64 x.ep) ∧ V.cell? ⟨w.heap.size, 2, none⟩ = some (.int .i64 x.st) ∧ V.cell? ⟨w.heap.size, 3, none⟩ = some (.int .i64 x.pr) ∧ V.cell? ⟨w.heap.size, 4, none⟩ = some (.string x.an) ∧ V.cell? ⟨w.heap.size, 5, none⟩ = some (.int .i64 x.sw) ∧ V.cell? ⟨w.heap.size, 6, none⟩ = some (.int .i64 x.sl) ∧ V.cell? ⟨w.heap.size, 7, none⟩ = some (.int .i64 x.bw) ∧ V.cell? ⟨w.heap.size, 8, none⟩ = some (.int .i64 x.bl) ∧ V.cell? ⟨w.heap.size, 9, none⟩ = some (.slice A n c) ∧ V.cell? ⟨w.heap.size + 1, 0, none⟩ = some (.int .i64 y.id) ∧ V.cell? ⟨w.heap.size + 1, 1, none⟩ = some (.int .i64 y.ep) ∧ V.cell? ⟨w.heap.size + 1, 2, none⟩ = some (.int .i64 y.st) ∧ V.cell? ⟨w.heap.size + 1, 3, none⟩ = some (.int .i64 y.pr) ∧ V.cell? ⟨w.heap.size + 1, 4, none⟩ = some (.string y.an) ∧ V.cell? ⟨w.heap.size + 1, 5, none⟩ = some (.int .i64 y.sw) ∧ V.cell? ⟨w.heap.size + 1, 6, none⟩ = some (.int .i64 y.sl) ∧ V.cell? ⟨w.heap.size + 1, 7, none⟩ = some (.int .i64 y.bw) ∧ V.cell? ⟨w.heap.size + 1, 8, none⟩ = some (.int .i64 y.bl) ∧ V.cell? ⟨w.heap.size + 1, 9, none⟩ = some (.slice A2 n2 c2) ∧ V.cell? ⟨w1.heap.size, 0, none⟩ = some (.int .i64 x.id) ∧ V.cell? ⟨w1.heap.size, 1, none⟩ = some (.int .i64 x.ep) ∧ V.cell? ⟨w1.heap.size, 2, none⟩ = some (.int .i64 x.st) ∧ V.cell? ⟨w1.heap.size, 3, none⟩ = some (.int .i64 x.pr) ∧ V.cell? ⟨w1.heap.size, 4, none⟩ = some (.string x.an) ∧ V.cell? ⟨w1.heap.size, 5, none⟩ = some (.int .i64 x.sw) ∧ V.cell? ⟨w1.heap.size, 6, none⟩ = some (.int .i64 x.sl) ∧ V.cell? ⟨w1.heap.size, 7, none⟩ = some (.int .i64 x.bw) ∧ V.cell? ⟨w1.heap.size, 8, none⟩ = some (.int .i64 x.bl) ∧ V.cell? ⟨w1.heap.size, 9, none⟩ = some (.slice A3 n c3) from by
      have k0 := HX5.out.below hb HX5.out.lt
      have k1 := HY5.out.below hb HY5.out.lt
      have k2 := HZ5.out.below hb HZ5.out.lt
      exact ⟨k0.cell 0, k0.cell 1, k0.cell 2, k0.cell 3, k0.cell 4, k0.cell 5, k0.cell 6, k0.cell 7, k0.cell 8, k0.cell 9, k1.cell 0, k1.cell 1, k1.cell 2, k1.cell 3, k1.cell 4, k1.cell 5, k1.cell 6, k1.cell 7, k1.cell 8, k1.cell 9, k2.cell 0, k2.cell 1, k2.cell 2, k2.cell 3, k2.cell 4, k2.cell 5, k2.cell 6, k2.cell 7, k2.cell 8, k2.cell 9⟩))
    refine wp_region_held_drew (S := fun V => Below (w5).heap.size (w5) V) hmix (below_dr _) (fun hS => ?_)
    simp only [List.size_toArray, List.length_cons, List.length_nil, Nat.reduceAdd, Array.replicate_succ, Array.replicate_zero]
    refine wpAnyH_take (i := 0) (oi := { dst := some 26, op := Op.move (Operand.tmp 6), type := 9, pos := "law.go:26", after := #[], guard := none }) (v := ?v0a) rfl (by kernel_rfl) (by kernel_rfl) (by kernel_rfl) (fun _ _ _ h => h) (Or.inl ⟨by rfl, ?hy0a⟩) (by assumption) ?rest0a
    case hy0a => (intro V hSw; (try dsimp only at hSw); go_simp; all_goals (with_reducible rfl))
    try simp only [Act.put, List.setIfInBounds_toArray, List.set_cons_zero, List.set_cons_succ]
    refine wpAnyH_take (i := 1) (oi := { dst := some 27, op := Op.move (Operand.tmp 8), type := 9, pos := "law.go:26", after := #[], guard := none }) (v := ?v1a) rfl (by kernel_rfl) (by kernel_rfl) (by kernel_rfl) (fun _ _ _ h => h) (Or.inl ⟨by rfl, ?hy1a⟩) (by assumption) ?rest1a
    case hy1a => (intro V hSw; (try dsimp only at hSw); go_simp; all_goals (with_reducible rfl))
    try simp only [Act.put, List.setIfInBounds_toArray, List.set_cons_zero, List.set_cons_succ]
    refine wpAnyH_take (i := 2) (oi := { dst := some 28, op := Op.binOp BinOp.eql 9 (Operand.tmp 26) (Operand.tmp 27) 9, type := 4, pos := "law.go:26", after := #[{ on := 0, ground := Ground.data }, { on := 1, ground := Ground.data }], guard := none }) (v := ?v2a) rfl (by kernel_rfl) (by kernel_rfl) (by kernel_rfl) (fun _ _ _ h => h) (Or.inl ⟨by rfl, ?hy2a⟩) (by assumption) ?rest2a
    case hy2a => (intro V hSw; (try dsimp only at hSw); go_simp; all_goals (with_reducible rfl))
    try simp only [Act.put, List.setIfInBounds_toArray, List.set_cons_zero, List.set_cons_succ]
    refine wpAnyH_take (i := 3) (oi := { dst := some 29, op := Op.move (Operand.tmp 28), type := 4, pos := "law.go:26", after := #[{ on := 2, ground := Ground.data }], guard := none }) (v := ?v3a) rfl (by kernel_rfl) (by kernel_rfl) (by kernel_rfl) (fun _ _ _ h => h) (Or.inl ⟨by rfl, ?hy3a⟩) (by assumption) ?rest3a
    case hy3a => (intro V hSw; (try dsimp only at hSw); go_simp; all_goals (with_reducible rfl))
    try simp only [Act.put, List.setIfInBounds_toArray, List.set_cons_zero, List.set_cons_succ]
    refine wpAnyH_take (i := 4) (oi := { dst := some 30, op := Op.move (Operand.tmp 7), type := 28, pos := "law.go:26", after := #[{ on := 3, ground := Ground.guard }], guard := some (3, true) }) (v := ?v4a) rfl (by kernel_rfl) (by kernel_rfl) (by kernel_rfl) (fun _ _ _ h => h) (Or.inl ⟨by rfl, ?hy4a⟩) (by assumption) ?rest4a
    case hy4a => (intro V hSw; (try dsimp only at hSw); go_simp; all_goals (with_reducible rfl))
    try simp only [Act.put, List.setIfInBounds_toArray, List.set_cons_zero, List.set_cons_succ]
    refine wpAnyH_take (i := 5) (oi := { dst := some 31, op := Op.move (Operand.tmp 9), type := 28, pos := "law.go:26", after := #[{ on := 3, ground := Ground.guard }], guard := some (3, true) }) (v := ?v5a) rfl (by kernel_rfl) (by kernel_rfl) (by kernel_rfl) (fun _ _ _ h => h) (Or.inl ⟨by rfl, ?hy5a⟩) (by assumption) ?rest5a
    case hy5a => (intro V hSw; (try dsimp only at hSw); go_simp; all_goals (with_reducible rfl))
    try simp only [Act.put, List.setIfInBounds_toArray, List.set_cons_zero, List.set_cons_succ]
    refine wpAnyH_take (i := 6) (oi := { dst := some 32, op := Op.binOp BinOp.eql 28 (Operand.tmp 30) (Operand.tmp 31) 28, type := 4, pos := "law.go:26", after := #[{ on := 4, ground := Ground.data }, { on := 5, ground := Ground.data }, { on := 3, ground := Ground.guard }], guard := some (3, true) }) (v := ?v6a) rfl (by kernel_rfl) (by kernel_rfl) (by kernel_rfl) (fun _ _ _ h => h) (Or.inl ⟨by rfl, ?hy6a⟩) (by assumption) ?rest6a
    case hy6a => (intro V hSw; (try dsimp only at hSw); go_simp; all_goals (with_reducible rfl))
    try simp only [Act.put, List.setIfInBounds_toArray, List.set_cons_zero, List.set_cons_succ]
    refine wpAnyH_take (i := 7) (oi := { dst := some 33, op := Op.pick (Operand.tmp 29) (Operand.tmp 32) (Operand.const (Value.bool false)), type := 4, pos := "law.go:26", after := #[{ on := 3, ground := Ground.data }, { on := 6, ground := Ground.data }], guard := none }) (v := ?v7a) rfl (by kernel_rfl) (by kernel_rfl) (by kernel_rfl) (fun _ _ _ h => h) (Or.inl ⟨by rfl, ?hy7a⟩) (by assumption) ?rest7a
    case hy7a => (intro V hSw; (try dsimp only at hSw); go_simp; all_goals (with_reducible rfl))
    try simp only [Act.put, List.setIfInBounds_toArray, List.set_cons_zero, List.set_cons_succ]
    refine wpAnyH_take (i := 8) (oi := { dst := some 34, op := Op.move (Operand.tmp 33), type := 4, pos := "law.go:26", after := #[{ on := 7, ground := Ground.data }, { on := 3, ground := Ground.chain }], guard := none }) (v := ?v8a) rfl (by kernel_rfl) (by kernel_rfl) (by kernel_rfl) (fun _ _ _ h => h) (Or.inl ⟨by rfl, ?hy8a⟩) (by assumption) ?rest8a
    case hy8a => (intro V hSw; (try dsimp only at hSw); go_simp; all_goals (with_reducible rfl))
    try simp only [Act.put, List.setIfInBounds_toArray, List.set_cons_zero, List.set_cons_succ]
    refine wpAnyH_take (i := 9) (oi := { dst := some 35, op := Op.move (Operand.tmp 10), type := 4, pos := "law.go:26", after := #[{ on := 8, ground := Ground.guard }], guard := some (8, true) }) (v := ?v9a) rfl (by kernel_rfl) (by kernel_rfl) (by kernel_rfl) (fun _ _ _ h => h) (Or.inl ⟨by rfl, ?hy9a⟩) (by assumption) ?rest9a
    case hy9a => (intro V hSw; (try dsimp only at hSw); go_simp; all_goals (with_reducible rfl))
    try simp only [Act.put, List.setIfInBounds_toArray, List.set_cons_zero, List.set_cons_succ]
    refine wpAnyH_take (i := 10) (oi := { dst := some 36, op := Op.load 37 (Operand.tmp 2), type := 37, pos := "law.go:26", after := #[{ on := 8, ground := Ground.guard }], guard := some (8, true) }) (v := ?v10a) rfl (by kernel_rfl) (by kernel_rfl) (by kernel_rfl) (fun _ _ _ h => h) (Or.inl ⟨by rfl, ?hy10a⟩) (by assumption) ?rest10a
    case hy10a => (intro V hSw; (try dsimp only at hSw); obtain ⟨c0, c1, c2, c3, c4, c5, c6, c7, c8, c9, c10, c11, c12, c13, c14, c15, c16, c17, c18, c19, c20, c21, c22, c23, c24, c25, c26, c27, c28, c29⟩ := LC.out V hSw; go_simp; all_goals (with_reducible rfl))
    try simp only [Act.put, List.setIfInBounds_toArray, List.set_cons_zero, List.set_cons_succ]
    refine wpAnyH_ready (rs := [11]) (by kernel_rfl) (by simp) ?_
    refine AllReadyH.cons (o := { dst := some 37, op := Op.call { callee := Callee.value (Operand.func 17), args := #[Operand.tmp 36], argTypes := #[37] }, type := 4, pos := "law.go:26", after := #[{ on := 10, ground := Ground.data }, { on := 8, ground := Ground.chain }, { on := 8, ground := Ground.guard }], guard := some (8, true) }) rfl (fun K hK => ?_) AllReadyH.nil
    go_simp
    refine (rMayR_c x _ HMY.out A n c _ (HLX5.out.below (below_dr w5)) (by omega)).mono ?_
    rintro e v1 ⟨rfl, hb1⟩
    refine hK.out _ _ (bst (below_dr w5) hb1) (fun _ => ?_)
    clear hK K
    clear hS
    refine wpAnyH_imp (S' := fun V => Below v1.heap.size v1 V) (fun V h => bst (bst (below_dr w5) hb1) h) ?_
    have hS : Below v1.heap.size v1 v1 := Below.refl _ _
    try simp only [Act.put, List.setIfInBounds_toArray, List.set_cons_zero, List.set_cons_succ]
    have HB1 := Lib.hid (bst (below_dr w5) hb1)
    refine wpAnyH_take (i := 12) (oi := { dst := some 38, op := Op.unOp UnOp.not 4 (Operand.tmp 37), type := 4, pos := "law.go:26", after := #[{ on := 11, ground := Ground.data }, { on := 8, ground := Ground.guard }], guard := some (8, true) }) (v := ?v12a) rfl (by kernel_rfl) (by kernel_rfl) (by kernel_rfl) (fun _ _ _ h => h) (Or.inl ⟨by rfl, ?hy12a⟩) (by assumption) ?rest12a
    case hy12a => (intro V hSw; (try dsimp only at hSw); go_simp; all_goals (with_reducible rfl))
    try simp only [Act.put, List.setIfInBounds_toArray, List.set_cons_zero, List.set_cons_succ]
    refine wpAnyH_take (i := 13) (oi := { dst := some 39, op := Op.binOp BinOp.eql 4 (Operand.tmp 35) (Operand.tmp 38) 4, type := 4, pos := "law.go:26", after := #[{ on := 9, ground := Ground.data }, { on := 12, ground := Ground.data }, { on := 8, ground := Ground.guard }], guard := some (8, true) }) (v := ?v13a) rfl (by kernel_rfl) (by kernel_rfl) (by kernel_rfl) (fun _ _ _ h => h) (Or.inl ⟨by rfl, ?hy13a⟩) (by assumption) ?rest13a
    case hy13a => (intro V hSw; (try dsimp only at hSw); go_simp; all_goals (with_reducible rfl))
    try simp only [Act.put, List.setIfInBounds_toArray, List.set_cons_zero, List.set_cons_succ]
    refine wpAnyH_take (i := 14) (oi := { dst := some 40, op := Op.pick (Operand.tmp 34) (Operand.tmp 39) (Operand.const (Value.bool false)), type := 4, pos := "law.go:26", after := #[{ on := 8, ground := Ground.data }, { on := 13, ground := Ground.data }], guard := none }) (v := ?v14a) rfl (by kernel_rfl) (by kernel_rfl) (by kernel_rfl) (fun _ _ _ h => h) (Or.inl ⟨by rfl, ?hy14a⟩) (by assumption) ?rest14a
    case hy14a => (intro V hSw; (try dsimp only at hSw); go_simp; all_goals (with_reducible rfl))
    try simp only [Act.put, List.setIfInBounds_toArray, List.set_cons_zero, List.set_cons_succ]
    refine wpAnyH_take (i := 15) (oi := { dst := some 41, op := Op.move (Operand.tmp 40), type := 4, pos := "law.go:26", after := #[{ on := 14, ground := Ground.data }, { on := 11, ground := Ground.chain }], guard := none }) (v := ?v15a) rfl (by kernel_rfl) (by kernel_rfl) (by kernel_rfl) (fun _ _ _ h => h) (Or.inl ⟨by rfl, ?hy15a⟩) (by assumption) ?rest15a
    case hy15a => (intro V hSw; (try dsimp only at hSw); go_simp; all_goals (with_reducible rfl))
    try simp only [Act.put, List.setIfInBounds_toArray, List.set_cons_zero, List.set_cons_succ]
    refine wpAnyH_take (i := 16) (oi := { dst := some 42, op := Op.load 37 (Operand.tmp 5), type := 37, pos := "law.go:26", after := #[{ on := 15, ground := Ground.guard }], guard := some (15, true) }) (v := ?v16a) rfl (by kernel_rfl) (by kernel_rfl) (by kernel_rfl) (fun _ _ _ h => h) (Or.inl ⟨by rfl, ?hy16a⟩) (by assumption) ?rest16a
    case hy16a => (intro V hSw; (try dsimp only at hSw); obtain ⟨c0, c1, c2, c3, c4, c5, c6, c7, c8, c9, c10, c11, c12, c13, c14, c15, c16, c17, c18, c19, c20, c21, c22, c23, c24, c25, c26, c27, c28, c29⟩ := LC.out V (bst HB1.out hSw); go_simp; all_goals (with_reducible rfl))
    try simp only [Act.put, List.setIfInBounds_toArray, List.set_cons_zero, List.set_cons_succ]
    refine wpAnyH_take (i := 17) (oi := { dst := some 43, op := Op.load 37 (Operand.tmp 3), type := 37, pos := "law.go:26", after := #[{ on := 15, ground := Ground.guard }], guard := some (15, true) }) (v := ?v17a) rfl (by kernel_rfl) (by kernel_rfl) (by kernel_rfl) (fun _ _ _ h => h) (Or.inl ⟨by rfl, ?hy17a⟩) (by assumption) ?rest17a
    case hy17a => (intro V hSw; (try dsimp only at hSw); obtain ⟨c0, c1, c2, c3, c4, c5, c6, c7, c8, c9, c10, c11, c12, c13, c14, c15, c16, c17, c18, c19, c20, c21, c22, c23, c24, c25, c26, c27, c28, c29⟩ := LC.out V (bst HB1.out hSw); go_simp; all_goals (with_reducible rfl))
    try simp only [Act.put, List.setIfInBounds_toArray, List.set_cons_zero, List.set_cons_succ]
    refine wpAnyH_take (i := 19) (oi := { dst := some 45, op := Op.load 37 (Operand.tmp 2), type := 37, pos := "law.go:26", after := #[{ on := 15, ground := Ground.guard }], guard := some (15, true) }) (v := ?v19a) rfl (by kernel_rfl) (by kernel_rfl) (by kernel_rfl) (fun _ _ _ h => h) (Or.inl ⟨by rfl, ?hy19a⟩) (by assumption) ?rest19a
    case hy19a => (intro V hSw; (try dsimp only at hSw); obtain ⟨c0, c1, c2, c3, c4, c5, c6, c7, c8, c9, c10, c11, c12, c13, c14, c15, c16, c17, c18, c19, c20, c21, c22, c23, c24, c25, c26, c27, c28, c29⟩ := LC.out V (bst HB1.out hSw); go_simp; all_goals (with_reducible rfl))
    try simp only [Act.put, List.setIfInBounds_toArray, List.set_cons_zero, List.set_cons_succ]
    refine wpAnyH_take (i := 20) (oi := { dst := some 46, op := Op.load 37 (Operand.tmp 3), type := 37, pos := "law.go:26", after := #[{ on := 15, ground := Ground.guard }], guard := some (15, true) }) (v := ?v20a) rfl (by kernel_rfl) (by kernel_rfl) (by kernel_rfl) (fun _ _ _ h => h) (Or.inl ⟨by rfl, ?hy20a⟩) (by assumption) ?rest20a
    case hy20a => (intro V hSw; (try dsimp only at hSw); obtain ⟨c0, c1, c2, c3, c4, c5, c6, c7, c8, c9, c10, c11, c12, c13, c14, c15, c16, c17, c18, c19, c20, c21, c22, c23, c24, c25, c26, c27, c28, c29⟩ := LC.out V (bst HB1.out hSw); go_simp; all_goals (with_reducible rfl))
    try simp only [Act.put, List.setIfInBounds_toArray, List.set_cons_zero, List.set_cons_succ]
    refine wpAnyH_ready (rs := [18]) (by kernel_rfl) (by simp) ?_
    refine AllReadyH.cons (o := { dst := some 44, op := Op.call { callee := Callee.value (Operand.func 18), args := #[Operand.tmp 42, Operand.tmp 43], argTypes := #[37, 37] }, type := 4, pos := "law.go:26", after := #[{ on := 16, ground := Ground.data }, { on := 17, ground := Ground.data }, { on := 15, ground := Ground.chain }, { on := 15, ground := Ground.guard }], guard := some (15, true) }) rfl (fun K hK => ?_) AllReadyH.nil
    go_simp
    refine (sameR_c x y bb HBB.out A3 A2 n n2 c3 c2 _ (HLZ5.out.below HB1.out) (HLY5.out.below HB1.out) (by omega) (by omega)).mono ?_
    rintro e v2 ⟨rfl, hb2⟩
    refine hK.out _ _ hb2 (fun _ => ?_)
    clear hK K
    clear hS
    refine wpAnyH_imp (S' := fun V => Below v2.heap.size v2 V) (fun V h => bst hb2 h) ?_
    have hS : Below v2.heap.size v2 v2 := Below.refl _ _
    try simp only [Act.put, List.setIfInBounds_toArray, List.set_cons_zero, List.set_cons_succ]
    have HB2 := Lib.hid (bst HB1.out hb2)
    refine wpAnyH_ready (rs := [21]) (by kernel_rfl) (by simp) ?_
    refine AllReadyH.cons (o := { dst := some 47, op := Op.call { callee := Callee.value (Operand.func 19), args := #[Operand.tmp 45, Operand.tmp 46], argTypes := #[37, 37] }, type := 4, pos := "law.go:26", after := #[{ on := 19, ground := Ground.data }, { on := 20, ground := Ground.data }, { on := 18, ground := Ground.chain }, { on := 15, ground := Ground.guard }], guard := some (15, true) }) rfl (fun K hK => ?_) AllReadyH.nil
    go_simp
    refine (rSameR_c x y bb HBB.out A A2 n n2 c c2 _ (HLX5.out.below HB2.out) (HLY5.out.below HB2.out) (by omega) (by omega)).mono ?_
    rintro e v3 ⟨rfl, hb3⟩
    refine hK.out _ _ hb3 (fun _ => ?_)
    clear hK K
    clear hS
    refine wpAnyH_imp (S' := fun V => Below v3.heap.size v3 V) (fun V h => bst hb3 h) ?_
    have hS : Below v3.heap.size v3 v3 := Below.refl _ _
    try simp only [Act.put, List.setIfInBounds_toArray, List.set_cons_zero, List.set_cons_succ]
    have HB3 := Lib.hid (bst HB2.out hb3)
    refine wpAnyH_take (i := 22) (oi := { dst := some 48, op := Op.binOp BinOp.eql 4 (Operand.tmp 44) (Operand.tmp 47) 4, type := 4, pos := "law.go:26", after := #[{ on := 18, ground := Ground.data }, { on := 21, ground := Ground.data }, { on := 15, ground := Ground.guard }], guard := some (15, true) }) (v := ?v22a) rfl (by kernel_rfl) (by kernel_rfl) (by kernel_rfl) (fun _ _ _ h => h) (Or.inl ⟨by rfl, ?hy22a⟩) (by assumption) ?rest22a
    case hy22a => (intro V hSw; (try dsimp only at hSw); go_simp; all_goals (with_reducible rfl))
    try simp only [Act.put, List.setIfInBounds_toArray, List.set_cons_zero, List.set_cons_succ]
    refine wpAnyH_take (i := 23) (oi := { dst := some 49, op := Op.pick (Operand.tmp 41) (Operand.tmp 48) (Operand.const (Value.bool false)), type := 4, pos := "law.go:26", after := #[{ on := 15, ground := Ground.data }, { on := 22, ground := Ground.data }], guard := none }) (v := ?v23a) rfl (by kernel_rfl) (by kernel_rfl) (by kernel_rfl) (fun _ _ _ h => h) (Or.inl ⟨by rfl, ?hy23a⟩) (by assumption) ?rest23a
    case hy23a => (intro V hSw; (try dsimp only at hSw); go_simp; all_goals (with_reducible rfl))
    try simp only [Act.put, List.setIfInBounds_toArray, List.set_cons_zero, List.set_cons_succ]
    refine wpAnyH_take (i := 24) (oi := { dst := some 50, op := Op.move (Operand.tmp 49), type := 4, pos := "law.go:26", after := #[{ on := 23, ground := Ground.data }, { on := 21, ground := Ground.chain }], guard := none }) (v := ?v24a) rfl (by kernel_rfl) (by kernel_rfl) (by kernel_rfl) (fun _ _ _ h => h) (Or.inl ⟨by rfl, ?hy24a⟩) (by assumption) ?rest24a
    case hy24a => (intro V hSw; (try dsimp only at hSw); go_simp; all_goals (with_reducible rfl))
    try simp only [Act.put, List.setIfInBounds_toArray, List.set_cons_zero, List.set_cons_succ]
    refine wpAnyH_take (i := 25) (oi := { dst := some 51, op := Op.load 37 (Operand.tmp 5), type := 37, pos := "law.go:26", after := #[{ on := 24, ground := Ground.guard }], guard := some (24, true) }) (v := ?v25a) rfl (by kernel_rfl) (by kernel_rfl) (by kernel_rfl) (fun _ _ _ h => h) (Or.inl ⟨by rfl, ?hy25a⟩) (by assumption) ?rest25a
    case hy25a => (intro V hSw; (try dsimp only at hSw); obtain ⟨c0, c1, c2, c3, c4, c5, c6, c7, c8, c9, c10, c11, c12, c13, c14, c15, c16, c17, c18, c19, c20, c21, c22, c23, c24, c25, c26, c27, c28, c29⟩ := LC.out V (bst HB3.out hSw); go_simp; all_goals (with_reducible rfl))
    try simp only [Act.put, List.setIfInBounds_toArray, List.set_cons_zero, List.set_cons_succ]
    refine wpAnyH_take (i := 26) (oi := { dst := some 52, op := Op.load 37 (Operand.tmp 2), type := 37, pos := "law.go:26", after := #[{ on := 24, ground := Ground.guard }], guard := some (24, true) }) (v := ?v26a) rfl (by kernel_rfl) (by kernel_rfl) (by kernel_rfl) (fun _ _ _ h => h) (Or.inl ⟨by rfl, ?hy26a⟩) (by assumption) ?rest26a
    case hy26a => (intro V hSw; (try dsimp only at hSw); obtain ⟨c0, c1, c2, c3, c4, c5, c6, c7, c8, c9, c10, c11, c12, c13, c14, c15, c16, c17, c18, c19, c20, c21, c22, c23, c24, c25, c26, c27, c28, c29⟩ := LC.out V (bst HB3.out hSw); go_simp; all_goals (with_reducible rfl))
    try simp only [Act.put, List.setIfInBounds_toArray, List.set_cons_zero, List.set_cons_succ]
    refine wpAnyH_ready (rs := [27]) (by kernel_rfl) (by simp) ?_
    refine AllReadyH.cons (o := { dst := some 53, op := Op.call { callee := Callee.value (Operand.func 18), args := #[Operand.tmp 51, Operand.tmp 52], argTypes := #[37, 37] }, type := 4, pos := "law.go:26", after := #[{ on := 25, ground := Ground.data }, { on := 26, ground := Ground.data }, { on := 24, ground := Ground.chain }, { on := 24, ground := Ground.guard }], guard := some (24, true) }) rfl (fun K hK => ?_) AllReadyH.nil
    go_simp
    refine (sameR_c x x true (by simp) A3 A n n c3 c _ (HLZ5.out.below HB3.out) (HLX5.out.below HB3.out) (by omega) (by omega)).mono ?_
    rintro e v4 ⟨rfl, hb4⟩
    refine hK.out _ _ hb4 (fun _ => ?_)
    clear hK K
    clear hS
    refine wpAnyH_imp (S' := fun V => Below v4.heap.size v4 V) (fun V h => bst hb4 h) ?_
    have hS : Below v4.heap.size v4 v4 := Below.refl _ _
    try simp only [Act.put, List.setIfInBounds_toArray, List.set_cons_zero, List.set_cons_succ]
    have HB4 := Lib.hid (bst HB3.out hb4)
    refine wpAnyH_take (i := 28) (oi := { dst := some 54, op := Op.pick (Operand.tmp 50) (Operand.tmp 53) (Operand.const (Value.bool false)), type := 4, pos := "law.go:26", after := #[{ on := 24, ground := Ground.data }, { on := 27, ground := Ground.data }], guard := none }) (v := ?v28a) rfl (by kernel_rfl) (by kernel_rfl) (by kernel_rfl) (fun _ _ _ h => h) (Or.inl ⟨by rfl, ?hy28a⟩) (by assumption) ?rest28a
    case hy28a => (intro V hSw; (try dsimp only at hSw); go_simp; all_goals (with_reducible rfl))
    try simp only [Act.put, List.setIfInBounds_toArray, List.set_cons_zero, List.set_cons_succ]
    refine wpAnyH_take (i := 29) (oi := { dst := some 55, op := Op.move (Operand.tmp 54), type := 4, pos := "law.go:26", after := #[{ on := 28, ground := Ground.data }, { on := 27, ground := Ground.chain }], guard := none }) (v := ?v29a) rfl (by kernel_rfl) (by kernel_rfl) (by kernel_rfl) (fun _ _ _ h => h) (Or.inl ⟨by rfl, ?hy29a⟩) (by assumption) ?rest29a
    case hy29a => (intro V hSw; (try dsimp only at hSw); go_simp; all_goals (with_reducible rfl))
    try simp only [Act.put, List.setIfInBounds_toArray, List.set_cons_zero, List.set_cons_succ]
    refine wpAnyH_take (i := 30) (oi := { dst := some 56, op := Op.load 37 (Operand.tmp 5), type := 37, pos := "law.go:26", after := #[{ on := 29, ground := Ground.guard }], guard := some (29, true) }) (v := ?v30a) rfl (by kernel_rfl) (by kernel_rfl) (by kernel_rfl) (fun _ _ _ h => h) (Or.inl ⟨by rfl, ?hy30a⟩) (by assumption) ?rest30a
    case hy30a => (intro V hSw; (try dsimp only at hSw); obtain ⟨c0, c1, c2, c3, c4, c5, c6, c7, c8, c9, c10, c11, c12, c13, c14, c15, c16, c17, c18, c19, c20, c21, c22, c23, c24, c25, c26, c27, c28, c29⟩ := LC.out V (bst HB4.out hSw); go_simp; all_goals (with_reducible rfl))
    try simp only [Act.put, List.setIfInBounds_toArray, List.set_cons_zero, List.set_cons_succ]
    refine wpAnyH_take (i := 31) (oi := { dst := some 57, op := Op.load 37 (Operand.tmp 2), type := 37, pos := "law.go:26", after := #[{ on := 29, ground := Ground.guard }], guard := some (29, true) }) (v := ?v31a) rfl (by kernel_rfl) (by kernel_rfl) (by kernel_rfl) (fun _ _ _ h => h) (Or.inl ⟨by rfl, ?hy31a⟩) (by assumption) ?rest31a
    case hy31a => (intro V hSw; (try dsimp only at hSw); obtain ⟨c0, c1, c2, c3, c4, c5, c6, c7, c8, c9, c10, c11, c12, c13, c14, c15, c16, c17, c18, c19, c20, c21, c22, c23, c24, c25, c26, c27, c28, c29⟩ := LC.out V (bst HB4.out hSw); go_simp; all_goals (with_reducible rfl))
    try simp only [Act.put, List.setIfInBounds_toArray, List.set_cons_zero, List.set_cons_succ]
    refine wpAnyH_ready (rs := [32]) (by kernel_rfl) (by simp) ?_
    refine AllReadyH.cons (o := { dst := some 58, op := Op.call { callee := Callee.value (Operand.func 19), args := #[Operand.tmp 56, Operand.tmp 57], argTypes := #[37, 37] }, type := 4, pos := "law.go:26", after := #[{ on := 30, ground := Ground.data }, { on := 31, ground := Ground.data }, { on := 29, ground := Ground.chain }, { on := 29, ground := Ground.guard }], guard := some (29, true) }) rfl (fun K hK => ?_) AllReadyH.nil
    go_simp
    refine (rSameR_c x x true (by simp) A3 A n n c3 c _ (HLZ5.out.below HB4.out) (HLX5.out.below HB4.out) (by omega) (by omega)).mono ?_
    rintro e v5 ⟨rfl, hb5⟩
    refine hK.out _ _ hb5 (fun _ => ?_)
    clear hK K
    clear hS
    refine wpAnyH_imp (S' := fun V => Below v5.heap.size v5 V) (fun V h => bst hb5 h) ?_
    have hS : Below v5.heap.size v5 v5 := Below.refl _ _
    try simp only [Act.put, List.setIfInBounds_toArray, List.set_cons_zero, List.set_cons_succ]
    have HB5 := Lib.hid (bst HB4.out hb5)
    refine wpAnyH_take (i := 33) (oi := { dst := some 59, op := Op.pick (Operand.tmp 55) (Operand.tmp 58) (Operand.const (Value.bool false)), type := 4, pos := "law.go:26", after := #[{ on := 29, ground := Ground.data }, { on := 32, ground := Ground.data }], guard := none }) (v := ?v33a) rfl (by kernel_rfl) (by kernel_rfl) (by kernel_rfl) (fun _ _ _ h => h) (Or.inl ⟨by rfl, ?hy33a⟩) (by assumption) ?rest33a
    case hy33a => (intro V hSw; (try dsimp only at hSw); go_simp; all_goals (with_reducible rfl))
    try simp only [Act.put, List.setIfInBounds_toArray, List.set_cons_zero, List.set_cons_succ]
    refine wpAnyH_take (i := 34) (oi := { dst := some 60, op := Op.move (Operand.tmp 59), type := 4, pos := "law.go:26", after := #[{ on := 33, ground := Ground.data }, { on := 32, ground := Ground.chain }], guard := none }) (v := ?v34a) rfl (by kernel_rfl) (by kernel_rfl) (by kernel_rfl) (fun _ _ _ h => h) (Or.inl ⟨by rfl, ?hy34a⟩) (by assumption) ?rest34a
    case hy34a => (intro V hSw; (try dsimp only at hSw); go_simp; all_goals (with_reducible rfl))
    try simp only [Act.put, List.setIfInBounds_toArray, List.set_cons_zero, List.set_cons_succ]
    refine wpAnyH_ready (rs := [35]) (by kernel_rfl) (by simp) ?_
    refine AllReadyH.cons (o := { dst := some 61, op := Op.call { callee := Callee.value (Operand.func 12), args := #[], argTypes := #[] }, type := 4, pos := "law.go:26", after := #[{ on := 34, ground := Ground.chain }, { on := 34, ground := Ground.guard }], guard := some (34, true) }) rfl (fun K hK => ?_) AllReadyH.nil
    go_simp
    refine (awake_c _ (HM5.out.below HB5.out)).mono ?_
    rintro e v6 ⟨rfl, hb6⟩
    refine hK.out _ _ hb6 (fun _ => ?_)
    clear hK K
    clear hS
    refine wpAnyH_imp (S' := fun V => Below v6.heap.size v6 V) (fun V h => bst hb6 h) ?_
    have hS : Below v6.heap.size v6 v6 := Below.refl _ _
    try simp only [Act.put, List.setIfInBounds_toArray, List.set_cons_zero, List.set_cons_succ]
    have HB6 := Lib.hid (bst HB5.out hb6)
    refine wpAnyH_take (i := 36) (oi := { dst := some 62, op := Op.pick (Operand.tmp 60) (Operand.tmp 61) (Operand.const (Value.bool false)), type := 4, pos := "law.go:26", after := #[{ on := 34, ground := Ground.data }, { on := 35, ground := Ground.data }], guard := none }) (v := ?v36a) rfl (by kernel_rfl) (by kernel_rfl) (by kernel_rfl) (fun _ _ _ h => h) (Or.inl ⟨by rfl, ?hy36a⟩) (by assumption) ?rest36a
    case hy36a => (intro V hSw; (try dsimp only at hSw); go_simp; all_goals (with_reducible rfl))
    try simp only [Act.put, List.setIfInBounds_toArray, List.set_cons_zero, List.set_cons_succ]
    refine wpAnyH_take (i := 37) (oi := { dst := some 4, op := Op.assign (Operand.tmp 62), type := 4, pos := "law.go:26", after := #[{ on := 36, ground := Ground.data }, { on := 35, ground := Ground.chain }, { on := 0, ground := Ground.phase }, { on := 1, ground := Ground.phase }, { on := 2, ground := Ground.phase }, { on := 3, ground := Ground.phase }, { on := 4, ground := Ground.phase }, { on := 5, ground := Ground.phase }, { on := 6, ground := Ground.phase }, { on := 7, ground := Ground.phase }, { on := 8, ground := Ground.phase }, { on := 9, ground := Ground.phase }, { on := 10, ground := Ground.phase }, { on := 11, ground := Ground.phase }, { on := 12, ground := Ground.phase }, { on := 13, ground := Ground.phase }, { on := 14, ground := Ground.phase }, { on := 15, ground := Ground.phase }, { on := 16, ground := Ground.phase }, { on := 17, ground := Ground.phase }, { on := 18, ground := Ground.phase }, { on := 19, ground := Ground.phase }, { on := 20, ground := Ground.phase }, { on := 21, ground := Ground.phase }, { on := 22, ground := Ground.phase }, { on := 23, ground := Ground.phase }, { on := 24, ground := Ground.phase }, { on := 25, ground := Ground.phase }, { on := 26, ground := Ground.phase }, { on := 27, ground := Ground.phase }, { on := 28, ground := Ground.phase }, { on := 29, ground := Ground.phase }, { on := 30, ground := Ground.phase }, { on := 31, ground := Ground.phase }, { on := 32, ground := Ground.phase }, { on := 33, ground := Ground.phase }, { on := 34, ground := Ground.phase }, { on := 35, ground := Ground.phase }, { on := 36, ground := Ground.phase }], guard := none }) (v := ?v37a) rfl (by kernel_rfl) (by kernel_rfl) (by kernel_rfl) (fun _ _ _ h => h) (Or.inl ⟨by rfl, ?hy37a⟩) (by assumption) ?rest37a
    case hy37a => (intro V hSw; (try dsimp only at hSw); go_simp; all_goals (with_reducible rfl))
    try simp only [Act.put, List.setIfInBounds_toArray, List.set_cons_zero, List.set_cons_succ]
    refine wpAnyH_done (by kernel_rfl) ?_ _
    (try go_wp2_with fail)
    go_ret
    exact ⟨rfl, bst G5.out HB6.out⟩
  · skip
    clear kX kY g0 g1 hx hy hm hsk hbb hz
    have HMY := Lib.hid hmy
    clear hmy
    go_enter Tryd.func4, Tryd.ntmps4
    go_wp2_with (first
      | (go_at_call 13; refine (rCopyR_c x A n c _ HLX.out kx).mono ?_; rintro e w1 ⟨A3, c3, rfl, hat3, b1⟩
         have ba := bsa b1 (.cells (rcc x (.slice A3 n c3)) 37)
         have HX1 := Lib.hid (HX.out.below ba HX.out.lt)
         have HY1 := Lib.hid (HY.out.below ba HY.out.lt)
         have HZ1 := Lib.hid (Blk.new w1 37 (rcc x (.slice A3 n c3)))
         have HLX1 := Lib.hid (HLX.out.below ba)
         have HLY1 := Lib.hid (HLY.out.below ba)
         have HLZ1 := Lib.hid (hat3.below (nbl w1 (.cells (rcc x (.slice A3 n c3)) 37)))
         have HM1 := Lib.hid (HM.out.below ba)
         have G2 := Lib.hid (bst G1.out ba)
         clear hat3 ba b1)
      | (go_at_call 14; refine (record_c x A3 n c3 _ HLZ1.out (by omega)).mono ?_; rintro e w2 ⟨he, b2⟩; rw [HSK.out] at he; subst he
         have HX2 := Lib.hid (HX1.out.below b2 HX1.out.lt)
         have kk := HX2.out
         have e0 := kk.cell 0
         have e1 := kk.cell 1
         have e2 := kk.cell 2
         have e3 := kk.cell 3
         have e4 := kk.cell 4
         have e5 := kk.cell 5
         have e6 := kk.cell 6
         have e7 := kk.cell 7
         have e8 := kk.cell 8
         have e9 := kk.cell 9
         simp at e0 e1 e2 e3 e4 e5 e6 e7 e8 e9
         clear kk)
      | (go_at_call 15; refine (rRecord_c x A n c _ (HLX1.out.below b2) (by omega)).mono ?_; rintro e w3 ⟨he, b3⟩; rw [HSK.out] at he; subst he
         have c23 := bst b2 b3
         have HZ3 := Lib.hid (HZ1.out.below c23 HZ1.out.lt)
         have kk := HZ3.out
         have e0 := kk.cell 0
         have e1 := kk.cell 1
         have e2 := kk.cell 2
         have e3 := kk.cell 3
         have e4 := kk.cell 4
         have e5 := kk.cell 5
         have e6 := kk.cell 6
         have e7 := kk.cell 7
         have e8 := kk.cell 8
         have e9 := kk.cell 9
         simp at e0 e1 e2 e3 e4 e5 e6 e7 e8 e9
         clear kk)
      | (go_at_call 16; refine (checkR x A3 n c3 _ (HLZ1.out.below c23) (by omega)).mono ?_; rintro e w5 ⟨he, b5⟩; rw [HMY.out] at he; subst he
         have c25 := bst c23 b5
         have HX5 := Lib.hid (HX1.out.below c25 HX1.out.lt)
         have HY5 := Lib.hid (HY1.out.below c25 HY1.out.lt)
         have HZ5 := Lib.hid (HZ1.out.below c25 HZ1.out.lt)
         have HLX5 := Lib.hid (HLX1.out.below c25)
         have HLY5 := Lib.hid (HLY1.out.below c25)
         have HLZ5 := Lib.hid (HLZ1.out.below c25)
         have HM5 := Lib.hid (HM1.out.below c25)
         have G5 := Lib.hid (bst G2.out c25)))
    have LC := Lib.hid (fun (V : World) (hb : Below w5.heap.size w5 V) => (show V.cell? ⟨w.heap.size, 0, none⟩ = some (.int .i64 x.id) ∧ V.cell? ⟨w.heap.size, 1, none⟩ = some (.int .i64 x.ep) ∧ V.cell? ⟨w.heap.size, 2, none⟩ = some (.int .i64 x.st) ∧ V.cell? ⟨w.heap.size, 3, none⟩ = some (.int .i64 x.pr) ∧ V.cell? ⟨w.heap.size, 4, none⟩ = some (.string x.an) ∧ V.cell? ⟨w.heap.size, 5, none⟩ = some (.int .i64 x.sw) ∧ V.cell? ⟨w.heap.size, 6, none⟩ = some (.int .i64 x.sl) ∧ V.cell? ⟨w.heap.size, 7, none⟩ = some (.int .i64 x.bw) ∧ V.cell? ⟨w.heap.size, 8, none⟩ = some (.int .i64 x.bl) ∧ V.cell? ⟨w.heap.size, 9, none⟩ = some (.slice A n c) ∧ V.cell? ⟨w.heap.size + 1, 0, none⟩ = some (.int .i64 y.id) ∧ V.cell? ⟨w.heap.size + 1, 1, none⟩ = some (.int .i64 y.ep) ∧ V.cell? ⟨w.heap.size + 1, 2, none⟩ = some (.int .i64 y.st) ∧ V.cell? ⟨w.heap.size + 1, 3, none⟩ = some (.int .i64 y.pr) ∧ V.cell? ⟨w.heap.size + 1, 4, none⟩ = some (.string y.an) ∧ V.cell? ⟨w.heap.size + 1, 5, none⟩ = some (.int .i64 y.sw) ∧ V.cell? ⟨w.heap.size + 1, 6, none⟩ = some (.int .i64 y.sl) ∧ V.cell? ⟨w.heap.size + 1, 7, none⟩ = some (.int .i64 y.bw) ∧ V.cell? ⟨w.heap.size + 1, 8, none⟩ = some (.int .i64 y.bl) ∧ V.cell? ⟨w.heap.size + 1, 9, none⟩ = some (.slice A2 n2 c2) ∧ V.cell? ⟨w1.heap.size, 0, none⟩ = some (.int .i64 x.id) ∧ V.cell? ⟨w1.heap.size, 1, none⟩ = some (.int .i64 x.ep) ∧ V.cell? ⟨w1.heap.size, 2, none⟩ = some (.int .i64 x.st) ∧ V.cell? ⟨w1.heap.size, 3, none⟩ = some (.int .i64 x.pr) ∧ V.cell? ⟨w1.heap.size, 4, none⟩ = some (.string x.an) ∧ V.cell? ⟨w1.heap.size, 5, none⟩ = some (.int .i64 x.sw) ∧ V.cell? ⟨w1.heap.size, 6, none⟩ = some (.int .i64 x.sl) ∧ V.cell? ⟨w1.heap.size, 7, none⟩ = some (.int .i64 x.bw) ∧ V.cell? ⟨w1.heap.size, 8, none⟩ = some (.int .i64 x.bl) ∧ V.cell? ⟨w1.heap.size, 9, none⟩ = some (.slice A3 n c3) from by
      have k0 := HX5.out.below hb HX5.out.lt
      have k1 := HY5.out.below hb HY5.out.lt
      have k2 := HZ5.out.below hb HZ5.out.lt
      exact ⟨k0.cell 0, k0.cell 1, k0.cell 2, k0.cell 3, k0.cell 4, k0.cell 5, k0.cell 6, k0.cell 7, k0.cell 8, k0.cell 9, k1.cell 0, k1.cell 1, k1.cell 2, k1.cell 3, k1.cell 4, k1.cell 5, k1.cell 6, k1.cell 7, k1.cell 8, k1.cell 9, k2.cell 0, k2.cell 1, k2.cell 2, k2.cell 3, k2.cell 4, k2.cell 5, k2.cell 6, k2.cell 7, k2.cell 8, k2.cell 9⟩))
    refine wp_region_held_drew (S := fun V => Below (w5).heap.size (w5) V) hmix (below_dr _) (fun hS => ?_)
    simp only [List.size_toArray, List.length_cons, List.length_nil, Nat.reduceAdd, Array.replicate_succ, Array.replicate_zero]
    refine wpAnyH_take (i := 0) (oi := { dst := some 26, op := Op.move (Operand.tmp 6), type := 9, pos := "law.go:26", after := #[], guard := none }) (v := ?v0b) rfl (by kernel_rfl) (by kernel_rfl) (by kernel_rfl) (fun _ _ _ h => h) (Or.inl ⟨by rfl, ?hy0b⟩) (by assumption) ?rest0b
    case hy0b => (intro V hSw; (try dsimp only at hSw); go_simp; all_goals (with_reducible rfl))
    try simp only [Act.put, List.setIfInBounds_toArray, List.set_cons_zero, List.set_cons_succ]
    refine wpAnyH_take (i := 1) (oi := { dst := some 27, op := Op.move (Operand.tmp 8), type := 9, pos := "law.go:26", after := #[], guard := none }) (v := ?v1b) rfl (by kernel_rfl) (by kernel_rfl) (by kernel_rfl) (fun _ _ _ h => h) (Or.inl ⟨by rfl, ?hy1b⟩) (by assumption) ?rest1b
    case hy1b => (intro V hSw; (try dsimp only at hSw); go_simp; all_goals (with_reducible rfl))
    try simp only [Act.put, List.setIfInBounds_toArray, List.set_cons_zero, List.set_cons_succ]
    refine wpAnyH_take (i := 2) (oi := { dst := some 28, op := Op.binOp BinOp.eql 9 (Operand.tmp 26) (Operand.tmp 27) 9, type := 4, pos := "law.go:26", after := #[{ on := 0, ground := Ground.data }, { on := 1, ground := Ground.data }], guard := none }) (v := ?v2b) rfl (by kernel_rfl) (by kernel_rfl) (by kernel_rfl) (fun _ _ _ h => h) (Or.inl ⟨by rfl, ?hy2b⟩) (by assumption) ?rest2b
    case hy2b => (intro V hSw; (try dsimp only at hSw); go_simp; all_goals (with_reducible rfl))
    try simp only [Act.put, List.setIfInBounds_toArray, List.set_cons_zero, List.set_cons_succ]
    refine wpAnyH_take (i := 3) (oi := { dst := some 29, op := Op.move (Operand.tmp 28), type := 4, pos := "law.go:26", after := #[{ on := 2, ground := Ground.data }], guard := none }) (v := ?v3b) rfl (by kernel_rfl) (by kernel_rfl) (by kernel_rfl) (fun _ _ _ h => h) (Or.inl ⟨by rfl, ?hy3b⟩) (by assumption) ?rest3b
    case hy3b => (intro V hSw; (try dsimp only at hSw); go_simp; all_goals (with_reducible rfl))
    try simp only [Act.put, List.setIfInBounds_toArray, List.set_cons_zero, List.set_cons_succ]
    refine wpAnyH_take (i := 4) (oi := { dst := some 30, op := Op.move (Operand.tmp 7), type := 28, pos := "law.go:26", after := #[{ on := 3, ground := Ground.guard }], guard := some (3, true) }) (v := ?v4b) rfl (by kernel_rfl) (by kernel_rfl) (by kernel_rfl) (fun _ _ _ h => h) (Or.inl ⟨by rfl, ?hy4b⟩) (by assumption) ?rest4b
    case hy4b => (intro V hSw; (try dsimp only at hSw); go_simp; all_goals (with_reducible rfl))
    try simp only [Act.put, List.setIfInBounds_toArray, List.set_cons_zero, List.set_cons_succ]
    refine wpAnyH_take (i := 5) (oi := { dst := some 31, op := Op.move (Operand.tmp 9), type := 28, pos := "law.go:26", after := #[{ on := 3, ground := Ground.guard }], guard := some (3, true) }) (v := ?v5b) rfl (by kernel_rfl) (by kernel_rfl) (by kernel_rfl) (fun _ _ _ h => h) (Or.inl ⟨by rfl, ?hy5b⟩) (by assumption) ?rest5b
    case hy5b => (intro V hSw; (try dsimp only at hSw); go_simp; all_goals (with_reducible rfl))
    try simp only [Act.put, List.setIfInBounds_toArray, List.set_cons_zero, List.set_cons_succ]
    refine wpAnyH_take (i := 6) (oi := { dst := some 32, op := Op.binOp BinOp.eql 28 (Operand.tmp 30) (Operand.tmp 31) 28, type := 4, pos := "law.go:26", after := #[{ on := 4, ground := Ground.data }, { on := 5, ground := Ground.data }, { on := 3, ground := Ground.guard }], guard := some (3, true) }) (v := ?v6b) rfl (by kernel_rfl) (by kernel_rfl) (by kernel_rfl) (fun _ _ _ h => h) (Or.inl ⟨by rfl, ?hy6b⟩) (by assumption) ?rest6b
    case hy6b => (intro V hSw; (try dsimp only at hSw); go_simp; all_goals (with_reducible rfl))
    try simp only [Act.put, List.setIfInBounds_toArray, List.set_cons_zero, List.set_cons_succ]
    refine wpAnyH_take (i := 7) (oi := { dst := some 33, op := Op.pick (Operand.tmp 29) (Operand.tmp 32) (Operand.const (Value.bool false)), type := 4, pos := "law.go:26", after := #[{ on := 3, ground := Ground.data }, { on := 6, ground := Ground.data }], guard := none }) (v := ?v7b) rfl (by kernel_rfl) (by kernel_rfl) (by kernel_rfl) (fun _ _ _ h => h) (Or.inl ⟨by rfl, ?hy7b⟩) (by assumption) ?rest7b
    case hy7b => (intro V hSw; (try dsimp only at hSw); go_simp; all_goals (with_reducible rfl))
    try simp only [Act.put, List.setIfInBounds_toArray, List.set_cons_zero, List.set_cons_succ]
    refine wpAnyH_take (i := 8) (oi := { dst := some 34, op := Op.move (Operand.tmp 33), type := 4, pos := "law.go:26", after := #[{ on := 7, ground := Ground.data }, { on := 3, ground := Ground.chain }], guard := none }) (v := ?v8b) rfl (by kernel_rfl) (by kernel_rfl) (by kernel_rfl) (fun _ _ _ h => h) (Or.inl ⟨by rfl, ?hy8b⟩) (by assumption) ?rest8b
    case hy8b => (intro V hSw; (try dsimp only at hSw); go_simp; all_goals (with_reducible rfl))
    try simp only [Act.put, List.setIfInBounds_toArray, List.set_cons_zero, List.set_cons_succ]
    refine wpAnyH_take (i := 9) (oi := { dst := some 35, op := Op.move (Operand.tmp 10), type := 4, pos := "law.go:26", after := #[{ on := 8, ground := Ground.guard }], guard := some (8, true) }) (v := ?v9b) rfl (by kernel_rfl) (by kernel_rfl) (by kernel_rfl) (fun _ _ _ h => h) (Or.inl ⟨by rfl, ?hy9b⟩) (by assumption) ?rest9b
    case hy9b => (intro V hSw; (try dsimp only at hSw); go_simp; all_goals (with_reducible rfl))
    try simp only [Act.put, List.setIfInBounds_toArray, List.set_cons_zero, List.set_cons_succ]
    refine wpAnyH_take (i := 10) (oi := { dst := some 36, op := Op.load 37 (Operand.tmp 2), type := 37, pos := "law.go:26", after := #[{ on := 8, ground := Ground.guard }], guard := some (8, true) }) (v := ?v10b) rfl (by kernel_rfl) (by kernel_rfl) (by kernel_rfl) (fun _ _ _ h => h) (Or.inl ⟨by rfl, ?hy10b⟩) (by assumption) ?rest10b
    case hy10b => (intro V hSw; (try dsimp only at hSw); obtain ⟨c0, c1, c2, c3, c4, c5, c6, c7, c8, c9, c10, c11, c12, c13, c14, c15, c16, c17, c18, c19, c20, c21, c22, c23, c24, c25, c26, c27, c28, c29⟩ := LC.out V hSw; go_simp; all_goals (with_reducible rfl))
    try simp only [Act.put, List.setIfInBounds_toArray, List.set_cons_zero, List.set_cons_succ]
    refine wpAnyH_ready (rs := [11]) (by kernel_rfl) (by simp) ?_
    refine AllReadyH.cons (o := { dst := some 37, op := Op.call { callee := Callee.value (Operand.func 17), args := #[Operand.tmp 36], argTypes := #[37] }, type := 4, pos := "law.go:26", after := #[{ on := 10, ground := Ground.data }, { on := 8, ground := Ground.chain }, { on := 8, ground := Ground.guard }], guard := some (8, true) }) rfl (fun K hK => ?_) AllReadyH.nil
    go_simp
    refine (rMayR_c x _ HMY.out A n c _ (HLX5.out.below (below_dr w5)) (by omega)).mono ?_
    rintro e v1 ⟨rfl, hb1⟩
    refine hK.out _ _ (bst (below_dr w5) hb1) (fun _ => ?_)
    clear hK K
    clear hS
    refine wpAnyH_imp (S' := fun V => Below v1.heap.size v1 V) (fun V h => bst (bst (below_dr w5) hb1) h) ?_
    have hS : Below v1.heap.size v1 v1 := Below.refl _ _
    try simp only [Act.put, List.setIfInBounds_toArray, List.set_cons_zero, List.set_cons_succ]
    have HB1 := Lib.hid (bst (below_dr w5) hb1)
    refine wpAnyH_take (i := 12) (oi := { dst := some 38, op := Op.unOp UnOp.not 4 (Operand.tmp 37), type := 4, pos := "law.go:26", after := #[{ on := 11, ground := Ground.data }, { on := 8, ground := Ground.guard }], guard := some (8, true) }) (v := ?v12b) rfl (by kernel_rfl) (by kernel_rfl) (by kernel_rfl) (fun _ _ _ h => h) (Or.inl ⟨by rfl, ?hy12b⟩) (by assumption) ?rest12b
    case hy12b => (intro V hSw; (try dsimp only at hSw); go_simp; all_goals (with_reducible rfl))
    try simp only [Act.put, List.setIfInBounds_toArray, List.set_cons_zero, List.set_cons_succ]
    refine wpAnyH_take (i := 13) (oi := { dst := some 39, op := Op.binOp BinOp.eql 4 (Operand.tmp 35) (Operand.tmp 38) 4, type := 4, pos := "law.go:26", after := #[{ on := 9, ground := Ground.data }, { on := 12, ground := Ground.data }, { on := 8, ground := Ground.guard }], guard := some (8, true) }) (v := ?v13b) rfl (by kernel_rfl) (by kernel_rfl) (by kernel_rfl) (fun _ _ _ h => h) (Or.inl ⟨by rfl, ?hy13b⟩) (by assumption) ?rest13b
    case hy13b => (intro V hSw; (try dsimp only at hSw); go_simp; all_goals (with_reducible rfl))
    try simp only [Act.put, List.setIfInBounds_toArray, List.set_cons_zero, List.set_cons_succ]
    refine wpAnyH_take (i := 14) (oi := { dst := some 40, op := Op.pick (Operand.tmp 34) (Operand.tmp 39) (Operand.const (Value.bool false)), type := 4, pos := "law.go:26", after := #[{ on := 8, ground := Ground.data }, { on := 13, ground := Ground.data }], guard := none }) (v := ?v14b) rfl (by kernel_rfl) (by kernel_rfl) (by kernel_rfl) (fun _ _ _ h => h) (Or.inl ⟨by rfl, ?hy14b⟩) (by assumption) ?rest14b
    case hy14b => (intro V hSw; (try dsimp only at hSw); go_simp; all_goals (with_reducible rfl))
    try simp only [Act.put, List.setIfInBounds_toArray, List.set_cons_zero, List.set_cons_succ]
    refine wpAnyH_take (i := 15) (oi := { dst := some 41, op := Op.move (Operand.tmp 40), type := 4, pos := "law.go:26", after := #[{ on := 14, ground := Ground.data }, { on := 11, ground := Ground.chain }], guard := none }) (v := ?v15b) rfl (by kernel_rfl) (by kernel_rfl) (by kernel_rfl) (fun _ _ _ h => h) (Or.inl ⟨by rfl, ?hy15b⟩) (by assumption) ?rest15b
    case hy15b => (intro V hSw; (try dsimp only at hSw); go_simp; all_goals (with_reducible rfl))
    try simp only [Act.put, List.setIfInBounds_toArray, List.set_cons_zero, List.set_cons_succ]
    refine wpAnyH_take (i := 16) (oi := { dst := some 42, op := Op.load 37 (Operand.tmp 5), type := 37, pos := "law.go:26", after := #[{ on := 15, ground := Ground.guard }], guard := some (15, true) }) (v := ?v16b) rfl (by kernel_rfl) (by kernel_rfl) (by kernel_rfl) (fun _ _ _ h => h) (Or.inl ⟨by rfl, ?hy16b⟩) (by assumption) ?rest16b
    case hy16b => (intro V hSw; (try dsimp only at hSw); obtain ⟨c0, c1, c2, c3, c4, c5, c6, c7, c8, c9, c10, c11, c12, c13, c14, c15, c16, c17, c18, c19, c20, c21, c22, c23, c24, c25, c26, c27, c28, c29⟩ := LC.out V (bst HB1.out hSw); go_simp; all_goals (with_reducible rfl))
    try simp only [Act.put, List.setIfInBounds_toArray, List.set_cons_zero, List.set_cons_succ]
    refine wpAnyH_take (i := 17) (oi := { dst := some 43, op := Op.load 37 (Operand.tmp 3), type := 37, pos := "law.go:26", after := #[{ on := 15, ground := Ground.guard }], guard := some (15, true) }) (v := ?v17b) rfl (by kernel_rfl) (by kernel_rfl) (by kernel_rfl) (fun _ _ _ h => h) (Or.inl ⟨by rfl, ?hy17b⟩) (by assumption) ?rest17b
    case hy17b => (intro V hSw; (try dsimp only at hSw); obtain ⟨c0, c1, c2, c3, c4, c5, c6, c7, c8, c9, c10, c11, c12, c13, c14, c15, c16, c17, c18, c19, c20, c21, c22, c23, c24, c25, c26, c27, c28, c29⟩ := LC.out V (bst HB1.out hSw); go_simp; all_goals (with_reducible rfl))
    try simp only [Act.put, List.setIfInBounds_toArray, List.set_cons_zero, List.set_cons_succ]
    refine wpAnyH_take (i := 19) (oi := { dst := some 45, op := Op.load 37 (Operand.tmp 2), type := 37, pos := "law.go:26", after := #[{ on := 15, ground := Ground.guard }], guard := some (15, true) }) (v := ?v19b) rfl (by kernel_rfl) (by kernel_rfl) (by kernel_rfl) (fun _ _ _ h => h) (Or.inl ⟨by rfl, ?hy19b⟩) (by assumption) ?rest19b
    case hy19b => (intro V hSw; (try dsimp only at hSw); obtain ⟨c0, c1, c2, c3, c4, c5, c6, c7, c8, c9, c10, c11, c12, c13, c14, c15, c16, c17, c18, c19, c20, c21, c22, c23, c24, c25, c26, c27, c28, c29⟩ := LC.out V (bst HB1.out hSw); go_simp; all_goals (with_reducible rfl))
    try simp only [Act.put, List.setIfInBounds_toArray, List.set_cons_zero, List.set_cons_succ]
    refine wpAnyH_take (i := 20) (oi := { dst := some 46, op := Op.load 37 (Operand.tmp 3), type := 37, pos := "law.go:26", after := #[{ on := 15, ground := Ground.guard }], guard := some (15, true) }) (v := ?v20b) rfl (by kernel_rfl) (by kernel_rfl) (by kernel_rfl) (fun _ _ _ h => h) (Or.inl ⟨by rfl, ?hy20b⟩) (by assumption) ?rest20b
    case hy20b => (intro V hSw; (try dsimp only at hSw); obtain ⟨c0, c1, c2, c3, c4, c5, c6, c7, c8, c9, c10, c11, c12, c13, c14, c15, c16, c17, c18, c19, c20, c21, c22, c23, c24, c25, c26, c27, c28, c29⟩ := LC.out V (bst HB1.out hSw); go_simp; all_goals (with_reducible rfl))
    try simp only [Act.put, List.setIfInBounds_toArray, List.set_cons_zero, List.set_cons_succ]
    refine wpAnyH_ready (rs := [18]) (by kernel_rfl) (by simp) ?_
    refine AllReadyH.cons (o := { dst := some 44, op := Op.call { callee := Callee.value (Operand.func 18), args := #[Operand.tmp 42, Operand.tmp 43], argTypes := #[37, 37] }, type := 4, pos := "law.go:26", after := #[{ on := 16, ground := Ground.data }, { on := 17, ground := Ground.data }, { on := 15, ground := Ground.chain }, { on := 15, ground := Ground.guard }], guard := some (15, true) }) rfl (fun K hK => ?_) AllReadyH.nil
    go_simp
    refine (sameR_c x y bb HBB.out A3 A2 n n2 c3 c2 _ (HLZ5.out.below HB1.out) (HLY5.out.below HB1.out) (by omega) (by omega)).mono ?_
    rintro e v2 ⟨rfl, hb2⟩
    refine hK.out _ _ hb2 (fun _ => ?_)
    clear hK K
    clear hS
    refine wpAnyH_imp (S' := fun V => Below v2.heap.size v2 V) (fun V h => bst hb2 h) ?_
    have hS : Below v2.heap.size v2 v2 := Below.refl _ _
    try simp only [Act.put, List.setIfInBounds_toArray, List.set_cons_zero, List.set_cons_succ]
    have HB2 := Lib.hid (bst HB1.out hb2)
    refine wpAnyH_ready (rs := [21]) (by kernel_rfl) (by simp) ?_
    refine AllReadyH.cons (o := { dst := some 47, op := Op.call { callee := Callee.value (Operand.func 19), args := #[Operand.tmp 45, Operand.tmp 46], argTypes := #[37, 37] }, type := 4, pos := "law.go:26", after := #[{ on := 19, ground := Ground.data }, { on := 20, ground := Ground.data }, { on := 18, ground := Ground.chain }, { on := 15, ground := Ground.guard }], guard := some (15, true) }) rfl (fun K hK => ?_) AllReadyH.nil
    go_simp
    refine (rSameR_c x y bb HBB.out A A2 n n2 c c2 _ (HLX5.out.below HB2.out) (HLY5.out.below HB2.out) (by omega) (by omega)).mono ?_
    rintro e v3 ⟨rfl, hb3⟩
    refine hK.out _ _ hb3 (fun _ => ?_)
    clear hK K
    clear hS
    refine wpAnyH_imp (S' := fun V => Below v3.heap.size v3 V) (fun V h => bst hb3 h) ?_
    have hS : Below v3.heap.size v3 v3 := Below.refl _ _
    try simp only [Act.put, List.setIfInBounds_toArray, List.set_cons_zero, List.set_cons_succ]
    have HB3 := Lib.hid (bst HB2.out hb3)
    refine wpAnyH_take (i := 22) (oi := { dst := some 48, op := Op.binOp BinOp.eql 4 (Operand.tmp 44) (Operand.tmp 47) 4, type := 4, pos := "law.go:26", after := #[{ on := 18, ground := Ground.data }, { on := 21, ground := Ground.data }, { on := 15, ground := Ground.guard }], guard := some (15, true) }) (v := ?v22b) rfl (by kernel_rfl) (by kernel_rfl) (by kernel_rfl) (fun _ _ _ h => h) (Or.inl ⟨by rfl, ?hy22b⟩) (by assumption) ?rest22b
    case hy22b => (intro V hSw; (try dsimp only at hSw); go_simp; all_goals (with_reducible rfl))
    try simp only [Act.put, List.setIfInBounds_toArray, List.set_cons_zero, List.set_cons_succ]
    refine wpAnyH_take (i := 23) (oi := { dst := some 49, op := Op.pick (Operand.tmp 41) (Operand.tmp 48) (Operand.const (Value.bool false)), type := 4, pos := "law.go:26", after := #[{ on := 15, ground := Ground.data }, { on := 22, ground := Ground.data }], guard := none }) (v := ?v23b) rfl (by kernel_rfl) (by kernel_rfl) (by kernel_rfl) (fun _ _ _ h => h) (Or.inl ⟨by rfl, ?hy23b⟩) (by assumption) ?rest23b
    case hy23b => (intro V hSw; (try dsimp only at hSw); go_simp; all_goals (with_reducible rfl))
    try simp only [Act.put, List.setIfInBounds_toArray, List.set_cons_zero, List.set_cons_succ]
    refine wpAnyH_take (i := 24) (oi := { dst := some 50, op := Op.move (Operand.tmp 49), type := 4, pos := "law.go:26", after := #[{ on := 23, ground := Ground.data }, { on := 21, ground := Ground.chain }], guard := none }) (v := ?v24b) rfl (by kernel_rfl) (by kernel_rfl) (by kernel_rfl) (fun _ _ _ h => h) (Or.inl ⟨by rfl, ?hy24b⟩) (by assumption) ?rest24b
    case hy24b => (intro V hSw; (try dsimp only at hSw); go_simp; all_goals (with_reducible rfl))
    try simp only [Act.put, List.setIfInBounds_toArray, List.set_cons_zero, List.set_cons_succ]
    refine wpAnyH_take (i := 25) (oi := { dst := some 51, op := Op.load 37 (Operand.tmp 5), type := 37, pos := "law.go:26", after := #[{ on := 24, ground := Ground.guard }], guard := some (24, true) }) (v := ?v25b) rfl (by kernel_rfl) (by kernel_rfl) (by kernel_rfl) (fun _ _ _ h => h) (Or.inl ⟨by rfl, ?hy25b⟩) (by assumption) ?rest25b
    case hy25b => (intro V hSw; (try dsimp only at hSw); obtain ⟨c0, c1, c2, c3, c4, c5, c6, c7, c8, c9, c10, c11, c12, c13, c14, c15, c16, c17, c18, c19, c20, c21, c22, c23, c24, c25, c26, c27, c28, c29⟩ := LC.out V (bst HB3.out hSw); go_simp; all_goals (with_reducible rfl))
    try simp only [Act.put, List.setIfInBounds_toArray, List.set_cons_zero, List.set_cons_succ]
    refine wpAnyH_take (i := 26) (oi := { dst := some 52, op := Op.load 37 (Operand.tmp 2), type := 37, pos := "law.go:26", after := #[{ on := 24, ground := Ground.guard }], guard := some (24, true) }) (v := ?v26b) rfl (by kernel_rfl) (by kernel_rfl) (by kernel_rfl) (fun _ _ _ h => h) (Or.inl ⟨by rfl, ?hy26b⟩) (by assumption) ?rest26b
    case hy26b => (intro V hSw; (try dsimp only at hSw); obtain ⟨c0, c1, c2, c3, c4, c5, c6, c7, c8, c9, c10, c11, c12, c13, c14, c15, c16, c17, c18, c19, c20, c21, c22, c23, c24, c25, c26, c27, c28, c29⟩ := LC.out V (bst HB3.out hSw); go_simp; all_goals (with_reducible rfl))
    try simp only [Act.put, List.setIfInBounds_toArray, List.set_cons_zero, List.set_cons_succ]
    refine wpAnyH_ready (rs := [27]) (by kernel_rfl) (by simp) ?_
    refine AllReadyH.cons (o := { dst := some 53, op := Op.call { callee := Callee.value (Operand.func 18), args := #[Operand.tmp 51, Operand.tmp 52], argTypes := #[37, 37] }, type := 4, pos := "law.go:26", after := #[{ on := 25, ground := Ground.data }, { on := 26, ground := Ground.data }, { on := 24, ground := Ground.chain }, { on := 24, ground := Ground.guard }], guard := some (24, true) }) rfl (fun K hK => ?_) AllReadyH.nil
    go_simp
    refine (sameR_c x x true (by simp) A3 A n n c3 c _ (HLZ5.out.below HB3.out) (HLX5.out.below HB3.out) (by omega) (by omega)).mono ?_
    rintro e v4 ⟨rfl, hb4⟩
    refine hK.out _ _ hb4 (fun _ => ?_)
    clear hK K
    clear hS
    refine wpAnyH_imp (S' := fun V => Below v4.heap.size v4 V) (fun V h => bst hb4 h) ?_
    have hS : Below v4.heap.size v4 v4 := Below.refl _ _
    try simp only [Act.put, List.setIfInBounds_toArray, List.set_cons_zero, List.set_cons_succ]
    have HB4 := Lib.hid (bst HB3.out hb4)
    refine wpAnyH_take (i := 28) (oi := { dst := some 54, op := Op.pick (Operand.tmp 50) (Operand.tmp 53) (Operand.const (Value.bool false)), type := 4, pos := "law.go:26", after := #[{ on := 24, ground := Ground.data }, { on := 27, ground := Ground.data }], guard := none }) (v := ?v28b) rfl (by kernel_rfl) (by kernel_rfl) (by kernel_rfl) (fun _ _ _ h => h) (Or.inl ⟨by rfl, ?hy28b⟩) (by assumption) ?rest28b
    case hy28b => (intro V hSw; (try dsimp only at hSw); go_simp; all_goals (with_reducible rfl))
    try simp only [Act.put, List.setIfInBounds_toArray, List.set_cons_zero, List.set_cons_succ]
    refine wpAnyH_take (i := 29) (oi := { dst := some 55, op := Op.move (Operand.tmp 54), type := 4, pos := "law.go:26", after := #[{ on := 28, ground := Ground.data }, { on := 27, ground := Ground.chain }], guard := none }) (v := ?v29b) rfl (by kernel_rfl) (by kernel_rfl) (by kernel_rfl) (fun _ _ _ h => h) (Or.inl ⟨by rfl, ?hy29b⟩) (by assumption) ?rest29b
    case hy29b => (intro V hSw; (try dsimp only at hSw); go_simp; all_goals (with_reducible rfl))
    try simp only [Act.put, List.setIfInBounds_toArray, List.set_cons_zero, List.set_cons_succ]
    refine wpAnyH_take (i := 30) (oi := { dst := some 56, op := Op.load 37 (Operand.tmp 5), type := 37, pos := "law.go:26", after := #[{ on := 29, ground := Ground.guard }], guard := some (29, true) }) (v := ?v30b) rfl (by kernel_rfl) (by kernel_rfl) (by kernel_rfl) (fun _ _ _ h => h) (Or.inl ⟨by rfl, ?hy30b⟩) (by assumption) ?rest30b
    case hy30b => (intro V hSw; (try dsimp only at hSw); obtain ⟨c0, c1, c2, c3, c4, c5, c6, c7, c8, c9, c10, c11, c12, c13, c14, c15, c16, c17, c18, c19, c20, c21, c22, c23, c24, c25, c26, c27, c28, c29⟩ := LC.out V (bst HB4.out hSw); go_simp; all_goals (with_reducible rfl))
    try simp only [Act.put, List.setIfInBounds_toArray, List.set_cons_zero, List.set_cons_succ]
    refine wpAnyH_take (i := 31) (oi := { dst := some 57, op := Op.load 37 (Operand.tmp 2), type := 37, pos := "law.go:26", after := #[{ on := 29, ground := Ground.guard }], guard := some (29, true) }) (v := ?v31b) rfl (by kernel_rfl) (by kernel_rfl) (by kernel_rfl) (fun _ _ _ h => h) (Or.inl ⟨by rfl, ?hy31b⟩) (by assumption) ?rest31b
    case hy31b => (intro V hSw; (try dsimp only at hSw); obtain ⟨c0, c1, c2, c3, c4, c5, c6, c7, c8, c9, c10, c11, c12, c13, c14, c15, c16, c17, c18, c19, c20, c21, c22, c23, c24, c25, c26, c27, c28, c29⟩ := LC.out V (bst HB4.out hSw); go_simp; all_goals (with_reducible rfl))
    try simp only [Act.put, List.setIfInBounds_toArray, List.set_cons_zero, List.set_cons_succ]
    refine wpAnyH_ready (rs := [32]) (by kernel_rfl) (by simp) ?_
    refine AllReadyH.cons (o := { dst := some 58, op := Op.call { callee := Callee.value (Operand.func 19), args := #[Operand.tmp 56, Operand.tmp 57], argTypes := #[37, 37] }, type := 4, pos := "law.go:26", after := #[{ on := 30, ground := Ground.data }, { on := 31, ground := Ground.data }, { on := 29, ground := Ground.chain }, { on := 29, ground := Ground.guard }], guard := some (29, true) }) rfl (fun K hK => ?_) AllReadyH.nil
    go_simp
    refine (rSameR_c x x true (by simp) A3 A n n c3 c _ (HLZ5.out.below HB4.out) (HLX5.out.below HB4.out) (by omega) (by omega)).mono ?_
    rintro e v5 ⟨rfl, hb5⟩
    refine hK.out _ _ hb5 (fun _ => ?_)
    clear hK K
    clear hS
    refine wpAnyH_imp (S' := fun V => Below v5.heap.size v5 V) (fun V h => bst hb5 h) ?_
    have hS : Below v5.heap.size v5 v5 := Below.refl _ _
    try simp only [Act.put, List.setIfInBounds_toArray, List.set_cons_zero, List.set_cons_succ]
    have HB5 := Lib.hid (bst HB4.out hb5)
    refine wpAnyH_take (i := 33) (oi := { dst := some 59, op := Op.pick (Operand.tmp 55) (Operand.tmp 58) (Operand.const (Value.bool false)), type := 4, pos := "law.go:26", after := #[{ on := 29, ground := Ground.data }, { on := 32, ground := Ground.data }], guard := none }) (v := ?v33b) rfl (by kernel_rfl) (by kernel_rfl) (by kernel_rfl) (fun _ _ _ h => h) (Or.inl ⟨by rfl, ?hy33b⟩) (by assumption) ?rest33b
    case hy33b => (intro V hSw; (try dsimp only at hSw); go_simp; all_goals (with_reducible rfl))
    try simp only [Act.put, List.setIfInBounds_toArray, List.set_cons_zero, List.set_cons_succ]
    refine wpAnyH_take (i := 34) (oi := { dst := some 60, op := Op.move (Operand.tmp 59), type := 4, pos := "law.go:26", after := #[{ on := 33, ground := Ground.data }, { on := 32, ground := Ground.chain }], guard := none }) (v := ?v34b) rfl (by kernel_rfl) (by kernel_rfl) (by kernel_rfl) (fun _ _ _ h => h) (Or.inl ⟨by rfl, ?hy34b⟩) (by assumption) ?rest34b
    case hy34b => (intro V hSw; (try dsimp only at hSw); go_simp; all_goals (with_reducible rfl))
    try simp only [Act.put, List.setIfInBounds_toArray, List.set_cons_zero, List.set_cons_succ]
    refine wpAnyH_ready (rs := [35]) (by kernel_rfl) (by simp) ?_
    refine AllReadyH.cons (o := { dst := some 61, op := Op.call { callee := Callee.value (Operand.func 12), args := #[], argTypes := #[] }, type := 4, pos := "law.go:26", after := #[{ on := 34, ground := Ground.chain }, { on := 34, ground := Ground.guard }], guard := some (34, true) }) rfl (fun K hK => ?_) AllReadyH.nil
    go_simp
    refine (awake_c _ (HM5.out.below HB5.out)).mono ?_
    rintro e v6 ⟨rfl, hb6⟩
    refine hK.out _ _ hb6 (fun _ => ?_)
    clear hK K
    clear hS
    refine wpAnyH_imp (S' := fun V => Below v6.heap.size v6 V) (fun V h => bst hb6 h) ?_
    have hS : Below v6.heap.size v6 v6 := Below.refl _ _
    try simp only [Act.put, List.setIfInBounds_toArray, List.set_cons_zero, List.set_cons_succ]
    have HB6 := Lib.hid (bst HB5.out hb6)
    refine wpAnyH_take (i := 36) (oi := { dst := some 62, op := Op.pick (Operand.tmp 60) (Operand.tmp 61) (Operand.const (Value.bool false)), type := 4, pos := "law.go:26", after := #[{ on := 34, ground := Ground.data }, { on := 35, ground := Ground.data }], guard := none }) (v := ?v36b) rfl (by kernel_rfl) (by kernel_rfl) (by kernel_rfl) (fun _ _ _ h => h) (Or.inl ⟨by rfl, ?hy36b⟩) (by assumption) ?rest36b
    case hy36b => (intro V hSw; (try dsimp only at hSw); go_simp; all_goals (with_reducible rfl))
    try simp only [Act.put, List.setIfInBounds_toArray, List.set_cons_zero, List.set_cons_succ]
    refine wpAnyH_take (i := 37) (oi := { dst := some 4, op := Op.assign (Operand.tmp 62), type := 4, pos := "law.go:26", after := #[{ on := 36, ground := Ground.data }, { on := 35, ground := Ground.chain }, { on := 0, ground := Ground.phase }, { on := 1, ground := Ground.phase }, { on := 2, ground := Ground.phase }, { on := 3, ground := Ground.phase }, { on := 4, ground := Ground.phase }, { on := 5, ground := Ground.phase }, { on := 6, ground := Ground.phase }, { on := 7, ground := Ground.phase }, { on := 8, ground := Ground.phase }, { on := 9, ground := Ground.phase }, { on := 10, ground := Ground.phase }, { on := 11, ground := Ground.phase }, { on := 12, ground := Ground.phase }, { on := 13, ground := Ground.phase }, { on := 14, ground := Ground.phase }, { on := 15, ground := Ground.phase }, { on := 16, ground := Ground.phase }, { on := 17, ground := Ground.phase }, { on := 18, ground := Ground.phase }, { on := 19, ground := Ground.phase }, { on := 20, ground := Ground.phase }, { on := 21, ground := Ground.phase }, { on := 22, ground := Ground.phase }, { on := 23, ground := Ground.phase }, { on := 24, ground := Ground.phase }, { on := 25, ground := Ground.phase }, { on := 26, ground := Ground.phase }, { on := 27, ground := Ground.phase }, { on := 28, ground := Ground.phase }, { on := 29, ground := Ground.phase }, { on := 30, ground := Ground.phase }, { on := 31, ground := Ground.phase }, { on := 32, ground := Ground.phase }, { on := 33, ground := Ground.phase }, { on := 34, ground := Ground.phase }, { on := 35, ground := Ground.phase }, { on := 36, ground := Ground.phase }], guard := none }) (v := ?v37b) rfl (by kernel_rfl) (by kernel_rfl) (by kernel_rfl) (fun _ _ _ h => h) (Or.inl ⟨by rfl, ?hy37b⟩) (by assumption) ?rest37b
    case hy37b => (intro V hSw; (try dsimp only at hSw); go_simp; all_goals (with_reducible rfl))
    try simp only [Act.put, List.setIfInBounds_toArray, List.set_cons_zero, List.set_cons_succ]
    refine wpAnyH_done (by kernel_rfl) ?_ _
    (try go_wp2_with fail)
    go_ret
    exact ⟨rfl, bst G5.out HB6.out⟩
end Go.Proofs.YtiafmbfeigcinaaDoor
