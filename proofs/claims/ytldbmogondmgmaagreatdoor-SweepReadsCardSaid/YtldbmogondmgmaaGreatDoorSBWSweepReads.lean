/-
  SweepReads, walked (written by wip/gensw4.py).
-/
import Derived.Test.YtldbmogondmgmaaGreatDoorSB31
set_option linter.unusedVariables false
set_option linter.unusedSimpArgs false
set_option maxRecDepth 100000
namespace Go.Proofs.YtldbmogondmgmaaGreatDoor
open Go.RowKit

set_option maxHeartbeats 8000000 in
theorem sweepReads_no (A : Option Addr) (n c : Nat) (l : List Ce) (a1 b1 a2 b2 : Int) (key : ByteArray) (w : World) (hx : CeAt w A n l) (hz : ∀ x ∈ l, CeSz x) (hn : n ≤ 9223372036854775807) (hks : key.size ≤ 140737488351232) (hM : MaxL w) (k : Int) (hk : ¬ k = 0) (he : swE ⟨#[]⟩ t33 (a1, b1) = k) :
    Calls Tryz.prog 6 #[.slice A n c, .agg #[.int .i64 a1, .int .i64 b1, .int .i64 a2, .int .i64 b2], .string key] w fun e w' => e = .returned (.bool true) ∧ Below w.heap.size w w' := by
  have hmix : Tryz.prog.follows .mixedOrders = true := by kernel_rfl
  have hsc := swC_no (r := ctab l) ⟨#[]⟩ t33 (a1, b1) (by rw [he]; exact hk)
  have hok := ctab_ok hz
  have HCL := Lib.hid (fun W (hB : Below w.heap.size w W) => claid A n c l W (hx.below hB) hn hz)
  have HOK := Lib.hid hok
  have HWK := Lib.hid (fun W (hB : Below w.heap.size w W) => works15 W (hM.below hB))
  have HSW := Lib.hid (fun (V : World) (p : Nat) (T : List As) (h : Has w (tbA p (ctab l) :: T) V) => swSweep h hok (by decide) hM ⟨#[]⟩ t33 (by decide) (by rw [t33_sz]; decide) a1 b1)
  have H0 := Lib.hid ((Has.nil (Below.refl w.heap.size w)).newBlk 77 #[.int .i64 a1, .int .i64 b1, .int .i64 a2, .int .i64 b2])
  have HKR := Lib.hid (fun (V : World) (p : Nat) (T : List As) (R : List Rw) (h : Has w (tbA p R :: T) V) (hR : ROk 12800 R) => Has.read15 h hR.szs key a2 b2)
  clear hok hx hz hM
  have hkb : (k != 0) = true := by simpa using hk
  rw [he, hsc] at HSW
  clear he hk hsc
  go_enter Tryz.func6, Tryz.ntmps6
  go_wp2_with (first
    | (go_at_call 22; with_reducible refine (HWK.out _ H0.out.bel).mono ?_; rintro e w1 ⟨rfl, hb1⟩
       have H1 := Lib.hid (H0.out.keep hb1)
       clear hb1)
    | (go_at_call 23; with_reducible refine (HCL.out _ H1.out.bel).mono ?_; rintro e w2 ⟨p, b, rfl, h2⟩
       have H2 := Lib.hid (show Has w (tbA p (ctab l) :: rtA b (ctab l) :: blkA w.heap.size 77 #[.int .i64 a1, .int .i64 b1, .int .i64 a2, .int .i64 b2] :: []) w2 from H1.out.join h2)
       clear h2))
  refine wp_region_held_drew (S := Has w (tbA p (ctab l) :: rtA b (ctab l) :: blkA w.heap.size 77 #[.int .i64 a1, .int .i64 b1, .int .i64 a2, .int .i64 b2] :: [])) hmix (H2.out.drew) (fun hS => ?_)
  simp only [List.size_toArray, List.length_cons, List.length_nil, Nat.reduceAdd, Array.replicate_succ, Array.replicate_zero]
  refine wpAnyH_take (i := 0) (oi := { dst := some 24, op := Op.move (Operand.tmp 7), type := 32, pos := "outright.go:68", after := #[], guard := none }) (v := ?v0y) rfl (by kernel_rfl) (by kernel_rfl) (by kernel_rfl) (fun _ _ _ h => h) (Or.inl ⟨by rfl, ?hy0y⟩) (by assumption) ?rest0y
  case hy0y => (intro V2 hSw; (try dsimp only at hSw); go_simp; all_goals (with_reducible rfl))
  try simp only [Act.put, List.setIfInBounds_toArray, List.set_cons_zero, List.set_cons_succ]
  refine wpAnyH_take (i := 2) (oi := { dst := some 26, op := Op.indexAddr 77 (Operand.tmp 4) (Operand.const (Value.int IntKind.i64 0)), type := 0, pos := "outright.go:68", after := #[], guard := none }) (v := ?v2y) rfl (by kernel_rfl) (by kernel_rfl) (by kernel_rfl) (fun _ _ _ h => h) (Or.inl ⟨by rfl, ?hy2y⟩) (by assumption) ?rest2y
  case hy2y => (intro V2 hSw; (try dsimp only at hSw); go_simp; all_goals (with_reducible rfl))
  try simp only [Act.put, List.setIfInBounds_toArray, List.set_cons_zero, List.set_cons_succ]
  refine wpAnyH_take (i := 3) (oi := { dst := some 27, op := Op.load 26 (Operand.tmp 26), type := 26, pos := "outright.go:68", after := #[{ on := 2, ground := Ground.data }], guard := none }) (v := ?v3y) rfl (by kernel_rfl) (by kernel_rfl) (by kernel_rfl) (fun _ _ _ h => h) (Or.inl ⟨by rfl, ?hy3y⟩) (by assumption) ?rest3y
  case hy3y => (intro V2 hSw; (try dsimp only at hSw); have zk := hSw.blkAt (g := w.heap.size) (t := 77) (cs := #[.int .i64 a1, .int .i64 b1, .int .i64 a2, .int .i64 b2]) (by simp); have ck0 := zk.cell 0; have ck1 := zk.cell 1; have ck2 := zk.cell 2; have ck3 := zk.cell 3; simp at ck0 ck1 ck2 ck3; go_simp; all_goals (with_reducible rfl))
  try simp only [Act.put, List.setIfInBounds_toArray, List.set_cons_zero, List.set_cons_succ]
  refine wpAnyH_ready (rs := [1]) (by kernel_rfl) (by simp) ?_
  refine AllReadyH.cons (o := { dst := some 25, op := Op.call { callee := Callee.value (Operand.func 25), args := #[], argTypes := #[] }, type := 66, pos := "outright.go:68", after := #[], guard := none }) rfl (fun K hK => ?_) AllReadyH.nil
  go_simp
  refine (all15 _).mono ?_
  rintro e u1 ⟨rfl, hbu⟩
  have hX := hS.keep hbu
  refine hK.out _ _ (hX) (fun hS => ?_)
  clear hK K
  try simp only [Act.put, List.setIfInBounds_toArray, List.set_cons_zero, List.set_cons_succ]
  clear hX hbu
  refine wpAnyH_ready (rs := [4]) (by kernel_rfl) (by simp) ?_
  refine AllReadyH.cons (o := { dst := some 28, op := Op.call { callee := Callee.value (Operand.func 24), args := #[Operand.tmp 24, Operand.tmp 25, Operand.tmp 27], argTypes := #[32, 66, 26] }, type := 79, pos := "outright.go:68", after := #[{ on := 0, ground := Ground.data }, { on := 1, ground := Ground.data }, { on := 3, ground := Ground.data }, { on := 1, ground := Ground.chain }], guard := none }) rfl (fun K hK => ?_) AllReadyH.nil
  go_simp
  refine (HSW.out _ _ _ hS).mono ?_
  rintro e u2 ⟨A2, c2, rfl, h4, hat, hnc, hcm, hq⟩
  refine hK.out _ _ (h4.tail) (fun hS => ?_)
  clear hK K
  try simp only [Act.put, List.setIfInBounds_toArray, List.set_cons_zero, List.set_cons_succ]
  have H4 := Lib.hid h4.swap
  have HQ := Lib.hid hq
  clear h4 hat hq
  refine wpAnyH_take (i := 5) (oi := { dst := some 23, op := Op.move (Operand.tmp 28), type := 79, pos := "outright.go:68", after := #[{ on := 4, ground := Ground.data }], guard := none }) (v := ?v5y) rfl (by kernel_rfl) (by kernel_rfl) (by kernel_rfl) (fun _ _ _ h => h) (Or.inl ⟨by rfl, ?hy5y⟩) (by assumption) ?rest5y
  case hy5y => (intro V2 hSw; (try dsimp only at hSw); go_simp; all_goals (with_reducible rfl))
  try simp only [Act.put, List.setIfInBounds_toArray, List.set_cons_zero, List.set_cons_succ]
  refine wpAnyH_take (i := 6) (oi := { dst := some 29, op := Op.extract (Operand.tmp 23) 0, type := 36, pos := "outright.go:68", after := #[{ on := 5, ground := Ground.data }], guard := none }) (v := ?v6y) rfl (by kernel_rfl) (by kernel_rfl) (by kernel_rfl) (fun _ _ _ h => h) (Or.inl ⟨by rfl, ?hy6y⟩) (by assumption) ?rest6y
  case hy6y => (intro V2 hSw; (try dsimp only at hSw); go_simp; all_goals (with_reducible rfl))
  try simp only [Act.put, List.setIfInBounds_toArray, List.set_cons_zero, List.set_cons_succ]
  refine wpAnyH_take (i := 7) (oi := { dst := some 30, op := Op.extract (Operand.tmp 23) 1, type := 42, pos := "outright.go:68", after := #[{ on := 5, ground := Ground.data }, { on := 8, ground := Ground.gcOnly Departure.lateStores }], guard := none }) (v := ?v7y) rfl (by kernel_rfl) (by kernel_rfl) (by kernel_rfl) (fun _ _ _ h => h) (Or.inl ⟨by rfl, ?hy7y⟩) (by assumption) ?rest7y
  case hy7y => (intro V2 hSw; (try dsimp only at hSw); go_simp; all_goals (with_reducible rfl))
  try simp only [Act.put, List.setIfInBounds_toArray, List.set_cons_zero, List.set_cons_succ]
  refine wpAnyH_take (i := 8) (oi := { dst := some 9, op := Op.assign (Operand.tmp 29), type := 36, pos := "outright.go:68", after := #[{ on := 6, ground := Ground.data }, { on := 4, ground := Ground.chain }, { on := 0, ground := Ground.phase }, { on := 1, ground := Ground.phase }, { on := 2, ground := Ground.phase }, { on := 3, ground := Ground.phase }, { on := 4, ground := Ground.phase }, { on := 5, ground := Ground.phase }, { on := 6, ground := Ground.phase }, { on := 7, ground := Ground.textOnly Departure.lateStores }], guard := none }) (v := ?v8y) rfl (by kernel_rfl) (by kernel_rfl) (by kernel_rfl) (fun _ _ _ h => h) (Or.inl ⟨by rfl, ?hy8y⟩) (by assumption) ?rest8y
  case hy8y => (intro V2 hSw; (try dsimp only at hSw); go_simp; all_goals (with_reducible rfl))
  try simp only [Act.put, List.setIfInBounds_toArray, List.set_cons_zero, List.set_cons_succ]
  refine wpAnyH_take (i := 9) (oi := { dst := some 10, op := Op.assign (Operand.tmp 30), type := 42, pos := "outright.go:68", after := #[{ on := 7, ground := Ground.data }, { on := 8, ground := Ground.chain }, { on := 0, ground := Ground.phase }, { on := 1, ground := Ground.phase }, { on := 2, ground := Ground.phase }, { on := 3, ground := Ground.phase }, { on := 4, ground := Ground.phase }, { on := 5, ground := Ground.phase }, { on := 6, ground := Ground.phase }, { on := 7, ground := Ground.phase }, { on := 8, ground := Ground.phase }], guard := none }) (v := ?v9y) rfl (by kernel_rfl) (by kernel_rfl) (by kernel_rfl) (fun _ _ _ h => h) (Or.inl ⟨by rfl, ?hy9y⟩) (by assumption) ?rest9y
  case hy9y => (intro V2 hSw; (try dsimp only at hSw); go_simp; all_goals (with_reducible rfl))
  try simp only [Act.put, List.setIfInBounds_toArray, List.set_cons_zero, List.set_cons_succ]
  refine wpAnyH_done (by kernel_rfl) ?_ _
  skip
  go_wp2_with fail
  go_ret
  exact ⟨rfl, H4.out.bel⟩
set_option maxHeartbeats 8000000 in
theorem sweepReads_lt (A : Option Addr) (n c : Nat) (l : List Ce) (a1 b1 a2 b2 : Int) (key : ByteArray) (w : World) (hx : CeAt w A n l) (hz : ∀ x ∈ l, CeSz x) (hn : n ≤ 9223372036854775807) (hks : key.size ≤ 140737488351232) (hM : MaxL w) (he : swE ⟨#[]⟩ t33 (a1, b1) = 0) (hl : lt (a1, b1) (a2, b2) = false) :
    Calls Tryz.prog 6 #[.slice A n c, .agg #[.int .i64 a1, .int .i64 b1, .int .i64 a2, .int .i64 b2], .string key] w fun e w' => e = .returned (.bool true) ∧ Below w.heap.size w w' := by
  have hmix : Tryz.prog.follows .mixedOrders = true := by kernel_rfl
  have hok := ctab_ok hz
  have HCL := Lib.hid (fun W (hB : Below w.heap.size w W) => claid A n c l W (hx.below hB) hn hz)
  have HOK := Lib.hid hok
  have HWK := Lib.hid (fun W (hB : Below w.heap.size w W) => works15 W (hM.below hB))
  have HSW := Lib.hid (fun (V : World) (p : Nat) (T : List As) (h : Has w (tbA p (ctab l) :: T) V) => swSweep h hok (by decide) hM ⟨#[]⟩ t33 (by decide) (by rw [t33_sz]; decide) a1 b1)
  have H0 := Lib.hid ((Has.nil (Below.refl w.heap.size w)).newBlk 77 #[.int .i64 a1, .int .i64 b1, .int .i64 a2, .int .i64 b2])
  have HKR := Lib.hid (fun (V : World) (p : Nat) (T : List As) (R : List Rw) (h : Has w (tbA p R :: T) V) (hR : ROk 12800 R) => Has.read15 h hR.szs key a2 b2)
  clear hok hx hz hM
  have HLS := Lib.hid (fun W => less_c a1 b1 a2 b2 W)
  rw [he] at HSW
  rw [hl] at HLS
  clear he hl
  generalize swC (ctab l) ⟨#[]⟩ t33 (a1, b1) = L at *
  go_enter Tryz.func6, Tryz.ntmps6
  go_wp2_with (first
    | (go_at_call 22; with_reducible refine (HWK.out _ H0.out.bel).mono ?_; rintro e w1 ⟨rfl, hb1⟩
       have H1 := Lib.hid (H0.out.keep hb1)
       clear hb1)
    | (go_at_call 23; with_reducible refine (HCL.out _ H1.out.bel).mono ?_; rintro e w2 ⟨p, b, rfl, h2⟩
       have H2 := Lib.hid (show Has w (tbA p (ctab l) :: rtA b (ctab l) :: blkA w.heap.size 77 #[.int .i64 a1, .int .i64 b1, .int .i64 a2, .int .i64 b2] :: []) w2 from H1.out.join h2)
       clear h2))
  refine wp_region_held_drew (S := Has w (tbA p (ctab l) :: rtA b (ctab l) :: blkA w.heap.size 77 #[.int .i64 a1, .int .i64 b1, .int .i64 a2, .int .i64 b2] :: [])) hmix (H2.out.drew) (fun hS => ?_)
  simp only [List.size_toArray, List.length_cons, List.length_nil, Nat.reduceAdd, Array.replicate_succ, Array.replicate_zero]
  refine wpAnyH_take (i := 0) (oi := { dst := some 24, op := Op.move (Operand.tmp 7), type := 32, pos := "outright.go:68", after := #[], guard := none }) (v := ?v0y) rfl (by kernel_rfl) (by kernel_rfl) (by kernel_rfl) (fun _ _ _ h => h) (Or.inl ⟨by rfl, ?hy0y⟩) (by assumption) ?rest0y
  case hy0y => (intro V2 hSw; (try dsimp only at hSw); go_simp; all_goals (with_reducible rfl))
  try simp only [Act.put, List.setIfInBounds_toArray, List.set_cons_zero, List.set_cons_succ]
  refine wpAnyH_take (i := 2) (oi := { dst := some 26, op := Op.indexAddr 77 (Operand.tmp 4) (Operand.const (Value.int IntKind.i64 0)), type := 0, pos := "outright.go:68", after := #[], guard := none }) (v := ?v2y) rfl (by kernel_rfl) (by kernel_rfl) (by kernel_rfl) (fun _ _ _ h => h) (Or.inl ⟨by rfl, ?hy2y⟩) (by assumption) ?rest2y
  case hy2y => (intro V2 hSw; (try dsimp only at hSw); go_simp; all_goals (with_reducible rfl))
  try simp only [Act.put, List.setIfInBounds_toArray, List.set_cons_zero, List.set_cons_succ]
  refine wpAnyH_take (i := 3) (oi := { dst := some 27, op := Op.load 26 (Operand.tmp 26), type := 26, pos := "outright.go:68", after := #[{ on := 2, ground := Ground.data }], guard := none }) (v := ?v3y) rfl (by kernel_rfl) (by kernel_rfl) (by kernel_rfl) (fun _ _ _ h => h) (Or.inl ⟨by rfl, ?hy3y⟩) (by assumption) ?rest3y
  case hy3y => (intro V2 hSw; (try dsimp only at hSw); have zk := hSw.blkAt (g := w.heap.size) (t := 77) (cs := #[.int .i64 a1, .int .i64 b1, .int .i64 a2, .int .i64 b2]) (by simp); have ck0 := zk.cell 0; have ck1 := zk.cell 1; have ck2 := zk.cell 2; have ck3 := zk.cell 3; simp at ck0 ck1 ck2 ck3; go_simp; all_goals (with_reducible rfl))
  try simp only [Act.put, List.setIfInBounds_toArray, List.set_cons_zero, List.set_cons_succ]
  refine wpAnyH_ready (rs := [1]) (by kernel_rfl) (by simp) ?_
  refine AllReadyH.cons (o := { dst := some 25, op := Op.call { callee := Callee.value (Operand.func 25), args := #[], argTypes := #[] }, type := 66, pos := "outright.go:68", after := #[], guard := none }) rfl (fun K hK => ?_) AllReadyH.nil
  go_simp
  refine (all15 _).mono ?_
  rintro e u1 ⟨rfl, hbu⟩
  have hX := hS.keep hbu
  refine hK.out _ _ (hX) (fun hS => ?_)
  clear hK K
  try simp only [Act.put, List.setIfInBounds_toArray, List.set_cons_zero, List.set_cons_succ]
  clear hX hbu
  refine wpAnyH_ready (rs := [4]) (by kernel_rfl) (by simp) ?_
  refine AllReadyH.cons (o := { dst := some 28, op := Op.call { callee := Callee.value (Operand.func 24), args := #[Operand.tmp 24, Operand.tmp 25, Operand.tmp 27], argTypes := #[32, 66, 26] }, type := 79, pos := "outright.go:68", after := #[{ on := 0, ground := Ground.data }, { on := 1, ground := Ground.data }, { on := 3, ground := Ground.data }, { on := 1, ground := Ground.chain }], guard := none }) rfl (fun K hK => ?_) AllReadyH.nil
  go_simp
  refine (HSW.out _ _ _ hS).mono ?_
  rintro e u2 ⟨A2, c2, rfl, h4, hat, hnc, hcm, hq⟩
  refine hK.out _ _ (h4.tail) (fun hS => ?_)
  clear hK K
  try simp only [Act.put, List.setIfInBounds_toArray, List.set_cons_zero, List.set_cons_succ]
  have H4 := Lib.hid h4.swap
  have HQ := Lib.hid hq
  clear h4 hat hq
  refine wpAnyH_take (i := 5) (oi := { dst := some 23, op := Op.move (Operand.tmp 28), type := 79, pos := "outright.go:68", after := #[{ on := 4, ground := Ground.data }], guard := none }) (v := ?v5y) rfl (by kernel_rfl) (by kernel_rfl) (by kernel_rfl) (fun _ _ _ h => h) (Or.inl ⟨by rfl, ?hy5y⟩) (by assumption) ?rest5y
  case hy5y => (intro V2 hSw; (try dsimp only at hSw); go_simp; all_goals (with_reducible rfl))
  try simp only [Act.put, List.setIfInBounds_toArray, List.set_cons_zero, List.set_cons_succ]
  refine wpAnyH_take (i := 6) (oi := { dst := some 29, op := Op.extract (Operand.tmp 23) 0, type := 36, pos := "outright.go:68", after := #[{ on := 5, ground := Ground.data }], guard := none }) (v := ?v6y) rfl (by kernel_rfl) (by kernel_rfl) (by kernel_rfl) (fun _ _ _ h => h) (Or.inl ⟨by rfl, ?hy6y⟩) (by assumption) ?rest6y
  case hy6y => (intro V2 hSw; (try dsimp only at hSw); go_simp; all_goals (with_reducible rfl))
  try simp only [Act.put, List.setIfInBounds_toArray, List.set_cons_zero, List.set_cons_succ]
  refine wpAnyH_take (i := 7) (oi := { dst := some 30, op := Op.extract (Operand.tmp 23) 1, type := 42, pos := "outright.go:68", after := #[{ on := 5, ground := Ground.data }, { on := 8, ground := Ground.gcOnly Departure.lateStores }], guard := none }) (v := ?v7y) rfl (by kernel_rfl) (by kernel_rfl) (by kernel_rfl) (fun _ _ _ h => h) (Or.inl ⟨by rfl, ?hy7y⟩) (by assumption) ?rest7y
  case hy7y => (intro V2 hSw; (try dsimp only at hSw); go_simp; all_goals (with_reducible rfl))
  try simp only [Act.put, List.setIfInBounds_toArray, List.set_cons_zero, List.set_cons_succ]
  refine wpAnyH_take (i := 8) (oi := { dst := some 9, op := Op.assign (Operand.tmp 29), type := 36, pos := "outright.go:68", after := #[{ on := 6, ground := Ground.data }, { on := 4, ground := Ground.chain }, { on := 0, ground := Ground.phase }, { on := 1, ground := Ground.phase }, { on := 2, ground := Ground.phase }, { on := 3, ground := Ground.phase }, { on := 4, ground := Ground.phase }, { on := 5, ground := Ground.phase }, { on := 6, ground := Ground.phase }, { on := 7, ground := Ground.textOnly Departure.lateStores }], guard := none }) (v := ?v8y) rfl (by kernel_rfl) (by kernel_rfl) (by kernel_rfl) (fun _ _ _ h => h) (Or.inl ⟨by rfl, ?hy8y⟩) (by assumption) ?rest8y
  case hy8y => (intro V2 hSw; (try dsimp only at hSw); go_simp; all_goals (with_reducible rfl))
  try simp only [Act.put, List.setIfInBounds_toArray, List.set_cons_zero, List.set_cons_succ]
  refine wpAnyH_take (i := 9) (oi := { dst := some 10, op := Op.assign (Operand.tmp 30), type := 42, pos := "outright.go:68", after := #[{ on := 7, ground := Ground.data }, { on := 8, ground := Ground.chain }, { on := 0, ground := Ground.phase }, { on := 1, ground := Ground.phase }, { on := 2, ground := Ground.phase }, { on := 3, ground := Ground.phase }, { on := 4, ground := Ground.phase }, { on := 5, ground := Ground.phase }, { on := 6, ground := Ground.phase }, { on := 7, ground := Ground.phase }, { on := 8, ground := Ground.phase }], guard := none }) (v := ?v9y) rfl (by kernel_rfl) (by kernel_rfl) (by kernel_rfl) (fun _ _ _ h => h) (Or.inl ⟨by rfl, ?hy9y⟩) (by assumption) ?rest9y
  case hy9y => (intro V2 hSw; (try dsimp only at hSw); go_simp; all_goals (with_reducible rfl))
  try simp only [Act.put, List.setIfInBounds_toArray, List.set_cons_zero, List.set_cons_succ]
  refine wpAnyH_done (by kernel_rfl) ?_ _
  skip
  have zz := H4.out.blkAt (g := w.heap.size) (t := 77) (cs := #[.int .i64 a1, .int .i64 b1, .int .i64 a2, .int .i64 b2]) (by simp)
  have ct0 := zz.cell 0
  have ct1 := zz.cell 1
  have ct2 := zz.cell 2
  have ct3 := zz.cell 3
  simp at ct0 ct1 ct2 ct3
  clear zz
  go_wp2_with (go_at_call 12; refine (HLS.out _).mono ?_; rintro e w5 ⟨rfl, hb5⟩)
  go_ret
  exact ⟨rfl, (H4.out.keep hb5).bel⟩
set_option maxHeartbeats 8000000 in
theorem sweepReads_yes (A : Option Addr) (n c : Nat) (l : List Ce) (a1 b1 a2 b2 : Int) (key : ByteArray) (w : World) (hx : CeAt w A n l) (hz : ∀ x ∈ l, CeSz x) (hn : n ≤ 9223372036854775807) (hks : key.size ≤ 140737488351232) (hM : MaxL w) (he : swE ⟨#[]⟩ t33 (a1, b1) = 0) (hl : lt (a1, b1) (a2, b2) = true) :
    Calls Tryz.prog 6 #[.slice A n c, .agg #[.int .i64 a1, .int .i64 b1, .int .i64 a2, .int .i64 b2], .string key] w fun e w' => e = .returned (.bool true) ∧ Below w.heap.size w w' := by
  have hmix : Tryz.prog.follows .mixedOrders = true := by kernel_rfl
  have hsc := swC_all (ctab_ok hz).sor (a1, b1) he
  have hne : (⟨#[]⟩ : ByteArray) ≠ key ∨ (⟨#[]⟩ : ByteArray) = key := by
    by_cases h : (⟨#[]⟩ : ByteArray) = key
    · exact .inr h
    · exact .inl h
  have hsame : ∀ n, rdC (rdel (ctab l) (gk ((go (a1, b1) ⟨#[]⟩ (ctab l)).drop n))) key (a2, b2) = rdC (ctab l) key (a2, b2) := by
    intro n
    rcases hne with h | h
    · exact rd_same hl n (ctab_ok hz).sor h
    · rw [← h]
      have hn0 : ∀ r : List Rw, rdC r ⟨#[]⟩ (a2, b2) = (⟨#[]⟩, false) := by
        intro r
        unfold rdC
        rw [fs_none]
        · rfl
        · intro y hy a b v i hv
          obtain ⟨-, -, hi⟩ := vrd_key hv
          cases hi
      rw [hn0, hn0]
  have hstep : ∀ m (hm : m < (go (a1, b1) ⟨#[]⟩ (ctab l)).length), chk [(go (a1, b1) ⟨#[]⟩ (ctab l))[m]'hm] = 0 ∧ OSz [(go (a1, b1) ⟨#[]⟩ (ctab l))[m]'hm] ∧ rapp (rdel (ctab l) (gk ((go (a1, b1) ⟨#[]⟩ (ctab l)).drop (m + 1)))) [(go (a1, b1) ⟨#[]⟩ (ctab l))[m]'hm] = rdel (ctab l) (gk ((go (a1, b1) ⟨#[]⟩ (ctab l)).drop m)) := by
    intro m hm
    obtain ⟨x, hx, e⟩ := go_key (List.getElem_mem hm)
    have hd : gk ((go (a1, b1) ⟨#[]⟩ (ctab l)).drop m) = x.key :: gk ((go (a1, b1) ⟨#[]⟩ (ctab l)).drop (m + 1)) := by
      rw [List.drop_eq_getElem_cons hm, e]
      rfl
    rw [hd, e]
    obtain ⟨h1, h2⟩ := del_step (ctab_ok hz).sor (ctab_ok hz).szs hx (gk ((go (a1, b1) ⟨#[]⟩ (ctab l)).drop (m + 1)))
    exact ⟨h1, szs_del (ctab_ok hz).szs hx, h2⟩
  have hlen : (go (a1, b1) ⟨#[]⟩ (ctab l)).length ≤ 12800 := Nat.le_trans (go_len _ _) (ctab_ok hz).len
  rw [← hsc] at hsame hstep hlen
  have hok := ctab_ok hz
  have HCL := Lib.hid (fun W (hB : Below w.heap.size w W) => claid A n c l W (hx.below hB) hn hz)
  have HOK := Lib.hid hok
  have HWK := Lib.hid (fun W (hB : Below w.heap.size w W) => works15 W (hM.below hB))
  have HSW := Lib.hid (fun (V : World) (p : Nat) (T : List As) (h : Has w (tbA p (ctab l) :: T) V) => swSweep h hok (by decide) hM ⟨#[]⟩ t33 (by decide) (by rw [t33_sz]; decide) a1 b1)
  have H0 := Lib.hid ((Has.nil (Below.refl w.heap.size w)).newBlk 77 #[.int .i64 a1, .int .i64 b1, .int .i64 a2, .int .i64 b2])
  have HKR := Lib.hid (fun (V : World) (p : Nat) (T : List As) (R : List Rw) (h : Has w (tbA p R :: T) V) (hR : ROk 12800 R) => Has.read15 h hR.szs key a2 b2)
  clear hok hx hz hM
  have HLS := Lib.hid (fun W => less_c a1 b1 a2 b2 W)
  rw [he] at HSW
  rw [hl] at HLS
  have HSTEP := Lib.hid hstep
  generalize swC (ctab l) ⟨#[]⟩ t33 (a1, b1) = L at *
  generalize hR0 : ctab l = R0 at *
  obtain ⟨o, ho⟩ : ∃ o, rdC R0 key (a2, b2) = o := ⟨_, rfl⟩
  obtain ⟨v0, is0⟩ := o
  have HRD0 := Lib.hid (fun (V : World) (p : Nat) (T : List As) (h : Has w (tbA p R0 :: T) V) => (show Calls Tryz.prog 26 #[pt p, .string key, sv a2 b2] V (fun e w' => e = .returned (.tuple #[.string v0, .bool is0]) ∧ Has w (tbA p R0 :: T) w') from by have h9 := Has.read15 h HOK.out.szs key a2 b2; rw [ho] at h9; exact h9))
  have HRD := Lib.hid (fun (V : World) (p : Nat) (T : List As) (n : Nat) (h : Has w (tbA p (rdel R0 (gk (L.drop n))) :: T) V) => (show Calls Tryz.prog 26 #[pt p, .string key, sv a2 b2] V (fun e w' => e = .returned (.tuple #[.string v0, .bool is0]) ∧ Has w (tbA p (rdel R0 (gk (L.drop n))) :: T) w') from by have h9 := Has.read15 h (rdel_szs HOK.out.szs _) key a2 b2; rw [hsame n, ho] at h9; exact h9))
  have hRL : rdel R0 (gk (L.drop L.length)) = R0 := by rw [List.drop_length]; exact rdel_nil R0
  have HRL := Lib.hid hRL
  have HLN := Lib.hid hlen
  have e4 : (v0.toList != v0.toList) = false := by simp
  have e5 : (is0 != is0) = false := by simp
  clear he hl hsc hsame hstep hne hR0 ho hRL hlen HKR
  go_enter Tryz.func6, Tryz.ntmps6
  go_wp2_with (first
    | (go_at_call 22; with_reducible refine (HWK.out _ H0.out.bel).mono ?_; rintro e w1 ⟨rfl, hb1⟩
       have H1 := Lib.hid (H0.out.keep hb1)
       clear hb1)
    | (go_at_call 23; with_reducible refine (HCL.out _ H1.out.bel).mono ?_; rintro e w2 ⟨p, b, rfl, h2⟩
       have H2 := Lib.hid (show Has w (tbA p R0 :: rtA b R0 :: blkA w.heap.size 77 #[.int .i64 a1, .int .i64 b1, .int .i64 a2, .int .i64 b2] :: []) w2 from H1.out.join h2)
       clear h2))
  refine wp_region_held_drew (S := Has w (tbA p R0 :: rtA b R0 :: blkA w.heap.size 77 #[.int .i64 a1, .int .i64 b1, .int .i64 a2, .int .i64 b2] :: [])) hmix (H2.out.drew) (fun hS => ?_)
  simp only [List.size_toArray, List.length_cons, List.length_nil, Nat.reduceAdd, Array.replicate_succ, Array.replicate_zero]
  refine wpAnyH_take (i := 0) (oi := { dst := some 24, op := Op.move (Operand.tmp 7), type := 32, pos := "outright.go:68", after := #[], guard := none }) (v := ?v0y) rfl (by kernel_rfl) (by kernel_rfl) (by kernel_rfl) (fun _ _ _ h => h) (Or.inl ⟨by rfl, ?hy0y⟩) (by assumption) ?rest0y
  case hy0y => (intro V2 hSw; (try dsimp only at hSw); go_simp; all_goals (with_reducible rfl))
  try simp only [Act.put, List.setIfInBounds_toArray, List.set_cons_zero, List.set_cons_succ]
  refine wpAnyH_take (i := 2) (oi := { dst := some 26, op := Op.indexAddr 77 (Operand.tmp 4) (Operand.const (Value.int IntKind.i64 0)), type := 0, pos := "outright.go:68", after := #[], guard := none }) (v := ?v2y) rfl (by kernel_rfl) (by kernel_rfl) (by kernel_rfl) (fun _ _ _ h => h) (Or.inl ⟨by rfl, ?hy2y⟩) (by assumption) ?rest2y
  case hy2y => (intro V2 hSw; (try dsimp only at hSw); go_simp; all_goals (with_reducible rfl))
  try simp only [Act.put, List.setIfInBounds_toArray, List.set_cons_zero, List.set_cons_succ]
  refine wpAnyH_take (i := 3) (oi := { dst := some 27, op := Op.load 26 (Operand.tmp 26), type := 26, pos := "outright.go:68", after := #[{ on := 2, ground := Ground.data }], guard := none }) (v := ?v3y) rfl (by kernel_rfl) (by kernel_rfl) (by kernel_rfl) (fun _ _ _ h => h) (Or.inl ⟨by rfl, ?hy3y⟩) (by assumption) ?rest3y
  case hy3y => (intro V2 hSw; (try dsimp only at hSw); have zk := hSw.blkAt (g := w.heap.size) (t := 77) (cs := #[.int .i64 a1, .int .i64 b1, .int .i64 a2, .int .i64 b2]) (by simp); have ck0 := zk.cell 0; have ck1 := zk.cell 1; have ck2 := zk.cell 2; have ck3 := zk.cell 3; simp at ck0 ck1 ck2 ck3; go_simp; all_goals (with_reducible rfl))
  try simp only [Act.put, List.setIfInBounds_toArray, List.set_cons_zero, List.set_cons_succ]
  refine wpAnyH_ready (rs := [1]) (by kernel_rfl) (by simp) ?_
  refine AllReadyH.cons (o := { dst := some 25, op := Op.call { callee := Callee.value (Operand.func 25), args := #[], argTypes := #[] }, type := 66, pos := "outright.go:68", after := #[], guard := none }) rfl (fun K hK => ?_) AllReadyH.nil
  go_simp
  refine (all15 _).mono ?_
  rintro e u1 ⟨rfl, hbu⟩
  have hX := hS.keep hbu
  refine hK.out _ _ (hX) (fun hS => ?_)
  clear hK K
  try simp only [Act.put, List.setIfInBounds_toArray, List.set_cons_zero, List.set_cons_succ]
  clear hX hbu
  refine wpAnyH_ready (rs := [4]) (by kernel_rfl) (by simp) ?_
  refine AllReadyH.cons (o := { dst := some 28, op := Op.call { callee := Callee.value (Operand.func 24), args := #[Operand.tmp 24, Operand.tmp 25, Operand.tmp 27], argTypes := #[32, 66, 26] }, type := 79, pos := "outright.go:68", after := #[{ on := 0, ground := Ground.data }, { on := 1, ground := Ground.data }, { on := 3, ground := Ground.data }, { on := 1, ground := Ground.chain }], guard := none }) rfl (fun K hK => ?_) AllReadyH.nil
  go_simp
  refine (HSW.out _ _ _ hS).mono ?_
  rintro e u2 ⟨A2, c2, rfl, h4, hat, hnc, hcm, hq⟩
  refine hK.out _ _ (h4.tail) (fun hS => ?_)
  clear hK K
  try simp only [Act.put, List.setIfInBounds_toArray, List.set_cons_zero, List.set_cons_succ]
  have H4 := Lib.hid h4.swap
  have HQ := Lib.hid hq
  clear h4 hat hq
  refine wpAnyH_take (i := 5) (oi := { dst := some 23, op := Op.move (Operand.tmp 28), type := 79, pos := "outright.go:68", after := #[{ on := 4, ground := Ground.data }], guard := none }) (v := ?v5y) rfl (by kernel_rfl) (by kernel_rfl) (by kernel_rfl) (fun _ _ _ h => h) (Or.inl ⟨by rfl, ?hy5y⟩) (by assumption) ?rest5y
  case hy5y => (intro V2 hSw; (try dsimp only at hSw); go_simp; all_goals (with_reducible rfl))
  try simp only [Act.put, List.setIfInBounds_toArray, List.set_cons_zero, List.set_cons_succ]
  refine wpAnyH_take (i := 6) (oi := { dst := some 29, op := Op.extract (Operand.tmp 23) 0, type := 36, pos := "outright.go:68", after := #[{ on := 5, ground := Ground.data }], guard := none }) (v := ?v6y) rfl (by kernel_rfl) (by kernel_rfl) (by kernel_rfl) (fun _ _ _ h => h) (Or.inl ⟨by rfl, ?hy6y⟩) (by assumption) ?rest6y
  case hy6y => (intro V2 hSw; (try dsimp only at hSw); go_simp; all_goals (with_reducible rfl))
  try simp only [Act.put, List.setIfInBounds_toArray, List.set_cons_zero, List.set_cons_succ]
  refine wpAnyH_take (i := 7) (oi := { dst := some 30, op := Op.extract (Operand.tmp 23) 1, type := 42, pos := "outright.go:68", after := #[{ on := 5, ground := Ground.data }, { on := 8, ground := Ground.gcOnly Departure.lateStores }], guard := none }) (v := ?v7y) rfl (by kernel_rfl) (by kernel_rfl) (by kernel_rfl) (fun _ _ _ h => h) (Or.inl ⟨by rfl, ?hy7y⟩) (by assumption) ?rest7y
  case hy7y => (intro V2 hSw; (try dsimp only at hSw); go_simp; all_goals (with_reducible rfl))
  try simp only [Act.put, List.setIfInBounds_toArray, List.set_cons_zero, List.set_cons_succ]
  refine wpAnyH_take (i := 8) (oi := { dst := some 9, op := Op.assign (Operand.tmp 29), type := 36, pos := "outright.go:68", after := #[{ on := 6, ground := Ground.data }, { on := 4, ground := Ground.chain }, { on := 0, ground := Ground.phase }, { on := 1, ground := Ground.phase }, { on := 2, ground := Ground.phase }, { on := 3, ground := Ground.phase }, { on := 4, ground := Ground.phase }, { on := 5, ground := Ground.phase }, { on := 6, ground := Ground.phase }, { on := 7, ground := Ground.textOnly Departure.lateStores }], guard := none }) (v := ?v8y) rfl (by kernel_rfl) (by kernel_rfl) (by kernel_rfl) (fun _ _ _ h => h) (Or.inl ⟨by rfl, ?hy8y⟩) (by assumption) ?rest8y
  case hy8y => (intro V2 hSw; (try dsimp only at hSw); go_simp; all_goals (with_reducible rfl))
  try simp only [Act.put, List.setIfInBounds_toArray, List.set_cons_zero, List.set_cons_succ]
  refine wpAnyH_take (i := 9) (oi := { dst := some 10, op := Op.assign (Operand.tmp 30), type := 42, pos := "outright.go:68", after := #[{ on := 7, ground := Ground.data }, { on := 8, ground := Ground.chain }, { on := 0, ground := Ground.phase }, { on := 1, ground := Ground.phase }, { on := 2, ground := Ground.phase }, { on := 3, ground := Ground.phase }, { on := 4, ground := Ground.phase }, { on := 5, ground := Ground.phase }, { on := 6, ground := Ground.phase }, { on := 7, ground := Ground.phase }, { on := 8, ground := Ground.phase }], guard := none }) (v := ?v9y) rfl (by kernel_rfl) (by kernel_rfl) (by kernel_rfl) (fun _ _ _ h => h) (Or.inl ⟨by rfl, ?hy9y⟩) (by assumption) ?rest9y
  case hy9y => (intro V2 hSw; (try dsimp only at hSw); go_simp; all_goals (with_reducible rfl))
  try simp only [Act.put, List.setIfInBounds_toArray, List.set_cons_zero, List.set_cons_succ]
  refine wpAnyH_done (by kernel_rfl) ?_ _
  skip
  have zz := H4.out.blkAt (g := w.heap.size) (t := 77) (cs := #[.int .i64 a1, .int .i64 b1, .int .i64 a2, .int .i64 b2]) (by simp)
  have ct0 := zz.cell 0
  have ct1 := zz.cell 1
  have ct2 := zz.cell 2
  have ct3 := zz.cell 3
  simp at ct0 ct1 ct2 ct3
  clear zz
  have hlL : (L.length : Int) - 1 < 9223372036854775808 ∧ -9223372036854775808 ≤ (L.length : Int) - 1 := by have := HLN.out; omega
  go_wp2_with (first
    | (go_at_call 12; refine (HLS.out _).mono ?_; rintro e w5 ⟨rfl, hb5⟩
       have H5 := Lib.hid (H4.out.keep hb5)
       have zz := H5.out.blkAt (g := w.heap.size) (t := 77) (cs := #[.int .i64 a1, .int .i64 b1, .int .i64 a2, .int .i64 b2]) (by simp)
       have ct0 := zz.cell 0
       have ct1 := zz.cell 1
       have ct2 := zz.cell 2
       have ct3 := zz.cell 3
       simp at ct0 ct1 ct2 ct3
       clear zz
       clear hb5)
    | (go_at_call 26; with_reducible refine (HRD0.out _ _ _ H5.out).mono ?_; rintro e w6 ⟨rfl, h6⟩
       have H6 := Lib.hid h6
       clear h6))
  have hH7 : Has w (tbA p (rdel R0 (gk (L.drop L.length))) :: opA (.slice A2 L.length c2) L :: rtA b R0 :: blkA w.heap.size 77 #[.int .i64 a1, .int .i64 b1, .int .i64 a2, .int .i64 b2] :: []) w6 := by rw [HRL.out]; exact H6.out
  have H7 := Lib.hid hH7
  clear hH7 H6 H5 H4 HLS HRD0
  go_loopw [13] (fun i wr => ∃ k : Nat, k ≤ L.length ∧ i = .int .i64 ((k : Int) - 1) ∧ Hid (Has w (tbA p (rdel R0 (gk (L.drop k))) :: opA (.slice A2 L.length c2) L :: rtA b R0 :: blkA w.heap.size 77 #[.int .i64 a1, .int .i64 b1, .int .i64 a2, .int .i64 b2] :: []) wr)) (fun i _ => (intOf i + 1).toNat)
  case atStart => exact ⟨L.length, Nat.le_refl _, by go_num, H7⟩
  case round =>
    obtain ⟨k, hk, rfl, HH⟩ := hrel
    cases k with
    | zero =>
      go_wp2_with fail
      go_ret
      exact ⟨rfl, HH.out.bel⟩
    | succ m =>
      have hm : m < L.length := hk
      obtain ⟨q, rfl⟩ := HQ.out (by omega)
      have e6 : ((m + 1 : Nat) : Int) - 1 = (m : Int) := by omega
      rw [e6]
      have mz : (0 : Int) ≤ (m : Int) := by omega
      have hm2 : (m : Int) + 1 < 9223372036854775808 := by have := HLN.out; omega
      obtain ⟨hs1, hs2, hs3⟩ := HSTEP.out m hm
      have k1 := slo_one q L.length c2 m wr (by omega)
      have HAP := Lib.hid (Has.applyOne HH.out (rdel_ok HOK.out _) (by decide) rfl hm hs1 hs2)
      rw [hs3] at HAP
      clear hs1 hs2 hs3 e6
      go_wp2_with (first
        | (go_at_call 27; refine HAP.out.mono ?_; rintro e w7 ⟨rfl, h7⟩
           have H8 := Lib.hid h7
           have zz := h7.blkAt (g := w.heap.size) (t := 77) (cs := #[.int .i64 a1, .int .i64 b1, .int .i64 a2, .int .i64 b2]) (by simp)
           have ct0 := zz.cell 0
           have ct1 := zz.cell 1
           have ct2 := zz.cell 2
           have ct3 := zz.cell 3
           simp at ct0 ct1 ct2 ct3
           clear zz
           clear h7)
        | (go_at_call 26; with_reducible refine (HRD.out _ _ _ m H8.out).mono ?_; rintro e w8 ⟨rfl, h8⟩
           have H9 := Lib.hid h8
           clear h8))
      go_roundw
      case rel => exact ⟨m, by omega, by go_num, H9⟩
      case measure => simp [intOf] <;> omega
theorem sweepReads_walk (A : Option Addr) (n c : Nat) (l : List Ce) (a1 b1 a2 b2 : Int) (key : ByteArray) (w : World) (hx : CeAt w A n l) (hz : ∀ x ∈ l, CeSz x) (hn : n ≤ 9223372036854775807) (hks : key.size ≤ 140737488351232) (hM : MaxL w) : Calls Tryz.prog 6 #[.slice A n c, .agg #[.int .i64 a1, .int .i64 b1, .int .i64 a2, .int .i64 b2], .string key] w fun e w' => e = .returned (.bool true) ∧ Below w.heap.size w w' := by
  by_cases he : swE ⟨#[]⟩ t33 (a1, b1) = 0
  · cases hl : lt (a1, b1) (a2, b2) with
    | true => exact sweepReads_yes A n c l a1 b1 a2 b2 key w hx hz hn hks hM he hl
    | false => exact sweepReads_lt A n c l a1 b1 a2 b2 key w hx hz hn hks hM he hl
  · exact sweepReads_no A n c l a1 b1 a2 b2 key w hx hz hn hks hM _ he rfl
end Go.Proofs.YtldbmogondmgmaaGreatDoor
