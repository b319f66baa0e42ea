/-
  PeekOwn, walked: Del is false (written by wip/genpeekown.py).
-/
import Derived.Test.YtdaecfgjfdikbaaGreatDoorLWPeekOwnH
set_option linter.unusedVariables false
set_option linter.unusedSimpArgs false
set_option maxRecDepth 100000
namespace Go.Proofs.YtdaecfgjfdikbaaGreatDoor
open Go.RowKit

set_option maxHeartbeats 16000000 in
theorem own_false (A : Option Addr) (n c : Nat) (l : List Th) (x : Tx) (q : Int) (s : ByteArray) (w : World) (hx : ThAt w A n l) (hz : ∀ y ∈ l, TSz y) (hn : n ≤ 9223372036854775807) (hM : MaxL w) (hmx : mayX x = true) :
    Calls Tryz.prog 7 #[.slice A n c, txv x, .agg #[.int .i64 q, .string s, .bool false]] w fun e w' => e = .returned (.bool true) ∧ Below w.heap.size w w' := by
  have hmix : Tryz.prog.follows .mixedOrders = true := by kernel_rfl
  obtain ⟨m, hm⟩ : ∃ m, q % 100 = m := ⟨_, rfl⟩
  have hm1 : 0 ≤ m := by rw [← hm]; exact Int.emod_nonneg q (by omega)
  have hm2 : m < 100 := by rw [← hm]; exact Int.emod_lt_of_pos q (by omega)
  have HBR := Lib.hid (fun W => bring q 100 W (by omega) (by omega))
  rw [hm] at HBR
  clear hm
  have h0 := ((Has.nil (Below.refl w.heap.size w)).newBlk 28 (txc x)).newBlk 79 #[.int .i64 q, .string s, .bool false]
  have hz1 : (w.alloc (.cells (txc x) 28)).heap.size = w.heap.size + 1 := World.size_alloc _ _
  rw [hz1] at h0
  have H0 := Lib.hid h0
  have HX := Lib.hid hx
  have HZ := Lib.hid hz
  have HMY := Lib.hid (lawMay_c x)
  clear h0 hz1 hx hz
  obtain ⟨r, hr⟩ : ∃ r, tabP l = r := ⟨_, rfl⟩
  have HRO := Lib.hid (show ROk 7680 r from hr ▸ tabP_ok HZ.out)
  have HTB := Lib.hid (fun (W : World) (hb : Below w.heap.size w W) => tables_c A n c l W (HX.out.below hb) hn HZ.out)
  rw [hr] at HTB
  clear hr
  rw [hmx] at HMY
  have HMX := Lib.hid hmx
  clear hmx
  obtain ⟨x0, x1, x2, x3, x4, x5, x6, x7, x8, x9, x10, x11⟩ := x
  go_enter Tryz.func7, Tryz.ntmps7
  go_wp2_with fail
  refine (HMY.out _).mono ?_
  rintro e w1 ⟨rfl, hb1⟩
  have h1 := H0.out.keep hb1
  have k1 := h1.blk.1
  have c0 := k1.cell 0
  have f0 := k1.frozen 0
  have c1 := k1.cell 1
  have f1 := k1.frozen 1
  have c2 := k1.cell 2
  have f2 := k1.frozen 2
  simp at c0 c1 c2
  have H2 := Lib.hid (h1.setBlk 0 (.int .i64 (1 + m)))
  clear hb1 h1 k1
  go_wp2_with fail
  refine (HBR.out _).mono ?_
  rintro e w2 ⟨rfl, rfl⟩
  go_wp2_with fail
  refine (HTB.out _ H2.out.bel).mono ?_
  rintro e w3 ⟨p, b, rfl, h3⟩
  have HX0 := Lib.hid (show Has w (tbA p r :: rtA b r :: blkA (w.heap.size + 1) 79 #[.int .i64 (1 + m), .string s, .bool false] :: blkA w.heap.size 28 (txc ⟨x0, x1, x2, x3, x4, x5, x6, x7, x8, x9, x10, x11⟩) :: []) w3 from H2.out.join h3)
  clear h3 H2 c0 c1 c2 f0 f1 f2
  go_upto_region 7 with fail
  go_cut [9] from 30 to 37 (fun v wx => ∃ gI gS, v = .pointer (some ⟨gI, 0, none⟩) ∧ Hid (Has w (blkA gI 37 (itc (mineP ⟨x0, x1, x2, x3, x4, x5, x6, x7, x8, x9, x10, x11⟩ ⟨(1 + m), s, false⟩) (.slice (some ⟨gS, 0, none⟩) 1 1)) :: blkA gS 79 #[.int .i64 (1 + m), .string s, .bool false] :: tbA p r :: rtA b r :: blkA (w.heap.size + 1) 79 #[.int .i64 (1 + m), .string s, .bool false] :: blkA w.heap.size 28 (txc ⟨x0, x1, x2, x3, x4, x5, x6, x7, x8, x9, x10, x11⟩) :: []) wx))
  case first =>
    have HX0 := Lib.hid HX0.out.drew
    refine wp_region_held_drew (S := Has w (tbA p r :: rtA b r :: blkA (w.heap.size + 1) 79 #[.int .i64 (1 + m), .string s, .bool false] :: blkA w.heap.size 28 (txc ⟨x0, x1, x2, x3, x4, x5, x6, x7, x8, x9, x10, x11⟩) :: [])) hmix (HX0.out) (fun hS => ?_)
    simp only [List.size_toArray, List.length_cons, List.length_nil, Nat.reduceAdd, Array.replicate_succ, Array.replicate_zero]
    refine wpAnyH_take (i := 0) (oi := { dst := some 30, op := Op.fieldAddr 28 (Operand.tmp 4) 0, type := 0, pos := "outright.go:177", after := #[], guard := none }) (v := ?v0z) rfl (by kernel_rfl) (by kernel_rfl) (by kernel_rfl) (fun _ _ _ h => h) (Or.inl ⟨by rfl, ?hy0z⟩) (by assumption) ?rest0z
    case hy0z => (intro V2 hSw; (try dsimp only at hSw); go_simp; all_goals (with_reducible rfl))
    try simp only [Act.put, List.setIfInBounds_toArray, List.set_cons_zero, List.set_cons_succ]
    refine wpAnyH_take (i := 1) (oi := { dst := some 31, op := Op.load 3 (Operand.tmp 30), type := 3, pos := "outright.go:177", after := #[{ on := 0, ground := Ground.data }], guard := none }) (v := ?v1z) rfl (by kernel_rfl) (by kernel_rfl) (by kernel_rfl) (fun _ _ _ h => h) (Or.inl ⟨by rfl, ?hy1z⟩) (by assumption) ?rest1z
    case hy1z => (intro V2 hSw; (try dsimp only at hSw); have tq := (hSw.blkAt (g := w.heap.size) (t := 28) (cs := txc ⟨x0, x1, x2, x3, x4, x5, x6, x7, x8, x9, x10, x11⟩) (by simp)); have t0 := tq.cell 0; have t1 := tq.cell 1; simp at t0 t1; go_simp; all_goals (with_reducible rfl))
    try simp only [Act.put, List.setIfInBounds_toArray, List.set_cons_zero, List.set_cons_succ]
    refine wpAnyH_take (i := 2) (oi := { dst := some 32, op := Op.fieldAddr 28 (Operand.tmp 4) 1, type := 0, pos := "outright.go:177", after := #[], guard := none }) (v := ?v2z) rfl (by kernel_rfl) (by kernel_rfl) (by kernel_rfl) (fun _ _ _ h => h) (Or.inl ⟨by rfl, ?hy2z⟩) (by assumption) ?rest2z
    case hy2z => (intro V2 hSw; (try dsimp only at hSw); go_simp; all_goals (with_reducible rfl))
    try simp only [Act.put, List.setIfInBounds_toArray, List.set_cons_zero, List.set_cons_succ]
    refine wpAnyH_take (i := 3) (oi := { dst := some 33, op := Op.load 3 (Operand.tmp 32), type := 3, pos := "outright.go:177", after := #[{ on := 2, ground := Ground.data }], guard := none }) (v := ?v3z) rfl (by kernel_rfl) (by kernel_rfl) (by kernel_rfl) (fun _ _ _ h => h) (Or.inl ⟨by rfl, ?hy3z⟩) (by assumption) ?rest3z
    case hy3z => (intro V2 hSw; (try dsimp only at hSw); have tq := (hSw.blkAt (g := w.heap.size) (t := 28) (cs := txc ⟨x0, x1, x2, x3, x4, x5, x6, x7, x8, x9, x10, x11⟩) (by simp)); have t0 := tq.cell 0; have t1 := tq.cell 1; simp at t0 t1; go_simp; all_goals (with_reducible rfl))
    try simp only [Act.put, List.setIfInBounds_toArray, List.set_cons_zero, List.set_cons_succ]
    refine wpAnyH_take (i := 5) (oi := { dst := some 35, op := Op.load 79 (Operand.tmp 5), type := 79, pos := "outright.go:177", after := #[], guard := none }) (v := ?v5z) rfl (by kernel_rfl) (by kernel_rfl) (by kernel_rfl) (fun _ _ _ h => h) (Or.inl ⟨by rfl, ?hy5z⟩) (by assumption) ?rest5z
    case hy5z => (intro V2 hSw; (try dsimp only at hSw); have tq := (hSw.blkAt (g := w.heap.size + 1) (t := 79) (cs := #[.int .i64 (1 + m), .string s, .bool false]) (by simp)); have t0 := tq.cell 0; have t1 := tq.cell 1; have t2 := tq.cell 2; simp at t0 t1 t2; go_simp; all_goals (with_reducible rfl))
    try simp only [Act.put, List.setIfInBounds_toArray, List.set_cons_zero, List.set_cons_succ]
    refine wpAnyH_ready (rs := [4, 6, 8]) (by kernel_rfl) (by simp) ?_
    refine AllReadyH.cons (o := { dst := some 34, op := Op.call { callee := Callee.value (Operand.func 34), args := #[Operand.const (Value.int IntKind.i64 5)], argTypes := #[3] }, type := 26, pos := "outright.go:177", after := #[], guard := none }) rfl (fun K hK => ?_) ?_
    · go_simp
      refine (at_c 5 _).mono ?_
      rintro e u1 ⟨rfl, hbu⟩
      have hX := HX0.out.keep hbu
      refine hK.out _ _ (hX) (fun hS => ?_)
      clear hK K
      try simp only [Act.put, List.setIfInBounds_toArray, List.set_cons_zero, List.set_cons_succ]
      have HX1 := Lib.hid hX
      clear hX hbu
      refine wpAnyH_ready (rs := [6, 8]) (by kernel_rfl) (by simp) ?_
      refine AllReadyH.cons (o := { dst := some 36, op := Op.buildSlice 35 1 #[(0, Operand.tmp 35)], type := 35, pos := "outright.go:177", after := #[{ on := 5, ground := Ground.data }], guard := none }) rfl (fun K hK => ?_) ?_
      · go_simp
        have hX := HX1.out.newBlk 79 #[.int .i64 (1 + m), .string s, .bool false]
        (try simp only [World.size_alloc] at hX)
        refine hK.out _ _ (hX.tail) (fun hS => ?_)
        clear hK K
        try simp only [Act.put, List.setIfInBounds_toArray, List.set_cons_zero, List.set_cons_succ]
        have HX2 := Lib.hid hX
        clear hX
        refine wpAnyH_take (i := 7) (oi := { dst := some 37, op := Op.build 37 #[(0, Operand.tmp 31), (1, Operand.tmp 33), (2, Operand.const (Value.int IntKind.i64 1)), (3, Operand.const (Value.string { data := #[97] })), (4, Operand.tmp 34), (6, Operand.tmp 36)], type := 37, pos := "outright.go:177", after := #[{ on := 1, ground := Ground.data }, { on := 3, ground := Ground.data }, { on := 4, ground := Ground.data }, { on := 6, ground := Ground.data }], guard := none }) (v := ?v7zaa) rfl (by kernel_rfl) (by kernel_rfl) (by kernel_rfl) (fun _ _ _ h => h) (Or.inl ⟨by rfl, ?hy7zaa⟩) (by assumption) ?rest7zaa
        case hy7zaa => (intro V2 hSw; (try dsimp only at hSw); go_simp; all_goals (with_reducible rfl))
        try simp only [Act.put, List.setIfInBounds_toArray, List.set_cons_zero, List.set_cons_succ]
        refine wpAnyH_ready (rs := [8]) (by kernel_rfl) (by simp) ?_
        refine AllReadyH.cons (o := { dst := some 9, op := Op.alloc 37, type := 0, pos := "outright.go:177", after := #[], guard := none }) rfl (fun K hK => ?_) AllReadyH.nil
        go_simp
        have hX := HX2.out.newBlk 37 (itc zI (.slice none 0 0))
        (try simp only [World.size_alloc] at hX)
        refine hK.out _ _ (hX.tail.tail) (fun hS => ?_)
        clear hK K
        try simp only [Act.put, List.setIfInBounds_toArray, List.set_cons_zero, List.set_cons_succ]
        have HX3 := Lib.hid hX
        clear hX
        refine wpAnyH_ready (rs := [9]) (by kernel_rfl) (by simp) ?_
        refine AllReadyH.cons (o := { dst := none, op := Op.store 37 (Operand.tmp 9) (Operand.tmp 37), type := 0, pos := "outright.go:177", after := #[{ on := 8, ground := Ground.data }, { on := 7, ground := Ground.data }, { on := 4, ground := Ground.chain }, { on := 0, ground := Ground.phase }, { on := 1, ground := Ground.phase }, { on := 2, ground := Ground.phase }, { on := 3, ground := Ground.phase }, { on := 4, ground := Ground.phase }, { on := 5, ground := Ground.phase }, { on := 6, ground := Ground.phase }, { on := 7, ground := Ground.phase }, { on := 8, ground := Ground.phase }], guard := none }) rfl (fun K hK => ?_) AllReadyH.nil
        go_simp
        have hA0 := HX1.out
        have hA1 := hA0.newBlk 79 #[.int .i64 (1 + m), .string s, .bool false]
        (try simp only [World.size_alloc] at hA1)
        have hA2 := hA1.newBlk 37 (itc (mineP ⟨x0, x1, x2, x3, x4, x5, x6, x7, x8, x9, x10, x11⟩ ⟨(1 + m), s, false⟩) (.slice (some ⟨u1.heap.size, 0, none⟩) 1 1))
        (try simp only [World.size_alloc] at hA2)
        have hY := hA2
        refine hK.out _ _ (hY.tail.tail) (fun hS => ?_)
        clear hK K
        try simp only [Act.put, List.setIfInBounds_toArray, List.set_cons_zero, List.set_cons_succ]
        have HX4 := Lib.hid hY
        clear hY hA0 hA1 hA2
        refine wpAnyH_done (by kernel_rfl) ?_ _
        (try go_wp2_with fail)
        go_meet
        exact ⟨_, _, rfl, HX4⟩
      refine AllReadyH.cons (o := { dst := some 9, op := Op.alloc 37, type := 0, pos := "outright.go:177", after := #[], guard := none }) rfl (fun K hK => ?_) AllReadyH.nil
      go_simp
      have hX := HX1.out.newBlk 37 (itc zI (.slice none 0 0))
      (try simp only [World.size_alloc] at hX)
      refine hK.out _ _ (hX.tail) (fun hS => ?_)
      clear hK K
      try simp only [Act.put, List.setIfInBounds_toArray, List.set_cons_zero, List.set_cons_succ]
      have HX2 := Lib.hid hX
      clear hX
      refine wpAnyH_ready (rs := [6]) (by kernel_rfl) (by simp) ?_
      refine AllReadyH.cons (o := { dst := some 36, op := Op.buildSlice 35 1 #[(0, Operand.tmp 35)], type := 35, pos := "outright.go:177", after := #[{ on := 5, ground := Ground.data }], guard := none }) rfl (fun K hK => ?_) AllReadyH.nil
      go_simp
      have hX := HX2.out.newBlk 79 #[.int .i64 (1 + m), .string s, .bool false]
      (try simp only [World.size_alloc] at hX)
      refine hK.out _ _ (hX.tail.tail) (fun hS => ?_)
      clear hK K
      try simp only [Act.put, List.setIfInBounds_toArray, List.set_cons_zero, List.set_cons_succ]
      have HX3 := Lib.hid hX
      clear hX
      refine wpAnyH_take (i := 7) (oi := { dst := some 37, op := Op.build 37 #[(0, Operand.tmp 31), (1, Operand.tmp 33), (2, Operand.const (Value.int IntKind.i64 1)), (3, Operand.const (Value.string { data := #[97] })), (4, Operand.tmp 34), (6, Operand.tmp 36)], type := 37, pos := "outright.go:177", after := #[{ on := 1, ground := Ground.data }, { on := 3, ground := Ground.data }, { on := 4, ground := Ground.data }, { on := 6, ground := Ground.data }], guard := none }) (v := ?v7zab) rfl (by kernel_rfl) (by kernel_rfl) (by kernel_rfl) (fun _ _ _ h => h) (Or.inl ⟨by rfl, ?hy7zab⟩) (by assumption) ?rest7zab
      case hy7zab => (intro V2 hSw; (try dsimp only at hSw); go_simp; all_goals (with_reducible rfl))
      try simp only [Act.put, List.setIfInBounds_toArray, List.set_cons_zero, List.set_cons_succ]
      refine wpAnyH_ready (rs := [9]) (by kernel_rfl) (by simp) ?_
      refine AllReadyH.cons (o := { dst := none, op := Op.store 37 (Operand.tmp 9) (Operand.tmp 37), type := 0, pos := "outright.go:177", after := #[{ on := 8, ground := Ground.data }, { on := 7, ground := Ground.data }, { on := 4, ground := Ground.chain }, { on := 0, ground := Ground.phase }, { on := 1, ground := Ground.phase }, { on := 2, ground := Ground.phase }, { on := 3, ground := Ground.phase }, { on := 4, ground := Ground.phase }, { on := 5, ground := Ground.phase }, { on := 6, ground := Ground.phase }, { on := 7, ground := Ground.phase }, { on := 8, ground := Ground.phase }], guard := none }) rfl (fun K hK => ?_) AllReadyH.nil
      go_simp
      have hA0 := HX1.out
      have hA1 := hA0.newBlk 37 (itc (mineP ⟨x0, x1, x2, x3, x4, x5, x6, x7, x8, x9, x10, x11⟩ ⟨(1 + m), s, false⟩) (.slice (some ⟨u1.heap.size + 1, 0, none⟩) 1 1))
      (try simp only [World.size_alloc] at hA1)
      have hA2 := hA1.newBlk 79 #[.int .i64 (1 + m), .string s, .bool false]
      (try simp only [World.size_alloc] at hA2)
      have hY := hA2.swap
      refine hK.out _ _ (hY.tail.tail) (fun hS => ?_)
      clear hK K
      try simp only [Act.put, List.setIfInBounds_toArray, List.set_cons_zero, List.set_cons_succ]
      have HX4 := Lib.hid hY
      clear hY hA0 hA1 hA2
      refine wpAnyH_done (by kernel_rfl) ?_ _
      (try go_wp2_with fail)
      go_meet
      exact ⟨_, _, rfl, HX4⟩
    refine AllReadyH.cons (o := { dst := some 36, op := Op.buildSlice 35 1 #[(0, Operand.tmp 35)], type := 35, pos := "outright.go:177", after := #[{ on := 5, ground := Ground.data }], guard := none }) rfl (fun K hK => ?_) ?_
    · go_simp
      have hX := HX0.out.newBlk 79 #[.int .i64 (1 + m), .string s, .bool false]
      (try simp only [World.size_alloc] at hX)
      refine hK.out _ _ (hX.tail) (fun hS => ?_)
      clear hK K
      try simp only [Act.put, List.setIfInBounds_toArray, List.set_cons_zero, List.set_cons_succ]
      have HX1 := Lib.hid hX
      clear hX
      refine wpAnyH_ready (rs := [4, 8]) (by kernel_rfl) (by simp) ?_
      refine AllReadyH.cons (o := { dst := some 34, op := Op.call { callee := Callee.value (Operand.func 34), args := #[Operand.const (Value.int IntKind.i64 5)], argTypes := #[3] }, type := 26, pos := "outright.go:177", after := #[], guard := none }) rfl (fun K hK => ?_) ?_
      · go_simp
        refine (at_c 5 _).mono ?_
        rintro e u2 ⟨rfl, hbu⟩
        have hX := HX1.out.keep hbu
        refine hK.out _ _ (hX.tail) (fun hS => ?_)
        clear hK K
        try simp only [Act.put, List.setIfInBounds_toArray, List.set_cons_zero, List.set_cons_succ]
        have HX2 := Lib.hid hX
        clear hX hbu
        refine wpAnyH_take (i := 7) (oi := { dst := some 37, op := Op.build 37 #[(0, Operand.tmp 31), (1, Operand.tmp 33), (2, Operand.const (Value.int IntKind.i64 1)), (3, Operand.const (Value.string { data := #[97] })), (4, Operand.tmp 34), (6, Operand.tmp 36)], type := 37, pos := "outright.go:177", after := #[{ on := 1, ground := Ground.data }, { on := 3, ground := Ground.data }, { on := 4, ground := Ground.data }, { on := 6, ground := Ground.data }], guard := none }) (v := ?v7zba) rfl (by kernel_rfl) (by kernel_rfl) (by kernel_rfl) (fun _ _ _ h => h) (Or.inl ⟨by rfl, ?hy7zba⟩) (by assumption) ?rest7zba
        case hy7zba => (intro V2 hSw; (try dsimp only at hSw); go_simp; all_goals (with_reducible rfl))
        try simp only [Act.put, List.setIfInBounds_toArray, List.set_cons_zero, List.set_cons_succ]
        refine wpAnyH_ready (rs := [8]) (by kernel_rfl) (by simp) ?_
        refine AllReadyH.cons (o := { dst := some 9, op := Op.alloc 37, type := 0, pos := "outright.go:177", after := #[], guard := none }) rfl (fun K hK => ?_) AllReadyH.nil
        go_simp
        have hX := HX2.out.newBlk 37 (itc zI (.slice none 0 0))
        (try simp only [World.size_alloc] at hX)
        refine hK.out _ _ (hX.tail.tail) (fun hS => ?_)
        clear hK K
        try simp only [Act.put, List.setIfInBounds_toArray, List.set_cons_zero, List.set_cons_succ]
        have HX3 := Lib.hid hX
        clear hX
        refine wpAnyH_ready (rs := [9]) (by kernel_rfl) (by simp) ?_
        refine AllReadyH.cons (o := { dst := none, op := Op.store 37 (Operand.tmp 9) (Operand.tmp 37), type := 0, pos := "outright.go:177", after := #[{ on := 8, ground := Ground.data }, { on := 7, ground := Ground.data }, { on := 4, ground := Ground.chain }, { on := 0, ground := Ground.phase }, { on := 1, ground := Ground.phase }, { on := 2, ground := Ground.phase }, { on := 3, ground := Ground.phase }, { on := 4, ground := Ground.phase }, { on := 5, ground := Ground.phase }, { on := 6, ground := Ground.phase }, { on := 7, ground := Ground.phase }, { on := 8, ground := Ground.phase }], guard := none }) rfl (fun K hK => ?_) AllReadyH.nil
        go_simp
        have hA0 := HX2.out
        have hA1 := hA0.newBlk 37 (itc (mineP ⟨x0, x1, x2, x3, x4, x5, x6, x7, x8, x9, x10, x11⟩ ⟨(1 + m), s, false⟩) (.slice (some ⟨w3.heap.size, 0, none⟩) 1 1))
        (try simp only [World.size_alloc] at hA1)
        have hY := hA1
        refine hK.out _ _ (hY.tail.tail) (fun hS => ?_)
        clear hK K
        try simp only [Act.put, List.setIfInBounds_toArray, List.set_cons_zero, List.set_cons_succ]
        have HX4 := Lib.hid hY
        clear hY hA0 hA1
        refine wpAnyH_done (by kernel_rfl) ?_ _
        (try go_wp2_with fail)
        go_meet
        exact ⟨_, _, rfl, HX4⟩
      refine AllReadyH.cons (o := { dst := some 9, op := Op.alloc 37, type := 0, pos := "outright.go:177", after := #[], guard := none }) rfl (fun K hK => ?_) AllReadyH.nil
      go_simp
      have hX := HX1.out.newBlk 37 (itc zI (.slice none 0 0))
      (try simp only [World.size_alloc] at hX)
      refine hK.out _ _ (hX.tail.tail) (fun hS => ?_)
      clear hK K
      try simp only [Act.put, List.setIfInBounds_toArray, List.set_cons_zero, List.set_cons_succ]
      have HX2 := Lib.hid hX
      clear hX
      refine wpAnyH_ready (rs := [4]) (by kernel_rfl) (by simp) ?_
      refine AllReadyH.cons (o := { dst := some 34, op := Op.call { callee := Callee.value (Operand.func 34), args := #[Operand.const (Value.int IntKind.i64 5)], argTypes := #[3] }, type := 26, pos := "outright.go:177", after := #[], guard := none }) rfl (fun K hK => ?_) AllReadyH.nil
      go_simp
      refine (at_c 5 _).mono ?_
      rintro e u3 ⟨rfl, hbu⟩
      have hX := HX2.out.keep hbu
      refine hK.out _ _ (hX.tail.tail) (fun hS => ?_)
      clear hK K
      try simp only [Act.put, List.setIfInBounds_toArray, List.set_cons_zero, List.set_cons_succ]
      have HX3 := Lib.hid hX
      clear hX hbu
      refine wpAnyH_take (i := 7) (oi := { dst := some 37, op := Op.build 37 #[(0, Operand.tmp 31), (1, Operand.tmp 33), (2, Operand.const (Value.int IntKind.i64 1)), (3, Operand.const (Value.string { data := #[97] })), (4, Operand.tmp 34), (6, Operand.tmp 36)], type := 37, pos := "outright.go:177", after := #[{ on := 1, ground := Ground.data }, { on := 3, ground := Ground.data }, { on := 4, ground := Ground.data }, { on := 6, ground := Ground.data }], guard := none }) (v := ?v7zbb) rfl (by kernel_rfl) (by kernel_rfl) (by kernel_rfl) (fun _ _ _ h => h) (Or.inl ⟨by rfl, ?hy7zbb⟩) (by assumption) ?rest7zbb
      case hy7zbb => (intro V2 hSw; (try dsimp only at hSw); go_simp; all_goals (with_reducible rfl))
      try simp only [Act.put, List.setIfInBounds_toArray, List.set_cons_zero, List.set_cons_succ]
      refine wpAnyH_ready (rs := [9]) (by kernel_rfl) (by simp) ?_
      refine AllReadyH.cons (o := { dst := none, op := Op.store 37 (Operand.tmp 9) (Operand.tmp 37), type := 0, pos := "outright.go:177", after := #[{ on := 8, ground := Ground.data }, { on := 7, ground := Ground.data }, { on := 4, ground := Ground.chain }, { on := 0, ground := Ground.phase }, { on := 1, ground := Ground.phase }, { on := 2, ground := Ground.phase }, { on := 3, ground := Ground.phase }, { on := 4, ground := Ground.phase }, { on := 5, ground := Ground.phase }, { on := 6, ground := Ground.phase }, { on := 7, ground := Ground.phase }, { on := 8, ground := Ground.phase }], guard := none }) rfl (fun K hK => ?_) AllReadyH.nil
      have hX := HX3.out
      have kI := hX.blk.1
      have p0 := kI.cell 0
      have f0 := kI.frozen 0
      have p1 := kI.cell 1
      have f1 := kI.frozen 1
      have p2 := kI.cell 2
      have f2 := kI.frozen 2
      have p3 := kI.cell 3
      have f3 := kI.frozen 3
      have p4 := kI.cell 4
      have f4 := kI.frozen 4
      have p5 := kI.cell 5
      have f5 := kI.frozen 5
      have p6 := kI.cell 6
      have f6 := kI.frozen 6
      have p7 := kI.cell 7
      have f7 := kI.frozen 7
      have p8 := kI.cell 8
      have f8 := kI.frozen 8
      simp at p0 p1 p2 p3 p4 p5 p6 p7 p8
      (try simp at f0 f1 f2 f3 f4 f5 f6 f7 f8)
      have hY := Has.all9 (v0 := .int .i64 x0) (v1 := .int .i64 x1) (v2 := .int .i64 1) (v3 := .string bA) (v4 := .int .i64 5) (v5 := .int .i64 0) (v6 := .int .i64 0) (v7 := .int .i64 0) (v8 := .slice (some ⟨w3.heap.size, 0, none⟩) 1 1) hX
      go_simp
      refine hK.out _ _ (hY.tail.tail) (fun hS => ?_)
      clear hK K
      try simp only [Act.put, List.setIfInBounds_toArray, List.set_cons_zero, List.set_cons_succ]
      have HX4 := Lib.hid hY
      clear hX hY kI
      refine wpAnyH_done (by kernel_rfl) ?_ _
      (try go_wp2_with fail)
      go_meet
      exact ⟨_, _, rfl, HX4⟩
    refine AllReadyH.cons (o := { dst := some 9, op := Op.alloc 37, type := 0, pos := "outright.go:177", after := #[], guard := none }) rfl (fun K hK => ?_) AllReadyH.nil
    go_simp
    have hX := HX0.out.newBlk 37 (itc zI (.slice none 0 0))
    (try simp only [World.size_alloc] at hX)
    refine hK.out _ _ (hX.tail) (fun hS => ?_)
    clear hK K
    try simp only [Act.put, List.setIfInBounds_toArray, List.set_cons_zero, List.set_cons_succ]
    have HX1 := Lib.hid hX
    clear hX
    refine wpAnyH_ready (rs := [4, 6]) (by kernel_rfl) (by simp) ?_
    refine AllReadyH.cons (o := { dst := some 34, op := Op.call { callee := Callee.value (Operand.func 34), args := #[Operand.const (Value.int IntKind.i64 5)], argTypes := #[3] }, type := 26, pos := "outright.go:177", after := #[], guard := none }) rfl (fun K hK => ?_) ?_
    · go_simp
      refine (at_c 5 _).mono ?_
      rintro e u2 ⟨rfl, hbu⟩
      have hX := HX1.out.keep hbu
      refine hK.out _ _ (hX.tail) (fun hS => ?_)
      clear hK K
      try simp only [Act.put, List.setIfInBounds_toArray, List.set_cons_zero, List.set_cons_succ]
      have HX2 := Lib.hid hX
      clear hX hbu
      refine wpAnyH_ready (rs := [6]) (by kernel_rfl) (by simp) ?_
      refine AllReadyH.cons (o := { dst := some 36, op := Op.buildSlice 35 1 #[(0, Operand.tmp 35)], type := 35, pos := "outright.go:177", after := #[{ on := 5, ground := Ground.data }], guard := none }) rfl (fun K hK => ?_) AllReadyH.nil
      go_simp
      have hX := HX2.out.newBlk 79 #[.int .i64 (1 + m), .string s, .bool false]
      (try simp only [World.size_alloc] at hX)
      refine hK.out _ _ (hX.tail.tail) (fun hS => ?_)
      clear hK K
      try simp only [Act.put, List.setIfInBounds_toArray, List.set_cons_zero, List.set_cons_succ]
      have HX3 := Lib.hid hX
      clear hX
      refine wpAnyH_take (i := 7) (oi := { dst := some 37, op := Op.build 37 #[(0, Operand.tmp 31), (1, Operand.tmp 33), (2, Operand.const (Value.int IntKind.i64 1)), (3, Operand.const (Value.string { data := #[97] })), (4, Operand.tmp 34), (6, Operand.tmp 36)], type := 37, pos := "outright.go:177", after := #[{ on := 1, ground := Ground.data }, { on := 3, ground := Ground.data }, { on := 4, ground := Ground.data }, { on := 6, ground := Ground.data }], guard := none }) (v := ?v7zca) rfl (by kernel_rfl) (by kernel_rfl) (by kernel_rfl) (fun _ _ _ h => h) (Or.inl ⟨by rfl, ?hy7zca⟩) (by assumption) ?rest7zca
      case hy7zca => (intro V2 hSw; (try dsimp only at hSw); go_simp; all_goals (with_reducible rfl))
      try simp only [Act.put, List.setIfInBounds_toArray, List.set_cons_zero, List.set_cons_succ]
      refine wpAnyH_ready (rs := [9]) (by kernel_rfl) (by simp) ?_
      refine AllReadyH.cons (o := { dst := none, op := Op.store 37 (Operand.tmp 9) (Operand.tmp 37), type := 0, pos := "outright.go:177", after := #[{ on := 8, ground := Ground.data }, { on := 7, ground := Ground.data }, { on := 4, ground := Ground.chain }, { on := 0, ground := Ground.phase }, { on := 1, ground := Ground.phase }, { on := 2, ground := Ground.phase }, { on := 3, ground := Ground.phase }, { on := 4, ground := Ground.phase }, { on := 5, ground := Ground.phase }, { on := 6, ground := Ground.phase }, { on := 7, ground := Ground.phase }, { on := 8, ground := Ground.phase }], guard := none }) rfl (fun K hK => ?_) AllReadyH.nil
      have hX := HX3.out.swap
      have kI := hX.blk.1
      have p0 := kI.cell 0
      have f0 := kI.frozen 0
      have p1 := kI.cell 1
      have f1 := kI.frozen 1
      have p2 := kI.cell 2
      have f2 := kI.frozen 2
      have p3 := kI.cell 3
      have f3 := kI.frozen 3
      have p4 := kI.cell 4
      have f4 := kI.frozen 4
      have p5 := kI.cell 5
      have f5 := kI.frozen 5
      have p6 := kI.cell 6
      have f6 := kI.frozen 6
      have p7 := kI.cell 7
      have f7 := kI.frozen 7
      have p8 := kI.cell 8
      have f8 := kI.frozen 8
      simp at p0 p1 p2 p3 p4 p5 p6 p7 p8
      (try simp at f0 f1 f2 f3 f4 f5 f6 f7 f8)
      have hY := Has.all9 (v0 := .int .i64 x0) (v1 := .int .i64 x1) (v2 := .int .i64 1) (v3 := .string bA) (v4 := .int .i64 5) (v5 := .int .i64 0) (v6 := .int .i64 0) (v7 := .int .i64 0) (v8 := .slice (some ⟨u2.heap.size, 0, none⟩) 1 1) hX
      go_simp
      refine hK.out _ _ (hY.tail.tail) (fun hS => ?_)
      clear hK K
      try simp only [Act.put, List.setIfInBounds_toArray, List.set_cons_zero, List.set_cons_succ]
      have HX4 := Lib.hid hY
      clear hX hY kI
      refine wpAnyH_done (by kernel_rfl) ?_ _
      (try go_wp2_with fail)
      go_meet
      exact ⟨_, _, rfl, HX4⟩
    refine AllReadyH.cons (o := { dst := some 36, op := Op.buildSlice 35 1 #[(0, Operand.tmp 35)], type := 35, pos := "outright.go:177", after := #[{ on := 5, ground := Ground.data }], guard := none }) rfl (fun K hK => ?_) AllReadyH.nil
    go_simp
    have hX := HX1.out.newBlk 79 #[.int .i64 (1 + m), .string s, .bool false]
    (try simp only [World.size_alloc] at hX)
    refine hK.out _ _ (hX.tail.tail) (fun hS => ?_)
    clear hK K
    try simp only [Act.put, List.setIfInBounds_toArray, List.set_cons_zero, List.set_cons_succ]
    have HX2 := Lib.hid hX
    clear hX
    refine wpAnyH_ready (rs := [4]) (by kernel_rfl) (by simp) ?_
    refine AllReadyH.cons (o := { dst := some 34, op := Op.call { callee := Callee.value (Operand.func 34), args := #[Operand.const (Value.int IntKind.i64 5)], argTypes := #[3] }, type := 26, pos := "outright.go:177", after := #[], guard := none }) rfl (fun K hK => ?_) AllReadyH.nil
    go_simp
    refine (at_c 5 _).mono ?_
    rintro e u3 ⟨rfl, hbu⟩
    have hX := HX2.out.keep hbu
    refine hK.out _ _ (hX.tail.tail) (fun hS => ?_)
    clear hK K
    try simp only [Act.put, List.setIfInBounds_toArray, List.set_cons_zero, List.set_cons_succ]
    have HX3 := Lib.hid hX
    clear hX hbu
    refine wpAnyH_take (i := 7) (oi := { dst := some 37, op := Op.build 37 #[(0, Operand.tmp 31), (1, Operand.tmp 33), (2, Operand.const (Value.int IntKind.i64 1)), (3, Operand.const (Value.string { data := #[97] })), (4, Operand.tmp 34), (6, Operand.tmp 36)], type := 37, pos := "outright.go:177", after := #[{ on := 1, ground := Ground.data }, { on := 3, ground := Ground.data }, { on := 4, ground := Ground.data }, { on := 6, ground := Ground.data }], guard := none }) (v := ?v7zcb) rfl (by kernel_rfl) (by kernel_rfl) (by kernel_rfl) (fun _ _ _ h => h) (Or.inl ⟨by rfl, ?hy7zcb⟩) (by assumption) ?rest7zcb
    case hy7zcb => (intro V2 hSw; (try dsimp only at hSw); go_simp; all_goals (with_reducible rfl))
    try simp only [Act.put, List.setIfInBounds_toArray, List.set_cons_zero, List.set_cons_succ]
    refine wpAnyH_ready (rs := [9]) (by kernel_rfl) (by simp) ?_
    refine AllReadyH.cons (o := { dst := none, op := Op.store 37 (Operand.tmp 9) (Operand.tmp 37), type := 0, pos := "outright.go:177", after := #[{ on := 8, ground := Ground.data }, { on := 7, ground := Ground.data }, { on := 4, ground := Ground.chain }, { on := 0, ground := Ground.phase }, { on := 1, ground := Ground.phase }, { on := 2, ground := Ground.phase }, { on := 3, ground := Ground.phase }, { on := 4, ground := Ground.phase }, { on := 5, ground := Ground.phase }, { on := 6, ground := Ground.phase }, { on := 7, ground := Ground.phase }, { on := 8, ground := Ground.phase }], guard := none }) rfl (fun K hK => ?_) AllReadyH.nil
    have hX := HX3.out.swap
    have kI := hX.blk.1
    have p0 := kI.cell 0
    have f0 := kI.frozen 0
    have p1 := kI.cell 1
    have f1 := kI.frozen 1
    have p2 := kI.cell 2
    have f2 := kI.frozen 2
    have p3 := kI.cell 3
    have f3 := kI.frozen 3
    have p4 := kI.cell 4
    have f4 := kI.frozen 4
    have p5 := kI.cell 5
    have f5 := kI.frozen 5
    have p6 := kI.cell 6
    have f6 := kI.frozen 6
    have p7 := kI.cell 7
    have f7 := kI.frozen 7
    have p8 := kI.cell 8
    have f8 := kI.frozen 8
    simp at p0 p1 p2 p3 p4 p5 p6 p7 p8
    (try simp at f0 f1 f2 f3 f4 f5 f6 f7 f8)
    have hY := Has.all9 (v0 := .int .i64 x0) (v1 := .int .i64 x1) (v2 := .int .i64 1) (v3 := .string bA) (v4 := .int .i64 5) (v5 := .int .i64 0) (v6 := .int .i64 0) (v7 := .int .i64 0) (v8 := .slice (some ⟨w3.heap.size + 1, 0, none⟩) 1 1) hX
    go_simp
    refine hK.out _ _ (hY.tail.tail) (fun hS => ?_)
    clear hK K
    try simp only [Act.put, List.setIfInBounds_toArray, List.set_cons_zero, List.set_cons_succ]
    have HX4 := Lib.hid hY
    clear hX hY kI
    refine wpAnyH_done (by kernel_rfl) ?_ _
    (try go_wp2_with fail)
    go_meet
    exact ⟨_, _, rfl, HX4⟩
  case rest =>
    obtain ⟨gI, gS, rfl, HS⟩ := hcut
    have hI := HS.out.blk.1
    have p0 := hI.cell 0
    have p1 := hI.cell 1
    have p2 := hI.cell 2
    have p3 := hI.cell 3
    have p4 := hI.cell 4
    have p5 := hI.cell 5
    have p6 := hI.cell 6
    have p7 := hI.cell 7
    have p8 := hI.cell 8
    simp at p0 p1 p2 p3 p4 p5 p6 p7 p8
    have HCH := Lib.hid (ch_of_blk (HS.out.tail.blk.1))
    clear hI
    go_wp2_with fail
    refine (put_c (HS.out.perm (List.perm_middle (l₁ := [_, _]))) HRO.out (by decide) (thI (mineP ⟨x0, x1, x2, x3, x4, x5, x6, x7, x8, x9, x10, x11⟩ ⟨(1 + m), s, false⟩)) (some ⟨gS, 0, none⟩) 1 1 HCH.out (by decide) (TSz_I _)).mono ?_
    rintro e w5 ⟨qq, rfl, h5⟩
    have bt := h5.blkAt (g := w.heap.size) (t := 28) (cs := txc ⟨x0, x1, x2, x3, x4, x5, x6, x7, x8, x9, x10, x11⟩) (by simp)
    have t0 := bt.cell 0
    have t1 := bt.cell 1
    have t2 := bt.cell 2
    have t3 := bt.cell 3
    have t4 := bt.cell 4
    have t5 := bt.cell 5
    have t6 := bt.cell 6
    have t7 := bt.cell 7
    have t8 := bt.cell 8
    have t9 := bt.cell 9
    have t10 := bt.cell 10
    have t11 := bt.cell 11
    simp at t0 t1 t2 t3 t4 t5 t6 t7 t8 t9 t10 t11
    have HP := Lib.hid h5
    clear h5 bt HX0 HCH p0 p1 p2 p3 p4 p5 p6 p7 p8
    go_wp2_with fail
    by_cases hs64 : s.size ≤ 64
    · by_cases hrd : x4 = 0 ∧ x5 = 0
      · have hs64i : ¬ (64 : Int) < (s.size : Int) := by omega
        obtain ⟨rfl, rfl⟩ := hrd
        have HGET := Lib.hid (fun (T : List As) (W : World) (qq : Nat) (h : Has w (tbA qq (putP r (thI (mineP ⟨x0, x1, x2, x3, 0, 0, x6, x7, x8, x9, x10, x11⟩ ⟨(1 + m), s, false⟩))) :: T) W) => pkGet h (HRO.out.put (TSz_I (mineP ⟨x0, x1, x2, x3, 0, 0, x6, x7, x8, x9, x10, x11⟩ ⟨(1 + m), s, false⟩))) (by decide) hM bA (by decide) ⟨x0, x1, x2, x3, 0, 0, x6, x7, x8, x9, x10, x11⟩ 0 0)
        generalize pgetC (putP r (thI (mineP ⟨x0, x1, x2, x3, 0, 0, x6, x7, x8, x9, x10, x11⟩ ⟨(1 + m), s, false⟩))) bA ⟨x0, x1, x2, x3, 0, 0, x6, x7, x8, x9, x10, x11⟩ (0, 0) = ff at HGET
        obtain ⟨f, k⟩ := ff
        refine (HGET.out _ _ _ HP.out).mono ?_
        rintro e w6 ⟨⟨A9, n9, c9, rfl, -, -⟩, h6⟩
        have h7 := h6.newBlk 39 (fdc f (.slice A9 n9 c9))
        have bt := h7.blkAt (g := w.heap.size) (t := 28) (cs := txc ⟨x0, x1, x2, x3, 0, 0, x6, x7, x8, x9, x10, x11⟩) (by simp)
        have bc := h7.blkAt (g := w.heap.size + 1) (t := 79) (cs := #[.int .i64 (1 + m), .string s, .bool false]) (by simp)
        have t4 := bt.cell 4
        have t5 := bt.cell 5
        have c1 := bc.cell 1
        simp at t4 t5 c1
        have HF := Lib.hid (Has.pick2 h7)
        clear h6 h7 bt bc
        go_wp2_with fail
        refine (lawAwake _ (hM.below HF.out.bel)).mono ?_
        rintro e w8 ⟨rfl, hb8⟩
        have hfin := (HF.out.keep hb8).bel
        clear hb8
        go_wp2_with fail
        go_ret
        exact ⟨rfl, hfin⟩
      · by_cases h4 : x4 = 0
        · have hs64i : ¬ (64 : Int) < (s.size : Int) := by omega
          subst h4
          have hn5 : (x5 == 0) = false := by simpa using hrd
          have HPG := put_mine HRO.out HMX.out (show 1 ≤ 1 + m by omega) (by omega) (s := s) (d := false) (by first | exact hs64 | decide) (by first | (intro hd; cases hd) | (intro _; rfl)) (read_pos HMX.out hrd)
          have HGET := Lib.hid (fun (T : List As) (W : World) (qq : Nat) (h : Has w (tbA qq (putP r (thI (mineP ⟨x0, x1, x2, x3, 0, x5, x6, x7, x8, x9, x10, x11⟩ ⟨(1 + m), s, false⟩))) :: T) W) => pkGet h (HRO.out.put (TSz_I (mineP ⟨x0, x1, x2, x3, 0, x5, x6, x7, x8, x9, x10, x11⟩ ⟨(1 + m), s, false⟩))) (by decide) hM bA (by decide) ⟨x0, x1, x2, x3, 0, x5, x6, x7, x8, x9, x10, x11⟩ 0 0)
          rw [HPG] at HGET
          clear HPG
          refine (HGET.out _ _ _ HP.out).mono ?_
          rintro e w6 ⟨⟨A9, n9, c9, rfl, -, -⟩, h6⟩
          have h7 := h6.newBlk 39 (fdc ⟨bA, s, true, true, 5, 0, zI⟩ (.slice A9 n9 c9))
          have bt := h7.blkAt (g := w.heap.size) (t := 28) (cs := txc ⟨x0, x1, x2, x3, 0, x5, x6, x7, x8, x9, x10, x11⟩) (by simp)
          have bc := h7.blkAt (g := w.heap.size + 1) (t := 79) (cs := #[.int .i64 (1 + m), .string s, .bool false]) (by simp)
          have t4 := bt.cell 4
          have t5 := bt.cell 5
          have c1 := bc.cell 1
          simp at t4 t5 c1
          have HF := Lib.hid (Has.pick2 h7)
          clear h6 h7 bt bc
          go_upto_region 12 with fail
          have LC := Lib.hid (fun V (hV : Has w (blkA w6.heap.size 39 (fdc ⟨bA, s, true, true, 5, 0, zI⟩ (.slice A9 n9 c9)) :: blkA (w.heap.size + 1) 79 #[.int .i64 (1 + m), .string s, .bool false] :: []) V) => (show V.cell? ⟨w6.heap.size, 1, none⟩ = some (.string s) ∧ V.cell? ⟨w6.heap.size, 2, none⟩ = some (.bool true) ∧ V.cell? ⟨w6.heap.size, 3, none⟩ = some (.bool true) ∧ V.cell? ⟨w6.heap.size, 4, none⟩ = some (.int .i64 5) ∧ V.cell? ⟨w6.heap.size, 5, none⟩ = some (.int .i64 0) ∧ V.cell? ⟨w.heap.size + 1, 1, none⟩ = some (.string s) ∧ V.cell? ⟨w.heap.size + 1, 2, none⟩ = some (.bool false) from by
            have k1 := hV.blkAt (g := w6.heap.size) (t := 39) (cs := fdc ⟨bA, s, true, true, 5, 0, zI⟩ (.slice A9 n9 c9)) (by simp)
            have k2 := hV.blkAt (g := w.heap.size + 1) (t := 79) (cs := #[.int .i64 (1 + m), .string s, .bool false]) (by simp)
            exact ⟨k1.cell 1, k1.cell 2, k1.cell 3, k1.cell 4, k1.cell 5, k2.cell 1, k2.cell 2⟩))
          refine wp_region_held_drew (S := Has w (blkA w6.heap.size 39 (fdc ⟨bA, s, true, true, 5, 0, zI⟩ (.slice A9 n9 c9)) :: blkA (w.heap.size + 1) 79 #[.int .i64 (1 + m), .string s, .bool false] :: [])) hmix (HF.out.drew) (fun hS => ?_)
          simp only [List.size_toArray, List.length_cons, List.length_nil, Nat.reduceAdd, Array.replicate_succ, Array.replicate_zero]
          refine wpAnyH_take (i := 0) (oi := { dst := some 60, op := Op.move (Operand.tmp 12), type := 40, pos := "outright.go:183", after := #[], guard := none }) (v := ?v0uf) rfl (by kernel_rfl) (by kernel_rfl) (by kernel_rfl) (fun _ _ _ h => h) (Or.inl ⟨by rfl, ?hy0uf⟩) (by assumption) ?rest0uf
          case hy0uf => (intro V2 hSw; (try dsimp only at hSw); go_simp; all_goals (with_reducible rfl))
          try simp only [Act.put, List.setIfInBounds_toArray, List.set_cons_zero, List.set_cons_succ]
          refine wpAnyH_take (i := 1) (oi := { dst := some 61, op := Op.binOp BinOp.eql 40 (Operand.tmp 60) (Operand.const (Value.int IntKind.i64 0)) 40, type := 4, pos := "outright.go:183", after := #[{ on := 0, ground := Ground.data }], guard := none }) (v := .bool true) rfl (by kernel_rfl) (by kernel_rfl) (by kernel_rfl) (fun _ _ _ h => h) (Or.inl ⟨by rfl, ?hy1uf⟩) (by assumption) ?rest1uf
          case hy1uf => (intro V2 hSw; (try dsimp only at hSw); go_simp; all_goals (with_reducible rfl))
          try simp only [Act.put, List.setIfInBounds_toArray, List.set_cons_zero, List.set_cons_succ]
          refine wpAnyH_take (i := 2) (oi := { dst := some 62, op := Op.move (Operand.tmp 61), type := 4, pos := "outright.go:183", after := #[{ on := 1, ground := Ground.data }], guard := none }) (v := ?v2uf) rfl (by kernel_rfl) (by kernel_rfl) (by kernel_rfl) (fun _ _ _ h => h) (Or.inl ⟨by rfl, ?hy2uf⟩) (by assumption) ?rest2uf
          case hy2uf => (intro V2 hSw; (try dsimp only at hSw); go_simp; all_goals (with_reducible rfl))
          try simp only [Act.put, List.setIfInBounds_toArray, List.set_cons_zero, List.set_cons_succ]
          refine wpAnyH_take (i := 3) (oi := { dst := some 63, op := Op.fieldAddr 39 (Operand.tmp 11) 3, type := 0, pos := "outright.go:183", after := #[{ on := 2, ground := Ground.guard }], guard := some (2, true) }) (v := ?v3uf) rfl (by kernel_rfl) (by kernel_rfl) (by kernel_rfl) (fun _ _ _ h => h) (Or.inl ⟨by rfl, ?hy3uf⟩) (by assumption) ?rest3uf
          case hy3uf => (intro V2 hSw; (try dsimp only at hSw); go_simp; all_goals (with_reducible rfl))
          try simp only [Act.put, List.setIfInBounds_toArray, List.set_cons_zero, List.set_cons_succ]
          refine wpAnyH_take (i := 4) (oi := { dst := some 64, op := Op.load 4 (Operand.tmp 63), type := 4, pos := "outright.go:183", after := #[{ on := 3, ground := Ground.data }, { on := 2, ground := Ground.guard }], guard := some (2, true) }) (v := ?v4uf) rfl (by kernel_rfl) (by kernel_rfl) (by kernel_rfl) (fun _ _ _ h => h) (Or.inl ⟨by rfl, ?hy4uf⟩) (by assumption) ?rest4uf
          case hy4uf => (intro V2 hSw; (try dsimp only at hSw); obtain ⟨z1, z2, z3, z4, z5, z6, z7⟩ := LC.out V2 hSw; go_simp; all_goals (with_reducible rfl))
          try simp only [Act.put, List.setIfInBounds_toArray, List.set_cons_zero, List.set_cons_succ]
          refine wpAnyH_take (i := 5) (oi := { dst := some 65, op := Op.pick (Operand.tmp 62) (Operand.tmp 64) (Operand.const (Value.bool false)), type := 4, pos := "outright.go:183", after := #[{ on := 2, ground := Ground.data }, { on := 4, ground := Ground.data }], guard := none }) (v := .bool true) rfl (by kernel_rfl) (by kernel_rfl) (by kernel_rfl) (fun _ _ _ h => h) (Or.inl ⟨by rfl, ?hy5uf⟩) (by assumption) ?rest5uf
          case hy5uf => (intro V2 hSw; (try dsimp only at hSw); go_simp; all_goals (with_reducible rfl))
          try simp only [Act.put, List.setIfInBounds_toArray, List.set_cons_zero, List.set_cons_succ]
          refine wpAnyH_take (i := 6) (oi := { dst := some 66, op := Op.move (Operand.tmp 65), type := 4, pos := "outright.go:183", after := #[{ on := 5, ground := Ground.data }, { on := 2, ground := Ground.chain }], guard := none }) (v := ?v6uf) rfl (by kernel_rfl) (by kernel_rfl) (by kernel_rfl) (fun _ _ _ h => h) (Or.inl ⟨by rfl, ?hy6uf⟩) (by assumption) ?rest6uf
          case hy6uf => (intro V2 hSw; (try dsimp only at hSw); go_simp; all_goals (with_reducible rfl))
          try simp only [Act.put, List.setIfInBounds_toArray, List.set_cons_zero, List.set_cons_succ]
          refine wpAnyH_take (i := 7) (oi := { dst := some 67, op := Op.fieldAddr 39 (Operand.tmp 11) 2, type := 0, pos := "outright.go:183", after := #[{ on := 6, ground := Ground.guard }], guard := some (6, true) }) (v := ?v7uf) rfl (by kernel_rfl) (by kernel_rfl) (by kernel_rfl) (fun _ _ _ h => h) (Or.inl ⟨by rfl, ?hy7uf⟩) (by assumption) ?rest7uf
          case hy7uf => (intro V2 hSw; (try dsimp only at hSw); go_simp; all_goals (with_reducible rfl))
          try simp only [Act.put, List.setIfInBounds_toArray, List.set_cons_zero, List.set_cons_succ]
          refine wpAnyH_take (i := 8) (oi := { dst := some 68, op := Op.load 4 (Operand.tmp 67), type := 4, pos := "outright.go:183", after := #[{ on := 7, ground := Ground.data }, { on := 6, ground := Ground.guard }], guard := some (6, true) }) (v := ?v8uf) rfl (by kernel_rfl) (by kernel_rfl) (by kernel_rfl) (fun _ _ _ h => h) (Or.inl ⟨by rfl, ?hy8uf⟩) (by assumption) ?rest8uf
          case hy8uf => (intro V2 hSw; (try dsimp only at hSw); obtain ⟨z1, z2, z3, z4, z5, z6, z7⟩ := LC.out V2 hSw; go_simp; all_goals (with_reducible rfl))
          try simp only [Act.put, List.setIfInBounds_toArray, List.set_cons_zero, List.set_cons_succ]
          refine wpAnyH_take (i := 9) (oi := { dst := some 69, op := Op.fieldAddr 79 (Operand.tmp 5) 2, type := 0, pos := "outright.go:183", after := #[{ on := 6, ground := Ground.guard }], guard := some (6, true) }) (v := ?v9uf) rfl (by kernel_rfl) (by kernel_rfl) (by kernel_rfl) (fun _ _ _ h => h) (Or.inl ⟨by rfl, ?hy9uf⟩) (by assumption) ?rest9uf
          case hy9uf => (intro V2 hSw; (try dsimp only at hSw); go_simp; all_goals (with_reducible rfl))
          try simp only [Act.put, List.setIfInBounds_toArray, List.set_cons_zero, List.set_cons_succ]
          refine wpAnyH_take (i := 10) (oi := { dst := some 70, op := Op.load 4 (Operand.tmp 69), type := 4, pos := "outright.go:183", after := #[{ on := 9, ground := Ground.data }, { on := 6, ground := Ground.guard }], guard := some (6, true) }) (v := ?v10uf) rfl (by kernel_rfl) (by kernel_rfl) (by kernel_rfl) (fun _ _ _ h => h) (Or.inl ⟨by rfl, ?hy10uf⟩) (by assumption) ?rest10uf
          case hy10uf => (intro V2 hSw; (try dsimp only at hSw); obtain ⟨z1, z2, z3, z4, z5, z6, z7⟩ := LC.out V2 hSw; go_simp; all_goals (with_reducible rfl))
          try simp only [Act.put, List.setIfInBounds_toArray, List.set_cons_zero, List.set_cons_succ]
          refine wpAnyH_take (i := 11) (oi := { dst := some 71, op := Op.unOp UnOp.not 4 (Operand.tmp 70), type := 4, pos := "outright.go:183", after := #[{ on := 10, ground := Ground.data }, { on := 6, ground := Ground.guard }], guard := some (6, true) }) (v := ?v11uf) rfl (by kernel_rfl) (by kernel_rfl) (by kernel_rfl) (fun _ _ _ h => h) (Or.inl ⟨by rfl, ?hy11uf⟩) (by assumption) ?rest11uf
          case hy11uf => (intro V2 hSw; (try dsimp only at hSw); go_simp; all_goals (with_reducible rfl))
          try simp only [Act.put, List.setIfInBounds_toArray, List.set_cons_zero, List.set_cons_succ]
          refine wpAnyH_take (i := 12) (oi := { dst := some 72, op := Op.binOp BinOp.eql 4 (Operand.tmp 68) (Operand.tmp 71) 4, type := 4, pos := "outright.go:183", after := #[{ on := 8, ground := Ground.data }, { on := 11, ground := Ground.data }, { on := 6, ground := Ground.guard }], guard := some (6, true) }) (v := .bool true) rfl (by kernel_rfl) (by kernel_rfl) (by kernel_rfl) (fun _ _ _ h => h) (Or.inl ⟨by rfl, ?hy12uf⟩) (by assumption) ?rest12uf
          case hy12uf => (intro V2 hSw; (try dsimp only at hSw); go_simp; all_goals (with_reducible rfl))
          try simp only [Act.put, List.setIfInBounds_toArray, List.set_cons_zero, List.set_cons_succ]
          refine wpAnyH_take (i := 13) (oi := { dst := some 73, op := Op.pick (Operand.tmp 66) (Operand.tmp 72) (Operand.const (Value.bool false)), type := 4, pos := "outright.go:183", after := #[{ on := 6, ground := Ground.data }, { on := 12, ground := Ground.data }], guard := none }) (v := .bool true) rfl (by kernel_rfl) (by kernel_rfl) (by kernel_rfl) (fun _ _ _ h => h) (Or.inl ⟨by rfl, ?hy13uf⟩) (by assumption) ?rest13uf
          case hy13uf => (intro V2 hSw; (try dsimp only at hSw); go_simp; all_goals (with_reducible rfl))
          try simp only [Act.put, List.setIfInBounds_toArray, List.set_cons_zero, List.set_cons_succ]
          refine wpAnyH_take (i := 14) (oi := { dst := some 74, op := Op.move (Operand.tmp 73), type := 4, pos := "outright.go:183", after := #[{ on := 13, ground := Ground.data }, { on := 6, ground := Ground.chain }], guard := none }) (v := ?v14uf) rfl (by kernel_rfl) (by kernel_rfl) (by kernel_rfl) (fun _ _ _ h => h) (Or.inl ⟨by rfl, ?hy14uf⟩) (by assumption) ?rest14uf
          case hy14uf => (intro V2 hSw; (try dsimp only at hSw); go_simp; all_goals (with_reducible rfl))
          try simp only [Act.put, List.setIfInBounds_toArray, List.set_cons_zero, List.set_cons_succ]
          refine wpAnyH_take (i := 15) (oi := { dst := some 75, op := Op.fieldAddr 39 (Operand.tmp 11) 1, type := 0, pos := "outright.go:183", after := #[{ on := 14, ground := Ground.guard }], guard := some (14, true) }) (v := ?v15uf) rfl (by kernel_rfl) (by kernel_rfl) (by kernel_rfl) (fun _ _ _ h => h) (Or.inl ⟨by rfl, ?hy15uf⟩) (by assumption) ?rest15uf
          case hy15uf => (intro V2 hSw; (try dsimp only at hSw); go_simp; all_goals (with_reducible rfl))
          try simp only [Act.put, List.setIfInBounds_toArray, List.set_cons_zero, List.set_cons_succ]
          refine wpAnyH_take (i := 16) (oi := { dst := some 76, op := Op.load 9 (Operand.tmp 75), type := 9, pos := "outright.go:183", after := #[{ on := 15, ground := Ground.data }, { on := 14, ground := Ground.guard }], guard := some (14, true) }) (v := ?v16uf) rfl (by kernel_rfl) (by kernel_rfl) (by kernel_rfl) (fun _ _ _ h => h) (Or.inl ⟨by rfl, ?hy16uf⟩) (by assumption) ?rest16uf
          case hy16uf => (intro V2 hSw; (try dsimp only at hSw); obtain ⟨z1, z2, z3, z4, z5, z6, z7⟩ := LC.out V2 hSw; go_simp; all_goals (with_reducible rfl))
          try simp only [Act.put, List.setIfInBounds_toArray, List.set_cons_zero, List.set_cons_succ]
          refine wpAnyH_take (i := 17) (oi := { dst := some 77, op := Op.fieldAddr 79 (Operand.tmp 5) 1, type := 0, pos := "outright.go:183", after := #[{ on := 14, ground := Ground.guard }], guard := some (14, true) }) (v := ?v17uf) rfl (by kernel_rfl) (by kernel_rfl) (by kernel_rfl) (fun _ _ _ h => h) (Or.inl ⟨by rfl, ?hy17uf⟩) (by assumption) ?rest17uf
          case hy17uf => (intro V2 hSw; (try dsimp only at hSw); go_simp; all_goals (with_reducible rfl))
          try simp only [Act.put, List.setIfInBounds_toArray, List.set_cons_zero, List.set_cons_succ]
          refine wpAnyH_take (i := 18) (oi := { dst := some 78, op := Op.load 9 (Operand.tmp 77), type := 9, pos := "outright.go:183", after := #[{ on := 17, ground := Ground.data }, { on := 14, ground := Ground.guard }], guard := some (14, true) }) (v := ?v18uf) rfl (by kernel_rfl) (by kernel_rfl) (by kernel_rfl) (fun _ _ _ h => h) (Or.inl ⟨by rfl, ?hy18uf⟩) (by assumption) ?rest18uf
          case hy18uf => (intro V2 hSw; (try dsimp only at hSw); obtain ⟨z1, z2, z3, z4, z5, z6, z7⟩ := LC.out V2 hSw; go_simp; all_goals (with_reducible rfl))
          try simp only [Act.put, List.setIfInBounds_toArray, List.set_cons_zero, List.set_cons_succ]
          refine wpAnyH_take (i := 19) (oi := { dst := some 79, op := Op.binOp BinOp.eql 9 (Operand.tmp 76) (Operand.tmp 78) 9, type := 4, pos := "outright.go:183", after := #[{ on := 16, ground := Ground.data }, { on := 18, ground := Ground.data }, { on := 14, ground := Ground.guard }], guard := some (14, true) }) (v := .bool true) rfl (by kernel_rfl) (by kernel_rfl) (by kernel_rfl) (fun _ _ _ h => h) (Or.inl ⟨by rfl, ?hy19uf⟩) (by assumption) ?rest19uf
          case hy19uf => (intro V2 hSw; (try dsimp only at hSw); go_simp; all_goals (with_reducible rfl))
          try simp only [Act.put, List.setIfInBounds_toArray, List.set_cons_zero, List.set_cons_succ]
          refine wpAnyH_take (i := 20) (oi := { dst := some 80, op := Op.pick (Operand.tmp 74) (Operand.tmp 79) (Operand.const (Value.bool false)), type := 4, pos := "outright.go:183", after := #[{ on := 14, ground := Ground.data }, { on := 19, ground := Ground.data }], guard := none }) (v := .bool true) rfl (by kernel_rfl) (by kernel_rfl) (by kernel_rfl) (fun _ _ _ h => h) (Or.inl ⟨by rfl, ?hy20uf⟩) (by assumption) ?rest20uf
          case hy20uf => (intro V2 hSw; (try dsimp only at hSw); go_simp; all_goals (with_reducible rfl))
          try simp only [Act.put, List.setIfInBounds_toArray, List.set_cons_zero, List.set_cons_succ]
          refine wpAnyH_take (i := 21) (oi := { dst := some 81, op := Op.move (Operand.tmp 80), type := 4, pos := "outright.go:183", after := #[{ on := 20, ground := Ground.data }, { on := 14, ground := Ground.chain }], guard := none }) (v := ?v21uf) rfl (by kernel_rfl) (by kernel_rfl) (by kernel_rfl) (fun _ _ _ h => h) (Or.inl ⟨by rfl, ?hy21uf⟩) (by assumption) ?rest21uf
          case hy21uf => (intro V2 hSw; (try dsimp only at hSw); go_simp; all_goals (with_reducible rfl))
          try simp only [Act.put, List.setIfInBounds_toArray, List.set_cons_zero, List.set_cons_succ]
          refine wpAnyH_take (i := 22) (oi := { dst := some 82, op := Op.fieldAddr 39 (Operand.tmp 11) 4, type := 0, pos := "outright.go:183", after := #[{ on := 21, ground := Ground.guard }], guard := some (21, true) }) (v := ?v22uf) rfl (by kernel_rfl) (by kernel_rfl) (by kernel_rfl) (fun _ _ _ h => h) (Or.inl ⟨by rfl, ?hy22uf⟩) (by assumption) ?rest22uf
          case hy22uf => (intro V2 hSw; (try dsimp only at hSw); go_simp; all_goals (with_reducible rfl))
          try simp only [Act.put, List.setIfInBounds_toArray, List.set_cons_zero, List.set_cons_succ]
          refine wpAnyH_take (i := 23) (oi := { dst := some 83, op := Op.load 26 (Operand.tmp 82), type := 26, pos := "outright.go:183", after := #[{ on := 22, ground := Ground.data }, { on := 21, ground := Ground.guard }], guard := some (21, true) }) (v := ?v23uf) rfl (by kernel_rfl) (by kernel_rfl) (by kernel_rfl) (fun _ _ _ h => h) (Or.inl ⟨by rfl, ?hy23uf⟩) (by assumption) ?rest23uf
          case hy23uf => (intro V2 hSw; (try dsimp only at hSw); obtain ⟨z1, z2, z3, z4, z5, z6, z7⟩ := LC.out V2 hSw; go_simp; all_goals (with_reducible rfl))
          try simp only [Act.put, List.setIfInBounds_toArray, List.set_cons_zero, List.set_cons_succ]
          refine wpAnyH_ready (rs := [24]) (by kernel_rfl) (by simp) ?_
          refine AllReadyH.cons (o := { dst := some 84, op := Op.call { callee := Callee.value (Operand.func 34), args := #[Operand.const (Value.int IntKind.i64 5)], argTypes := #[3] }, type := 26, pos := "outright.go:183", after := #[{ on := 21, ground := Ground.chain }, { on := 21, ground := Ground.guard }], guard := some (21, true) }) rfl (fun K hK => ?_) AllReadyH.nil
          go_simp
          refine (at_c 5 _).mono ?_
          rintro e u6 ⟨rfl, hbu6⟩
          refine hK.out _ _ (hS.keep hbu6) (fun hS => ?_)
          clear hK K
          try simp only [Act.put, List.setIfInBounds_toArray, List.set_cons_zero, List.set_cons_succ]
          refine wpAnyH_take (i := 25) (oi := { dst := some 85, op := Op.binOp BinOp.eql 26 (Operand.tmp 83) (Operand.tmp 84) 26, type := 4, pos := "outright.go:183", after := #[{ on := 23, ground := Ground.data }, { on := 24, ground := Ground.data }, { on := 21, ground := Ground.guard }], guard := some (21, true) }) (v := .bool true) rfl (by kernel_rfl) (by kernel_rfl) (by kernel_rfl) (fun _ _ _ h => h) (Or.inl ⟨by rfl, ?hy25uf⟩) (by assumption) ?rest25uf
          case hy25uf => (intro V2 hSw; (try dsimp only at hSw); go_simp; all_goals (with_reducible rfl))
          try simp only [Act.put, List.setIfInBounds_toArray, List.set_cons_zero, List.set_cons_succ]
          refine wpAnyH_take (i := 26) (oi := { dst := some 86, op := Op.pick (Operand.tmp 81) (Operand.tmp 85) (Operand.const (Value.bool false)), type := 4, pos := "outright.go:183", after := #[{ on := 21, ground := Ground.data }, { on := 25, ground := Ground.data }], guard := none }) (v := .bool true) rfl (by kernel_rfl) (by kernel_rfl) (by kernel_rfl) (fun _ _ _ h => h) (Or.inl ⟨by rfl, ?hy26uf⟩) (by assumption) ?rest26uf
          case hy26uf => (intro V2 hSw; (try dsimp only at hSw); go_simp; all_goals (with_reducible rfl))
          try simp only [Act.put, List.setIfInBounds_toArray, List.set_cons_zero, List.set_cons_succ]
          refine wpAnyH_take (i := 27) (oi := { dst := some 87, op := Op.move (Operand.tmp 86), type := 4, pos := "outright.go:183", after := #[{ on := 26, ground := Ground.data }, { on := 24, ground := Ground.chain }], guard := none }) (v := ?v27uf) rfl (by kernel_rfl) (by kernel_rfl) (by kernel_rfl) (fun _ _ _ h => h) (Or.inl ⟨by rfl, ?hy27uf⟩) (by assumption) ?rest27uf
          case hy27uf => (intro V2 hSw; (try dsimp only at hSw); go_simp; all_goals (with_reducible rfl))
          try simp only [Act.put, List.setIfInBounds_toArray, List.set_cons_zero, List.set_cons_succ]
          refine wpAnyH_ready (rs := [28]) (by kernel_rfl) (by simp) ?_
          refine AllReadyH.cons (o := { dst := some 88, op := Op.call { callee := Callee.value (Operand.func 24), args := #[], argTypes := #[] }, type := 4, pos := "outright.go:183", after := #[{ on := 27, ground := Ground.chain }, { on := 27, ground := Ground.guard }], guard := some (27, true) }) rfl (fun K hK => ?_) AllReadyH.nil
          go_simp
          refine (lawAwake _ (hM.below hS.bel)).mono ?_
          rintro e u7 ⟨rfl, hbu7⟩
          refine hK.out _ _ (hS.keep hbu7) (fun hS => ?_)
          clear hK K
          try simp only [Act.put, List.setIfInBounds_toArray, List.set_cons_zero, List.set_cons_succ]
          refine wpAnyH_take (i := 29) (oi := { dst := some 89, op := Op.pick (Operand.tmp 87) (Operand.tmp 88) (Operand.const (Value.bool false)), type := 4, pos := "outright.go:183", after := #[{ on := 27, ground := Ground.data }, { on := 28, ground := Ground.data }], guard := none }) (v := .bool true) rfl (by kernel_rfl) (by kernel_rfl) (by kernel_rfl) (fun _ _ _ h => h) (Or.inl ⟨by rfl, ?hy29uf⟩) (by assumption) ?rest29uf
          case hy29uf => (intro V2 hSw; (try dsimp only at hSw); go_simp; all_goals (with_reducible rfl))
          try simp only [Act.put, List.setIfInBounds_toArray, List.set_cons_zero, List.set_cons_succ]
          refine wpAnyH_take (i := 30) (oi := { dst := some 6, op := Op.assign (Operand.tmp 89), type := 4, pos := "outright.go:183", after := #[{ on := 29, ground := Ground.data }, { on := 28, ground := Ground.chain }, { on := 0, ground := Ground.phase }, { on := 1, ground := Ground.phase }, { on := 2, ground := Ground.phase }, { on := 3, ground := Ground.phase }, { on := 4, ground := Ground.phase }, { on := 5, ground := Ground.phase }, { on := 6, ground := Ground.phase }, { on := 7, ground := Ground.phase }, { on := 8, ground := Ground.phase }, { on := 9, ground := Ground.phase }, { on := 10, ground := Ground.phase }, { on := 11, ground := Ground.phase }, { on := 12, ground := Ground.phase }, { on := 13, ground := Ground.phase }, { on := 14, ground := Ground.phase }, { on := 15, ground := Ground.phase }, { on := 16, ground := Ground.phase }, { on := 17, ground := Ground.phase }, { on := 18, ground := Ground.phase }, { on := 19, ground := Ground.phase }, { on := 20, ground := Ground.phase }, { on := 21, ground := Ground.phase }, { on := 22, ground := Ground.phase }, { on := 23, ground := Ground.phase }, { on := 24, ground := Ground.phase }, { on := 25, ground := Ground.phase }, { on := 26, ground := Ground.phase }, { on := 27, ground := Ground.phase }, { on := 28, ground := Ground.phase }, { on := 29, ground := Ground.phase }], guard := none }) (v := ?v30uf) rfl (by kernel_rfl) (by kernel_rfl) (by kernel_rfl) (fun _ _ _ h => h) (Or.inl ⟨by rfl, ?hy30uf⟩) (by assumption) ?rest30uf
          case hy30uf => (intro V2 hSw; (try dsimp only at hSw); go_simp; all_goals (with_reducible rfl))
          try simp only [Act.put, List.setIfInBounds_toArray, List.set_cons_zero, List.set_cons_succ]
          refine wpAnyH_done (by kernel_rfl) ?_ _
          have hfin := hS.bel
          go_wp2_with fail
          go_ret
          exact ⟨rfl, hfin⟩
        · have hs64i : ¬ (64 : Int) < (s.size : Int) := by omega
          have hn4 : (x4 == 0) = false := by simpa using h4
          have HPG := put_mine HRO.out HMX.out (show 1 ≤ 1 + m by omega) (by omega) (s := s) (d := false) (by first | exact hs64 | decide) (by first | (intro hd; cases hd) | (intro _; rfl)) (read_pos HMX.out hrd)
          have HGET := Lib.hid (fun (T : List As) (W : World) (qq : Nat) (h : Has w (tbA qq (putP r (thI (mineP ⟨x0, x1, x2, x3, x4, x5, x6, x7, x8, x9, x10, x11⟩ ⟨(1 + m), s, false⟩))) :: T) W) => pkGet h (HRO.out.put (TSz_I (mineP ⟨x0, x1, x2, x3, x4, x5, x6, x7, x8, x9, x10, x11⟩ ⟨(1 + m), s, false⟩))) (by decide) hM bA (by decide) ⟨x0, x1, x2, x3, x4, x5, x6, x7, x8, x9, x10, x11⟩ 0 0)
          rw [HPG] at HGET
          clear HPG
          refine (HGET.out _ _ _ HP.out).mono ?_
          rintro e w6 ⟨⟨A9, n9, c9, rfl, -, -⟩, h6⟩
          have h7 := h6.newBlk 39 (fdc ⟨bA, s, true, true, 5, 0, zI⟩ (.slice A9 n9 c9))
          have bt := h7.blkAt (g := w.heap.size) (t := 28) (cs := txc ⟨x0, x1, x2, x3, x4, x5, x6, x7, x8, x9, x10, x11⟩) (by simp)
          have bc := h7.blkAt (g := w.heap.size + 1) (t := 79) (cs := #[.int .i64 (1 + m), .string s, .bool false]) (by simp)
          have t4 := bt.cell 4
          have t5 := bt.cell 5
          have c1 := bc.cell 1
          simp at t4 t5 c1
          have HF := Lib.hid (Has.pick2 h7)
          clear h6 h7 bt bc
          go_upto_region 12 with fail
          have LC := Lib.hid (fun V (hV : Has w (blkA w6.heap.size 39 (fdc ⟨bA, s, true, true, 5, 0, zI⟩ (.slice A9 n9 c9)) :: blkA (w.heap.size + 1) 79 #[.int .i64 (1 + m), .string s, .bool false] :: []) V) => (show V.cell? ⟨w6.heap.size, 1, none⟩ = some (.string s) ∧ V.cell? ⟨w6.heap.size, 2, none⟩ = some (.bool true) ∧ V.cell? ⟨w6.heap.size, 3, none⟩ = some (.bool true) ∧ V.cell? ⟨w6.heap.size, 4, none⟩ = some (.int .i64 5) ∧ V.cell? ⟨w6.heap.size, 5, none⟩ = some (.int .i64 0) ∧ V.cell? ⟨w.heap.size + 1, 1, none⟩ = some (.string s) ∧ V.cell? ⟨w.heap.size + 1, 2, none⟩ = some (.bool false) from by
            have k1 := hV.blkAt (g := w6.heap.size) (t := 39) (cs := fdc ⟨bA, s, true, true, 5, 0, zI⟩ (.slice A9 n9 c9)) (by simp)
            have k2 := hV.blkAt (g := w.heap.size + 1) (t := 79) (cs := #[.int .i64 (1 + m), .string s, .bool false]) (by simp)
            exact ⟨k1.cell 1, k1.cell 2, k1.cell 3, k1.cell 4, k1.cell 5, k2.cell 1, k2.cell 2⟩))
          refine wp_region_held_drew (S := Has w (blkA w6.heap.size 39 (fdc ⟨bA, s, true, true, 5, 0, zI⟩ (.slice A9 n9 c9)) :: blkA (w.heap.size + 1) 79 #[.int .i64 (1 + m), .string s, .bool false] :: [])) hmix (HF.out.drew) (fun hS => ?_)
          simp only [List.size_toArray, List.length_cons, List.length_nil, Nat.reduceAdd, Array.replicate_succ, Array.replicate_zero]
          refine wpAnyH_take (i := 0) (oi := { dst := some 60, op := Op.move (Operand.tmp 12), type := 40, pos := "outright.go:183", after := #[], guard := none }) (v := ?v0yf) rfl (by kernel_rfl) (by kernel_rfl) (by kernel_rfl) (fun _ _ _ h => h) (Or.inl ⟨by rfl, ?hy0yf⟩) (by assumption) ?rest0yf
          case hy0yf => (intro V2 hSw; (try dsimp only at hSw); go_simp; all_goals (with_reducible rfl))
          try simp only [Act.put, List.setIfInBounds_toArray, List.set_cons_zero, List.set_cons_succ]
          refine wpAnyH_take (i := 1) (oi := { dst := some 61, op := Op.binOp BinOp.eql 40 (Operand.tmp 60) (Operand.const (Value.int IntKind.i64 0)) 40, type := 4, pos := "outright.go:183", after := #[{ on := 0, ground := Ground.data }], guard := none }) (v := .bool true) rfl (by kernel_rfl) (by kernel_rfl) (by kernel_rfl) (fun _ _ _ h => h) (Or.inl ⟨by rfl, ?hy1yf⟩) (by assumption) ?rest1yf
          case hy1yf => (intro V2 hSw; (try dsimp only at hSw); go_simp; all_goals (with_reducible rfl))
          try simp only [Act.put, List.setIfInBounds_toArray, List.set_cons_zero, List.set_cons_succ]
          refine wpAnyH_take (i := 2) (oi := { dst := some 62, op := Op.move (Operand.tmp 61), type := 4, pos := "outright.go:183", after := #[{ on := 1, ground := Ground.data }], guard := none }) (v := ?v2yf) rfl (by kernel_rfl) (by kernel_rfl) (by kernel_rfl) (fun _ _ _ h => h) (Or.inl ⟨by rfl, ?hy2yf⟩) (by assumption) ?rest2yf
          case hy2yf => (intro V2 hSw; (try dsimp only at hSw); go_simp; all_goals (with_reducible rfl))
          try simp only [Act.put, List.setIfInBounds_toArray, List.set_cons_zero, List.set_cons_succ]
          refine wpAnyH_take (i := 3) (oi := { dst := some 63, op := Op.fieldAddr 39 (Operand.tmp 11) 3, type := 0, pos := "outright.go:183", after := #[{ on := 2, ground := Ground.guard }], guard := some (2, true) }) (v := ?v3yf) rfl (by kernel_rfl) (by kernel_rfl) (by kernel_rfl) (fun _ _ _ h => h) (Or.inl ⟨by rfl, ?hy3yf⟩) (by assumption) ?rest3yf
          case hy3yf => (intro V2 hSw; (try dsimp only at hSw); go_simp; all_goals (with_reducible rfl))
          try simp only [Act.put, List.setIfInBounds_toArray, List.set_cons_zero, List.set_cons_succ]
          refine wpAnyH_take (i := 4) (oi := { dst := some 64, op := Op.load 4 (Operand.tmp 63), type := 4, pos := "outright.go:183", after := #[{ on := 3, ground := Ground.data }, { on := 2, ground := Ground.guard }], guard := some (2, true) }) (v := ?v4yf) rfl (by kernel_rfl) (by kernel_rfl) (by kernel_rfl) (fun _ _ _ h => h) (Or.inl ⟨by rfl, ?hy4yf⟩) (by assumption) ?rest4yf
          case hy4yf => (intro V2 hSw; (try dsimp only at hSw); obtain ⟨z1, z2, z3, z4, z5, z6, z7⟩ := LC.out V2 hSw; go_simp; all_goals (with_reducible rfl))
          try simp only [Act.put, List.setIfInBounds_toArray, List.set_cons_zero, List.set_cons_succ]
          refine wpAnyH_take (i := 5) (oi := { dst := some 65, op := Op.pick (Operand.tmp 62) (Operand.tmp 64) (Operand.const (Value.bool false)), type := 4, pos := "outright.go:183", after := #[{ on := 2, ground := Ground.data }, { on := 4, ground := Ground.data }], guard := none }) (v := .bool true) rfl (by kernel_rfl) (by kernel_rfl) (by kernel_rfl) (fun _ _ _ h => h) (Or.inl ⟨by rfl, ?hy5yf⟩) (by assumption) ?rest5yf
          case hy5yf => (intro V2 hSw; (try dsimp only at hSw); go_simp; all_goals (with_reducible rfl))
          try simp only [Act.put, List.setIfInBounds_toArray, List.set_cons_zero, List.set_cons_succ]
          refine wpAnyH_take (i := 6) (oi := { dst := some 66, op := Op.move (Operand.tmp 65), type := 4, pos := "outright.go:183", after := #[{ on := 5, ground := Ground.data }, { on := 2, ground := Ground.chain }], guard := none }) (v := ?v6yf) rfl (by kernel_rfl) (by kernel_rfl) (by kernel_rfl) (fun _ _ _ h => h) (Or.inl ⟨by rfl, ?hy6yf⟩) (by assumption) ?rest6yf
          case hy6yf => (intro V2 hSw; (try dsimp only at hSw); go_simp; all_goals (with_reducible rfl))
          try simp only [Act.put, List.setIfInBounds_toArray, List.set_cons_zero, List.set_cons_succ]
          refine wpAnyH_take (i := 7) (oi := { dst := some 67, op := Op.fieldAddr 39 (Operand.tmp 11) 2, type := 0, pos := "outright.go:183", after := #[{ on := 6, ground := Ground.guard }], guard := some (6, true) }) (v := ?v7yf) rfl (by kernel_rfl) (by kernel_rfl) (by kernel_rfl) (fun _ _ _ h => h) (Or.inl ⟨by rfl, ?hy7yf⟩) (by assumption) ?rest7yf
          case hy7yf => (intro V2 hSw; (try dsimp only at hSw); go_simp; all_goals (with_reducible rfl))
          try simp only [Act.put, List.setIfInBounds_toArray, List.set_cons_zero, List.set_cons_succ]
          refine wpAnyH_take (i := 8) (oi := { dst := some 68, op := Op.load 4 (Operand.tmp 67), type := 4, pos := "outright.go:183", after := #[{ on := 7, ground := Ground.data }, { on := 6, ground := Ground.guard }], guard := some (6, true) }) (v := ?v8yf) rfl (by kernel_rfl) (by kernel_rfl) (by kernel_rfl) (fun _ _ _ h => h) (Or.inl ⟨by rfl, ?hy8yf⟩) (by assumption) ?rest8yf
          case hy8yf => (intro V2 hSw; (try dsimp only at hSw); obtain ⟨z1, z2, z3, z4, z5, z6, z7⟩ := LC.out V2 hSw; go_simp; all_goals (with_reducible rfl))
          try simp only [Act.put, List.setIfInBounds_toArray, List.set_cons_zero, List.set_cons_succ]
          refine wpAnyH_take (i := 9) (oi := { dst := some 69, op := Op.fieldAddr 79 (Operand.tmp 5) 2, type := 0, pos := "outright.go:183", after := #[{ on := 6, ground := Ground.guard }], guard := some (6, true) }) (v := ?v9yf) rfl (by kernel_rfl) (by kernel_rfl) (by kernel_rfl) (fun _ _ _ h => h) (Or.inl ⟨by rfl, ?hy9yf⟩) (by assumption) ?rest9yf
          case hy9yf => (intro V2 hSw; (try dsimp only at hSw); go_simp; all_goals (with_reducible rfl))
          try simp only [Act.put, List.setIfInBounds_toArray, List.set_cons_zero, List.set_cons_succ]
          refine wpAnyH_take (i := 10) (oi := { dst := some 70, op := Op.load 4 (Operand.tmp 69), type := 4, pos := "outright.go:183", after := #[{ on := 9, ground := Ground.data }, { on := 6, ground := Ground.guard }], guard := some (6, true) }) (v := ?v10yf) rfl (by kernel_rfl) (by kernel_rfl) (by kernel_rfl) (fun _ _ _ h => h) (Or.inl ⟨by rfl, ?hy10yf⟩) (by assumption) ?rest10yf
          case hy10yf => (intro V2 hSw; (try dsimp only at hSw); obtain ⟨z1, z2, z3, z4, z5, z6, z7⟩ := LC.out V2 hSw; go_simp; all_goals (with_reducible rfl))
          try simp only [Act.put, List.setIfInBounds_toArray, List.set_cons_zero, List.set_cons_succ]
          refine wpAnyH_take (i := 11) (oi := { dst := some 71, op := Op.unOp UnOp.not 4 (Operand.tmp 70), type := 4, pos := "outright.go:183", after := #[{ on := 10, ground := Ground.data }, { on := 6, ground := Ground.guard }], guard := some (6, true) }) (v := ?v11yf) rfl (by kernel_rfl) (by kernel_rfl) (by kernel_rfl) (fun _ _ _ h => h) (Or.inl ⟨by rfl, ?hy11yf⟩) (by assumption) ?rest11yf
          case hy11yf => (intro V2 hSw; (try dsimp only at hSw); go_simp; all_goals (with_reducible rfl))
          try simp only [Act.put, List.setIfInBounds_toArray, List.set_cons_zero, List.set_cons_succ]
          refine wpAnyH_take (i := 12) (oi := { dst := some 72, op := Op.binOp BinOp.eql 4 (Operand.tmp 68) (Operand.tmp 71) 4, type := 4, pos := "outright.go:183", after := #[{ on := 8, ground := Ground.data }, { on := 11, ground := Ground.data }, { on := 6, ground := Ground.guard }], guard := some (6, true) }) (v := .bool true) rfl (by kernel_rfl) (by kernel_rfl) (by kernel_rfl) (fun _ _ _ h => h) (Or.inl ⟨by rfl, ?hy12yf⟩) (by assumption) ?rest12yf
          case hy12yf => (intro V2 hSw; (try dsimp only at hSw); go_simp; all_goals (with_reducible rfl))
          try simp only [Act.put, List.setIfInBounds_toArray, List.set_cons_zero, List.set_cons_succ]
          refine wpAnyH_take (i := 13) (oi := { dst := some 73, op := Op.pick (Operand.tmp 66) (Operand.tmp 72) (Operand.const (Value.bool false)), type := 4, pos := "outright.go:183", after := #[{ on := 6, ground := Ground.data }, { on := 12, ground := Ground.data }], guard := none }) (v := .bool true) rfl (by kernel_rfl) (by kernel_rfl) (by kernel_rfl) (fun _ _ _ h => h) (Or.inl ⟨by rfl, ?hy13yf⟩) (by assumption) ?rest13yf
          case hy13yf => (intro V2 hSw; (try dsimp only at hSw); go_simp; all_goals (with_reducible rfl))
          try simp only [Act.put, List.setIfInBounds_toArray, List.set_cons_zero, List.set_cons_succ]
          refine wpAnyH_take (i := 14) (oi := { dst := some 74, op := Op.move (Operand.tmp 73), type := 4, pos := "outright.go:183", after := #[{ on := 13, ground := Ground.data }, { on := 6, ground := Ground.chain }], guard := none }) (v := ?v14yf) rfl (by kernel_rfl) (by kernel_rfl) (by kernel_rfl) (fun _ _ _ h => h) (Or.inl ⟨by rfl, ?hy14yf⟩) (by assumption) ?rest14yf
          case hy14yf => (intro V2 hSw; (try dsimp only at hSw); go_simp; all_goals (with_reducible rfl))
          try simp only [Act.put, List.setIfInBounds_toArray, List.set_cons_zero, List.set_cons_succ]
          refine wpAnyH_take (i := 15) (oi := { dst := some 75, op := Op.fieldAddr 39 (Operand.tmp 11) 1, type := 0, pos := "outright.go:183", after := #[{ on := 14, ground := Ground.guard }], guard := some (14, true) }) (v := ?v15yf) rfl (by kernel_rfl) (by kernel_rfl) (by kernel_rfl) (fun _ _ _ h => h) (Or.inl ⟨by rfl, ?hy15yf⟩) (by assumption) ?rest15yf
          case hy15yf => (intro V2 hSw; (try dsimp only at hSw); go_simp; all_goals (with_reducible rfl))
          try simp only [Act.put, List.setIfInBounds_toArray, List.set_cons_zero, List.set_cons_succ]
          refine wpAnyH_take (i := 16) (oi := { dst := some 76, op := Op.load 9 (Operand.tmp 75), type := 9, pos := "outright.go:183", after := #[{ on := 15, ground := Ground.data }, { on := 14, ground := Ground.guard }], guard := some (14, true) }) (v := ?v16yf) rfl (by kernel_rfl) (by kernel_rfl) (by kernel_rfl) (fun _ _ _ h => h) (Or.inl ⟨by rfl, ?hy16yf⟩) (by assumption) ?rest16yf
          case hy16yf => (intro V2 hSw; (try dsimp only at hSw); obtain ⟨z1, z2, z3, z4, z5, z6, z7⟩ := LC.out V2 hSw; go_simp; all_goals (with_reducible rfl))
          try simp only [Act.put, List.setIfInBounds_toArray, List.set_cons_zero, List.set_cons_succ]
          refine wpAnyH_take (i := 17) (oi := { dst := some 77, op := Op.fieldAddr 79 (Operand.tmp 5) 1, type := 0, pos := "outright.go:183", after := #[{ on := 14, ground := Ground.guard }], guard := some (14, true) }) (v := ?v17yf) rfl (by kernel_rfl) (by kernel_rfl) (by kernel_rfl) (fun _ _ _ h => h) (Or.inl ⟨by rfl, ?hy17yf⟩) (by assumption) ?rest17yf
          case hy17yf => (intro V2 hSw; (try dsimp only at hSw); go_simp; all_goals (with_reducible rfl))
          try simp only [Act.put, List.setIfInBounds_toArray, List.set_cons_zero, List.set_cons_succ]
          refine wpAnyH_take (i := 18) (oi := { dst := some 78, op := Op.load 9 (Operand.tmp 77), type := 9, pos := "outright.go:183", after := #[{ on := 17, ground := Ground.data }, { on := 14, ground := Ground.guard }], guard := some (14, true) }) (v := ?v18yf) rfl (by kernel_rfl) (by kernel_rfl) (by kernel_rfl) (fun _ _ _ h => h) (Or.inl ⟨by rfl, ?hy18yf⟩) (by assumption) ?rest18yf
          case hy18yf => (intro V2 hSw; (try dsimp only at hSw); obtain ⟨z1, z2, z3, z4, z5, z6, z7⟩ := LC.out V2 hSw; go_simp; all_goals (with_reducible rfl))
          try simp only [Act.put, List.setIfInBounds_toArray, List.set_cons_zero, List.set_cons_succ]
          refine wpAnyH_take (i := 19) (oi := { dst := some 79, op := Op.binOp BinOp.eql 9 (Operand.tmp 76) (Operand.tmp 78) 9, type := 4, pos := "outright.go:183", after := #[{ on := 16, ground := Ground.data }, { on := 18, ground := Ground.data }, { on := 14, ground := Ground.guard }], guard := some (14, true) }) (v := .bool true) rfl (by kernel_rfl) (by kernel_rfl) (by kernel_rfl) (fun _ _ _ h => h) (Or.inl ⟨by rfl, ?hy19yf⟩) (by assumption) ?rest19yf
          case hy19yf => (intro V2 hSw; (try dsimp only at hSw); go_simp; all_goals (with_reducible rfl))
          try simp only [Act.put, List.setIfInBounds_toArray, List.set_cons_zero, List.set_cons_succ]
          refine wpAnyH_take (i := 20) (oi := { dst := some 80, op := Op.pick (Operand.tmp 74) (Operand.tmp 79) (Operand.const (Value.bool false)), type := 4, pos := "outright.go:183", after := #[{ on := 14, ground := Ground.data }, { on := 19, ground := Ground.data }], guard := none }) (v := .bool true) rfl (by kernel_rfl) (by kernel_rfl) (by kernel_rfl) (fun _ _ _ h => h) (Or.inl ⟨by rfl, ?hy20yf⟩) (by assumption) ?rest20yf
          case hy20yf => (intro V2 hSw; (try dsimp only at hSw); go_simp; all_goals (with_reducible rfl))
          try simp only [Act.put, List.setIfInBounds_toArray, List.set_cons_zero, List.set_cons_succ]
          refine wpAnyH_take (i := 21) (oi := { dst := some 81, op := Op.move (Operand.tmp 80), type := 4, pos := "outright.go:183", after := #[{ on := 20, ground := Ground.data }, { on := 14, ground := Ground.chain }], guard := none }) (v := ?v21yf) rfl (by kernel_rfl) (by kernel_rfl) (by kernel_rfl) (fun _ _ _ h => h) (Or.inl ⟨by rfl, ?hy21yf⟩) (by assumption) ?rest21yf
          case hy21yf => (intro V2 hSw; (try dsimp only at hSw); go_simp; all_goals (with_reducible rfl))
          try simp only [Act.put, List.setIfInBounds_toArray, List.set_cons_zero, List.set_cons_succ]
          refine wpAnyH_take (i := 22) (oi := { dst := some 82, op := Op.fieldAddr 39 (Operand.tmp 11) 4, type := 0, pos := "outright.go:183", after := #[{ on := 21, ground := Ground.guard }], guard := some (21, true) }) (v := ?v22yf) rfl (by kernel_rfl) (by kernel_rfl) (by kernel_rfl) (fun _ _ _ h => h) (Or.inl ⟨by rfl, ?hy22yf⟩) (by assumption) ?rest22yf
          case hy22yf => (intro V2 hSw; (try dsimp only at hSw); go_simp; all_goals (with_reducible rfl))
          try simp only [Act.put, List.setIfInBounds_toArray, List.set_cons_zero, List.set_cons_succ]
          refine wpAnyH_take (i := 23) (oi := { dst := some 83, op := Op.load 26 (Operand.tmp 82), type := 26, pos := "outright.go:183", after := #[{ on := 22, ground := Ground.data }, { on := 21, ground := Ground.guard }], guard := some (21, true) }) (v := ?v23yf) rfl (by kernel_rfl) (by kernel_rfl) (by kernel_rfl) (fun _ _ _ h => h) (Or.inl ⟨by rfl, ?hy23yf⟩) (by assumption) ?rest23yf
          case hy23yf => (intro V2 hSw; (try dsimp only at hSw); obtain ⟨z1, z2, z3, z4, z5, z6, z7⟩ := LC.out V2 hSw; go_simp; all_goals (with_reducible rfl))
          try simp only [Act.put, List.setIfInBounds_toArray, List.set_cons_zero, List.set_cons_succ]
          refine wpAnyH_ready (rs := [24]) (by kernel_rfl) (by simp) ?_
          refine AllReadyH.cons (o := { dst := some 84, op := Op.call { callee := Callee.value (Operand.func 34), args := #[Operand.const (Value.int IntKind.i64 5)], argTypes := #[3] }, type := 26, pos := "outright.go:183", after := #[{ on := 21, ground := Ground.chain }, { on := 21, ground := Ground.guard }], guard := some (21, true) }) rfl (fun K hK => ?_) AllReadyH.nil
          go_simp
          refine (at_c 5 _).mono ?_
          rintro e u6 ⟨rfl, hbu6⟩
          refine hK.out _ _ (hS.keep hbu6) (fun hS => ?_)
          clear hK K
          try simp only [Act.put, List.setIfInBounds_toArray, List.set_cons_zero, List.set_cons_succ]
          refine wpAnyH_take (i := 25) (oi := { dst := some 85, op := Op.binOp BinOp.eql 26 (Operand.tmp 83) (Operand.tmp 84) 26, type := 4, pos := "outright.go:183", after := #[{ on := 23, ground := Ground.data }, { on := 24, ground := Ground.data }, { on := 21, ground := Ground.guard }], guard := some (21, true) }) (v := .bool true) rfl (by kernel_rfl) (by kernel_rfl) (by kernel_rfl) (fun _ _ _ h => h) (Or.inl ⟨by rfl, ?hy25yf⟩) (by assumption) ?rest25yf
          case hy25yf => (intro V2 hSw; (try dsimp only at hSw); go_simp; all_goals (with_reducible rfl))
          try simp only [Act.put, List.setIfInBounds_toArray, List.set_cons_zero, List.set_cons_succ]
          refine wpAnyH_take (i := 26) (oi := { dst := some 86, op := Op.pick (Operand.tmp 81) (Operand.tmp 85) (Operand.const (Value.bool false)), type := 4, pos := "outright.go:183", after := #[{ on := 21, ground := Ground.data }, { on := 25, ground := Ground.data }], guard := none }) (v := .bool true) rfl (by kernel_rfl) (by kernel_rfl) (by kernel_rfl) (fun _ _ _ h => h) (Or.inl ⟨by rfl, ?hy26yf⟩) (by assumption) ?rest26yf
          case hy26yf => (intro V2 hSw; (try dsimp only at hSw); go_simp; all_goals (with_reducible rfl))
          try simp only [Act.put, List.setIfInBounds_toArray, List.set_cons_zero, List.set_cons_succ]
          refine wpAnyH_take (i := 27) (oi := { dst := some 87, op := Op.move (Operand.tmp 86), type := 4, pos := "outright.go:183", after := #[{ on := 26, ground := Ground.data }, { on := 24, ground := Ground.chain }], guard := none }) (v := ?v27yf) rfl (by kernel_rfl) (by kernel_rfl) (by kernel_rfl) (fun _ _ _ h => h) (Or.inl ⟨by rfl, ?hy27yf⟩) (by assumption) ?rest27yf
          case hy27yf => (intro V2 hSw; (try dsimp only at hSw); go_simp; all_goals (with_reducible rfl))
          try simp only [Act.put, List.setIfInBounds_toArray, List.set_cons_zero, List.set_cons_succ]
          refine wpAnyH_ready (rs := [28]) (by kernel_rfl) (by simp) ?_
          refine AllReadyH.cons (o := { dst := some 88, op := Op.call { callee := Callee.value (Operand.func 24), args := #[], argTypes := #[] }, type := 4, pos := "outright.go:183", after := #[{ on := 27, ground := Ground.chain }, { on := 27, ground := Ground.guard }], guard := some (27, true) }) rfl (fun K hK => ?_) AllReadyH.nil
          go_simp
          refine (lawAwake _ (hM.below hS.bel)).mono ?_
          rintro e u7 ⟨rfl, hbu7⟩
          refine hK.out _ _ (hS.keep hbu7) (fun hS => ?_)
          clear hK K
          try simp only [Act.put, List.setIfInBounds_toArray, List.set_cons_zero, List.set_cons_succ]
          refine wpAnyH_take (i := 29) (oi := { dst := some 89, op := Op.pick (Operand.tmp 87) (Operand.tmp 88) (Operand.const (Value.bool false)), type := 4, pos := "outright.go:183", after := #[{ on := 27, ground := Ground.data }, { on := 28, ground := Ground.data }], guard := none }) (v := .bool true) rfl (by kernel_rfl) (by kernel_rfl) (by kernel_rfl) (fun _ _ _ h => h) (Or.inl ⟨by rfl, ?hy29yf⟩) (by assumption) ?rest29yf
          case hy29yf => (intro V2 hSw; (try dsimp only at hSw); go_simp; all_goals (with_reducible rfl))
          try simp only [Act.put, List.setIfInBounds_toArray, List.set_cons_zero, List.set_cons_succ]
          refine wpAnyH_take (i := 30) (oi := { dst := some 6, op := Op.assign (Operand.tmp 89), type := 4, pos := "outright.go:183", after := #[{ on := 29, ground := Ground.data }, { on := 28, ground := Ground.chain }, { on := 0, ground := Ground.phase }, { on := 1, ground := Ground.phase }, { on := 2, ground := Ground.phase }, { on := 3, ground := Ground.phase }, { on := 4, ground := Ground.phase }, { on := 5, ground := Ground.phase }, { on := 6, ground := Ground.phase }, { on := 7, ground := Ground.phase }, { on := 8, ground := Ground.phase }, { on := 9, ground := Ground.phase }, { on := 10, ground := Ground.phase }, { on := 11, ground := Ground.phase }, { on := 12, ground := Ground.phase }, { on := 13, ground := Ground.phase }, { on := 14, ground := Ground.phase }, { on := 15, ground := Ground.phase }, { on := 16, ground := Ground.phase }, { on := 17, ground := Ground.phase }, { on := 18, ground := Ground.phase }, { on := 19, ground := Ground.phase }, { on := 20, ground := Ground.phase }, { on := 21, ground := Ground.phase }, { on := 22, ground := Ground.phase }, { on := 23, ground := Ground.phase }, { on := 24, ground := Ground.phase }, { on := 25, ground := Ground.phase }, { on := 26, ground := Ground.phase }, { on := 27, ground := Ground.phase }, { on := 28, ground := Ground.phase }, { on := 29, ground := Ground.phase }], guard := none }) (v := ?v30yf) rfl (by kernel_rfl) (by kernel_rfl) (by kernel_rfl) (fun _ _ _ h => h) (Or.inl ⟨by rfl, ?hy30yf⟩) (by assumption) ?rest30yf
          case hy30yf => (intro V2 hSw; (try dsimp only at hSw); go_simp; all_goals (with_reducible rfl))
          try simp only [Act.put, List.setIfInBounds_toArray, List.set_cons_zero, List.set_cons_succ]
          refine wpAnyH_done (by kernel_rfl) ?_ _
          have hfin := hS.bel
          go_wp2_with fail
          go_ret
          exact ⟨rfl, hfin⟩
    · have hs64i : (64 : Int) < (s.size : Int) := by omega
      have HGET := Lib.hid (fun (T : List As) (W : World) (qq : Nat) (h : Has w (tbA qq (putP r (thI (mineP ⟨x0, x1, x2, x3, x4, x5, x6, x7, x8, x9, x10, x11⟩ ⟨(1 + m), s, false⟩))) :: T) W) => pkGet h (HRO.out.put (TSz_I (mineP ⟨x0, x1, x2, x3, x4, x5, x6, x7, x8, x9, x10, x11⟩ ⟨(1 + m), s, false⟩))) (by decide) hM bA (by decide) ⟨x0, x1, x2, x3, x4, x5, x6, x7, x8, x9, x10, x11⟩ 0 0)
      generalize pgetC (putP r (thI (mineP ⟨x0, x1, x2, x3, x4, x5, x6, x7, x8, x9, x10, x11⟩ ⟨(1 + m), s, false⟩))) bA ⟨x0, x1, x2, x3, x4, x5, x6, x7, x8, x9, x10, x11⟩ (0, 0) = ff at HGET
      obtain ⟨f, k⟩ := ff
      refine (HGET.out _ _ _ HP.out).mono ?_
      rintro e w6 ⟨⟨A9, n9, c9, rfl, -, -⟩, h6⟩
      have h7 := h6.newBlk 39 (fdc f (.slice A9 n9 c9))
      have bt := h7.blkAt (g := w.heap.size) (t := 28) (cs := txc ⟨x0, x1, x2, x3, x4, x5, x6, x7, x8, x9, x10, x11⟩) (by simp)
      have bc := h7.blkAt (g := w.heap.size + 1) (t := 79) (cs := #[.int .i64 (1 + m), .string s, .bool false]) (by simp)
      have t4 := bt.cell 4
      have t5 := bt.cell 5
      have c1 := bc.cell 1
      simp at t4 t5 c1
      have HF := Lib.hid (Has.pick2 h7)
      clear h6 h7 bt bc
      go_wp2_with fail
      refine (lawAwake _ (hM.below HF.out.bel)).mono ?_
      rintro e w8 ⟨rfl, hb8⟩
      have hfin := (HF.out.keep hb8).bel
      clear hb8
      go_wp2_with fail
      go_ret
      exact ⟨rfl, hfin⟩
end Go.Proofs.YtdaecfgjfdikbaaGreatDoor
