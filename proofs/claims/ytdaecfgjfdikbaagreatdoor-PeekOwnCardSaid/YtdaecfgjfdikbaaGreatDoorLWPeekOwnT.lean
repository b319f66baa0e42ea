/-
  PeekOwn, walked: Del is true (written by wip/genpeekown.py).
-/
import Derived.Test.YtdaecfgjfdikbaaGreatDoorLWPeekOwnH
set_option linter.unusedVariables false
set_option linter.unusedSimpArgs false
set_option maxRecDepth 100000
namespace Go.Proofs.YtdaecfgjfdikbaaGreatDoor
open Go.RowKit

set_option maxHeartbeats 16000000 in
theorem own_true (A : Option Addr) (n c : Nat) (l : List Th) (x : Tx) (q : Int) (s : ByteArray) (w : World) (hx : ThAt w A n l) (hz : ∀ y ∈ l, TSz y) (hn : n ≤ 9223372036854775807) (hM : MaxL w) (hmx : mayX x = true) :
    Calls Tryz.prog 7 #[.slice A n c, txv x, .agg #[.int .i64 q, .string s, .bool true]] w fun e w' => e = .returned (.bool true) ∧ Below w.heap.size w w' := by
  have hmix : Tryz.prog.follows .mixedOrders = true := by kernel_rfl
  obtain ⟨m, hm⟩ : ∃ m, q % 100 = m := ⟨_, rfl⟩
  have hm1 : 0 ≤ m := by rw [← hm]; exact Int.emod_nonneg q (by omega)
  have hm2 : m < 100 := by rw [← hm]; exact Int.emod_lt_of_pos q (by omega)
  have HBR := Lib.hid (fun W => bring q 100 W (by omega) (by omega))
  rw [hm] at HBR
  clear hm
  have h0 := ((Has.nil (Below.refl w.heap.size w)).newBlk 28 (txc x)).newBlk 79 #[.int .i64 q, .string s, .bool true]
  have hz1 : (w.alloc (.cells (txc x) 28)).heap.size = w.heap.size + 1 := World.size_alloc _ _
  rw [hz1] at h0
  have H0 := Lib.hid h0
  have HX := Lib.hid hx
  have HZ := Lib.hid hz
  have HMY := Lib.hid (lawMay_c x)
  clear h0 hz1 hx hz
  obtain ⟨r, hr⟩ : ∃ r, tabP l = r := ⟨_, rfl⟩
  have HRO := Lib.hid (show ROk 7680 r from hr ▸ tabP_ok HZ.out)
  have HTB := Lib.hid (fun (W : World) (hb : Below w.heap.size w W) => tables_c A n c l W (HX.out.below hb) hn HZ.out)
  rw [hr] at HTB
  clear hr
  rw [hmx] at HMY
  have HMX := Lib.hid hmx
  clear hmx
  obtain ⟨x0, x1, x2, x3, x4, x5, x6, x7, x8, x9, x10, x11⟩ := x
  go_enter Tryz.func7, Tryz.ntmps7
  go_wp2_with fail
  refine (HMY.out _).mono ?_
  rintro e w1 ⟨rfl, hb1⟩
  have h1 := H0.out.keep hb1
  have k1 := h1.blk.1
  have c0 := k1.cell 0
  have f0 := k1.frozen 0
  have c1 := k1.cell 1
  have f1 := k1.frozen 1
  have c2 := k1.cell 2
  have f2 := k1.frozen 2
  simp at c0 c1 c2
  have H2 := Lib.hid ((h1.setBlk 1 (.string ⟨#[]⟩)).setBlk 0 (.int .i64 (1 + m)))
  clear hb1 h1 k1
  go_wp2_with fail
  refine (HBR.out _).mono ?_
  rintro e w2 ⟨rfl, rfl⟩
  go_wp2_with fail
  refine (HTB.out _ H2.out.bel).mono ?_
  rintro e w3 ⟨p, b, rfl, h3⟩
  have HX0 := Lib.hid (show Has w (tbA p r :: rtA b r :: blkA (w.heap.size + 1) 79 #[.int .i64 (1 + m), .string ⟨#[]⟩, .bool true] :: blkA w.heap.size 28 (txc ⟨x0, x1, x2, x3, x4, x5, x6, x7, x8, x9, x10, x11⟩) :: []) w3 from H2.out.join h3)
  clear h3 H2 c0 c1 c2 f0 f1 f2
  go_upto_region 7 with fail
  go_cut [9] from 30 to 37 (fun v wx => ∃ gI gS, v = .pointer (some ⟨gI, 0, none⟩) ∧ Hid (Has w (blkA gI 37 (itc (mineP ⟨x0, x1, x2, x3, x4, x5, x6, x7, x8, x9, x10, x11⟩ ⟨(1 + m), ⟨#[]⟩, true⟩) (.slice (some ⟨gS, 0, none⟩) 1 1)) :: blkA gS 79 #[.int .i64 (1 + m), .string ⟨#[]⟩, .bool true] :: tbA p r :: rtA b r :: blkA (w.heap.size + 1) 79 #[.int .i64 (1 + m), .string ⟨#[]⟩, .bool true] :: blkA w.heap.size 28 (txc ⟨x0, x1, x2, x3, x4, x5, x6, x7, x8, x9, x10, x11⟩) :: []) wx))
  case first =>
    have HX0 := Lib.hid HX0.out.drew
    refine wp_region_held_drew (S := Has w (tbA p r :: rtA b r :: blkA (w.heap.size + 1) 79 #[.int .i64 (1 + m), .string ⟨#[]⟩, .bool true] :: blkA w.heap.size 28 (txc ⟨x0, x1, x2, x3, x4, x5, x6, x7, x8, x9, x10, x11⟩) :: [])) hmix (HX0.out) (fun hS => ?_)
    simp only [List.size_toArray, List.length_cons, List.length_nil, Nat.reduceAdd, Array.replicate_succ, Array.replicate_zero]
    refine wpAnyH_take (i := 0) (oi := { dst := some 30, op := Op.fieldAddr 28 (Operand.tmp 4) 0, type := 0, pos := "outright.go:177", after := #[], guard := none }) (v := ?v0v) rfl (by kernel_rfl) (by kernel_rfl) (by kernel_rfl) (fun _ _ _ h => h) (Or.inl ⟨by rfl, ?hy0v⟩) (by assumption) ?rest0v
    case hy0v => (intro V2 hSw; (try dsimp only at hSw); go_simp; all_goals (with_reducible rfl))
    try simp only [Act.put, List.setIfInBounds_toArray, List.set_cons_zero, List.set_cons_succ]
    refine wpAnyH_take (i := 1) (oi := { dst := some 31, op := Op.load 3 (Operand.tmp 30), type := 3, pos := "outright.go:177", after := #[{ on := 0, ground := Ground.data }], guard := none }) (v := ?v1v) rfl (by kernel_rfl) (by kernel_rfl) (by kernel_rfl) (fun _ _ _ h => h) (Or.inl ⟨by rfl, ?hy1v⟩) (by assumption) ?rest1v
    case hy1v => (intro V2 hSw; (try dsimp only at hSw); have tq := (hSw.blkAt (g := w.heap.size) (t := 28) (cs := txc ⟨x0, x1, x2, x3, x4, x5, x6, x7, x8, x9, x10, x11⟩) (by simp)); have t0 := tq.cell 0; have t1 := tq.cell 1; simp at t0 t1; go_simp; all_goals (with_reducible rfl))
    try simp only [Act.put, List.setIfInBounds_toArray, List.set_cons_zero, List.set_cons_succ]
    refine wpAnyH_take (i := 2) (oi := { dst := some 32, op := Op.fieldAddr 28 (Operand.tmp 4) 1, type := 0, pos := "outright.go:177", after := #[], guard := none }) (v := ?v2v) rfl (by kernel_rfl) (by kernel_rfl) (by kernel_rfl) (fun _ _ _ h => h) (Or.inl ⟨by rfl, ?hy2v⟩) (by assumption) ?rest2v
    case hy2v => (intro V2 hSw; (try dsimp only at hSw); go_simp; all_goals (with_reducible rfl))
    try simp only [Act.put, List.setIfInBounds_toArray, List.set_cons_zero, List.set_cons_succ]
    refine wpAnyH_take (i := 3) (oi := { dst := some 33, op := Op.load 3 (Operand.tmp 32), type := 3, pos := "outright.go:177", after := #[{ on := 2, ground := Ground.data }], guard := none }) (v := ?v3v) rfl (by kernel_rfl) (by kernel_rfl) (by kernel_rfl) (fun _ _ _ h => h) (Or.inl ⟨by rfl, ?hy3v⟩) (by assumption) ?rest3v
    case hy3v => (intro V2 hSw; (try dsimp only at hSw); have tq := (hSw.blkAt (g := w.heap.size) (t := 28) (cs := txc ⟨x0, x1, x2, x3, x4, x5, x6, x7, x8, x9, x10, x11⟩) (by simp)); have t0 := tq.cell 0; have t1 := tq.cell 1; simp at t0 t1; go_simp; all_goals (with_reducible rfl))
    try simp only [Act.put, List.setIfInBounds_toArray, List.set_cons_zero, List.set_cons_succ]
    refine wpAnyH_take (i := 5) (oi := { dst := some 35, op := Op.load 79 (Operand.tmp 5), type := 79, pos := "outright.go:177", after := #[], guard := none }) (v := ?v5v) rfl (by kernel_rfl) (by kernel_rfl) (by kernel_rfl) (fun _ _ _ h => h) (Or.inl ⟨by rfl, ?hy5v⟩) (by assumption) ?rest5v
    case hy5v => (intro V2 hSw; (try dsimp only at hSw); have tq := (hSw.blkAt (g := w.heap.size + 1) (t := 79) (cs := #[.int .i64 (1 + m), .string ⟨#[]⟩, .bool true]) (by simp)); have t0 := tq.cell 0; have t1 := tq.cell 1; have t2 := tq.cell 2; simp at t0 t1 t2; go_simp; all_goals (with_reducible rfl))
    try simp only [Act.put, List.setIfInBounds_toArray, List.set_cons_zero, List.set_cons_succ]
    refine wpAnyH_ready (rs := [4, 6, 8]) (by kernel_rfl) (by simp) ?_
    refine AllReadyH.cons (o := { dst := some 34, op := Op.call { callee := Callee.value (Operand.func 34), args := #[Operand.const (Value.int IntKind.i64 5)], argTypes := #[3] }, type := 26, pos := "outright.go:177", after := #[], guard := none }) rfl (fun K hK => ?_) ?_
    · go_simp
      refine (at_c 5 _).mono ?_
      rintro e u1 ⟨rfl, hbu⟩
      have hX := HX0.out.keep hbu
      refine hK.out _ _ (hX) (fun hS => ?_)
      clear hK K
      try simp only [Act.put, List.setIfInBounds_toArray, List.set_cons_zero, List.set_cons_succ]
      have HX1 := Lib.hid hX
      clear hX hbu
      refine wpAnyH_ready (rs := [6, 8]) (by kernel_rfl) (by simp) ?_
      refine AllReadyH.cons (o := { dst := some 36, op := Op.buildSlice 35 1 #[(0, Operand.tmp 35)], type := 35, pos := "outright.go:177", after := #[{ on := 5, ground := Ground.data }], guard := none }) rfl (fun K hK => ?_) ?_
      · go_simp
        have hX := HX1.out.newBlk 79 #[.int .i64 (1 + m), .string ⟨#[]⟩, .bool true]
        (try simp only [World.size_alloc] at hX)
        refine hK.out _ _ (hX.tail) (fun hS => ?_)
        clear hK K
        try simp only [Act.put, List.setIfInBounds_toArray, List.set_cons_zero, List.set_cons_succ]
        have HX2 := Lib.hid hX
        clear hX
        refine wpAnyH_take (i := 7) (oi := { dst := some 37, op := Op.build 37 #[(0, Operand.tmp 31), (1, Operand.tmp 33), (2, Operand.const (Value.int IntKind.i64 1)), (3, Operand.const (Value.string { data := #[97] })), (4, Operand.tmp 34), (6, Operand.tmp 36)], type := 37, pos := "outright.go:177", after := #[{ on := 1, ground := Ground.data }, { on := 3, ground := Ground.data }, { on := 4, ground := Ground.data }, { on := 6, ground := Ground.data }], guard := none }) (v := ?v7vaa) rfl (by kernel_rfl) (by kernel_rfl) (by kernel_rfl) (fun _ _ _ h => h) (Or.inl ⟨by rfl, ?hy7vaa⟩) (by assumption) ?rest7vaa
        case hy7vaa => (intro V2 hSw; (try dsimp only at hSw); go_simp; all_goals (with_reducible rfl))
        try simp only [Act.put, List.setIfInBounds_toArray, List.set_cons_zero, List.set_cons_succ]
        refine wpAnyH_ready (rs := [8]) (by kernel_rfl) (by simp) ?_
        refine AllReadyH.cons (o := { dst := some 9, op := Op.alloc 37, type := 0, pos := "outright.go:177", after := #[], guard := none }) rfl (fun K hK => ?_) AllReadyH.nil
        go_simp
        have hX := HX2.out.newBlk 37 (itc zI (.slice none 0 0))
        (try simp only [World.size_alloc] at hX)
        refine hK.out _ _ (hX.tail.tail) (fun hS => ?_)
        clear hK K
        try simp only [Act.put, List.setIfInBounds_toArray, List.set_cons_zero, List.set_cons_succ]
        have HX3 := Lib.hid hX
        clear hX
        refine wpAnyH_ready (rs := [9]) (by kernel_rfl) (by simp) ?_
        refine AllReadyH.cons (o := { dst := none, op := Op.store 37 (Operand.tmp 9) (Operand.tmp 37), type := 0, pos := "outright.go:177", after := #[{ on := 8, ground := Ground.data }, { on := 7, ground := Ground.data }, { on := 4, ground := Ground.chain }, { on := 0, ground := Ground.phase }, { on := 1, ground := Ground.phase }, { on := 2, ground := Ground.phase }, { on := 3, ground := Ground.phase }, { on := 4, ground := Ground.phase }, { on := 5, ground := Ground.phase }, { on := 6, ground := Ground.phase }, { on := 7, ground := Ground.phase }, { on := 8, ground := Ground.phase }], guard := none }) rfl (fun K hK => ?_) AllReadyH.nil
        go_simp
        have hA0 := HX1.out
        have hA1 := hA0.newBlk 79 #[.int .i64 (1 + m), .string ⟨#[]⟩, .bool true]
        (try simp only [World.size_alloc] at hA1)
        have hA2 := hA1.newBlk 37 (itc (mineP ⟨x0, x1, x2, x3, x4, x5, x6, x7, x8, x9, x10, x11⟩ ⟨(1 + m), ⟨#[]⟩, true⟩) (.slice (some ⟨u1.heap.size, 0, none⟩) 1 1))
        (try simp only [World.size_alloc] at hA2)
        have hY := hA2
        refine hK.out _ _ (hY.tail.tail) (fun hS => ?_)
        clear hK K
        try simp only [Act.put, List.setIfInBounds_toArray, List.set_cons_zero, List.set_cons_succ]
        have HX4 := Lib.hid hY
        clear hY hA0 hA1 hA2
        refine wpAnyH_done (by kernel_rfl) ?_ _
        (try go_wp2_with fail)
        go_meet
        exact ⟨_, _, rfl, HX4⟩
      refine AllReadyH.cons (o := { dst := some 9, op := Op.alloc 37, type := 0, pos := "outright.go:177", after := #[], guard := none }) rfl (fun K hK => ?_) AllReadyH.nil
      go_simp
      have hX := HX1.out.newBlk 37 (itc zI (.slice none 0 0))
      (try simp only [World.size_alloc] at hX)
      refine hK.out _ _ (hX.tail) (fun hS => ?_)
      clear hK K
      try simp only [Act.put, List.setIfInBounds_toArray, List.set_cons_zero, List.set_cons_succ]
      have HX2 := Lib.hid hX
      clear hX
      refine wpAnyH_ready (rs := [6]) (by kernel_rfl) (by simp) ?_
      refine AllReadyH.cons (o := { dst := some 36, op := Op.buildSlice 35 1 #[(0, Operand.tmp 35)], type := 35, pos := "outright.go:177", after := #[{ on := 5, ground := Ground.data }], guard := none }) rfl (fun K hK => ?_) AllReadyH.nil
      go_simp
      have hX := HX2.out.newBlk 79 #[.int .i64 (1 + m), .string ⟨#[]⟩, .bool true]
      (try simp only [World.size_alloc] at hX)
      refine hK.out _ _ (hX.tail.tail) (fun hS => ?_)
      clear hK K
      try simp only [Act.put, List.setIfInBounds_toArray, List.set_cons_zero, List.set_cons_succ]
      have HX3 := Lib.hid hX
      clear hX
      refine wpAnyH_take (i := 7) (oi := { dst := some 37, op := Op.build 37 #[(0, Operand.tmp 31), (1, Operand.tmp 33), (2, Operand.const (Value.int IntKind.i64 1)), (3, Operand.const (Value.string { data := #[97] })), (4, Operand.tmp 34), (6, Operand.tmp 36)], type := 37, pos := "outright.go:177", after := #[{ on := 1, ground := Ground.data }, { on := 3, ground := Ground.data }, { on := 4, ground := Ground.data }, { on := 6, ground := Ground.data }], guard := none }) (v := ?v7vab) rfl (by kernel_rfl) (by kernel_rfl) (by kernel_rfl) (fun _ _ _ h => h) (Or.inl ⟨by rfl, ?hy7vab⟩) (by assumption) ?rest7vab
      case hy7vab => (intro V2 hSw; (try dsimp only at hSw); go_simp; all_goals (with_reducible rfl))
      try simp only [Act.put, List.setIfInBounds_toArray, List.set_cons_zero, List.set_cons_succ]
      refine wpAnyH_ready (rs := [9]) (by kernel_rfl) (by simp) ?_
      refine AllReadyH.cons (o := { dst := none, op := Op.store 37 (Operand.tmp 9) (Operand.tmp 37), type := 0, pos := "outright.go:177", after := #[{ on := 8, ground := Ground.data }, { on := 7, ground := Ground.data }, { on := 4, ground := Ground.chain }, { on := 0, ground := Ground.phase }, { on := 1, ground := Ground.phase }, { on := 2, ground := Ground.phase }, { on := 3, ground := Ground.phase }, { on := 4, ground := Ground.phase }, { on := 5, ground := Ground.phase }, { on := 6, ground := Ground.phase }, { on := 7, ground := Ground.phase }, { on := 8, ground := Ground.phase }], guard := none }) rfl (fun K hK => ?_) AllReadyH.nil
      go_simp
      have hA0 := HX1.out
      have hA1 := hA0.newBlk 37 (itc (mineP ⟨x0, x1, x2, x3, x4, x5, x6, x7, x8, x9, x10, x11⟩ ⟨(1 + m), ⟨#[]⟩, true⟩) (.slice (some ⟨u1.heap.size + 1, 0, none⟩) 1 1))
      (try simp only [World.size_alloc] at hA1)
      have hA2 := hA1.newBlk 79 #[.int .i64 (1 + m), .string ⟨#[]⟩, .bool true]
      (try simp only [World.size_alloc] at hA2)
      have hY := hA2.swap
      refine hK.out _ _ (hY.tail.tail) (fun hS => ?_)
      clear hK K
      try simp only [Act.put, List.setIfInBounds_toArray, List.set_cons_zero, List.set_cons_succ]
      have HX4 := Lib.hid hY
      clear hY hA0 hA1 hA2
      refine wpAnyH_done (by kernel_rfl) ?_ _
      (try go_wp2_with fail)
      go_meet
      exact ⟨_, _, rfl, HX4⟩
    refine AllReadyH.cons (o := { dst := some 36, op := Op.buildSlice 35 1 #[(0, Operand.tmp 35)], type := 35, pos := "outright.go:177", after := #[{ on := 5, ground := Ground.data }], guard := none }) rfl (fun K hK => ?_) ?_
    · go_simp
      have hX := HX0.out.newBlk 79 #[.int .i64 (1 + m), .string ⟨#[]⟩, .bool true]
      (try simp only [World.size_alloc] at hX)
      refine hK.out _ _ (hX.tail) (fun hS => ?_)
      clear hK K
      try simp only [Act.put, List.setIfInBounds_toArray, List.set_cons_zero, List.set_cons_succ]
      have HX1 := Lib.hid hX
      clear hX
      refine wpAnyH_ready (rs := [4, 8]) (by kernel_rfl) (by simp) ?_
      refine AllReadyH.cons (o := { dst := some 34, op := Op.call { callee := Callee.value (Operand.func 34), args := #[Operand.const (Value.int IntKind.i64 5)], argTypes := #[3] }, type := 26, pos := "outright.go:177", after := #[], guard := none }) rfl (fun K hK => ?_) ?_
      · go_simp
        refine (at_c 5 _).mono ?_
        rintro e u2 ⟨rfl, hbu⟩
        have hX := HX1.out.keep hbu
        refine hK.out _ _ (hX.tail) (fun hS => ?_)
        clear hK K
        try simp only [Act.put, List.setIfInBounds_toArray, List.set_cons_zero, List.set_cons_succ]
        have HX2 := Lib.hid hX
        clear hX hbu
        refine wpAnyH_take (i := 7) (oi := { dst := some 37, op := Op.build 37 #[(0, Operand.tmp 31), (1, Operand.tmp 33), (2, Operand.const (Value.int IntKind.i64 1)), (3, Operand.const (Value.string { data := #[97] })), (4, Operand.tmp 34), (6, Operand.tmp 36)], type := 37, pos := "outright.go:177", after := #[{ on := 1, ground := Ground.data }, { on := 3, ground := Ground.data }, { on := 4, ground := Ground.data }, { on := 6, ground := Ground.data }], guard := none }) (v := ?v7vba) rfl (by kernel_rfl) (by kernel_rfl) (by kernel_rfl) (fun _ _ _ h => h) (Or.inl ⟨by rfl, ?hy7vba⟩) (by assumption) ?rest7vba
        case hy7vba => (intro V2 hSw; (try dsimp only at hSw); go_simp; all_goals (with_reducible rfl))
        try simp only [Act.put, List.setIfInBounds_toArray, List.set_cons_zero, List.set_cons_succ]
        refine wpAnyH_ready (rs := [8]) (by kernel_rfl) (by simp) ?_
        refine AllReadyH.cons (o := { dst := some 9, op := Op.alloc 37, type := 0, pos := "outright.go:177", after := #[], guard := none }) rfl (fun K hK => ?_) AllReadyH.nil
        go_simp
        have hX := HX2.out.newBlk 37 (itc zI (.slice none 0 0))
        (try simp only [World.size_alloc] at hX)
        refine hK.out _ _ (hX.tail.tail) (fun hS => ?_)
        clear hK K
        try simp only [Act.put, List.setIfInBounds_toArray, List.set_cons_zero, List.set_cons_succ]
        have HX3 := Lib.hid hX
        clear hX
        refine wpAnyH_ready (rs := [9]) (by kernel_rfl) (by simp) ?_
        refine AllReadyH.cons (o := { dst := none, op := Op.store 37 (Operand.tmp 9) (Operand.tmp 37), type := 0, pos := "outright.go:177", after := #[{ on := 8, ground := Ground.data }, { on := 7, ground := Ground.data }, { on := 4, ground := Ground.chain }, { on := 0, ground := Ground.phase }, { on := 1, ground := Ground.phase }, { on := 2, ground := Ground.phase }, { on := 3, ground := Ground.phase }, { on := 4, ground := Ground.phase }, { on := 5, ground := Ground.phase }, { on := 6, ground := Ground.phase }, { on := 7, ground := Ground.phase }, { on := 8, ground := Ground.phase }], guard := none }) rfl (fun K hK => ?_) AllReadyH.nil
        go_simp
        have hA0 := HX2.out
        have hA1 := hA0.newBlk 37 (itc (mineP ⟨x0, x1, x2, x3, x4, x5, x6, x7, x8, x9, x10, x11⟩ ⟨(1 + m), ⟨#[]⟩, true⟩) (.slice (some ⟨w3.heap.size, 0, none⟩) 1 1))
        (try simp only [World.size_alloc] at hA1)
        have hY := hA1
        refine hK.out _ _ (hY.tail.tail) (fun hS => ?_)
        clear hK K
        try simp only [Act.put, List.setIfInBounds_toArray, List.set_cons_zero, List.set_cons_succ]
        have HX4 := Lib.hid hY
        clear hY hA0 hA1
        refine wpAnyH_done (by kernel_rfl) ?_ _
        (try go_wp2_with fail)
        go_meet
        exact ⟨_, _, rfl, HX4⟩
      refine AllReadyH.cons (o := { dst := some 9, op := Op.alloc 37, type := 0, pos := "outright.go:177", after := #[], guard := none }) rfl (fun K hK => ?_) AllReadyH.nil
      go_simp
      have hX := HX1.out.newBlk 37 (itc zI (.slice none 0 0))
      (try simp only [World.size_alloc] at hX)
      refine hK.out _ _ (hX.tail.tail) (fun hS => ?_)
      clear hK K
      try simp only [Act.put, List.setIfInBounds_toArray, List.set_cons_zero, List.set_cons_succ]
      have HX2 := Lib.hid hX
      clear hX
      refine wpAnyH_ready (rs := [4]) (by kernel_rfl) (by simp) ?_
      refine AllReadyH.cons (o := { dst := some 34, op := Op.call { callee := Callee.value (Operand.func 34), args := #[Operand.const (Value.int IntKind.i64 5)], argTypes := #[3] }, type := 26, pos := "outright.go:177", after := #[], guard := none }) rfl (fun K hK => ?_) AllReadyH.nil
      go_simp
      refine (at_c 5 _).mono ?_
      rintro e u3 ⟨rfl, hbu⟩
      have hX := HX2.out.keep hbu
      refine hK.out _ _ (hX.tail.tail) (fun hS => ?_)
      clear hK K
      try simp only [Act.put, List.setIfInBounds_toArray, List.set_cons_zero, List.set_cons_succ]
      have HX3 := Lib.hid hX
      clear hX hbu
      refine wpAnyH_take (i := 7) (oi := { dst := some 37, op := Op.build 37 #[(0, Operand.tmp 31), (1, Operand.tmp 33), (2, Operand.const (Value.int IntKind.i64 1)), (3, Operand.const (Value.string { data := #[97] })), (4, Operand.tmp 34), (6, Operand.tmp 36)], type := 37, pos := "outright.go:177", after := #[{ on := 1, ground := Ground.data }, { on := 3, ground := Ground.data }, { on := 4, ground := Ground.data }, { on := 6, ground := Ground.data }], guard := none }) (v := ?v7vbb) rfl (by kernel_rfl) (by kernel_rfl) (by kernel_rfl) (fun _ _ _ h => h) (Or.inl ⟨by rfl, ?hy7vbb⟩) (by assumption) ?rest7vbb
      case hy7vbb => (intro V2 hSw; (try dsimp only at hSw); go_simp; all_goals (with_reducible rfl))
      try simp only [Act.put, List.setIfInBounds_toArray, List.set_cons_zero, List.set_cons_succ]
      refine wpAnyH_ready (rs := [9]) (by kernel_rfl) (by simp) ?_
      refine AllReadyH.cons (o := { dst := none, op := Op.store 37 (Operand.tmp 9) (Operand.tmp 37), type := 0, pos := "outright.go:177", after := #[{ on := 8, ground := Ground.data }, { on := 7, ground := Ground.data }, { on := 4, ground := Ground.chain }, { on := 0, ground := Ground.phase }, { on := 1, ground := Ground.phase }, { on := 2, ground := Ground.phase }, { on := 3, ground := Ground.phase }, { on := 4, ground := Ground.phase }, { on := 5, ground := Ground.phase }, { on := 6, ground := Ground.phase }, { on := 7, ground := Ground.phase }, { on := 8, ground := Ground.phase }], guard := none }) rfl (fun K hK => ?_) AllReadyH.nil
      have hX := HX3.out
      have kI := hX.blk.1
      have p0 := kI.cell 0
      have f0 := kI.frozen 0
      have p1 := kI.cell 1
      have f1 := kI.frozen 1
      have p2 := kI.cell 2
      have f2 := kI.frozen 2
      have p3 := kI.cell 3
      have f3 := kI.frozen 3
      have p4 := kI.cell 4
      have f4 := kI.frozen 4
      have p5 := kI.cell 5
      have f5 := kI.frozen 5
      have p6 := kI.cell 6
      have f6 := kI.frozen 6
      have p7 := kI.cell 7
      have f7 := kI.frozen 7
      have p8 := kI.cell 8
      have f8 := kI.frozen 8
      simp at p0 p1 p2 p3 p4 p5 p6 p7 p8
      (try simp at f0 f1 f2 f3 f4 f5 f6 f7 f8)
      have hY := Has.all9 (v0 := .int .i64 x0) (v1 := .int .i64 x1) (v2 := .int .i64 1) (v3 := .string bA) (v4 := .int .i64 5) (v5 := .int .i64 0) (v6 := .int .i64 0) (v7 := .int .i64 0) (v8 := .slice (some ⟨w3.heap.size, 0, none⟩) 1 1) hX
      go_simp
      refine hK.out _ _ (hY.tail.tail) (fun hS => ?_)
      clear hK K
      try simp only [Act.put, List.setIfInBounds_toArray, List.set_cons_zero, List.set_cons_succ]
      have HX4 := Lib.hid hY
      clear hX hY kI
      refine wpAnyH_done (by kernel_rfl) ?_ _
      (try go_wp2_with fail)
      go_meet
      exact ⟨_, _, rfl, HX4⟩
    refine AllReadyH.cons (o := { dst := some 9, op := Op.alloc 37, type := 0, pos := "outright.go:177", after := #[], guard := none }) rfl (fun K hK => ?_) AllReadyH.nil
    go_simp
    have hX := HX0.out.newBlk 37 (itc zI (.slice none 0 0))
    (try simp only [World.size_alloc] at hX)
    refine hK.out _ _ (hX.tail) (fun hS => ?_)
    clear hK K
    try simp only [Act.put, List.setIfInBounds_toArray, List.set_cons_zero, List.set_cons_succ]
    have HX1 := Lib.hid hX
    clear hX
    refine wpAnyH_ready (rs := [4, 6]) (by kernel_rfl) (by simp) ?_
    refine AllReadyH.cons (o := { dst := some 34, op := Op.call { callee := Callee.value (Operand.func 34), args := #[Operand.const (Value.int IntKind.i64 5)], argTypes := #[3] }, type := 26, pos := "outright.go:177", after := #[], guard := none }) rfl (fun K hK => ?_) ?_
    · go_simp
      refine (at_c 5 _).mono ?_
      rintro e u2 ⟨rfl, hbu⟩
      have hX := HX1.out.keep hbu
      refine hK.out _ _ (hX.tail) (fun hS => ?_)
      clear hK K
      try simp only [Act.put, List.setIfInBounds_toArray, List.set_cons_zero, List.set_cons_succ]
      have HX2 := Lib.hid hX
      clear hX hbu
      refine wpAnyH_ready (rs := [6]) (by kernel_rfl) (by simp) ?_
      refine AllReadyH.cons (o := { dst := some 36, op := Op.buildSlice 35 1 #[(0, Operand.tmp 35)], type := 35, pos := "outright.go:177", after := #[{ on := 5, ground := Ground.data }], guard := none }) rfl (fun K hK => ?_) AllReadyH.nil
      go_simp
      have hX := HX2.out.newBlk 79 #[.int .i64 (1 + m), .string ⟨#[]⟩, .bool true]
      (try simp only [World.size_alloc] at hX)
      refine hK.out _ _ (hX.tail.tail) (fun hS => ?_)
      clear hK K
      try simp only [Act.put, List.setIfInBounds_toArray, List.set_cons_zero, List.set_cons_succ]
      have HX3 := Lib.hid hX
      clear hX
      refine wpAnyH_take (i := 7) (oi := { dst := some 37, op := Op.build 37 #[(0, Operand.tmp 31), (1, Operand.tmp 33), (2, Operand.const (Value.int IntKind.i64 1)), (3, Operand.const (Value.string { data := #[97] })), (4, Operand.tmp 34), (6, Operand.tmp 36)], type := 37, pos := "outright.go:177", after := #[{ on := 1, ground := Ground.data }, { on := 3, ground := Ground.data }, { on := 4, ground := Ground.data }, { on := 6, ground := Ground.data }], guard := none }) (v := ?v7vca) rfl (by kernel_rfl) (by kernel_rfl) (by kernel_rfl) (fun _ _ _ h => h) (Or.inl ⟨by rfl, ?hy7vca⟩) (by assumption) ?rest7vca
      case hy7vca => (intro V2 hSw; (try dsimp only at hSw); go_simp; all_goals (with_reducible rfl))
      try simp only [Act.put, List.setIfInBounds_toArray, List.set_cons_zero, List.set_cons_succ]
      refine wpAnyH_ready (rs := [9]) (by kernel_rfl) (by simp) ?_
      refine AllReadyH.cons (o := { dst := none, op := Op.store 37 (Operand.tmp 9) (Operand.tmp 37), type := 0, pos := "outright.go:177", after := #[{ on := 8, ground := Ground.data }, { on := 7, ground := Ground.data }, { on := 4, ground := Ground.chain }, { on := 0, ground := Ground.phase }, { on := 1, ground := Ground.phase }, { on := 2, ground := Ground.phase }, { on := 3, ground := Ground.phase }, { on := 4, ground := Ground.phase }, { on := 5, ground := Ground.phase }, { on := 6, ground := Ground.phase }, { on := 7, ground := Ground.phase }, { on := 8, ground := Ground.phase }], guard := none }) rfl (fun K hK => ?_) AllReadyH.nil
      have hX := HX3.out.swap
      have kI := hX.blk.1
      have p0 := kI.cell 0
      have f0 := kI.frozen 0
      have p1 := kI.cell 1
      have f1 := kI.frozen 1
      have p2 := kI.cell 2
      have f2 := kI.frozen 2
      have p3 := kI.cell 3
      have f3 := kI.frozen 3
      have p4 := kI.cell 4
      have f4 := kI.frozen 4
      have p5 := kI.cell 5
      have f5 := kI.frozen 5
      have p6 := kI.cell 6
      have f6 := kI.frozen 6
      have p7 := kI.cell 7
      have f7 := kI.frozen 7
      have p8 := kI.cell 8
      have f8 := kI.frozen 8
      simp at p0 p1 p2 p3 p4 p5 p6 p7 p8
      (try simp at f0 f1 f2 f3 f4 f5 f6 f7 f8)
      have hY := Has.all9 (v0 := .int .i64 x0) (v1 := .int .i64 x1) (v2 := .int .i64 1) (v3 := .string bA) (v4 := .int .i64 5) (v5 := .int .i64 0) (v6 := .int .i64 0) (v7 := .int .i64 0) (v8 := .slice (some ⟨u2.heap.size, 0, none⟩) 1 1) hX
      go_simp
      refine hK.out _ _ (hY.tail.tail) (fun hS => ?_)
      clear hK K
      try simp only [Act.put, List.setIfInBounds_toArray, List.set_cons_zero, List.set_cons_succ]
      have HX4 := Lib.hid hY
      clear hX hY kI
      refine wpAnyH_done (by kernel_rfl) ?_ _
      (try go_wp2_with fail)
      go_meet
      exact ⟨_, _, rfl, HX4⟩
    refine AllReadyH.cons (o := { dst := some 36, op := Op.buildSlice 35 1 #[(0, Operand.tmp 35)], type := 35, pos := "outright.go:177", after := #[{ on := 5, ground := Ground.data }], guard := none }) rfl (fun K hK => ?_) AllReadyH.nil
    go_simp
    have hX := HX1.out.newBlk 79 #[.int .i64 (1 + m), .string ⟨#[]⟩, .bool true]
    (try simp only [World.size_alloc] at hX)
    refine hK.out _ _ (hX.tail.tail) (fun hS => ?_)
    clear hK K
    try simp only [Act.put, List.setIfInBounds_toArray, List.set_cons_zero, List.set_cons_succ]
    have HX2 := Lib.hid hX
    clear hX
    refine wpAnyH_ready (rs := [4]) (by kernel_rfl) (by simp) ?_
    refine AllReadyH.cons (o := { dst := some 34, op := Op.call { callee := Callee.value (Operand.func 34), args := #[Operand.const (Value.int IntKind.i64 5)], argTypes := #[3] }, type := 26, pos := "outright.go:177", after := #[], guard := none }) rfl (fun K hK => ?_) AllReadyH.nil
    go_simp
    refine (at_c 5 _).mono ?_
    rintro e u3 ⟨rfl, hbu⟩
    have hX := HX2.out.keep hbu
    refine hK.out _ _ (hX.tail.tail) (fun hS => ?_)
    clear hK K
    try simp only [Act.put, List.setIfInBounds_toArray, List.set_cons_zero, List.set_cons_succ]
    have HX3 := Lib.hid hX
    clear hX hbu
    refine wpAnyH_take (i := 7) (oi := { dst := some 37, op := Op.build 37 #[(0, Operand.tmp 31), (1, Operand.tmp 33), (2, Operand.const (Value.int IntKind.i64 1)), (3, Operand.const (Value.string { data := #[97] })), (4, Operand.tmp 34), (6, Operand.tmp 36)], type := 37, pos := "outright.go:177", after := #[{ on := 1, ground := Ground.data }, { on := 3, ground := Ground.data }, { on := 4, ground := Ground.data }, { on := 6, ground := Ground.data }], guard := none }) (v := ?v7vcb) rfl (by kernel_rfl) (by kernel_rfl) (by kernel_rfl) (fun _ _ _ h => h) (Or.inl ⟨by rfl, ?hy7vcb⟩) (by assumption) ?rest7vcb
    case hy7vcb => (intro V2 hSw; (try dsimp only at hSw); go_simp; all_goals (with_reducible rfl))
    try simp only [Act.put, List.setIfInBounds_toArray, List.set_cons_zero, List.set_cons_succ]
    refine wpAnyH_ready (rs := [9]) (by kernel_rfl) (by simp) ?_
    refine AllReadyH.cons (o := { dst := none, op := Op.store 37 (Operand.tmp 9) (Operand.tmp 37), type := 0, pos := "outright.go:177", after := #[{ on := 8, ground := Ground.data }, { on := 7, ground := Ground.data }, { on := 4, ground := Ground.chain }, { on := 0, ground := Ground.phase }, { on := 1, ground := Ground.phase }, { on := 2, ground := Ground.phase }, { on := 3, ground := Ground.phase }, { on := 4, ground := Ground.phase }, { on := 5, ground := Ground.phase }, { on := 6, ground := Ground.phase }, { on := 7, ground := Ground.phase }, { on := 8, ground := Ground.phase }], guard := none }) rfl (fun K hK => ?_) AllReadyH.nil
    have hX := HX3.out.swap
    have kI := hX.blk.1
    have p0 := kI.cell 0
    have f0 := kI.frozen 0
    have p1 := kI.cell 1
    have f1 := kI.frozen 1
    have p2 := kI.cell 2
    have f2 := kI.frozen 2
    have p3 := kI.cell 3
    have f3 := kI.frozen 3
    have p4 := kI.cell 4
    have f4 := kI.frozen 4
    have p5 := kI.cell 5
    have f5 := kI.frozen 5
    have p6 := kI.cell 6
    have f6 := kI.frozen 6
    have p7 := kI.cell 7
    have f7 := kI.frozen 7
    have p8 := kI.cell 8
    have f8 := kI.frozen 8
    simp at p0 p1 p2 p3 p4 p5 p6 p7 p8
    (try simp at f0 f1 f2 f3 f4 f5 f6 f7 f8)
    have hY := Has.all9 (v0 := .int .i64 x0) (v1 := .int .i64 x1) (v2 := .int .i64 1) (v3 := .string bA) (v4 := .int .i64 5) (v5 := .int .i64 0) (v6 := .int .i64 0) (v7 := .int .i64 0) (v8 := .slice (some ⟨w3.heap.size + 1, 0, none⟩) 1 1) hX
    go_simp
    refine hK.out _ _ (hY.tail.tail) (fun hS => ?_)
    clear hK K
    try simp only [Act.put, List.setIfInBounds_toArray, List.set_cons_zero, List.set_cons_succ]
    have HX4 := Lib.hid hY
    clear hX hY kI
    refine wpAnyH_done (by kernel_rfl) ?_ _
    (try go_wp2_with fail)
    go_meet
    exact ⟨_, _, rfl, HX4⟩
  case rest =>
    obtain ⟨gI, gS, rfl, HS⟩ := hcut
    have hI := HS.out.blk.1
    have p0 := hI.cell 0
    have p1 := hI.cell 1
    have p2 := hI.cell 2
    have p3 := hI.cell 3
    have p4 := hI.cell 4
    have p5 := hI.cell 5
    have p6 := hI.cell 6
    have p7 := hI.cell 7
    have p8 := hI.cell 8
    simp at p0 p1 p2 p3 p4 p5 p6 p7 p8
    have HCH := Lib.hid (ch_of_blk (HS.out.tail.blk.1))
    clear hI
    go_wp2_with fail
    refine (put_c (HS.out.perm (List.perm_middle (l₁ := [_, _]))) HRO.out (by decide) (thI (mineP ⟨x0, x1, x2, x3, x4, x5, x6, x7, x8, x9, x10, x11⟩ ⟨(1 + m), ⟨#[]⟩, true⟩)) (some ⟨gS, 0, none⟩) 1 1 HCH.out (by decide) (TSz_I _)).mono ?_
    rintro e w5 ⟨qq, rfl, h5⟩
    have bt := h5.blkAt (g := w.heap.size) (t := 28) (cs := txc ⟨x0, x1, x2, x3, x4, x5, x6, x7, x8, x9, x10, x11⟩) (by simp)
    have t0 := bt.cell 0
    have t1 := bt.cell 1
    have t2 := bt.cell 2
    have t3 := bt.cell 3
    have t4 := bt.cell 4
    have t5 := bt.cell 5
    have t6 := bt.cell 6
    have t7 := bt.cell 7
    have t8 := bt.cell 8
    have t9 := bt.cell 9
    have t10 := bt.cell 10
    have t11 := bt.cell 11
    simp at t0 t1 t2 t3 t4 t5 t6 t7 t8 t9 t10 t11
    have HP := Lib.hid h5
    clear h5 bt HX0 HCH p0 p1 p2 p3 p4 p5 p6 p7 p8
    go_wp2_with fail
    by_cases hrd : x4 = 0 ∧ x5 = 0
    · obtain ⟨rfl, rfl⟩ := hrd
      have HGET := Lib.hid (fun (T : List As) (W : World) (qq : Nat) (h : Has w (tbA qq (putP r (thI (mineP ⟨x0, x1, x2, x3, 0, 0, x6, x7, x8, x9, x10, x11⟩ ⟨(1 + m), ⟨#[]⟩, true⟩))) :: T) W) => pkGet h (HRO.out.put (TSz_I (mineP ⟨x0, x1, x2, x3, 0, 0, x6, x7, x8, x9, x10, x11⟩ ⟨(1 + m), ⟨#[]⟩, true⟩))) (by decide) hM bA (by decide) ⟨x0, x1, x2, x3, 0, 0, x6, x7, x8, x9, x10, x11⟩ 0 0)
      generalize pgetC (putP r (thI (mineP ⟨x0, x1, x2, x3, 0, 0, x6, x7, x8, x9, x10, x11⟩ ⟨(1 + m), ⟨#[]⟩, true⟩))) bA ⟨x0, x1, x2, x3, 0, 0, x6, x7, x8, x9, x10, x11⟩ (0, 0) = ff at HGET
      obtain ⟨f, k⟩ := ff
      refine (HGET.out _ _ _ HP.out).mono ?_
      rintro e w6 ⟨⟨A9, n9, c9, rfl, -, -⟩, h6⟩
      have h7 := h6.newBlk 39 (fdc f (.slice A9 n9 c9))
      have bt := h7.blkAt (g := w.heap.size) (t := 28) (cs := txc ⟨x0, x1, x2, x3, 0, 0, x6, x7, x8, x9, x10, x11⟩) (by simp)
      have bc := h7.blkAt (g := w.heap.size + 1) (t := 79) (cs := #[.int .i64 (1 + m), .string ⟨#[]⟩, .bool true]) (by simp)
      have t4 := bt.cell 4
      have t5 := bt.cell 5
      have c1 := bc.cell 1
      simp at t4 t5 c1
      have HF := Lib.hid (Has.pick2 h7)
      clear h6 h7 bt bc
      go_wp2_with fail
      refine (lawAwake _ (hM.below HF.out.bel)).mono ?_
      rintro e w8 ⟨rfl, hb8⟩
      have hfin := (HF.out.keep hb8).bel
      clear hb8
      go_wp2_with fail
      go_ret
      exact ⟨rfl, hfin⟩
    · by_cases h4 : x4 = 0
      · subst h4
        have hn5 : (x5 == 0) = false := by simpa using hrd
        have HPG := put_mine HRO.out HMX.out (show 1 ≤ 1 + m by omega) (by omega) (s := ⟨#[]⟩) (d := true) (by first | exact hs64 | decide) (fun _ => rfl) (read_pos HMX.out hrd)
        have HGET := Lib.hid (fun (T : List As) (W : World) (qq : Nat) (h : Has w (tbA qq (putP r (thI (mineP ⟨x0, x1, x2, x3, 0, x5, x6, x7, x8, x9, x10, x11⟩ ⟨(1 + m), ⟨#[]⟩, true⟩))) :: T) W) => pkGet h (HRO.out.put (TSz_I (mineP ⟨x0, x1, x2, x3, 0, x5, x6, x7, x8, x9, x10, x11⟩ ⟨(1 + m), ⟨#[]⟩, true⟩))) (by decide) hM bA (by decide) ⟨x0, x1, x2, x3, 0, x5, x6, x7, x8, x9, x10, x11⟩ 0 0)
        rw [HPG] at HGET
        clear HPG
        refine (HGET.out _ _ _ HP.out).mono ?_
        rintro e w6 ⟨⟨A9, n9, c9, rfl, -, -⟩, h6⟩
        have h7 := h6.newBlk 39 (fdc ⟨bA, ⟨#[]⟩, false, true, 5, 0, zI⟩ (.slice A9 n9 c9))
        have bt := h7.blkAt (g := w.heap.size) (t := 28) (cs := txc ⟨x0, x1, x2, x3, 0, x5, x6, x7, x8, x9, x10, x11⟩) (by simp)
        have bc := h7.blkAt (g := w.heap.size + 1) (t := 79) (cs := #[.int .i64 (1 + m), .string ⟨#[]⟩, .bool true]) (by simp)
        have t4 := bt.cell 4
        have t5 := bt.cell 5
        have c1 := bc.cell 1
        simp at t4 t5 c1
        have HF := Lib.hid (Has.pick2 h7)
        clear h6 h7 bt bc
        go_upto_region 12 with fail
        have LC := Lib.hid (fun V (hV : Has w (blkA w6.heap.size 39 (fdc ⟨bA, ⟨#[]⟩, false, true, 5, 0, zI⟩ (.slice A9 n9 c9)) :: blkA (w.heap.size + 1) 79 #[.int .i64 (1 + m), .string ⟨#[]⟩, .bool true] :: []) V) => (show V.cell? ⟨w6.heap.size, 1, none⟩ = some (.string ⟨#[]⟩) ∧ V.cell? ⟨w6.heap.size, 2, none⟩ = some (.bool false) ∧ V.cell? ⟨w6.heap.size, 3, none⟩ = some (.bool true) ∧ V.cell? ⟨w6.heap.size, 4, none⟩ = some (.int .i64 5) ∧ V.cell? ⟨w6.heap.size, 5, none⟩ = some (.int .i64 0) ∧ V.cell? ⟨w.heap.size + 1, 1, none⟩ = some (.string ⟨#[]⟩) ∧ V.cell? ⟨w.heap.size + 1, 2, none⟩ = some (.bool true) from by
          have k1 := hV.blkAt (g := w6.heap.size) (t := 39) (cs := fdc ⟨bA, ⟨#[]⟩, false, true, 5, 0, zI⟩ (.slice A9 n9 c9)) (by simp)
          have k2 := hV.blkAt (g := w.heap.size + 1) (t := 79) (cs := #[.int .i64 (1 + m), .string ⟨#[]⟩, .bool true]) (by simp)
          exact ⟨k1.cell 1, k1.cell 2, k1.cell 3, k1.cell 4, k1.cell 5, k2.cell 1, k2.cell 2⟩))
        refine wp_region_held_drew (S := Has w (blkA w6.heap.size 39 (fdc ⟨bA, ⟨#[]⟩, false, true, 5, 0, zI⟩ (.slice A9 n9 c9)) :: blkA (w.heap.size + 1) 79 #[.int .i64 (1 + m), .string ⟨#[]⟩, .bool true] :: [])) hmix (HF.out.drew) (fun hS => ?_)
        simp only [List.size_toArray, List.length_cons, List.length_nil, Nat.reduceAdd, Array.replicate_succ, Array.replicate_zero]
        refine wpAnyH_take (i := 0) (oi := { dst := some 60, op := Op.move (Operand.tmp 12), type := 40, pos := "outright.go:183", after := #[], guard := none }) (v := ?v0ut) rfl (by kernel_rfl) (by kernel_rfl) (by kernel_rfl) (fun _ _ _ h => h) (Or.inl ⟨by rfl, ?hy0ut⟩) (by assumption) ?rest0ut
        case hy0ut => (intro V2 hSw; (try dsimp only at hSw); go_simp; all_goals (with_reducible rfl))
        try simp only [Act.put, List.setIfInBounds_toArray, List.set_cons_zero, List.set_cons_succ]
        refine wpAnyH_take (i := 1) (oi := { dst := some 61, op := Op.binOp BinOp.eql 40 (Operand.tmp 60) (Operand.const (Value.int IntKind.i64 0)) 40, type := 4, pos := "outright.go:183", after := #[{ on := 0, ground := Ground.data }], guard := none }) (v := .bool true) rfl (by kernel_rfl) (by kernel_rfl) (by kernel_rfl) (fun _ _ _ h => h) (Or.inl ⟨by rfl, ?hy1ut⟩) (by assumption) ?rest1ut
        case hy1ut => (intro V2 hSw; (try dsimp only at hSw); go_simp; all_goals (with_reducible rfl))
        try simp only [Act.put, List.setIfInBounds_toArray, List.set_cons_zero, List.set_cons_succ]
        refine wpAnyH_take (i := 2) (oi := { dst := some 62, op := Op.move (Operand.tmp 61), type := 4, pos := "outright.go:183", after := #[{ on := 1, ground := Ground.data }], guard := none }) (v := ?v2ut) rfl (by kernel_rfl) (by kernel_rfl) (by kernel_rfl) (fun _ _ _ h => h) (Or.inl ⟨by rfl, ?hy2ut⟩) (by assumption) ?rest2ut
        case hy2ut => (intro V2 hSw; (try dsimp only at hSw); go_simp; all_goals (with_reducible rfl))
        try simp only [Act.put, List.setIfInBounds_toArray, List.set_cons_zero, List.set_cons_succ]
        refine wpAnyH_take (i := 3) (oi := { dst := some 63, op := Op.fieldAddr 39 (Operand.tmp 11) 3, type := 0, pos := "outright.go:183", after := #[{ on := 2, ground := Ground.guard }], guard := some (2, true) }) (v := ?v3ut) rfl (by kernel_rfl) (by kernel_rfl) (by kernel_rfl) (fun _ _ _ h => h) (Or.inl ⟨by rfl, ?hy3ut⟩) (by assumption) ?rest3ut
        case hy3ut => (intro V2 hSw; (try dsimp only at hSw); go_simp; all_goals (with_reducible rfl))
        try simp only [Act.put, List.setIfInBounds_toArray, List.set_cons_zero, List.set_cons_succ]
        refine wpAnyH_take (i := 4) (oi := { dst := some 64, op := Op.load 4 (Operand.tmp 63), type := 4, pos := "outright.go:183", after := #[{ on := 3, ground := Ground.data }, { on := 2, ground := Ground.guard }], guard := some (2, true) }) (v := ?v4ut) rfl (by kernel_rfl) (by kernel_rfl) (by kernel_rfl) (fun _ _ _ h => h) (Or.inl ⟨by rfl, ?hy4ut⟩) (by assumption) ?rest4ut
        case hy4ut => (intro V2 hSw; (try dsimp only at hSw); obtain ⟨z1, z2, z3, z4, z5, z6, z7⟩ := LC.out V2 hSw; go_simp; all_goals (with_reducible rfl))
        try simp only [Act.put, List.setIfInBounds_toArray, List.set_cons_zero, List.set_cons_succ]
        refine wpAnyH_take (i := 5) (oi := { dst := some 65, op := Op.pick (Operand.tmp 62) (Operand.tmp 64) (Operand.const (Value.bool false)), type := 4, pos := "outright.go:183", after := #[{ on := 2, ground := Ground.data }, { on := 4, ground := Ground.data }], guard := none }) (v := .bool true) rfl (by kernel_rfl) (by kernel_rfl) (by kernel_rfl) (fun _ _ _ h => h) (Or.inl ⟨by rfl, ?hy5ut⟩) (by assumption) ?rest5ut
        case hy5ut => (intro V2 hSw; (try dsimp only at hSw); go_simp; all_goals (with_reducible rfl))
        try simp only [Act.put, List.setIfInBounds_toArray, List.set_cons_zero, List.set_cons_succ]
        refine wpAnyH_take (i := 6) (oi := { dst := some 66, op := Op.move (Operand.tmp 65), type := 4, pos := "outright.go:183", after := #[{ on := 5, ground := Ground.data }, { on := 2, ground := Ground.chain }], guard := none }) (v := ?v6ut) rfl (by kernel_rfl) (by kernel_rfl) (by kernel_rfl) (fun _ _ _ h => h) (Or.inl ⟨by rfl, ?hy6ut⟩) (by assumption) ?rest6ut
        case hy6ut => (intro V2 hSw; (try dsimp only at hSw); go_simp; all_goals (with_reducible rfl))
        try simp only [Act.put, List.setIfInBounds_toArray, List.set_cons_zero, List.set_cons_succ]
        refine wpAnyH_take (i := 7) (oi := { dst := some 67, op := Op.fieldAddr 39 (Operand.tmp 11) 2, type := 0, pos := "outright.go:183", after := #[{ on := 6, ground := Ground.guard }], guard := some (6, true) }) (v := ?v7ut) rfl (by kernel_rfl) (by kernel_rfl) (by kernel_rfl) (fun _ _ _ h => h) (Or.inl ⟨by rfl, ?hy7ut⟩) (by assumption) ?rest7ut
        case hy7ut => (intro V2 hSw; (try dsimp only at hSw); go_simp; all_goals (with_reducible rfl))
        try simp only [Act.put, List.setIfInBounds_toArray, List.set_cons_zero, List.set_cons_succ]
        refine wpAnyH_take (i := 8) (oi := { dst := some 68, op := Op.load 4 (Operand.tmp 67), type := 4, pos := "outright.go:183", after := #[{ on := 7, ground := Ground.data }, { on := 6, ground := Ground.guard }], guard := some (6, true) }) (v := ?v8ut) rfl (by kernel_rfl) (by kernel_rfl) (by kernel_rfl) (fun _ _ _ h => h) (Or.inl ⟨by rfl, ?hy8ut⟩) (by assumption) ?rest8ut
        case hy8ut => (intro V2 hSw; (try dsimp only at hSw); obtain ⟨z1, z2, z3, z4, z5, z6, z7⟩ := LC.out V2 hSw; go_simp; all_goals (with_reducible rfl))
        try simp only [Act.put, List.setIfInBounds_toArray, List.set_cons_zero, List.set_cons_succ]
        refine wpAnyH_take (i := 9) (oi := { dst := some 69, op := Op.fieldAddr 79 (Operand.tmp 5) 2, type := 0, pos := "outright.go:183", after := #[{ on := 6, ground := Ground.guard }], guard := some (6, true) }) (v := ?v9ut) rfl (by kernel_rfl) (by kernel_rfl) (by kernel_rfl) (fun _ _ _ h => h) (Or.inl ⟨by rfl, ?hy9ut⟩) (by assumption) ?rest9ut
        case hy9ut => (intro V2 hSw; (try dsimp only at hSw); go_simp; all_goals (with_reducible rfl))
        try simp only [Act.put, List.setIfInBounds_toArray, List.set_cons_zero, List.set_cons_succ]
        refine wpAnyH_take (i := 10) (oi := { dst := some 70, op := Op.load 4 (Operand.tmp 69), type := 4, pos := "outright.go:183", after := #[{ on := 9, ground := Ground.data }, { on := 6, ground := Ground.guard }], guard := some (6, true) }) (v := ?v10ut) rfl (by kernel_rfl) (by kernel_rfl) (by kernel_rfl) (fun _ _ _ h => h) (Or.inl ⟨by rfl, ?hy10ut⟩) (by assumption) ?rest10ut
        case hy10ut => (intro V2 hSw; (try dsimp only at hSw); obtain ⟨z1, z2, z3, z4, z5, z6, z7⟩ := LC.out V2 hSw; go_simp; all_goals (with_reducible rfl))
        try simp only [Act.put, List.setIfInBounds_toArray, List.set_cons_zero, List.set_cons_succ]
        refine wpAnyH_take (i := 11) (oi := { dst := some 71, op := Op.unOp UnOp.not 4 (Operand.tmp 70), type := 4, pos := "outright.go:183", after := #[{ on := 10, ground := Ground.data }, { on := 6, ground := Ground.guard }], guard := some (6, true) }) (v := ?v11ut) rfl (by kernel_rfl) (by kernel_rfl) (by kernel_rfl) (fun _ _ _ h => h) (Or.inl ⟨by rfl, ?hy11ut⟩) (by assumption) ?rest11ut
        case hy11ut => (intro V2 hSw; (try dsimp only at hSw); go_simp; all_goals (with_reducible rfl))
        try simp only [Act.put, List.setIfInBounds_toArray, List.set_cons_zero, List.set_cons_succ]
        refine wpAnyH_take (i := 12) (oi := { dst := some 72, op := Op.binOp BinOp.eql 4 (Operand.tmp 68) (Operand.tmp 71) 4, type := 4, pos := "outright.go:183", after := #[{ on := 8, ground := Ground.data }, { on := 11, ground := Ground.data }, { on := 6, ground := Ground.guard }], guard := some (6, true) }) (v := .bool true) rfl (by kernel_rfl) (by kernel_rfl) (by kernel_rfl) (fun _ _ _ h => h) (Or.inl ⟨by rfl, ?hy12ut⟩) (by assumption) ?rest12ut
        case hy12ut => (intro V2 hSw; (try dsimp only at hSw); go_simp; all_goals (with_reducible rfl))
        try simp only [Act.put, List.setIfInBounds_toArray, List.set_cons_zero, List.set_cons_succ]
        refine wpAnyH_take (i := 13) (oi := { dst := some 73, op := Op.pick (Operand.tmp 66) (Operand.tmp 72) (Operand.const (Value.bool false)), type := 4, pos := "outright.go:183", after := #[{ on := 6, ground := Ground.data }, { on := 12, ground := Ground.data }], guard := none }) (v := .bool true) rfl (by kernel_rfl) (by kernel_rfl) (by kernel_rfl) (fun _ _ _ h => h) (Or.inl ⟨by rfl, ?hy13ut⟩) (by assumption) ?rest13ut
        case hy13ut => (intro V2 hSw; (try dsimp only at hSw); go_simp; all_goals (with_reducible rfl))
        try simp only [Act.put, List.setIfInBounds_toArray, List.set_cons_zero, List.set_cons_succ]
        refine wpAnyH_take (i := 14) (oi := { dst := some 74, op := Op.move (Operand.tmp 73), type := 4, pos := "outright.go:183", after := #[{ on := 13, ground := Ground.data }, { on := 6, ground := Ground.chain }], guard := none }) (v := ?v14ut) rfl (by kernel_rfl) (by kernel_rfl) (by kernel_rfl) (fun _ _ _ h => h) (Or.inl ⟨by rfl, ?hy14ut⟩) (by assumption) ?rest14ut
        case hy14ut => (intro V2 hSw; (try dsimp only at hSw); go_simp; all_goals (with_reducible rfl))
        try simp only [Act.put, List.setIfInBounds_toArray, List.set_cons_zero, List.set_cons_succ]
        refine wpAnyH_take (i := 15) (oi := { dst := some 75, op := Op.fieldAddr 39 (Operand.tmp 11) 1, type := 0, pos := "outright.go:183", after := #[{ on := 14, ground := Ground.guard }], guard := some (14, true) }) (v := ?v15ut) rfl (by kernel_rfl) (by kernel_rfl) (by kernel_rfl) (fun _ _ _ h => h) (Or.inl ⟨by rfl, ?hy15ut⟩) (by assumption) ?rest15ut
        case hy15ut => (intro V2 hSw; (try dsimp only at hSw); go_simp; all_goals (with_reducible rfl))
        try simp only [Act.put, List.setIfInBounds_toArray, List.set_cons_zero, List.set_cons_succ]
        refine wpAnyH_take (i := 16) (oi := { dst := some 76, op := Op.load 9 (Operand.tmp 75), type := 9, pos := "outright.go:183", after := #[{ on := 15, ground := Ground.data }, { on := 14, ground := Ground.guard }], guard := some (14, true) }) (v := ?v16ut) rfl (by kernel_rfl) (by kernel_rfl) (by kernel_rfl) (fun _ _ _ h => h) (Or.inl ⟨by rfl, ?hy16ut⟩) (by assumption) ?rest16ut
        case hy16ut => (intro V2 hSw; (try dsimp only at hSw); obtain ⟨z1, z2, z3, z4, z5, z6, z7⟩ := LC.out V2 hSw; go_simp; all_goals (with_reducible rfl))
        try simp only [Act.put, List.setIfInBounds_toArray, List.set_cons_zero, List.set_cons_succ]
        refine wpAnyH_take (i := 17) (oi := { dst := some 77, op := Op.fieldAddr 79 (Operand.tmp 5) 1, type := 0, pos := "outright.go:183", after := #[{ on := 14, ground := Ground.guard }], guard := some (14, true) }) (v := ?v17ut) rfl (by kernel_rfl) (by kernel_rfl) (by kernel_rfl) (fun _ _ _ h => h) (Or.inl ⟨by rfl, ?hy17ut⟩) (by assumption) ?rest17ut
        case hy17ut => (intro V2 hSw; (try dsimp only at hSw); go_simp; all_goals (with_reducible rfl))
        try simp only [Act.put, List.setIfInBounds_toArray, List.set_cons_zero, List.set_cons_succ]
        refine wpAnyH_take (i := 18) (oi := { dst := some 78, op := Op.load 9 (Operand.tmp 77), type := 9, pos := "outright.go:183", after := #[{ on := 17, ground := Ground.data }, { on := 14, ground := Ground.guard }], guard := some (14, true) }) (v := ?v18ut) rfl (by kernel_rfl) (by kernel_rfl) (by kernel_rfl) (fun _ _ _ h => h) (Or.inl ⟨by rfl, ?hy18ut⟩) (by assumption) ?rest18ut
        case hy18ut => (intro V2 hSw; (try dsimp only at hSw); obtain ⟨z1, z2, z3, z4, z5, z6, z7⟩ := LC.out V2 hSw; go_simp; all_goals (with_reducible rfl))
        try simp only [Act.put, List.setIfInBounds_toArray, List.set_cons_zero, List.set_cons_succ]
        refine wpAnyH_take (i := 19) (oi := { dst := some 79, op := Op.binOp BinOp.eql 9 (Operand.tmp 76) (Operand.tmp 78) 9, type := 4, pos := "outright.go:183", after := #[{ on := 16, ground := Ground.data }, { on := 18, ground := Ground.data }, { on := 14, ground := Ground.guard }], guard := some (14, true) }) (v := .bool true) rfl (by kernel_rfl) (by kernel_rfl) (by kernel_rfl) (fun _ _ _ h => h) (Or.inl ⟨by rfl, ?hy19ut⟩) (by assumption) ?rest19ut
        case hy19ut => (intro V2 hSw; (try dsimp only at hSw); go_simp; all_goals (with_reducible rfl))
        try simp only [Act.put, List.setIfInBounds_toArray, List.set_cons_zero, List.set_cons_succ]
        refine wpAnyH_take (i := 20) (oi := { dst := some 80, op := Op.pick (Operand.tmp 74) (Operand.tmp 79) (Operand.const (Value.bool false)), type := 4, pos := "outright.go:183", after := #[{ on := 14, ground := Ground.data }, { on := 19, ground := Ground.data }], guard := none }) (v := .bool true) rfl (by kernel_rfl) (by kernel_rfl) (by kernel_rfl) (fun _ _ _ h => h) (Or.inl ⟨by rfl, ?hy20ut⟩) (by assumption) ?rest20ut
        case hy20ut => (intro V2 hSw; (try dsimp only at hSw); go_simp; all_goals (with_reducible rfl))
        try simp only [Act.put, List.setIfInBounds_toArray, List.set_cons_zero, List.set_cons_succ]
        refine wpAnyH_take (i := 21) (oi := { dst := some 81, op := Op.move (Operand.tmp 80), type := 4, pos := "outright.go:183", after := #[{ on := 20, ground := Ground.data }, { on := 14, ground := Ground.chain }], guard := none }) (v := ?v21ut) rfl (by kernel_rfl) (by kernel_rfl) (by kernel_rfl) (fun _ _ _ h => h) (Or.inl ⟨by rfl, ?hy21ut⟩) (by assumption) ?rest21ut
        case hy21ut => (intro V2 hSw; (try dsimp only at hSw); go_simp; all_goals (with_reducible rfl))
        try simp only [Act.put, List.setIfInBounds_toArray, List.set_cons_zero, List.set_cons_succ]
        refine wpAnyH_take (i := 22) (oi := { dst := some 82, op := Op.fieldAddr 39 (Operand.tmp 11) 4, type := 0, pos := "outright.go:183", after := #[{ on := 21, ground := Ground.guard }], guard := some (21, true) }) (v := ?v22ut) rfl (by kernel_rfl) (by kernel_rfl) (by kernel_rfl) (fun _ _ _ h => h) (Or.inl ⟨by rfl, ?hy22ut⟩) (by assumption) ?rest22ut
        case hy22ut => (intro V2 hSw; (try dsimp only at hSw); go_simp; all_goals (with_reducible rfl))
        try simp only [Act.put, List.setIfInBounds_toArray, List.set_cons_zero, List.set_cons_succ]
        refine wpAnyH_take (i := 23) (oi := { dst := some 83, op := Op.load 26 (Operand.tmp 82), type := 26, pos := "outright.go:183", after := #[{ on := 22, ground := Ground.data }, { on := 21, ground := Ground.guard }], guard := some (21, true) }) (v := ?v23ut) rfl (by kernel_rfl) (by kernel_rfl) (by kernel_rfl) (fun _ _ _ h => h) (Or.inl ⟨by rfl, ?hy23ut⟩) (by assumption) ?rest23ut
        case hy23ut => (intro V2 hSw; (try dsimp only at hSw); obtain ⟨z1, z2, z3, z4, z5, z6, z7⟩ := LC.out V2 hSw; go_simp; all_goals (with_reducible rfl))
        try simp only [Act.put, List.setIfInBounds_toArray, List.set_cons_zero, List.set_cons_succ]
        refine wpAnyH_ready (rs := [24]) (by kernel_rfl) (by simp) ?_
        refine AllReadyH.cons (o := { dst := some 84, op := Op.call { callee := Callee.value (Operand.func 34), args := #[Operand.const (Value.int IntKind.i64 5)], argTypes := #[3] }, type := 26, pos := "outright.go:183", after := #[{ on := 21, ground := Ground.chain }, { on := 21, ground := Ground.guard }], guard := some (21, true) }) rfl (fun K hK => ?_) AllReadyH.nil
        go_simp
        refine (at_c 5 _).mono ?_
        rintro e u6 ⟨rfl, hbu6⟩
        refine hK.out _ _ (hS.keep hbu6) (fun hS => ?_)
        clear hK K
        try simp only [Act.put, List.setIfInBounds_toArray, List.set_cons_zero, List.set_cons_succ]
        refine wpAnyH_take (i := 25) (oi := { dst := some 85, op := Op.binOp BinOp.eql 26 (Operand.tmp 83) (Operand.tmp 84) 26, type := 4, pos := "outright.go:183", after := #[{ on := 23, ground := Ground.data }, { on := 24, ground := Ground.data }, { on := 21, ground := Ground.guard }], guard := some (21, true) }) (v := .bool true) rfl (by kernel_rfl) (by kernel_rfl) (by kernel_rfl) (fun _ _ _ h => h) (Or.inl ⟨by rfl, ?hy25ut⟩) (by assumption) ?rest25ut
        case hy25ut => (intro V2 hSw; (try dsimp only at hSw); go_simp; all_goals (with_reducible rfl))
        try simp only [Act.put, List.setIfInBounds_toArray, List.set_cons_zero, List.set_cons_succ]
        refine wpAnyH_take (i := 26) (oi := { dst := some 86, op := Op.pick (Operand.tmp 81) (Operand.tmp 85) (Operand.const (Value.bool false)), type := 4, pos := "outright.go:183", after := #[{ on := 21, ground := Ground.data }, { on := 25, ground := Ground.data }], guard := none }) (v := .bool true) rfl (by kernel_rfl) (by kernel_rfl) (by kernel_rfl) (fun _ _ _ h => h) (Or.inl ⟨by rfl, ?hy26ut⟩) (by assumption) ?rest26ut
        case hy26ut => (intro V2 hSw; (try dsimp only at hSw); go_simp; all_goals (with_reducible rfl))
        try simp only [Act.put, List.setIfInBounds_toArray, List.set_cons_zero, List.set_cons_succ]
        refine wpAnyH_take (i := 27) (oi := { dst := some 87, op := Op.move (Operand.tmp 86), type := 4, pos := "outright.go:183", after := #[{ on := 26, ground := Ground.data }, { on := 24, ground := Ground.chain }], guard := none }) (v := ?v27ut) rfl (by kernel_rfl) (by kernel_rfl) (by kernel_rfl) (fun _ _ _ h => h) (Or.inl ⟨by rfl, ?hy27ut⟩) (by assumption) ?rest27ut
        case hy27ut => (intro V2 hSw; (try dsimp only at hSw); go_simp; all_goals (with_reducible rfl))
        try simp only [Act.put, List.setIfInBounds_toArray, List.set_cons_zero, List.set_cons_succ]
        refine wpAnyH_ready (rs := [28]) (by kernel_rfl) (by simp) ?_
        refine AllReadyH.cons (o := { dst := some 88, op := Op.call { callee := Callee.value (Operand.func 24), args := #[], argTypes := #[] }, type := 4, pos := "outright.go:183", after := #[{ on := 27, ground := Ground.chain }, { on := 27, ground := Ground.guard }], guard := some (27, true) }) rfl (fun K hK => ?_) AllReadyH.nil
        go_simp
        refine (lawAwake _ (hM.below hS.bel)).mono ?_
        rintro e u7 ⟨rfl, hbu7⟩
        refine hK.out _ _ (hS.keep hbu7) (fun hS => ?_)
        clear hK K
        try simp only [Act.put, List.setIfInBounds_toArray, List.set_cons_zero, List.set_cons_succ]
        refine wpAnyH_take (i := 29) (oi := { dst := some 89, op := Op.pick (Operand.tmp 87) (Operand.tmp 88) (Operand.const (Value.bool false)), type := 4, pos := "outright.go:183", after := #[{ on := 27, ground := Ground.data }, { on := 28, ground := Ground.data }], guard := none }) (v := .bool true) rfl (by kernel_rfl) (by kernel_rfl) (by kernel_rfl) (fun _ _ _ h => h) (Or.inl ⟨by rfl, ?hy29ut⟩) (by assumption) ?rest29ut
        case hy29ut => (intro V2 hSw; (try dsimp only at hSw); go_simp; all_goals (with_reducible rfl))
        try simp only [Act.put, List.setIfInBounds_toArray, List.set_cons_zero, List.set_cons_succ]
        refine wpAnyH_take (i := 30) (oi := { dst := some 6, op := Op.assign (Operand.tmp 89), type := 4, pos := "outright.go:183", after := #[{ on := 29, ground := Ground.data }, { on := 28, ground := Ground.chain }, { on := 0, ground := Ground.phase }, { on := 1, ground := Ground.phase }, { on := 2, ground := Ground.phase }, { on := 3, ground := Ground.phase }, { on := 4, ground := Ground.phase }, { on := 5, ground := Ground.phase }, { on := 6, ground := Ground.phase }, { on := 7, ground := Ground.phase }, { on := 8, ground := Ground.phase }, { on := 9, ground := Ground.phase }, { on := 10, ground := Ground.phase }, { on := 11, ground := Ground.phase }, { on := 12, ground := Ground.phase }, { on := 13, ground := Ground.phase }, { on := 14, ground := Ground.phase }, { on := 15, ground := Ground.phase }, { on := 16, ground := Ground.phase }, { on := 17, ground := Ground.phase }, { on := 18, ground := Ground.phase }, { on := 19, ground := Ground.phase }, { on := 20, ground := Ground.phase }, { on := 21, ground := Ground.phase }, { on := 22, ground := Ground.phase }, { on := 23, ground := Ground.phase }, { on := 24, ground := Ground.phase }, { on := 25, ground := Ground.phase }, { on := 26, ground := Ground.phase }, { on := 27, ground := Ground.phase }, { on := 28, ground := Ground.phase }, { on := 29, ground := Ground.phase }], guard := none }) (v := ?v30ut) rfl (by kernel_rfl) (by kernel_rfl) (by kernel_rfl) (fun _ _ _ h => h) (Or.inl ⟨by rfl, ?hy30ut⟩) (by assumption) ?rest30ut
        case hy30ut => (intro V2 hSw; (try dsimp only at hSw); go_simp; all_goals (with_reducible rfl))
        try simp only [Act.put, List.setIfInBounds_toArray, List.set_cons_zero, List.set_cons_succ]
        refine wpAnyH_done (by kernel_rfl) ?_ _
        have hfin := hS.bel
        go_wp2_with fail
        go_ret
        exact ⟨rfl, hfin⟩
      · have hn4 : (x4 == 0) = false := by simpa using h4
        have HPG := put_mine HRO.out HMX.out (show 1 ≤ 1 + m by omega) (by omega) (s := ⟨#[]⟩) (d := true) (by first | exact hs64 | decide) (fun _ => rfl) (read_pos HMX.out hrd)
        have HGET := Lib.hid (fun (T : List As) (W : World) (qq : Nat) (h : Has w (tbA qq (putP r (thI (mineP ⟨x0, x1, x2, x3, x4, x5, x6, x7, x8, x9, x10, x11⟩ ⟨(1 + m), ⟨#[]⟩, true⟩))) :: T) W) => pkGet h (HRO.out.put (TSz_I (mineP ⟨x0, x1, x2, x3, x4, x5, x6, x7, x8, x9, x10, x11⟩ ⟨(1 + m), ⟨#[]⟩, true⟩))) (by decide) hM bA (by decide) ⟨x0, x1, x2, x3, x4, x5, x6, x7, x8, x9, x10, x11⟩ 0 0)
        rw [HPG] at HGET
        clear HPG
        refine (HGET.out _ _ _ HP.out).mono ?_
        rintro e w6 ⟨⟨A9, n9, c9, rfl, -, -⟩, h6⟩
        have h7 := h6.newBlk 39 (fdc ⟨bA, ⟨#[]⟩, false, true, 5, 0, zI⟩ (.slice A9 n9 c9))
        have bt := h7.blkAt (g := w.heap.size) (t := 28) (cs := txc ⟨x0, x1, x2, x3, x4, x5, x6, x7, x8, x9, x10, x11⟩) (by simp)
        have bc := h7.blkAt (g := w.heap.size + 1) (t := 79) (cs := #[.int .i64 (1 + m), .string ⟨#[]⟩, .bool true]) (by simp)
        have t4 := bt.cell 4
        have t5 := bt.cell 5
        have c1 := bc.cell 1
        simp at t4 t5 c1
        have HF := Lib.hid (Has.pick2 h7)
        clear h6 h7 bt bc
        go_upto_region 12 with fail
        have LC := Lib.hid (fun V (hV : Has w (blkA w6.heap.size 39 (fdc ⟨bA, ⟨#[]⟩, false, true, 5, 0, zI⟩ (.slice A9 n9 c9)) :: blkA (w.heap.size + 1) 79 #[.int .i64 (1 + m), .string ⟨#[]⟩, .bool true] :: []) V) => (show V.cell? ⟨w6.heap.size, 1, none⟩ = some (.string ⟨#[]⟩) ∧ V.cell? ⟨w6.heap.size, 2, none⟩ = some (.bool false) ∧ V.cell? ⟨w6.heap.size, 3, none⟩ = some (.bool true) ∧ V.cell? ⟨w6.heap.size, 4, none⟩ = some (.int .i64 5) ∧ V.cell? ⟨w6.heap.size, 5, none⟩ = some (.int .i64 0) ∧ V.cell? ⟨w.heap.size + 1, 1, none⟩ = some (.string ⟨#[]⟩) ∧ V.cell? ⟨w.heap.size + 1, 2, none⟩ = some (.bool true) from by
          have k1 := hV.blkAt (g := w6.heap.size) (t := 39) (cs := fdc ⟨bA, ⟨#[]⟩, false, true, 5, 0, zI⟩ (.slice A9 n9 c9)) (by simp)
          have k2 := hV.blkAt (g := w.heap.size + 1) (t := 79) (cs := #[.int .i64 (1 + m), .string ⟨#[]⟩, .bool true]) (by simp)
          exact ⟨k1.cell 1, k1.cell 2, k1.cell 3, k1.cell 4, k1.cell 5, k2.cell 1, k2.cell 2⟩))
        refine wp_region_held_drew (S := Has w (blkA w6.heap.size 39 (fdc ⟨bA, ⟨#[]⟩, false, true, 5, 0, zI⟩ (.slice A9 n9 c9)) :: blkA (w.heap.size + 1) 79 #[.int .i64 (1 + m), .string ⟨#[]⟩, .bool true] :: [])) hmix (HF.out.drew) (fun hS => ?_)
        simp only [List.size_toArray, List.length_cons, List.length_nil, Nat.reduceAdd, Array.replicate_succ, Array.replicate_zero]
        refine wpAnyH_take (i := 0) (oi := { dst := some 60, op := Op.move (Operand.tmp 12), type := 40, pos := "outright.go:183", after := #[], guard := none }) (v := ?v0yt) rfl (by kernel_rfl) (by kernel_rfl) (by kernel_rfl) (fun _ _ _ h => h) (Or.inl ⟨by rfl, ?hy0yt⟩) (by assumption) ?rest0yt
        case hy0yt => (intro V2 hSw; (try dsimp only at hSw); go_simp; all_goals (with_reducible rfl))
        try simp only [Act.put, List.setIfInBounds_toArray, List.set_cons_zero, List.set_cons_succ]
        refine wpAnyH_take (i := 1) (oi := { dst := some 61, op := Op.binOp BinOp.eql 40 (Operand.tmp 60) (Operand.const (Value.int IntKind.i64 0)) 40, type := 4, pos := "outright.go:183", after := #[{ on := 0, ground := Ground.data }], guard := none }) (v := .bool true) rfl (by kernel_rfl) (by kernel_rfl) (by kernel_rfl) (fun _ _ _ h => h) (Or.inl ⟨by rfl, ?hy1yt⟩) (by assumption) ?rest1yt
        case hy1yt => (intro V2 hSw; (try dsimp only at hSw); go_simp; all_goals (with_reducible rfl))
        try simp only [Act.put, List.setIfInBounds_toArray, List.set_cons_zero, List.set_cons_succ]
        refine wpAnyH_take (i := 2) (oi := { dst := some 62, op := Op.move (Operand.tmp 61), type := 4, pos := "outright.go:183", after := #[{ on := 1, ground := Ground.data }], guard := none }) (v := ?v2yt) rfl (by kernel_rfl) (by kernel_rfl) (by kernel_rfl) (fun _ _ _ h => h) (Or.inl ⟨by rfl, ?hy2yt⟩) (by assumption) ?rest2yt
        case hy2yt => (intro V2 hSw; (try dsimp only at hSw); go_simp; all_goals (with_reducible rfl))
        try simp only [Act.put, List.setIfInBounds_toArray, List.set_cons_zero, List.set_cons_succ]
        refine wpAnyH_take (i := 3) (oi := { dst := some 63, op := Op.fieldAddr 39 (Operand.tmp 11) 3, type := 0, pos := "outright.go:183", after := #[{ on := 2, ground := Ground.guard }], guard := some (2, true) }) (v := ?v3yt) rfl (by kernel_rfl) (by kernel_rfl) (by kernel_rfl) (fun _ _ _ h => h) (Or.inl ⟨by rfl, ?hy3yt⟩) (by assumption) ?rest3yt
        case hy3yt => (intro V2 hSw; (try dsimp only at hSw); go_simp; all_goals (with_reducible rfl))
        try simp only [Act.put, List.setIfInBounds_toArray, List.set_cons_zero, List.set_cons_succ]
        refine wpAnyH_take (i := 4) (oi := { dst := some 64, op := Op.load 4 (Operand.tmp 63), type := 4, pos := "outright.go:183", after := #[{ on := 3, ground := Ground.data }, { on := 2, ground := Ground.guard }], guard := some (2, true) }) (v := ?v4yt) rfl (by kernel_rfl) (by kernel_rfl) (by kernel_rfl) (fun _ _ _ h => h) (Or.inl ⟨by rfl, ?hy4yt⟩) (by assumption) ?rest4yt
        case hy4yt => (intro V2 hSw; (try dsimp only at hSw); obtain ⟨z1, z2, z3, z4, z5, z6, z7⟩ := LC.out V2 hSw; go_simp; all_goals (with_reducible rfl))
        try simp only [Act.put, List.setIfInBounds_toArray, List.set_cons_zero, List.set_cons_succ]
        refine wpAnyH_take (i := 5) (oi := { dst := some 65, op := Op.pick (Operand.tmp 62) (Operand.tmp 64) (Operand.const (Value.bool false)), type := 4, pos := "outright.go:183", after := #[{ on := 2, ground := Ground.data }, { on := 4, ground := Ground.data }], guard := none }) (v := .bool true) rfl (by kernel_rfl) (by kernel_rfl) (by kernel_rfl) (fun _ _ _ h => h) (Or.inl ⟨by rfl, ?hy5yt⟩) (by assumption) ?rest5yt
        case hy5yt => (intro V2 hSw; (try dsimp only at hSw); go_simp; all_goals (with_reducible rfl))
        try simp only [Act.put, List.setIfInBounds_toArray, List.set_cons_zero, List.set_cons_succ]
        refine wpAnyH_take (i := 6) (oi := { dst := some 66, op := Op.move (Operand.tmp 65), type := 4, pos := "outright.go:183", after := #[{ on := 5, ground := Ground.data }, { on := 2, ground := Ground.chain }], guard := none }) (v := ?v6yt) rfl (by kernel_rfl) (by kernel_rfl) (by kernel_rfl) (fun _ _ _ h => h) (Or.inl ⟨by rfl, ?hy6yt⟩) (by assumption) ?rest6yt
        case hy6yt => (intro V2 hSw; (try dsimp only at hSw); go_simp; all_goals (with_reducible rfl))
        try simp only [Act.put, List.setIfInBounds_toArray, List.set_cons_zero, List.set_cons_succ]
        refine wpAnyH_take (i := 7) (oi := { dst := some 67, op := Op.fieldAddr 39 (Operand.tmp 11) 2, type := 0, pos := "outright.go:183", after := #[{ on := 6, ground := Ground.guard }], guard := some (6, true) }) (v := ?v7yt) rfl (by kernel_rfl) (by kernel_rfl) (by kernel_rfl) (fun _ _ _ h => h) (Or.inl ⟨by rfl, ?hy7yt⟩) (by assumption) ?rest7yt
        case hy7yt => (intro V2 hSw; (try dsimp only at hSw); go_simp; all_goals (with_reducible rfl))
        try simp only [Act.put, List.setIfInBounds_toArray, List.set_cons_zero, List.set_cons_succ]
        refine wpAnyH_take (i := 8) (oi := { dst := some 68, op := Op.load 4 (Operand.tmp 67), type := 4, pos := "outright.go:183", after := #[{ on := 7, ground := Ground.data }, { on := 6, ground := Ground.guard }], guard := some (6, true) }) (v := ?v8yt) rfl (by kernel_rfl) (by kernel_rfl) (by kernel_rfl) (fun _ _ _ h => h) (Or.inl ⟨by rfl, ?hy8yt⟩) (by assumption) ?rest8yt
        case hy8yt => (intro V2 hSw; (try dsimp only at hSw); obtain ⟨z1, z2, z3, z4, z5, z6, z7⟩ := LC.out V2 hSw; go_simp; all_goals (with_reducible rfl))
        try simp only [Act.put, List.setIfInBounds_toArray, List.set_cons_zero, List.set_cons_succ]
        refine wpAnyH_take (i := 9) (oi := { dst := some 69, op := Op.fieldAddr 79 (Operand.tmp 5) 2, type := 0, pos := "outright.go:183", after := #[{ on := 6, ground := Ground.guard }], guard := some (6, true) }) (v := ?v9yt) rfl (by kernel_rfl) (by kernel_rfl) (by kernel_rfl) (fun _ _ _ h => h) (Or.inl ⟨by rfl, ?hy9yt⟩) (by assumption) ?rest9yt
        case hy9yt => (intro V2 hSw; (try dsimp only at hSw); go_simp; all_goals (with_reducible rfl))
        try simp only [Act.put, List.setIfInBounds_toArray, List.set_cons_zero, List.set_cons_succ]
        refine wpAnyH_take (i := 10) (oi := { dst := some 70, op := Op.load 4 (Operand.tmp 69), type := 4, pos := "outright.go:183", after := #[{ on := 9, ground := Ground.data }, { on := 6, ground := Ground.guard }], guard := some (6, true) }) (v := ?v10yt) rfl (by kernel_rfl) (by kernel_rfl) (by kernel_rfl) (fun _ _ _ h => h) (Or.inl ⟨by rfl, ?hy10yt⟩) (by assumption) ?rest10yt
        case hy10yt => (intro V2 hSw; (try dsimp only at hSw); obtain ⟨z1, z2, z3, z4, z5, z6, z7⟩ := LC.out V2 hSw; go_simp; all_goals (with_reducible rfl))
        try simp only [Act.put, List.setIfInBounds_toArray, List.set_cons_zero, List.set_cons_succ]
        refine wpAnyH_take (i := 11) (oi := { dst := some 71, op := Op.unOp UnOp.not 4 (Operand.tmp 70), type := 4, pos := "outright.go:183", after := #[{ on := 10, ground := Ground.data }, { on := 6, ground := Ground.guard }], guard := some (6, true) }) (v := ?v11yt) rfl (by kernel_rfl) (by kernel_rfl) (by kernel_rfl) (fun _ _ _ h => h) (Or.inl ⟨by rfl, ?hy11yt⟩) (by assumption) ?rest11yt
        case hy11yt => (intro V2 hSw; (try dsimp only at hSw); go_simp; all_goals (with_reducible rfl))
        try simp only [Act.put, List.setIfInBounds_toArray, List.set_cons_zero, List.set_cons_succ]
        refine wpAnyH_take (i := 12) (oi := { dst := some 72, op := Op.binOp BinOp.eql 4 (Operand.tmp 68) (Operand.tmp 71) 4, type := 4, pos := "outright.go:183", after := #[{ on := 8, ground := Ground.data }, { on := 11, ground := Ground.data }, { on := 6, ground := Ground.guard }], guard := some (6, true) }) (v := .bool true) rfl (by kernel_rfl) (by kernel_rfl) (by kernel_rfl) (fun _ _ _ h => h) (Or.inl ⟨by rfl, ?hy12yt⟩) (by assumption) ?rest12yt
        case hy12yt => (intro V2 hSw; (try dsimp only at hSw); go_simp; all_goals (with_reducible rfl))
        try simp only [Act.put, List.setIfInBounds_toArray, List.set_cons_zero, List.set_cons_succ]
        refine wpAnyH_take (i := 13) (oi := { dst := some 73, op := Op.pick (Operand.tmp 66) (Operand.tmp 72) (Operand.const (Value.bool false)), type := 4, pos := "outright.go:183", after := #[{ on := 6, ground := Ground.data }, { on := 12, ground := Ground.data }], guard := none }) (v := .bool true) rfl (by kernel_rfl) (by kernel_rfl) (by kernel_rfl) (fun _ _ _ h => h) (Or.inl ⟨by rfl, ?hy13yt⟩) (by assumption) ?rest13yt
        case hy13yt => (intro V2 hSw; (try dsimp only at hSw); go_simp; all_goals (with_reducible rfl))
        try simp only [Act.put, List.setIfInBounds_toArray, List.set_cons_zero, List.set_cons_succ]
        refine wpAnyH_take (i := 14) (oi := { dst := some 74, op := Op.move (Operand.tmp 73), type := 4, pos := "outright.go:183", after := #[{ on := 13, ground := Ground.data }, { on := 6, ground := Ground.chain }], guard := none }) (v := ?v14yt) rfl (by kernel_rfl) (by kernel_rfl) (by kernel_rfl) (fun _ _ _ h => h) (Or.inl ⟨by rfl, ?hy14yt⟩) (by assumption) ?rest14yt
        case hy14yt => (intro V2 hSw; (try dsimp only at hSw); go_simp; all_goals (with_reducible rfl))
        try simp only [Act.put, List.setIfInBounds_toArray, List.set_cons_zero, List.set_cons_succ]
        refine wpAnyH_take (i := 15) (oi := { dst := some 75, op := Op.fieldAddr 39 (Operand.tmp 11) 1, type := 0, pos := "outright.go:183", after := #[{ on := 14, ground := Ground.guard }], guard := some (14, true) }) (v := ?v15yt) rfl (by kernel_rfl) (by kernel_rfl) (by kernel_rfl) (fun _ _ _ h => h) (Or.inl ⟨by rfl, ?hy15yt⟩) (by assumption) ?rest15yt
        case hy15yt => (intro V2 hSw; (try dsimp only at hSw); go_simp; all_goals (with_reducible rfl))
        try simp only [Act.put, List.setIfInBounds_toArray, List.set_cons_zero, List.set_cons_succ]
        refine wpAnyH_take (i := 16) (oi := { dst := some 76, op := Op.load 9 (Operand.tmp 75), type := 9, pos := "outright.go:183", after := #[{ on := 15, ground := Ground.data }, { on := 14, ground := Ground.guard }], guard := some (14, true) }) (v := ?v16yt) rfl (by kernel_rfl) (by kernel_rfl) (by kernel_rfl) (fun _ _ _ h => h) (Or.inl ⟨by rfl, ?hy16yt⟩) (by assumption) ?rest16yt
        case hy16yt => (intro V2 hSw; (try dsimp only at hSw); obtain ⟨z1, z2, z3, z4, z5, z6, z7⟩ := LC.out V2 hSw; go_simp; all_goals (with_reducible rfl))
        try simp only [Act.put, List.setIfInBounds_toArray, List.set_cons_zero, List.set_cons_succ]
        refine wpAnyH_take (i := 17) (oi := { dst := some 77, op := Op.fieldAddr 79 (Operand.tmp 5) 1, type := 0, pos := "outright.go:183", after := #[{ on := 14, ground := Ground.guard }], guard := some (14, true) }) (v := ?v17yt) rfl (by kernel_rfl) (by kernel_rfl) (by kernel_rfl) (fun _ _ _ h => h) (Or.inl ⟨by rfl, ?hy17yt⟩) (by assumption) ?rest17yt
        case hy17yt => (intro V2 hSw; (try dsimp only at hSw); go_simp; all_goals (with_reducible rfl))
        try simp only [Act.put, List.setIfInBounds_toArray, List.set_cons_zero, List.set_cons_succ]
        refine wpAnyH_take (i := 18) (oi := { dst := some 78, op := Op.load 9 (Operand.tmp 77), type := 9, pos := "outright.go:183", after := #[{ on := 17, ground := Ground.data }, { on := 14, ground := Ground.guard }], guard := some (14, true) }) (v := ?v18yt) rfl (by kernel_rfl) (by kernel_rfl) (by kernel_rfl) (fun _ _ _ h => h) (Or.inl ⟨by rfl, ?hy18yt⟩) (by assumption) ?rest18yt
        case hy18yt => (intro V2 hSw; (try dsimp only at hSw); obtain ⟨z1, z2, z3, z4, z5, z6, z7⟩ := LC.out V2 hSw; go_simp; all_goals (with_reducible rfl))
        try simp only [Act.put, List.setIfInBounds_toArray, List.set_cons_zero, List.set_cons_succ]
        refine wpAnyH_take (i := 19) (oi := { dst := some 79, op := Op.binOp BinOp.eql 9 (Operand.tmp 76) (Operand.tmp 78) 9, type := 4, pos := "outright.go:183", after := #[{ on := 16, ground := Ground.data }, { on := 18, ground := Ground.data }, { on := 14, ground := Ground.guard }], guard := some (14, true) }) (v := .bool true) rfl (by kernel_rfl) (by kernel_rfl) (by kernel_rfl) (fun _ _ _ h => h) (Or.inl ⟨by rfl, ?hy19yt⟩) (by assumption) ?rest19yt
        case hy19yt => (intro V2 hSw; (try dsimp only at hSw); go_simp; all_goals (with_reducible rfl))
        try simp only [Act.put, List.setIfInBounds_toArray, List.set_cons_zero, List.set_cons_succ]
        refine wpAnyH_take (i := 20) (oi := { dst := some 80, op := Op.pick (Operand.tmp 74) (Operand.tmp 79) (Operand.const (Value.bool false)), type := 4, pos := "outright.go:183", after := #[{ on := 14, ground := Ground.data }, { on := 19, ground := Ground.data }], guard := none }) (v := .bool true) rfl (by kernel_rfl) (by kernel_rfl) (by kernel_rfl) (fun _ _ _ h => h) (Or.inl ⟨by rfl, ?hy20yt⟩) (by assumption) ?rest20yt
        case hy20yt => (intro V2 hSw; (try dsimp only at hSw); go_simp; all_goals (with_reducible rfl))
        try simp only [Act.put, List.setIfInBounds_toArray, List.set_cons_zero, List.set_cons_succ]
        refine wpAnyH_take (i := 21) (oi := { dst := some 81, op := Op.move (Operand.tmp 80), type := 4, pos := "outright.go:183", after := #[{ on := 20, ground := Ground.data }, { on := 14, ground := Ground.chain }], guard := none }) (v := ?v21yt) rfl (by kernel_rfl) (by kernel_rfl) (by kernel_rfl) (fun _ _ _ h => h) (Or.inl ⟨by rfl, ?hy21yt⟩) (by assumption) ?rest21yt
        case hy21yt => (intro V2 hSw; (try dsimp only at hSw); go_simp; all_goals (with_reducible rfl))
        try simp only [Act.put, List.setIfInBounds_toArray, List.set_cons_zero, List.set_cons_succ]
        refine wpAnyH_take (i := 22) (oi := { dst := some 82, op := Op.fieldAddr 39 (Operand.tmp 11) 4, type := 0, pos := "outright.go:183", after := #[{ on := 21, ground := Ground.guard }], guard := some (21, true) }) (v := ?v22yt) rfl (by kernel_rfl) (by kernel_rfl) (by kernel_rfl) (fun _ _ _ h => h) (Or.inl ⟨by rfl, ?hy22yt⟩) (by assumption) ?rest22yt
        case hy22yt => (intro V2 hSw; (try dsimp only at hSw); go_simp; all_goals (with_reducible rfl))
        try simp only [Act.put, List.setIfInBounds_toArray, List.set_cons_zero, List.set_cons_succ]
        refine wpAnyH_take (i := 23) (oi := { dst := some 83, op := Op.load 26 (Operand.tmp 82), type := 26, pos := "outright.go:183", after := #[{ on := 22, ground := Ground.data }, { on := 21, ground := Ground.guard }], guard := some (21, true) }) (v := ?v23yt) rfl (by kernel_rfl) (by kernel_rfl) (by kernel_rfl) (fun _ _ _ h => h) (Or.inl ⟨by rfl, ?hy23yt⟩) (by assumption) ?rest23yt
        case hy23yt => (intro V2 hSw; (try dsimp only at hSw); obtain ⟨z1, z2, z3, z4, z5, z6, z7⟩ := LC.out V2 hSw; go_simp; all_goals (with_reducible rfl))
        try simp only [Act.put, List.setIfInBounds_toArray, List.set_cons_zero, List.set_cons_succ]
        refine wpAnyH_ready (rs := [24]) (by kernel_rfl) (by simp) ?_
        refine AllReadyH.cons (o := { dst := some 84, op := Op.call { callee := Callee.value (Operand.func 34), args := #[Operand.const (Value.int IntKind.i64 5)], argTypes := #[3] }, type := 26, pos := "outright.go:183", after := #[{ on := 21, ground := Ground.chain }, { on := 21, ground := Ground.guard }], guard := some (21, true) }) rfl (fun K hK => ?_) AllReadyH.nil
        go_simp
        refine (at_c 5 _).mono ?_
        rintro e u6 ⟨rfl, hbu6⟩
        refine hK.out _ _ (hS.keep hbu6) (fun hS => ?_)
        clear hK K
        try simp only [Act.put, List.setIfInBounds_toArray, List.set_cons_zero, List.set_cons_succ]
        refine wpAnyH_take (i := 25) (oi := { dst := some 85, op := Op.binOp BinOp.eql 26 (Operand.tmp 83) (Operand.tmp 84) 26, type := 4, pos := "outright.go:183", after := #[{ on := 23, ground := Ground.data }, { on := 24, ground := Ground.data }, { on := 21, ground := Ground.guard }], guard := some (21, true) }) (v := .bool true) rfl (by kernel_rfl) (by kernel_rfl) (by kernel_rfl) (fun _ _ _ h => h) (Or.inl ⟨by rfl, ?hy25yt⟩) (by assumption) ?rest25yt
        case hy25yt => (intro V2 hSw; (try dsimp only at hSw); go_simp; all_goals (with_reducible rfl))
        try simp only [Act.put, List.setIfInBounds_toArray, List.set_cons_zero, List.set_cons_succ]
        refine wpAnyH_take (i := 26) (oi := { dst := some 86, op := Op.pick (Operand.tmp 81) (Operand.tmp 85) (Operand.const (Value.bool false)), type := 4, pos := "outright.go:183", after := #[{ on := 21, ground := Ground.data }, { on := 25, ground := Ground.data }], guard := none }) (v := .bool true) rfl (by kernel_rfl) (by kernel_rfl) (by kernel_rfl) (fun _ _ _ h => h) (Or.inl ⟨by rfl, ?hy26yt⟩) (by assumption) ?rest26yt
        case hy26yt => (intro V2 hSw; (try dsimp only at hSw); go_simp; all_goals (with_reducible rfl))
        try simp only [Act.put, List.setIfInBounds_toArray, List.set_cons_zero, List.set_cons_succ]
        refine wpAnyH_take (i := 27) (oi := { dst := some 87, op := Op.move (Operand.tmp 86), type := 4, pos := "outright.go:183", after := #[{ on := 26, ground := Ground.data }, { on := 24, ground := Ground.chain }], guard := none }) (v := ?v27yt) rfl (by kernel_rfl) (by kernel_rfl) (by kernel_rfl) (fun _ _ _ h => h) (Or.inl ⟨by rfl, ?hy27yt⟩) (by assumption) ?rest27yt
        case hy27yt => (intro V2 hSw; (try dsimp only at hSw); go_simp; all_goals (with_reducible rfl))
        try simp only [Act.put, List.setIfInBounds_toArray, List.set_cons_zero, List.set_cons_succ]
        refine wpAnyH_ready (rs := [28]) (by kernel_rfl) (by simp) ?_
        refine AllReadyH.cons (o := { dst := some 88, op := Op.call { callee := Callee.value (Operand.func 24), args := #[], argTypes := #[] }, type := 4, pos := "outright.go:183", after := #[{ on := 27, ground := Ground.chain }, { on := 27, ground := Ground.guard }], guard := some (27, true) }) rfl (fun K hK => ?_) AllReadyH.nil
        go_simp
        refine (lawAwake _ (hM.below hS.bel)).mono ?_
        rintro e u7 ⟨rfl, hbu7⟩
        refine hK.out _ _ (hS.keep hbu7) (fun hS => ?_)
        clear hK K
        try simp only [Act.put, List.setIfInBounds_toArray, List.set_cons_zero, List.set_cons_succ]
        refine wpAnyH_take (i := 29) (oi := { dst := some 89, op := Op.pick (Operand.tmp 87) (Operand.tmp 88) (Operand.const (Value.bool false)), type := 4, pos := "outright.go:183", after := #[{ on := 27, ground := Ground.data }, { on := 28, ground := Ground.data }], guard := none }) (v := .bool true) rfl (by kernel_rfl) (by kernel_rfl) (by kernel_rfl) (fun _ _ _ h => h) (Or.inl ⟨by rfl, ?hy29yt⟩) (by assumption) ?rest29yt
        case hy29yt => (intro V2 hSw; (try dsimp only at hSw); go_simp; all_goals (with_reducible rfl))
        try simp only [Act.put, List.setIfInBounds_toArray, List.set_cons_zero, List.set_cons_succ]
        refine wpAnyH_take (i := 30) (oi := { dst := some 6, op := Op.assign (Operand.tmp 89), type := 4, pos := "outright.go:183", after := #[{ on := 29, ground := Ground.data }, { on := 28, ground := Ground.chain }, { on := 0, ground := Ground.phase }, { on := 1, ground := Ground.phase }, { on := 2, ground := Ground.phase }, { on := 3, ground := Ground.phase }, { on := 4, ground := Ground.phase }, { on := 5, ground := Ground.phase }, { on := 6, ground := Ground.phase }, { on := 7, ground := Ground.phase }, { on := 8, ground := Ground.phase }, { on := 9, ground := Ground.phase }, { on := 10, ground := Ground.phase }, { on := 11, ground := Ground.phase }, { on := 12, ground := Ground.phase }, { on := 13, ground := Ground.phase }, { on := 14, ground := Ground.phase }, { on := 15, ground := Ground.phase }, { on := 16, ground := Ground.phase }, { on := 17, ground := Ground.phase }, { on := 18, ground := Ground.phase }, { on := 19, ground := Ground.phase }, { on := 20, ground := Ground.phase }, { on := 21, ground := Ground.phase }, { on := 22, ground := Ground.phase }, { on := 23, ground := Ground.phase }, { on := 24, ground := Ground.phase }, { on := 25, ground := Ground.phase }, { on := 26, ground := Ground.phase }, { on := 27, ground := Ground.phase }, { on := 28, ground := Ground.phase }, { on := 29, ground := Ground.phase }], guard := none }) (v := ?v30yt) rfl (by kernel_rfl) (by kernel_rfl) (by kernel_rfl) (fun _ _ _ h => h) (Or.inl ⟨by rfl, ?hy30yt⟩) (by assumption) ?rest30yt
        case hy30yt => (intro V2 hSw; (try dsimp only at hSw); go_simp; all_goals (with_reducible rfl))
        try simp only [Act.put, List.setIfInBounds_toArray, List.set_cons_zero, List.set_cons_succ]
        refine wpAnyH_done (by kernel_rfl) ?_ _
        have hfin := hS.bel
        go_wp2_with fail
        go_ret
        exact ⟨rfl, hfin⟩
end Go.Proofs.YtdaecfgjfdikbaaGreatDoor
