/-
  StampKeeps: the walk, over what the code's functions promise.
-/
import Derived.Test.YtnjfabgajebfeaaVStampNear
import Derived.Test.YtnjfabgajebfeaaVStampOrder
set_option linter.unusedVariables false
namespace Go.Proofs.Ytnjfabgajebfeaa
open Go.RowKit

theorem S3.call2 {w V : World} {a b c d x y : Int} {f : FuncId} {args : Array Value} {v : Value} (h : S3 w a b c d x y V) (hc : Calls Try.prog f args V fun e V' => e = .returned v ∧ Below V.heap.size V V') :
    Calls Try.prog f args V fun e V' => e = .returned v ∧ S3 w a b c d x y V' ∧ Below V.heap.size V V' := hc.mono fun _ _ hh => ⟨hh.1, h.keep hh.2, hh.2⟩
theorem S3.alloc {w V : World} {a b c d x y : Int} (h : S3 w a b c d x y V) (o : Obj) : S3 w a b c d x y (V.alloc o) := h.keep ((Below.refl _ _).alloc (Nat.le_refl _) _)
theorem S3.room {w V : World} {a b c d x y : Int} (h : S3 w a b c d x y V) : w.heap.size + 1 + 1 < V.heap.size := World.block_lt_of_cell? V _ h.2.2.2.2.1
theorem S3.put {w V : World} {a b c d x y : Int} (h : S3 w a b c d x y V) {g i : Nat} {u : Value} (hg : w.heap.size + 1 + 1 < g) : S3 w a b c d x y (V.setCell ⟨g, i, none⟩ u) := by
  have k : ∀ p : Addr, p.block ≠ g → (V.setCell ⟨g, i, none⟩ u).cell? p = V.cell? p := fun p hp => World.cell?_setCell_far _ _ _ _ (fun e => hp e.symm)
  obtain ⟨h1, h2, h3, h4, h5, h6, h7⟩ := h
  exact ⟨(k _ (by simp; omega)).trans h1, (k _ (by simp; omega)).trans h2, (k _ (by simp; omega)).trans h3, (k _ (by simp; omega)).trans h4, (k _ (by simp; omega)).trans h5, (k _ (by simp; omega)).trans h6, h7.setCell (by simp; omega) _⟩

set_option pp.deepTerms true in
set_option pp.maxSteps 1000000 in
set_option maxHeartbeats 60000000 in
theorem stampKeeps_w (hS : LessOk) (hN : NextSOk) (hP : PrevOk) (hL : LaterOk) (a b c d i j : Int) (w : World) (ha : -9223372036854775808 ≤ a ∧ a ≤ 9223372036854775807) (hb : -9223372036854775808 ≤ b ∧ b ≤ 9223372036854775807) (hc : -9223372036854775808 ≤ c ∧ c ≤ 9223372036854775807) (hd : -9223372036854775808 ≤ d ∧ d ≤ 9223372036854775807) (hi : -9223372036854775808 ≤ i ∧ i ≤ 9223372036854775807) (hj : -9223372036854775808 ≤ j ∧ j ≤ 9223372036854775807) :
    Calls Try.prog 8 #[sv a b, sv c d, sv i j] w fun e w' => e = .returned (.bool true) ∧ Below w.heap.size w w' := by
  have AW := Lib.hid (awake hS hN hP hL)
  have S1 := Lib.hid hS
  have LL := Lib.hid hL
  have B1 := fun V => bringS a b V ha hb
  have B2 := fun V => bringS c d V hc hd
  have hx := may_mod a b
  have hy := may_mod c d
  generalize a % 1099511627777 = x1 at B1 hx
  generalize b % 1048576 = x2 at B1 hx
  generalize c % 1099511627777 = y1 at B2 hy
  generalize d % 1048576 = y2 at B2 hy
  replace B1 := Lib.hid B1
  replace B2 := Lib.hid B2
  have HX := Lib.hid hx
  have HY := Lib.hid hy
  clear hN hP hL ha hb hc hd hS hx hy
  go_enter Try.func8, Try.ntmps8
  go_wp2_with fail
  have hS0 : S3 w a b c d i j (((w.alloc (.cells #[.int .i64 a, .int .i64 b] 23)).alloc (.cells #[.int .i64 c, .int .i64 d] 23)).alloc (.cells #[.int .i64 i, .int .i64 j] 38)) := by
    have hA := ((Box.new w a b).alloc (.cells #[.int .i64 c, .int .i64 d] 23)).alloc (.cells #[.int .i64 i, .int .i64 j] 38)
    have hB := (Box.new' (g := w.heap.size + 1) (w.alloc (.cells #[.int .i64 a, .int .i64 b] 23)) c d (by simp)).alloc (.cells #[.int .i64 i, .int .i64 j] 38)
    have hC := heap_alloc_new ((w.alloc (.cells #[.int .i64 a, .int .i64 b] 23)).alloc (.cells #[.int .i64 c, .int .i64 d] 23)) (.cells #[.int .i64 i, .int .i64 j] 38)
    rw [World.size_alloc, World.size_alloc] at hC
    exact ⟨hA.c0, hA.c1, hB.c0, hB.c1, cell_of_row _ _ 0 _ _ (0, 0) hC, cell_of_row _ _ 1 _ _ (0, 0) hC, (((Below.refl w.heap.size w).alloc (Nat.le_refl _) _).alloc (by simp) _).alloc (by simp; omega) _⟩
  have hSd := hS0.drew
  have m0 := S3.room hS0
  refine Code.wp_mono (Q := fun e a' V => match e with
    | .normal => ∃ gx gy, a' = { tmps := #[sv a b, sv c d, sv i j, .pointer (some ⟨w.heap.size, 0, none⟩), .pointer (some ⟨w.heap.size + 1, 0, none⟩), .pointer (some ⟨w.heap.size + 1 + 1, 0, none⟩), .bool false, .pointer (some ⟨gx, 0, none⟩), .pointer (some ⟨gy, 0, none⟩), undef, undef, undef, undef, undef, undef, undef, undef, undef, undef, .agg #[.int .i64 a, .int .i64 b], .agg #[.int .i64 x1, .int .i64 x2], .agg #[.int .i64 c, .int .i64 d], .agg #[.int .i64 y1, .int .i64 y2], undef, undef, undef, undef, undef, undef, undef, undef, undef, undef, undef, undef, undef, undef, undef, undef, undef, undef, undef, undef, undef, undef, undef, undef, undef, undef, undef, undef, undef, undef, undef, undef, undef, undef, undef, undef, undef, undef, undef, undef, undef, undef, undef, undef, undef, undef, undef, undef, undef, undef, undef, undef, undef, undef, undef, undef, undef, undef, undef, undef, undef, undef, undef, undef, undef, undef], defers := [] } ∧ S3 w a b c d i j V ∧ Box V gx x1 x2 ∧ Box V gy y1 y2
    | _ => False) ?_ ?_
  · rintro e a' V h
    cases e with
    | normal =>
      obtain ⟨gx, gy, rfl, hV, hBx, hBy⟩ := h
      clear hS0 hSd m0 B1 B2
      obtain ⟨i1, i2, i3, i4, i5, i6, hB⟩ := id hV
      have bx0 := hBx.c0
      have bx1 := hBx.c1
      have by0 := hBy.c0
      have by1 := hBy.c1
      have I1 := Lib.hid (fun V => bring i 274877906944 V (by omega) (by omega))
      have I2 := Lib.hid (fun V => bring j 274877906944 V (by omega) (by omega))
      have hk1 : 0 ≤ i % 274877906944 ∧ i % 274877906944 < 274877906944 := by omega
      have hk2 : 0 ≤ j % 274877906944 ∧ j % 274877906944 < 274877906944 := by omega
      generalize i % 274877906944 = k1 at I1 hk1
      generalize j % 274877906944 = k2 at I2 hk2
      clear hi hj i1 i2 i3 i4 hV
      go_wp2_with fail
      refine Code.wp_mono (Q := fun e a' V' => match e with
        | .normal => a' = { tmps := #[sv a b, sv c d, sv i j, .pointer (some ⟨w.heap.size, 0, none⟩), .pointer (some ⟨w.heap.size + 1, 0, none⟩), .pointer (some ⟨w.heap.size + 1 + 1, 0, none⟩), .bool false, .pointer (some ⟨gx, 0, none⟩), .pointer (some ⟨gy, 0, none⟩), .int .i64 k1, .int .i64 k2, undef, undef, undef, undef, undef, undef, undef, undef, .agg #[.int .i64 a, .int .i64 b], .agg #[.int .i64 x1, .int .i64 x2], .agg #[.int .i64 c, .int .i64 d], .agg #[.int .i64 y1, .int .i64 y2], .pointer (some ⟨w.heap.size + 1 + 1, 0, none⟩), .int .i64 i, .int .i64 k1, .pointer (some ⟨w.heap.size + 1 + 1, 1, none⟩), .int .i64 j, .int .i64 k2, undef, undef, undef, undef, undef, undef, undef, undef, undef, undef, undef, undef, undef, undef, undef, undef, undef, undef, undef, undef, undef, undef, undef, undef, undef, undef, undef, undef, undef, undef, undef, undef, undef, undef, undef, undef, undef, undef, undef, undef, undef, undef, undef, undef, undef, undef, undef, undef, undef, undef, undef, undef, undef, undef, undef, undef, undef, undef, undef, undef], defers := [] } ∧ V' = V.drew
        | _ => False) ?_ ?_
      · rintro e a' V' h
        cases e with
        | normal =>
          obtain ⟨rfl, rfl⟩ := h
          have hBx' : Box V.drew gx x1 x2 := hBx
          have hBy' : Box V.drew gy y1 y2 := hBy
          have hB' := hB.drew
          clear i5 i6 I1 I2 hBx hBy bx0 bx1 by0 by1 hB
          generalize V.drew = V at hBx' hBy' hB' ⊢
          obtain ⟨p1, p2, e1, he1⟩ : ∃ u v t, ltr x1 x2 k1 = (u, v, t) := ⟨_, _, _, rfl⟩
          obtain ⟨q1, q2, e2, he2⟩ : ∃ u v t, ltr y1 y2 k1 = (u, v, t) := ⟨_, _, _, rfl⟩
          obtain ⟨b1, b2, e3, he3⟩ : ∃ u v t, ltr x1 x2 (k1 + k2) = (u, v, t) := ⟨_, _, _, rfl⟩
          have c1 := LL.out x1 x2 k1
          have c2 := LL.out y1 y2 k1
          have c3 := LL.out x1 x2 (k1 + k2)
          rw [he1] at c1
          rw [he2] at c2
          rw [he3] at c3
          have C1 := Lib.hid c1
          have C2 := Lib.hid c2
          have C3 := Lib.hid c3
          clear c1 c2 c3
          have bx0 := hBx'.c0
          have bx1 := hBx'.c1
          go_wp2_with fail
          refine (C1.out _).mono ?_
          rintro e4 w4 ⟨rfl, hb4⟩
          have hX4 := (hBx'.keep hb4).alloc (.cells #[.int .i64 p1, .int .i64 p2] 23)
          have hY4 := (hBy'.keep hb4).alloc (.cells #[.int .i64 p1, .int .i64 p2] 23)
          have hB4 := (hB'.trans (hb4.mono hB'.size)).alloc (hB'.trans (hb4.mono hB'.size)).size (.cells #[.int .i64 p1, .int .i64 p2] 23)
          have hP4 := Box.new w4 p1 p2
          have by0 := hY4.c0
          have by1 := hY4.c1
          clear hb4 bx0 bx1 hBx' hBy' hB'
          go_wp2_with fail
          generalize w4.heap.size = gp at hP4 ⊢
          refine (C2.out _).mono ?_
          rintro e5 w5 ⟨rfl, hb5⟩
          have hX5 := (hX4.keep hb5).alloc (.cells #[.int .i64 q1, .int .i64 q2] 23)
          have hY5 := (hY4.keep hb5).alloc (.cells #[.int .i64 q1, .int .i64 q2] 23)
          have hP5 := (hP4.keep hb5).alloc (.cells #[.int .i64 q1, .int .i64 q2] 23)
          have hB5 := (hB4.trans (hb5.mono hB4.size)).alloc (hB4.trans (hb5.mono hB4.size)).size (.cells #[.int .i64 q1, .int .i64 q2] 23)
          have hQ5 := Box.new w5 q1 q2
          have hXY := Lib.hid (show e1 = 0 → e2 = 0 → lt (p1, p2) (q1, q2) = lt (x1, x2) (y1, y2) by
            intro h1 h2
            have hx := HX.out
            have hy := HY.out
            unfold ltr at he1 he2
            rw [if_neg (by rw [hx]; simp; omega)] at he1
            rw [if_neg (by rw [hy]; simp; omega)] at he2
            split at he1
            · injection he1 with _ h; injection h with _ h; omega
            · split at he2
              · injection he2 with _ h; injection h with _ h; omega
              · injection he1 with g1 g2; injection g2 with g2 _
                injection he2 with g3 g4; injection g4 with g4 _
                subst g1 g2 g3 g4
                unfold lt
                apply decide_eq_decide.2
                simp only
                omega)
          clear hb5 by0 by1 hX4 hY4 hP4 hB4
          have hPB : e1 = 0 → ltr p1 p2 k2 = (b1, b2, e3) := by
            intro h1
            have hx := HX.out
            obtain ⟨m1, m2, m3, m4⟩ := may_iff.1 hx
            unfold ltr at he1 he3 ⊢
            rw [if_neg (by rw [hx]; simp; omega)] at he1 he3
            split at he1
            · injection he1 with _ h; injection h with _ h; omega
            · rename_i hle
              injection he1 with g1 g2
              injection g2 with g2 _
              subst g1 g2
              rw [if_neg (by rw [(may_iff.2 (by omega) : may (x1 + k1) x2 = true)]; simp; omega)]
              split at he3
              · rename_i hgt
                rw [if_pos (by omega)]
                exact he3
              · rename_i hgt
                rw [if_neg (by omega), ← he3]
                congr 1
                omega
          have hE := Lib.hid (show e1 ≠ 0 → e3 ≠ 0 by
            intro h1
            have hx := HX.out
            unfold ltr at he1 he3
            rw [if_neg (by rw [hx]; simp; omega)] at he1 he3
            split at he1
            · rename_i hgt
              rw [if_pos (by omega)] at he3
              injection he3 with _ h
              injection h with _ h
              omega
            · injection he1 with _ h
              injection h with _ h
              omega)
          have C4 := Lib.hid (show e1 = 0 → ∀ V, Calls Try.prog 22 #[sv p1 p2, .int .i64 k2] V fun e V' => e = .returned (.tuple #[sv b1 b2, .int .i64 e3]) ∧ Below V.heap.size V V' by
            intro h1 V
            have h := LL.out p1 p2 k2 V
            rw [hPB h1] at h
            exact h)
          clear LL he1 he2 he3 hPB
          go_wp2_with fail
          have hgq : w5.heap.size = w5.heap.size := rfl
          generalize w5.heap.size = gq at hQ5 ⊢
          generalize w5.alloc (.cells #[.int .i64 q1, .int .i64 q2] 23) = w6 at hX5 hY5 hP5 hB5 hQ5 ⊢
          have hN0 : N4 w gx gy gp gq x1 x2 y1 y2 p1 p2 q1 q2 w6 := ⟨hX5.c0, hX5.c1, hY5.c0, hY5.c1, hP5.c0, hP5.c1, hQ5.c0, hQ5.c1, hB5⟩
          have hNd := hN0.drew
          clear hX5 hY5 hP5 hQ5 hB5 hgq
          by_cases h1 : e1 = 0
          · subst h1
            by_cases h2 : e2 = 0
            · subst h2
              have hl := hXY.out rfl rfl
              have hll : (lt (x1, x2) (y1, y2) != lt (x1, x2) (y1, y2)) = false := by simp
              go_region_held3 (fun V => V.cell? ⟨gx, 0, none⟩ = some (.int .i64 x1) ∧ V.cell? ⟨gx, 1, none⟩ = some (.int .i64 x2) ∧ V.cell? ⟨gy, 0, none⟩ = some (.int .i64 y1) ∧ V.cell? ⟨gy, 1, none⟩ = some (.int .i64 y2) ∧ V.cell? ⟨gp, 0, none⟩ = some (.int .i64 p1) ∧ V.cell? ⟨gp, 1, none⟩ = some (.int .i64 p2) ∧ V.cell? ⟨gq, 0, none⟩ = some (.int .i64 q1) ∧ V.cell? ⟨gq, 1, none⟩ = some (.int .i64 q2) ∧ Below w.heap.size w V)
                (first | with_reducible assumption | with_reducible exact hN0 | with_reducible exact hNd | (repeat (first | with_reducible assumption | with_reducible exact hN0 | with_reducible exact hNd | with_reducible refine N4.drew ?_)))
                (first
                  | (go_at_call 13; refine (N4.call (by first | with_reducible assumption | with_reducible exact hNd | with_reducible exact hN0) (S1.out _ _ _ _ _)).mono ?_; rintro e7 w7 ⟨rfl, hN7⟩; try rw [hl]))
              obtain ⟨u1, u2, u3, u4, u5, u6, u7, u8, hB7⟩ := id hN7
              go_wp2_with fail
              refine (C3.out _).mono ?_
              rintro e8 w8 ⟨rfl, hb8⟩
              have hN8 := N4.keep (N4.keep hN7 hb8) ((Below.refl _ _).alloc (Nat.le_refl _) (.cells #[.int .i64 b1, .int .i64 b2] 23))
              have hBo := Box.new w8 b1 b2
              clear u1 u2 u3 u4 u5 u6 u7 u8 hB7 hb8
              obtain ⟨u1, u2, u3, u4, u5, u6, u7, u8, hB8⟩ := id hN8
              go_wp2_with fail
              generalize w8.heap.size = gb at hBo ⊢
              refine (C4.out (by first | rfl | trivial) _).mono ?_
              rintro e9 w9 ⟨rfl, hb9⟩
              have hB9 := (hB8.trans (hb9.mono hB8.size)).alloc (hB8.trans (hb9.mono hB8.size)).size (.cells #[.int .i64 b1, .int .i64 b2] 23)
              have hBo9 := (hBo.keep hb9).alloc (.cells #[.int .i64 b1, .int .i64 b2] 23)
              have hBn9 := Box.new w9 b1 b2
              clear u1 u2 u3 u4 u5 u6 u7 u8 hB8 hb9 hBo
              have v1 := hBo9.c0
              have v2 := hBo9.c1
              have v3 := hBn9.c0
              have v4 := hBn9.c1
              have t1 : (b1 == b1) = true := beq_self_eq_true _
              have t2 : (b2 == b2) = true := beq_self_eq_true _
              have t3 : ((e3 : Int) != e3) = false := by simp
              go_wp2_with fail
              refine (AW.out _).mono ?_
              rintro e10 w10 ⟨rfl, hb10⟩
              go_wp2
              go_ret
              exact ⟨rfl, hB9.trans (hb10.mono hB9.size)⟩
            · have h2' : (e2 == 0) = false := by simpa using h2
              go_quiet (fail)
              have hN7 := N4.keep hN0 (below_drewN (Below.refl _ _) nq)
              obtain ⟨u1, u2, u3, u4, u5, u6, u7, u8, hB7⟩ := id hN7
              go_wp2_with fail
              refine (C3.out _).mono ?_
              rintro e8 w8 ⟨rfl, hb8⟩
              have hN8 := N4.keep (N4.keep hN7 hb8) ((Below.refl _ _).alloc (Nat.le_refl _) (.cells #[.int .i64 b1, .int .i64 b2] 23))
              have hBo := Box.new w8 b1 b2
              clear u1 u2 u3 u4 u5 u6 u7 u8 hB7 hb8
              obtain ⟨u1, u2, u3, u4, u5, u6, u7, u8, hB8⟩ := id hN8
              go_wp2_with fail
              generalize w8.heap.size = gb at hBo ⊢
              refine (C4.out (by first | rfl | trivial) _).mono ?_
              rintro e9 w9 ⟨rfl, hb9⟩
              have hB9 := (hB8.trans (hb9.mono hB8.size)).alloc (hB8.trans (hb9.mono hB8.size)).size (.cells #[.int .i64 b1, .int .i64 b2] 23)
              have hBo9 := (hBo.keep hb9).alloc (.cells #[.int .i64 b1, .int .i64 b2] 23)
              have hBn9 := Box.new w9 b1 b2
              clear u1 u2 u3 u4 u5 u6 u7 u8 hB8 hb9 hBo
              have v1 := hBo9.c0
              have v2 := hBo9.c1
              have v3 := hBn9.c0
              have v4 := hBn9.c1
              have t1 : (b1 == b1) = true := beq_self_eq_true _
              have t2 : (b2 == b2) = true := beq_self_eq_true _
              have t3 : ((e3 : Int) != e3) = false := by simp
              go_wp2_with fail
              refine (AW.out _).mono ?_
              rintro e10 w10 ⟨rfl, hb10⟩
              go_wp2
              go_ret
              exact ⟨rfl, hB9.trans (hb10.mono hB9.size)⟩
          · have h1' : (e1 == 0) = false := by simpa using h1
            have h3' : (e3 == 0) = false := by simpa using hE.out h1
            have h3'' : (e3 != 0) = true := by simpa using hE.out h1
            go_quiet (fail)
            have hN7 := N4.keep hN0 (below_drewN (Below.refl _ _) nq)
            obtain ⟨u1, u2, u3, u4, u5, u6, u7, u8, hB7⟩ := id hN7
            go_wp2_with fail
            refine (C3.out _).mono ?_
            rintro e8 w8 ⟨rfl, hb8⟩
            have hB8 := (hB7.trans (hb8.mono hB7.size)).alloc (hB7.trans (hb8.mono hB7.size)).size (.cells #[.int .i64 b1, .int .i64 b2] 23)
            clear u1 u2 u3 u4 u5 u6 u7 u8 hB7 hb8
            go_wp2_with fail
            refine (AW.out _).mono ?_
            rintro e10 w10 ⟨rfl, hb10⟩
            go_wp2
            go_ret
            exact ⟨rfl, hB8.trans (hb10.mono hB8.size)⟩
        | _ => exact h.elim
      · go_region_with (first
          | (go_at_call_of 25 (Value.int .i64 i); refine (I1.out _).mono ?_; rintro e2 w2 ⟨rfl, rfl⟩)
          | (go_at_call_of 25 (Value.int .i64 j); refine (I2.out _).mono ?_; rintro e3 w3 ⟨rfl, rfl⟩))
        all_goals exact ⟨rfl, rfl⟩
    | _ => exact h.elim
  · generalize ((w.alloc (.cells #[.int .i64 a, .int .i64 b] 23)).alloc (.cells #[.int .i64 c, .int .i64 d] 23)).alloc (.cells #[.int .i64 i, .int .i64 j] 38) = W0 at hS0 hSd m0 ⊢
    go_region_held3 (fun V => V.cell? ⟨w.heap.size, 0, none⟩ = some (.int .i64 a) ∧ V.cell? ⟨w.heap.size, 1, none⟩ = some (.int .i64 b) ∧ V.cell? ⟨w.heap.size + 1, 0, none⟩ = some (.int .i64 c) ∧ V.cell? ⟨w.heap.size + 1, 1, none⟩ = some (.int .i64 d) ∧ V.cell? ⟨w.heap.size + 1 + 1, 0, none⟩ = some (.int .i64 i) ∧ V.cell? ⟨w.heap.size + 1 + 1, 1, none⟩ = some (.int .i64 j) ∧ Below w.heap.size w V)
      (first | with_reducible assumption | with_reducible exact hS0 | with_reducible exact hSd | (repeat (first | with_reducible assumption | with_reducible exact hS0 | with_reducible exact hSd | with_reducible refine S3.alloc ?_ _ | with_reducible refine S3.drew ?_ | with_reducible refine S3.put ?_ ?_ | omega | (simp only [World.size_alloc]; omega))))
      (first
        | (go_at_call_of 24 (Value.int .i64 a); refine (S3.call2 (by first | with_reducible assumption | with_reducible exact hSd | with_reducible exact hS0) (B1.out _)).mono ?_; rintro e w2 ⟨rfl, hS2, hb2⟩; have m2 := S3.room hS2; (try ((first | have q1 := (Box.new _ 0 0).keep hb2 | have q1 := (Box.drew' (Box.new _ 0 0)).keep hb2); (try simp only [World.size_alloc] at q1); have q1a := q1.c0; have q1b := q1.c1; have q1f := q1.fz 0; have q1g := q1.fz 1; have q1l := q1.lt; have q1m := Nat.ne_of_lt q1l; have q1n := Nat.ne_of_gt q1l)); (try ((first | have q2 := ((Box.new _ 0 0).alloc _).keep hb2 | have q2 := (Box.drew' ((Box.new _ 0 0).alloc _)).keep hb2); (try simp only [World.size_alloc, World.drew] at q2); have q2a := q2.c0; have q2b := q2.c1; have q2f := q2.fz 0; have q2g := q2.fz 1; have q2l := q2.lt; have q2m := Nat.ne_of_lt q2l; have q2n := Nat.ne_of_gt q2l)))
        | (go_at_call_of 24 (Value.int .i64 c); refine (S3.call2 (by first | with_reducible assumption | with_reducible exact hSd | with_reducible exact hS0) (B2.out _)).mono ?_; rintro e w3 ⟨rfl, hS3, hb3⟩; have m3 := S3.room hS3; (try ((first | have r1 := (Box.new _ 0 0).keep hb3); (try simp only [World.size_alloc] at r1); have r1a := r1.c0; have r1b := r1.c1; have r1f := r1.fz 0; have r1g := r1.fz 1; have r1l := r1.lt; have r1m := Nat.ne_of_lt r1l; have r1n := Nat.ne_of_gt r1l)); (try ((first | have r2 := ((Box.new _ 0 0).alloc _).keep hb3); (try simp only [World.size_alloc, World.drew] at r2); have r2a := r2.c0; have r2b := r2.c1; have r2f := r2.fz 0; have r2g := r2.fz 1; have r2l := r2.lt; have r2m := Nat.ne_of_lt r2l; have r2n := Nat.ne_of_gt r2l)); (try ((first | have r3 := q1.keep hb3 | have r3 := (q1.alloc _).keep hb3); (try simp only [World.size_alloc, World.drew] at r3); have r3a := r3.c0; have r3b := r3.c1; have r3f := r3.fz 0; have r3g := r3.fz 1; have r3l := r3.lt; have r3m := Nat.ne_of_lt r3l; have r3n := Nat.ne_of_gt r3l)); (try ((first | have r4 := q2.keep hb3 | have r4 := (q2.alloc _).keep hb3); (try simp only [World.size_alloc, World.drew] at r4); have r4a := r4.c0; have r4b := r4.c1; have r4f := r4.fz 0; have r4g := r4.fz 1; have r4l := r4.lt; have r4m := Nat.ne_of_lt r4l; have r4n := Nat.ne_of_gt r4l))))
    all_goals
      refine ⟨_, _, rfl, (by with_reducible assumption), ?_, ?_⟩
      all_goals (repeat (first | with_reducible assumption | with_reducible exact Box.new _ _ _ | with_reducible exact Box.new' _ _ _ (by simp) | with_reducible refine Box.alloc ?_ _ | with_reducible refine Box.put1 (b := 0) ?_ _ | with_reducible refine Box.put0 (a := 0) ?_ _ | with_reducible refine Box.far ?_ ?_ _ _ | omega | (simp; omega)))
end Go.Proofs.Ytnjfabgajebfeaa
