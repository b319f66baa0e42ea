/-
  StampNear: the walk, over what the code's functions promise.
-/
import Derived.Test.YtnjfabgajebfeaaSBring
set_option linter.unusedVariables false
namespace Go.Proofs.Ytnjfabgajebfeaa
open Go.RowKit

/-! ### between a stamp and its Next there is none -/

theorem nxt_near {x1 x2 y1 y2 n1 n2 : Int} (hx : may x1 x2 = true) (hy : may y1 y2 = true) (h : nxt x1 x2 = (n1, n2, 0)) :
    may n1 n2 = true ∧ lt (x1, x2) (n1, n2) = true ∧ prv n1 n2 = (x1, x2, 0) ∧ (lt (x1, x2) (y1, y2) = !lt (y1, y2) (n1, n2)) := by
  obtain ⟨h1, h2, h3, h4⟩ := may_iff.1 hx
  obtain ⟨g1, g2, g3, g4⟩ := may_iff.1 hy
  unfold nxt at h
  rw [if_neg (by rw [hx]; simp)] at h
  have key : may n1 n2 = true ∧ lt (x1, x2) (n1, n2) = true ∧ prv n1 n2 = (x1, x2, 0) ∧ (lt (x1, x2) (y1, y2) = true ↔ lt (y1, y2) (n1, n2) = false) := by
    by_cases h5 : x2 < 1048575
    · rw [if_pos h5] at h
      injection h with e1 h
      injection h with e2 _
      subst e1 e2
      refine ⟨may_iff.2 (by omega), lt_iff.2 (by show x1 < x1 ∨ (x1 = x1 ∧ x2 < x2 + 1); omega), ?_, ?_⟩
      · unfold prv
        rw [if_neg (by rw [(may_iff.2 (by omega) : may x1 (x2 + 1) = true)]; simp), if_pos (by omega)]
        rw [show x2 + 1 - 1 = x2 by omega]
      · rw [lt_iff, lt_no]
        simp only
        omega
    · rw [if_neg h5] at h
      by_cases h6 : x1 < 1099511627776
      · rw [if_pos h6] at h
        injection h with e1 h
        injection h with e2 _
        subst e1 e2
        refine ⟨may_iff.2 (by omega), lt_iff.2 (by simp only; omega), ?_, ?_⟩
        · unfold prv
          rw [if_neg (by rw [(may_iff.2 (by omega) : may (x1 + 1) 0 = true)]; simp), if_neg (by omega), if_pos (by omega)]
          rw [show x1 + 1 - 1 = x1 by omega, show x2 = 1048575 by omega]
        · rw [lt_iff, lt_no]
          simp only
          omega
      · rw [if_neg h6] at h
        injection h with _ h
        injection h with _ h
        omega
  obtain ⟨k1, k2, k3, k4⟩ := key
  refine ⟨k1, k2, k3, ?_⟩
  cases e1 : lt (x1, x2) (y1, y2) <;> cases e2 : lt (y1, y2) (n1, n2) <;> first | rfl | (rw [e1, e2] at k4; simp at k4)
theorem nxt_end {x1 x2 y1 y2 n1 n2 e : Int} (hx : may x1 x2 = true) (hy : may y1 y2 = true) (h : nxt x1 x2 = (n1, n2, e)) (he : e ≠ 0) :
    e = 5 ∧ x1 = 1099511627776 ∧ x2 = 1048575 ∧ lt (x1, x2) (y1, y2) = false := by
  obtain ⟨h1, h2, h3, h4⟩ := may_iff.1 hx
  obtain ⟨g1, g2, g3, g4⟩ := may_iff.1 hy
  unfold nxt at h
  rw [if_neg (by rw [hx]; simp)] at h
  split at h
  · injection h with _ h
    injection h with _ h
    omega
  · split at h
    · injection h with _ h
      injection h with _ h
      omega
    · injection h with _ h
      injection h with _ h
      exact ⟨h.symm, by omega, by omega, lt_no.2 (by simp only; omega)⟩

theorem may_mod (a b : Int) : may (a % 1099511627777) (b % 1048576) = true := may_iff.2 (by omega)

/-- Two stamps in two blocks. -/
abbrev N2 (w : World) (g h : Nat) (a b c d : Int) (V : World) : Prop :=
  V.cell? ⟨g, 0, none⟩ = some (.int .i64 a) ∧ V.cell? ⟨g, 1, none⟩ = some (.int .i64 b) ∧ V.cell? ⟨h, 0, none⟩ = some (.int .i64 c) ∧ V.cell? ⟨h, 1, none⟩ = some (.int .i64 d) ∧ Below w.heap.size w V
theorem N2.keep {w V V' : World} {g h : Nat} {a b c d : Int} (k : N2 w g h a b c d V) (hb : Below V.heap.size V V') : N2 w g h a b c d V' :=
  ⟨(hb.cell (World.block_lt_of_cell? V _ k.1)).trans k.1, (hb.cell (World.block_lt_of_cell? V _ k.2.1)).trans k.2.1, (hb.cell (World.block_lt_of_cell? V _ k.2.2.1)).trans k.2.2.1,
    (hb.cell (World.block_lt_of_cell? V _ k.2.2.2.1)).trans k.2.2.2.1, k.2.2.2.2.trans (hb.mono k.2.2.2.2.size)⟩
theorem N2.drew {w V : World} {g h : Nat} {a b c d : Int} (k : N2 w g h a b c d V) : N2 w g h a b c d V.drew := ⟨k.1, k.2.1, k.2.2.1, k.2.2.2.1, k.2.2.2.2.drew⟩
theorem N2.call {w V : World} {g h : Nat} {a b c d : Int} {f : FuncId} {args : Array Value} {v : Value} (k : N2 w g h a b c d V) (hc : Calls Try.prog f args V fun e V' => e = .returned v ∧ Below V.heap.size V V') :
    Calls Try.prog f args V fun e V' => e = .returned v ∧ N2 w g h a b c d V' := hc.mono fun _ _ hh => ⟨hh.1, k.keep hh.2⟩
/-- Four stamps in four blocks. -/
abbrev N4 (w : World) (g1 g2 g3 g4 : Nat) (x1 x2 y1 y2 n1 n2 p1 p2 : Int) (V : World) : Prop :=
  V.cell? ⟨g1, 0, none⟩ = some (.int .i64 x1) ∧ V.cell? ⟨g1, 1, none⟩ = some (.int .i64 x2) ∧ V.cell? ⟨g2, 0, none⟩ = some (.int .i64 y1) ∧ V.cell? ⟨g2, 1, none⟩ = some (.int .i64 y2) ∧
    V.cell? ⟨g3, 0, none⟩ = some (.int .i64 n1) ∧ V.cell? ⟨g3, 1, none⟩ = some (.int .i64 n2) ∧ V.cell? ⟨g4, 0, none⟩ = some (.int .i64 p1) ∧ V.cell? ⟨g4, 1, none⟩ = some (.int .i64 p2) ∧ Below w.heap.size w V
theorem N4.keep {w V V' : World} {g1 g2 g3 g4 : Nat} {x1 x2 y1 y2 n1 n2 p1 p2 : Int} (h : N4 w g1 g2 g3 g4 x1 x2 y1 y2 n1 n2 p1 p2 V) (hb : Below V.heap.size V V') : N4 w g1 g2 g3 g4 x1 x2 y1 y2 n1 n2 p1 p2 V' := by
  have k : ∀ p v, V.cell? p = some v → V'.cell? p = some v := fun p v hp => (hb.cell (World.block_lt_of_cell? V _ hp)).trans hp
  obtain ⟨h1, h2, h3, h4, h5, h6, h7, h8, h9⟩ := h
  exact ⟨k _ _ h1, k _ _ h2, k _ _ h3, k _ _ h4, k _ _ h5, k _ _ h6, k _ _ h7, k _ _ h8, h9.trans (hb.mono h9.size)⟩
theorem N4.drew {w V : World} {g1 g2 g3 g4 : Nat} {x1 x2 y1 y2 n1 n2 p1 p2 : Int} (h : N4 w g1 g2 g3 g4 x1 x2 y1 y2 n1 n2 p1 p2 V) : N4 w g1 g2 g3 g4 x1 x2 y1 y2 n1 n2 p1 p2 V.drew :=
  ⟨h.1, h.2.1, h.2.2.1, h.2.2.2.1, h.2.2.2.2.1, h.2.2.2.2.2.1, h.2.2.2.2.2.2.1, h.2.2.2.2.2.2.2.1, h.2.2.2.2.2.2.2.2.drew⟩
theorem N4.call {w V : World} {g1 g2 g3 g4 : Nat} {x1 x2 y1 y2 n1 n2 p1 p2 : Int} {f : FuncId} {args : Array Value} {v : Value} (k : N4 w g1 g2 g3 g4 x1 x2 y1 y2 n1 n2 p1 p2 V) (hc : Calls Try.prog f args V fun e V' => e = .returned v ∧ Below V.heap.size V V') :
    Calls Try.prog f args V fun e V' => e = .returned v ∧ N4 w g1 g2 g3 g4 x1 x2 y1 y2 n1 n2 p1 p2 V' := hc.mono fun _ _ hh => ⟨hh.1, k.keep hh.2⟩

theorem SS.call2 {w V : World} {a b c d : Int} {f : FuncId} {args : Array Value} {v : Value} (h : SS w a b c d V) (hc : Calls Try.prog f args V fun e V' => e = .returned v ∧ Below V.heap.size V V') :
    Calls Try.prog f args V fun e V' => e = .returned v ∧ SS w a b c d V' ∧ Below V.heap.size V V' := hc.mono fun _ _ hh => ⟨hh.1, h.keep hh.2, hh.2⟩
theorem Box.drew' {w : World} {g : Nat} {a b : Int} (h : Box w g a b) : Box w.drew g a b := h
theorem SS.alloc {w V : World} {a b c d : Int} (h : SS w a b c d V) (o : Obj) : SS w a b c d (V.alloc o) := h.keep ((Below.refl _ _).alloc (Nat.le_refl _) _)
theorem SS.room {w V : World} {a b c d : Int} (h : SS w a b c d V) : w.heap.size + 1 < V.heap.size := World.block_lt_of_cell? V _ h.2.2.1
theorem SS.put {w V : World} {a b c d : Int} (h : SS w a b c d V) {g i : Nat} {u : Value} (hg : w.heap.size + 1 < g) : SS w a b c d (V.setCell ⟨g, i, none⟩ u) := by
  have k : ∀ p : Addr, p.block ≠ g → (V.setCell ⟨g, i, none⟩ u).cell? p = V.cell? p := fun p hp => World.cell?_setCell_far _ _ _ _ (fun e => hp e.symm)
  obtain ⟨h1, h2, h3, h4, h5⟩ := h
  exact ⟨(k _ (by simp; omega)).trans h1, (k _ (by simp; omega)).trans h2, (k _ (by simp; omega)).trans h3, (k _ (by simp; omega)).trans h4, h5.setCell (by simp; omega) _⟩

theorem N2.of {w V : World} {gx gy : Nat} {x1 x2 y1 y2 : Int} (hB : Below w.heap.size w V) (hx : Box V gx x1 x2) (hy : Box V gy y1 y2) : N2 w gx gy x1 x2 y1 y2 V := ⟨hx.c0, hx.c1, hy.c0, hy.c1, hB⟩
theorem N2.alloc {w V : World} {g h : Nat} {a b c d : Int} (k : N2 w g h a b c d V) (o : Obj) : N2 w g h a b c d (V.alloc o) := k.keep ((Below.refl _ _).alloc (Nat.le_refl _) _)
theorem SS.below {w V : World} {a b c d : Int} (h : SS w a b c d V) : Below w.heap.size w V := h.2.2.2.2

set_option pp.deepTerms true in
set_option pp.maxSteps 1000000 in
set_option maxHeartbeats 60000000 in
theorem stampNear_w (hC : CheckOk) (hS : LessOk) (hN : NextSOk) (hP : PrevOk) (hL : LaterOk) (a b c d : Int) (w : World) (ha : -9223372036854775808 ≤ a ∧ a ≤ 9223372036854775807) (hb : -9223372036854775808 ≤ b ∧ b ≤ 9223372036854775807) (hc : -9223372036854775808 ≤ c ∧ c ≤ 9223372036854775807) (hd : -9223372036854775808 ≤ d ∧ d ≤ 9223372036854775807) :
    Calls Try.prog 6 #[sv a b, sv c d] w fun e w' => e = .returned (.bool true) ∧ Below w.heap.size w w' := by
  have AW := Lib.hid (awake hS hN hP hL)
  have S1 := Lib.hid hS
  have B1 := fun V => bringS a b V ha hb
  have B2 := fun V => bringS c d V hc hd
  have hx := may_mod a b
  have hy := may_mod c d
  generalize a % 1099511627777 = x1 at B1 hx
  generalize b % 1048576 = x2 at B1 hx
  generalize c % 1099511627777 = y1 at B2 hy
  generalize d % 1048576 = y2 at B2 hy
  replace B1 := Lib.hid B1
  replace B2 := Lib.hid B2
  obtain ⟨n1, n2, n3, hn⟩ : ∃ u v t, nxt x1 x2 = (u, v, t) := ⟨_, _, _, rfl⟩
  have N1 := hN x1 x2
  rw [hn] at N1
  replace N1 := Lib.hid N1
  have HX := Lib.hid hx
  have HY := Lib.hid hy
  have HN := Lib.hid hn
  have PP := Lib.hid hP
  have CC := Lib.hid hC
  clear hN hP hL ha hb hc hd hS hx hy hn hC
  go_enter Try.func6, Try.ntmps6
  go_wp2_with fail
  have hS0 := SS.new w a b c d
  have hSd := hS0.drew
  have m0 := SS.room hS0
  refine Code.wp_mono (Q := fun e a' V => match e with
    | .normal => ∃ gx gy, a' = { tmps := #[sv a b, sv c d, .pointer (some ⟨w.heap.size, 0, none⟩), .pointer (some ⟨w.heap.size + 1, 0, none⟩), .bool false, .pointer (some ⟨gx, 0, none⟩), .pointer (some ⟨gy, 0, none⟩), undef, undef, undef, undef, undef, .agg #[.int .i64 a, .int .i64 b], .agg #[.int .i64 x1, .int .i64 x2], .agg #[.int .i64 c, .int .i64 d], .agg #[.int .i64 y1, .int .i64 y2], undef, undef, undef, undef, undef, undef, undef, undef, undef, undef, undef, undef, undef, undef, undef, undef, undef, undef, undef, undef, undef, undef, undef, undef, undef, undef, undef, undef, undef, undef, undef, undef, undef, undef, undef, undef, undef, undef, undef, undef, undef, undef, undef, undef, undef, undef, undef, undef, undef, undef, undef, undef, undef, undef, undef, undef, undef, undef, undef, undef, undef, undef, undef, undef, undef, undef, undef, undef, undef, undef, undef, undef, undef, undef, undef, undef], defers := [] } ∧ N2 w gx gy x1 x2 y1 y2 V
    | _ => False) ?_ ?_
  · rintro e a' V h
    cases e with
    | normal =>
      obtain ⟨gx, gy, rfl, hV⟩ := h
      clear hS0 hSd m0 B1 B2
      go_wp2_with fail
      refine (N1.out _).mono ?_
      rintro e4 w4 ⟨rfl, hb4⟩
      replace hV := hV.keep hb4
      clear hb4
      have hN0 := hV.alloc (.cells #[.int .i64 n1, .int .i64 n2] 23)
      by_cases h0 : n3 = 0
      · subst h0
        obtain ⟨k1, k2, k3, k4⟩ := nxt_near HX.out HY.out HN.out
        have P1 := PP.out n1 n2
        rw [k3] at P1
        replace P1 := Lib.hid P1
        have hBn := Box.new w4 n1 n2
        go_wp2_with fail
        refine (P1.out _).mono ?_
        rintro e5 w5 ⟨rfl, hb5⟩
        have hV5 := hN0.keep hb5
        replace hBn := hBn.keep hb5
        generalize w4.heap.size = gn at hBn ⊢
        clear hN0 hV hb5
        have hBp := Box.new w5 x1 x2
        have hV6 := hV5.alloc (.cells #[.int .i64 x1, .int .i64 x2] 23)
        have hBn6 := hBn.alloc (.cells #[.int .i64 x1, .int .i64 x2] 23)
        clear hV5 hBn
        go_wp2_with fail
        generalize w5.heap.size = gp at hBp ⊢
        generalize w5.alloc (.cells #[.int .i64 x1, .int .i64 x2] 23) = w6 at hBp hV6 hBn6 ⊢
        have hN0 : N4 w gx gy gn gp x1 x2 y1 y2 n1 n2 x1 x2 w6 := ⟨hV6.1, hV6.2.1, hV6.2.2.1, hV6.2.2.2.1, hBn6.c0, hBn6.c1, hBp.c0, hBp.c1, hV6.2.2.2.2⟩
        have hNd := hN0.drew
        clear hV6 hBn6 hBp hNd
        have c0 := CC.out n1 n2
        rw [show ck n1 n2 = 0 by unfold ck; rw [k1]; rfl] at c0
        have C1 := Lib.hid c0
        have L1 := Lib.hid (S1.out x1 x2 n1 n2)
        rw [k2] at L1
        have L2 := Lib.hid (S1.out x1 x2 y1 y2)
        have L3 := Lib.hid (S1.out y1 y2 n1 n2)
        have p1 : (x1 == x1) = true := beq_self_eq_true _
        have p2 : (x2 == x2) = true := beq_self_eq_true _
        rw [k4] at L2
        generalize lt (y1, y2) (n1, n2) = l2 at L2 L3
        clear k1 k2 k3 k4 c0
        obtain ⟨q1, q2, q3, q4, q5, q6, q7, q8, hB6⟩ := id hN0
        cases l2
        · refine (L2.out _).mono ?_
          rintro e7 w7 ⟨rfl, hb7⟩
          replace hN0 := N4.keep hN0 hb7
          clear hb7 q1 q2 q3 q4 q5 q6 q7 q8 hB6
          obtain ⟨q1, q2, q3, q4, q5, q6, q7, q8, hB7⟩ := id hN0
          go_wp2_with fail
          refine (L3.out _).mono ?_
          rintro e7 w7 ⟨rfl, hb7⟩
          replace hN0 := N4.keep hN0 hb7
          clear hb7 q1 q2 q3 q4 q5 q6 q7 q8 hB7
          obtain ⟨q1, q2, q3, q4, q5, q6, q7, q8, hB7⟩ := id hN0
          go_wp2_with fail
          refine (C1.out _).mono ?_
          rintro e7 w7 ⟨rfl, hb7⟩
          replace hN0 := N4.keep hN0 hb7
          clear hb7 q1 q2 q3 q4 q5 q6 q7 q8 hB7
          obtain ⟨q1, q2, q3, q4, q5, q6, q7, q8, hB7⟩ := id hN0
          go_wp2_with fail
          refine (L1.out _).mono ?_
          rintro e7 w7 ⟨rfl, hb7⟩
          replace hN0 := N4.keep hN0 hb7
          clear hb7 q1 q2 q3 q4 q5 q6 q7 q8 hB7
          obtain ⟨q1, q2, q3, q4, q5, q6, q7, q8, hB7⟩ := id hN0
          go_wp2_with fail
          refine (L2.out _).mono ?_
          rintro e7 w7 ⟨rfl, hb7⟩
          replace hN0 := N4.keep hN0 hb7
          clear hb7 q1 q2 q3 q4 q5 q6 q7 q8 hB7
          obtain ⟨q1, q2, q3, q4, q5, q6, q7, q8, hB7⟩ := id hN0
          go_wp2_with fail
          refine (AW.out _).mono ?_
          rintro e7 w7 ⟨rfl, hb7⟩
          replace hN0 := N4.keep hN0 hb7
          clear hb7 q1 q2 q3 q4 q5 q6 q7 q8 hB7
          obtain ⟨q1, q2, q3, q4, q5, q6, q7, q8, hB7⟩ := id hN0
          go_wp2
          go_ret
          exact ⟨rfl, hB7⟩
        · refine (L2.out _).mono ?_
          rintro e7 w7 ⟨rfl, hb7⟩
          replace hN0 := N4.keep hN0 hb7
          clear hb7 q1 q2 q3 q4 q5 q6 q7 q8 hB6
          obtain ⟨q1, q2, q3, q4, q5, q6, q7, q8, hB7⟩ := id hN0
          go_wp2_with fail
          refine (C1.out _).mono ?_
          rintro e7 w7 ⟨rfl, hb7⟩
          replace hN0 := N4.keep hN0 hb7
          clear hb7 q1 q2 q3 q4 q5 q6 q7 q8 hB7
          obtain ⟨q1, q2, q3, q4, q5, q6, q7, q8, hB7⟩ := id hN0
          go_wp2_with fail
          refine (L1.out _).mono ?_
          rintro e7 w7 ⟨rfl, hb7⟩
          replace hN0 := N4.keep hN0 hb7
          clear hb7 q1 q2 q3 q4 q5 q6 q7 q8 hB7
          obtain ⟨q1, q2, q3, q4, q5, q6, q7, q8, hB7⟩ := id hN0
          go_wp2_with fail
          refine (L2.out _).mono ?_
          rintro e7 w7 ⟨rfl, hb7⟩
          replace hN0 := N4.keep hN0 hb7
          clear hb7 q1 q2 q3 q4 q5 q6 q7 q8 hB7
          obtain ⟨q1, q2, q3, q4, q5, q6, q7, q8, hB7⟩ := id hN0
          go_wp2_with fail
          refine (L2.out _).mono ?_
          rintro e7 w7 ⟨rfl, hb7⟩
          replace hN0 := N4.keep hN0 hb7
          clear hb7 q1 q2 q3 q4 q5 q6 q7 q8 hB7
          obtain ⟨q1, q2, q3, q4, q5, q6, q7, q8, hB7⟩ := id hN0
          go_wp2_with fail
          refine (L3.out _).mono ?_
          rintro e7 w7 ⟨rfl, hb7⟩
          replace hN0 := N4.keep hN0 hb7
          clear hb7 q1 q2 q3 q4 q5 q6 q7 q8 hB7
          obtain ⟨q1, q2, q3, q4, q5, q6, q7, q8, hB7⟩ := id hN0
          go_wp2_with fail
          refine (AW.out _).mono ?_
          rintro e7 w7 ⟨rfl, hb7⟩
          replace hN0 := N4.keep hN0 hb7
          clear hb7 q1 q2 q3 q4 q5 q6 q7 q8 hB7
          obtain ⟨q1, q2, q3, q4, q5, q6, q7, q8, hB7⟩ := id hN0
          go_wp2
          go_ret
          exact ⟨rfl, hB7⟩
      · obtain ⟨rfl, rfl, rfl, hlt⟩ := nxt_end HX.out HY.out HN.out h0
        obtain ⟨q1, q2, q3, q4, hB5⟩ := id hN0
        have L1 := S1.out 1099511627776 1048575 y1 y2
        rw [hlt] at L1
        clear hV hlt h0
        go_wp2_with fail
        refine (L1 _).mono ?_
        rintro e5 w5 ⟨rfl, hb5⟩
        have hB6 := hB5.trans (hb5.mono hB5.size)
        go_wp2_with fail
        refine (AW.out _).mono ?_
        rintro e6 w6 ⟨rfl, hb6⟩
        have hB7 := hB6.trans (hb6.mono hB6.size)
        go_wp2
        go_ret
        exact ⟨rfl, hB7⟩
    | _ => exact h.elim
  · generalize ((w.alloc (.cells #[.int .i64 a, .int .i64 b] 23)).alloc (.cells #[.int .i64 c, .int .i64 d] 23)) = W0 at hS0 hSd m0 ⊢
    go_region_held3 (fun V => V.cell? ⟨w.heap.size, 0, none⟩ = some (.int .i64 a) ∧ V.cell? ⟨w.heap.size, 1, none⟩ = some (.int .i64 b) ∧ V.cell? ⟨w.heap.size + 1, 0, none⟩ = some (.int .i64 c) ∧ V.cell? ⟨w.heap.size + 1, 1, none⟩ = some (.int .i64 d) ∧ Below w.heap.size w V)
      (first | with_reducible assumption | with_reducible exact hS0 | with_reducible exact hSd | (repeat (first | with_reducible assumption | with_reducible exact hS0 | with_reducible exact hSd | with_reducible refine SS.alloc ?_ _ | with_reducible refine SS.drew ?_ | with_reducible refine SS.put ?_ ?_ | omega | (simp only [World.size_alloc]; omega))))
      (first
        | (go_at_call_of 24 (Value.int .i64 a); refine (SS.call2 (by first | with_reducible assumption | with_reducible exact hSd | with_reducible exact hS0) (B1.out _)).mono ?_; rintro e w2 ⟨rfl, hS2, hb2⟩; have m2 := SS.room hS2; (try ((first | have q1 := (Box.new _ 0 0).keep hb2 | have q1 := (Box.drew' (Box.new _ 0 0)).keep hb2); (try simp only [World.size_alloc] at q1); have q1a := q1.c0; have q1b := q1.c1; have q1f := q1.fz 0; have q1g := q1.fz 1; have q1l := q1.lt; have q1m := Nat.ne_of_lt q1l; have q1n := Nat.ne_of_gt q1l)); (try ((first | have q2 := ((Box.new _ 0 0).alloc _).keep hb2 | have q2 := (Box.drew' ((Box.new _ 0 0).alloc _)).keep hb2); (try simp only [World.size_alloc, World.drew] at q2); have q2a := q2.c0; have q2b := q2.c1; have q2f := q2.fz 0; have q2g := q2.fz 1; have q2l := q2.lt; have q2m := Nat.ne_of_lt q2l; have q2n := Nat.ne_of_gt q2l)))
        | (go_at_call_of 24 (Value.int .i64 c); refine (SS.call2 (by first | with_reducible assumption | with_reducible exact hSd | with_reducible exact hS0) (B2.out _)).mono ?_; rintro e w3 ⟨rfl, hS3, hb3⟩; have m3 := SS.room hS3; (try ((first | have r1 := (Box.new _ 0 0).keep hb3); (try simp only [World.size_alloc] at r1); have r1a := r1.c0; have r1b := r1.c1; have r1f := r1.fz 0; have r1g := r1.fz 1; have r1l := r1.lt; have r1m := Nat.ne_of_lt r1l; have r1n := Nat.ne_of_gt r1l)); (try ((first | have r2 := ((Box.new _ 0 0).alloc _).keep hb3); (try simp only [World.size_alloc, World.drew] at r2); have r2a := r2.c0; have r2b := r2.c1; have r2f := r2.fz 0; have r2g := r2.fz 1; have r2l := r2.lt; have r2m := Nat.ne_of_lt r2l; have r2n := Nat.ne_of_gt r2l)); (try ((first | have r3 := q1.keep hb3 | have r3 := (q1.alloc _).keep hb3); (try simp only [World.size_alloc, World.drew] at r3); have r3a := r3.c0; have r3b := r3.c1; have r3f := r3.fz 0; have r3g := r3.fz 1; have r3l := r3.lt; have r3m := Nat.ne_of_lt r3l; have r3n := Nat.ne_of_gt r3l)); (try ((first | have r4 := q2.keep hb3 | have r4 := (q2.alloc _).keep hb3); (try simp only [World.size_alloc, World.drew] at r4); have r4a := r4.c0; have r4b := r4.c1; have r4f := r4.fz 0; have r4g := r4.fz 1; have r4l := r4.lt; have r4m := Nat.ne_of_lt r4l; have r4n := Nat.ne_of_gt r4l))))
    all_goals
      refine ⟨_, _, rfl, N2.of (SS.below (by with_reducible assumption)) ?_ ?_⟩
      all_goals (repeat (first | with_reducible assumption | with_reducible exact Box.new _ _ _ | with_reducible exact Box.new' _ _ _ (by simp) | with_reducible refine Box.alloc ?_ _ | with_reducible refine Box.put1 (b := 0) ?_ _ | with_reducible refine Box.put0 (a := 0) ?_ _ | with_reducible refine Box.far ?_ ?_ _ _ | omega | (simp; omega)))
end Go.Proofs.Ytnjfabgajebfeaa
