/-
  Layer 5: the chapter's examples, as the statements call them.
-/
import Derived.Test.YtnjfabgajebfeaaSBlk
import Derived.Test.YtnjfabgajebfeaaBring
set_option linter.unusedVariables false
namespace Go.Proofs.Ytnjfabgajebfeaa
open Go.RowKit

/-- Two stamps in the first two blocks of a call. -/
abbrev SS (w : World) (a b c d : Int) (V : World) : Prop :=
  V.cell? ⟨w.heap.size, 0, none⟩ = some (.int .i64 a) ∧ V.cell? ⟨w.heap.size, 1, none⟩ = some (.int .i64 b) ∧ V.cell? ⟨w.heap.size + 1, 0, none⟩ = some (.int .i64 c) ∧ V.cell? ⟨w.heap.size + 1, 1, none⟩ = some (.int .i64 d) ∧ Below w.heap.size w V
theorem SS.keep {w V V' : World} {a b c d : Int} (h : SS w a b c d V) (hb : Below V.heap.size V V') : SS w a b c d V' :=
  ⟨(hb.cell (World.block_lt_of_cell? V _ h.1)).trans h.1, (hb.cell (World.block_lt_of_cell? V _ h.2.1)).trans h.2.1, (hb.cell (World.block_lt_of_cell? V _ h.2.2.1)).trans h.2.2.1,
    (hb.cell (World.block_lt_of_cell? V _ h.2.2.2.1)).trans h.2.2.2.1, h.2.2.2.2.trans (hb.mono h.2.2.2.2.size)⟩
theorem SS.drew {w V : World} {a b c d : Int} (h : SS w a b c d V) : SS w a b c d V.drew := ⟨h.1, h.2.1, h.2.2.1, h.2.2.2.1, h.2.2.2.2.drew⟩
theorem SS.new (w : World) (a b c d : Int) : SS w a b c d ((w.alloc (.cells #[.int .i64 a, .int .i64 b] 23)).alloc (.cells #[.int .i64 c, .int .i64 d] 23)) := by
  have hA := (Box.new w a b).alloc (.cells #[.int .i64 c, .int .i64 d] 23)
  have hB := Box.new' (g := w.heap.size + 1) (w.alloc (.cells #[.int .i64 a, .int .i64 b] 23)) c d (by simp)
  exact ⟨hA.c0, hA.c1, hB.c0, hB.c1, ((Below.refl w.heap.size w).alloc (Nat.le_refl _) _).alloc (by simp) _⟩
/-- A contract that keeps them. -/
theorem SS.call {w V : World} {a b c d : Int} {f : FuncId} {args : Array Value} {v : Value} (h : SS w a b c d V) (hc : Calls Try.prog f args V fun e V' => e = .returned v ∧ Below V.heap.size V V') :
    Calls Try.prog f args V fun e V' => e = .returned v ∧ SS w a b c d V' := hc.mono fun _ _ hh => ⟨hh.1, h.keep hh.2⟩

theorem next_39 (hN : NextSOk) (w : World) : Calls Try.prog 18 #[sv 3 9] w fun e w' => e = .returned (.tuple #[sv 3 10, .int .i64 0]) ∧ Below w.heap.size w w' := by
  have h := hN 3 9 w
  rw [show nxt 3 9 = (3, 10, 0) by decide] at h
  exact h
theorem next_3l (hN : NextSOk) (w : World) : Calls Try.prog 18 #[sv 3 1048575] w fun e w' => e = .returned (.tuple #[sv 4 0, .int .i64 0]) ∧ Below w.heap.size w w' := by
  have h := hN 3 1048575 w
  rw [show nxt 3 1048575 = (4, 0, 0) by decide] at h
  exact h
theorem prev_40 (hP : PrevOk) (w : World) : Calls Try.prog 20 #[sv 4 0] w fun e w' => e = .returned (.tuple #[sv 3 1048575, .int .i64 0]) ∧ Below w.heap.size w w' := by
  have h := hP 4 0 w
  rw [show prv 4 0 = (3, 1048575, 0) by decide] at h
  exact h
theorem prev_00 (hP : PrevOk) (w : World) : Calls Try.prog 20 #[sv 0 0] w fun e w' => e = .returned (.tuple #[sv 0 0, .int .i64 5]) ∧ Below w.heap.size w w' := by
  have h := hP 0 0 w
  rw [show prv 0 0 = (0, 0, 5) by decide] at h
  exact h
theorem later_5 (hL : LaterOk) (w : World) : Calls Try.prog 22 #[sv 3 9, .int .i64 5] w fun e w' => e = .returned (.tuple #[sv 8 9, .int .i64 0]) ∧ Below w.heap.size w w' := by
  have h := hL 3 9 5 w
  rw [show ltr 3 9 5 = (8, 9, 0) by decide] at h
  exact h
theorem later_n (hL : LaterOk) (w : World) : Calls Try.prog 22 #[sv 3 9, .int .i64 (-1)] w fun e w' => e = .returned (.tuple #[sv 0 0, .int .i64 9]) ∧ Below w.heap.size w w' := by
  have h := hL 3 9 (-1) w
  rw [show ltr 3 9 (-1) = (0, 0, 9) by decide] at h
  exact h
theorem less_34 (hS : LessOk) (w : World) : Calls Try.prog 13 #[sv 3 9, sv 4 0] w fun e w' => e = .returned (.bool true) ∧ Below w.heap.size w w' := by
  have h := hS 3 9 4 0 w
  rw [show lt (3, 9) (4, 0) = true by decide] at h
  exact h
theorem less_44 (hS : LessOk) (w : World) : Calls Try.prog 13 #[sv 4 0, sv 4 0] w fun e w' => e = .returned (.bool false) ∧ Below w.heap.size w w' := by
  have h := hS 4 0 4 0 w
  rw [show lt (4, 0) (4, 0) = false by decide] at h
  exact h

set_option maxHeartbeats 2000000 in
theorem awake (hS : LessOk) (hN : NextSOk) (hP : PrevOk) (hL : LaterOk) (w : World) : Calls Try.prog 15 #[] w fun e w' => e = .returned (.bool true) ∧ Below w.heap.size w w' := by
  have N1 := Lib.hid (next_39 hN)
  have N2 := Lib.hid (next_3l hN)
  have P1 := Lib.hid (prev_40 hP)
  have P2 := Lib.hid (prev_00 hP)
  have L1 := Lib.hid (later_5 hL)
  have L2 := Lib.hid (later_n hL)
  have S1 := Lib.hid (less_34 hS)
  have S2 := Lib.hid (less_44 hS)
  clear hS hN hP hL
  go_enter Try.func15, Try.ntmps15
  go_wp2_with fail
  refine (N1.out _).mono ?_
  rintro e1 w1 ⟨rfl, hB1⟩
  go_wp2_with fail
  refine (N2.out _).mono ?_
  rintro e2 w2 ⟨rfl, hb2⟩
  have hA := (Box.new w1 3 10).keep hb2
  have hB2 := (hB1.alloc hB1.size (.cells #[.int .i64 3, .int .i64 10] 23)).trans (hb2.mono (by have := hB1.size; simp; omega))
  generalize w1.heap.size = g1 at hA ⊢
  clear hb2 hB1
  go_wp2_with fail
  refine (P1.out _).mono ?_
  rintro e3 w3 ⟨rfl, hb3⟩
  replace hA := (hA.alloc _).keep hb3
  have hC := (Box.new w2 4 0).keep hb3
  have hB3 := (hB2.alloc hB2.size (.cells #[.int .i64 4, .int .i64 0] 23)).trans (hb3.mono (by have := hB2.size; simp; omega))
  generalize w2.heap.size = g2 at hC ⊢
  clear hb3 hB2
  go_wp2_with fail
  refine (P2.out _).mono ?_
  rintro e4 w4 ⟨rfl, hb4⟩
  replace hA := (hA.alloc _).keep hb4
  replace hC := (hC.alloc _).keep hb4
  have hD := (Box.new w3 3 1048575).keep hb4
  have hB4 := (hB3.alloc hB3.size (.cells #[.int .i64 3, .int .i64 1048575] 23)).trans (hb4.mono (by have := hB3.size; simp; omega))
  generalize w3.heap.size = g3 at hD ⊢
  clear hb4 hB3
  go_wp2_with fail
  refine (L1.out _).mono ?_
  rintro e5 w5 ⟨rfl, hb5⟩
  replace hA := (hA.alloc _).keep hb5
  replace hC := (hC.alloc _).keep hb5
  replace hD := (hD.alloc _).keep hb5
  have hB5 := (hB4.alloc hB4.size (.cells #[.int .i64 0, .int .i64 0] 23)).trans (hb5.mono (by have := hB4.size; simp; omega))
  clear hb5 hB4
  go_wp2_with fail
  refine (L2.out _).mono ?_
  rintro e6 w6 ⟨rfl, hb6⟩
  replace hA := (hA.alloc _).keep hb6
  replace hC := (hC.alloc _).keep hb6
  replace hD := (hD.alloc _).keep hb6
  have hE := (Box.new w5 8 9).keep hb6
  have hB6 := (hB5.alloc hB5.size (.cells #[.int .i64 8, .int .i64 9] 23)).trans (hb6.mono (by have := hB5.size; simp; omega))
  generalize w5.heap.size = g5 at hE ⊢
  clear hb6 hB5
  go_wp2_with fail
  refine (S1.out _).mono ?_
  rintro e7 w7 ⟨rfl, hb7⟩
  replace hA := (hA.alloc _).keep hb7
  replace hC := (hC.alloc _).keep hb7
  replace hD := (hD.alloc _).keep hb7
  replace hE := (hE.alloc _).keep hb7
  have hB7 := (hB6.alloc hB6.size (.cells #[.int .i64 0, .int .i64 0] 23)).trans (hb7.mono (by have := hB6.size; simp; omega))
  clear hb7 hB6
  go_wp2_with fail
  refine (S2.out _).mono ?_
  rintro e8 w8 ⟨rfl, hb8⟩
  replace hA := hA.keep hb8
  replace hC := hC.keep hb8
  replace hD := hD.keep hb8
  replace hE := hE.keep hb8
  have hB8 := hB7.trans (hb8.mono hB7.size)
  clear hb8 hB7
  have a0 := hA.c0
  have a1 := hA.c1
  have c0 := hC.c0
  have c1 := hC.c1
  have d0 := hD.c0
  have d1 := hD.c1
  have e0 := hE.c0
  have e1 := hE.c1
  go_wp2
  go_ret
  exact ⟨rfl, hB8⟩
end Go.Proofs.Ytnjfabgajebfeaa
