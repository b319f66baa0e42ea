/-
  StampSteps: the walk, over what the code's functions promise.
-/
import Derived.Test.YtnjfabgajebfeaaSAwake
import Derived.Test.YtnjfabgajebfeaaSRef
set_option linter.unusedVariables false
namespace Go.Proofs.Ytnjfabgajebfeaa
open Go.RowKit

set_option maxHeartbeats 2000000 in
theorem stampSteps_w (hS : LessOk) (hN : NextSOk) (hP : PrevOk) (hL : LaterOk) (a b : Int) (k : Int) (w : World) (ha : -9223372036854775808 ≤ a ∧ a ≤ 9223372036854775807) (hb : -9223372036854775808 ≤ b ∧ b ≤ 9223372036854775807) (hk : -9223372036854775808 ≤ k ∧ k ≤ 9223372036854775807) :
    Calls Try.prog 5 #[sv a b, .int .i64 k] w fun e w' => e = .returned (.bool true) ∧ Below w.heap.size w w' := by
  have AW := Lib.hid (awake hS hN hP hL)
  obtain ⟨x1, x2, x3, hx0⟩ : ∃ u v t, nxt a b = (u, v, t) := ⟨_, _, _, rfl⟩
  have C0 := hN a b
  have D0 := refNext5 a b
  rw [hx0] at C0 D0
  replace C0 := Lib.hid C0
  replace D0 := Lib.hid D0
  have ex1 : (x1 == x1) = true := beq_self_eq_true _
  have ex2 : (x2 == x2) = true := beq_self_eq_true _
  have ex3 : (x3 == x3) = true := beq_self_eq_true _
  obtain ⟨y1, y2, y3, hx1⟩ : ∃ u v t, prv a b = (u, v, t) := ⟨_, _, _, rfl⟩
  have C1 := hP a b
  have D1 := refPrev5 a b
  rw [hx1] at C1 D1
  replace C1 := Lib.hid C1
  replace D1 := Lib.hid D1
  have ey1 : (y1 == y1) = true := beq_self_eq_true _
  have ey2 : (y2 == y2) = true := beq_self_eq_true _
  have ey3 : (y3 == y3) = true := beq_self_eq_true _
  obtain ⟨z1, z2, z3, hx2⟩ : ∃ u v t, ltr a b k = (u, v, t) := ⟨_, _, _, rfl⟩
  have C2 := hL a b k
  have D2 := refLater5 a b k
  rw [hx2] at C2 D2
  replace C2 := Lib.hid C2
  replace D2 := Lib.hid D2
  have ez1 : (z1 == z1) = true := beq_self_eq_true _
  have ez2 : (z2 == z2) = true := beq_self_eq_true _
  have ez3 : (z3 == z3) = true := beq_self_eq_true _
  clear hS hN hP hL ha hb hk
  go_enter Try.func5, Try.ntmps5
  go_wp2_with fail
  have hs := Box.new w a b
  have hB : Below w.heap.size w (w.alloc (.cells #[.int .i64 a, .int .i64 b] 23)) := (Below.refl _ _).alloc (Nat.le_refl _) _
  refine (C0.out _).mono ?_
  rintro e1 w1 ⟨rfl, hb1⟩
  replace hs := hs.keep hb1
  replace hB := hB.trans (hb1.mono (by simp))
  clear hb1
  have c0hs0 := (hs.alloc (.cells #[.int .i64 x1, .int .i64 x2] 23)).c0
  have c0hs1 := (hs.alloc (.cells #[.int .i64 x1, .int .i64 x2] 23)).c1
  go_wp2_with fail
  clear c0hs0 c0hs1
  refine (D0.out _).mono ?_
  rintro e2 w2 ⟨rfl, hb2⟩
  replace hs := (hs.alloc _).keep hb2
  have h1 := (Box.new w1 x1 x2).keep hb2
  replace hB := (hB.alloc hB.size (.cells #[.int .i64 x1, .int .i64 x2] 23)).trans (hb2.mono (by have := hB.size; simp; omega))
  generalize w1.heap.size = g1 at h1 ⊢
  clear hb2
  have c1hs0 := (hs.alloc (.cells #[.int .i64 x1, .int .i64 x2] 23)).c0
  have c1hs1 := (hs.alloc (.cells #[.int .i64 x1, .int .i64 x2] 23)).c1
  go_wp2_with fail
  clear c1hs0 c1hs1
  refine (C1.out _).mono ?_
  rintro e3 w3 ⟨rfl, hb3⟩
  replace hs := (hs.alloc _).keep hb3
  replace h1 := (h1.alloc _).keep hb3
  have h2 := (Box.new w2 x1 x2).keep hb3
  replace hB := (hB.alloc hB.size (.cells #[.int .i64 x1, .int .i64 x2] 23)).trans (hb3.mono (by have := hB.size; simp; omega))
  generalize w2.heap.size = g2 at h2 ⊢
  clear hb3
  have c2hs0 := (hs.alloc (.cells #[.int .i64 y1, .int .i64 y2] 23)).c0
  have c2hs1 := (hs.alloc (.cells #[.int .i64 y1, .int .i64 y2] 23)).c1
  go_wp2_with fail
  clear c2hs0 c2hs1
  refine (D1.out _).mono ?_
  rintro e4 w4 ⟨rfl, hb4⟩
  replace hs := (hs.alloc _).keep hb4
  replace h1 := (h1.alloc _).keep hb4
  replace h2 := (h2.alloc _).keep hb4
  have h3 := (Box.new w3 y1 y2).keep hb4
  replace hB := (hB.alloc hB.size (.cells #[.int .i64 y1, .int .i64 y2] 23)).trans (hb4.mono (by have := hB.size; simp; omega))
  generalize w3.heap.size = g3 at h3 ⊢
  clear hb4
  have c3hs0 := (hs.alloc (.cells #[.int .i64 y1, .int .i64 y2] 23)).c0
  have c3hs1 := (hs.alloc (.cells #[.int .i64 y1, .int .i64 y2] 23)).c1
  go_wp2_with fail
  clear c3hs0 c3hs1
  refine (C2.out _).mono ?_
  rintro e5 w5 ⟨rfl, hb5⟩
  replace hs := (hs.alloc _).keep hb5
  replace h1 := (h1.alloc _).keep hb5
  replace h2 := (h2.alloc _).keep hb5
  replace h3 := (h3.alloc _).keep hb5
  have h4 := (Box.new w4 y1 y2).keep hb5
  replace hB := (hB.alloc hB.size (.cells #[.int .i64 y1, .int .i64 y2] 23)).trans (hb5.mono (by have := hB.size; simp; omega))
  generalize w4.heap.size = g4 at h4 ⊢
  clear hb5
  have c4hs0 := (hs.alloc (.cells #[.int .i64 z1, .int .i64 z2] 23)).c0
  have c4hs1 := (hs.alloc (.cells #[.int .i64 z1, .int .i64 z2] 23)).c1
  go_wp2_with fail
  clear c4hs0 c4hs1
  refine (D2.out _).mono ?_
  rintro e6 w6 ⟨rfl, hb6⟩
  replace hs := (hs.alloc _).keep hb6
  replace h1 := (h1.alloc _).keep hb6
  replace h2 := (h2.alloc _).keep hb6
  replace h3 := (h3.alloc _).keep hb6
  replace h4 := (h4.alloc _).keep hb6
  have h5 := (Box.new w5 z1 z2).keep hb6
  replace hB := (hB.alloc hB.size (.cells #[.int .i64 z1, .int .i64 z2] 23)).trans (hb6.mono (by have := hB.size; simp; omega))
  generalize w5.heap.size = g5 at h5 ⊢
  clear hb6
  replace h1 := h1.alloc (.cells #[.int .i64 z1, .int .i64 z2] 23)
  replace h2 := h2.alloc (.cells #[.int .i64 z1, .int .i64 z2] 23)
  replace h3 := h3.alloc (.cells #[.int .i64 z1, .int .i64 z2] 23)
  replace h4 := h4.alloc (.cells #[.int .i64 z1, .int .i64 z2] 23)
  replace h5 := h5.alloc (.cells #[.int .i64 z1, .int .i64 z2] 23)
  have h6 := Box.new w6 z1 z2
  replace hB := hB.alloc hB.size (.cells #[.int .i64 z1, .int .i64 z2] 23)
  clear hs
  have c5h10 := h1.c0
  have c5h11 := h1.c1
  have c5h20 := h2.c0
  have c5h21 := h2.c1
  have c5h30 := h3.c0
  have c5h31 := h3.c1
  have c5h40 := h4.c0
  have c5h41 := h4.c1
  have c5h50 := h5.c0
  have c5h51 := h5.c1
  have c5h60 := h6.c0
  have c5h61 := h6.c1
  go_wp2_with fail
  refine (AW.out _).mono ?_
  rintro e7 w7 ⟨rfl, hb7⟩
  replace hB := hB.trans (hb7.mono hB.size)
  go_wp2
  go_ret
  exact ⟨rfl, hB⟩
end Go.Proofs.Ytnjfabgajebfeaa
