/-
  StampOrder: the walk, over what the code's functions promise.
-/
import Derived.Test.YtnjfabgajebfeaaSAwake
set_option linter.unusedVariables false
namespace Go.Proofs.Ytnjfabgajebfeaa
open Go.RowKit

abbrev S3 (w : World) (a b c d x y : Int) (V : World) : Prop :=
  V.cell? ⟨w.heap.size, 0, none⟩ = some (.int .i64 a) ∧ V.cell? ⟨w.heap.size, 1, none⟩ = some (.int .i64 b) ∧ V.cell? ⟨w.heap.size + 1, 0, none⟩ = some (.int .i64 c) ∧ V.cell? ⟨w.heap.size + 1, 1, none⟩ = some (.int .i64 d) ∧
    V.cell? ⟨w.heap.size + 1 + 1, 0, none⟩ = some (.int .i64 x) ∧ V.cell? ⟨w.heap.size + 1 + 1, 1, none⟩ = some (.int .i64 y) ∧ Below w.heap.size w V
theorem S3.keep {w V V' : World} {a b c d x y : Int} (h : S3 w a b c d x y V) (hb : Below V.heap.size V V') : S3 w a b c d x y V' :=
  ⟨(hb.cell (World.block_lt_of_cell? V _ h.1)).trans h.1, (hb.cell (World.block_lt_of_cell? V _ h.2.1)).trans h.2.1, (hb.cell (World.block_lt_of_cell? V _ h.2.2.1)).trans h.2.2.1,
    (hb.cell (World.block_lt_of_cell? V _ h.2.2.2.1)).trans h.2.2.2.1, (hb.cell (World.block_lt_of_cell? V _ h.2.2.2.2.1)).trans h.2.2.2.2.1, (hb.cell (World.block_lt_of_cell? V _ h.2.2.2.2.2.1)).trans h.2.2.2.2.2.1, h.2.2.2.2.2.2.trans (hb.mono h.2.2.2.2.2.2.size)⟩
theorem S3.drew {w V : World} {a b c d x y : Int} (h : S3 w a b c d x y V) : S3 w a b c d x y V.drew := ⟨h.1, h.2.1, h.2.2.1, h.2.2.2.1, h.2.2.2.2.1, h.2.2.2.2.2.1, h.2.2.2.2.2.2.drew⟩
theorem S3.new (w : World) (a b c d x y : Int) : S3 w a b c d x y (((w.alloc (.cells #[.int .i64 a, .int .i64 b] 23)).alloc (.cells #[.int .i64 c, .int .i64 d] 23)).alloc (.cells #[.int .i64 x, .int .i64 y] 23)) := by
  have hA := ((Box.new w a b).alloc (.cells #[.int .i64 c, .int .i64 d] 23)).alloc (.cells #[.int .i64 x, .int .i64 y] 23)
  have hB := (Box.new' (g := w.heap.size + 1) (w.alloc (.cells #[.int .i64 a, .int .i64 b] 23)) c d (by simp)).alloc (.cells #[.int .i64 x, .int .i64 y] 23)
  have hC := Box.new' (g := w.heap.size + 1 + 1) ((w.alloc (.cells #[.int .i64 a, .int .i64 b] 23)).alloc (.cells #[.int .i64 c, .int .i64 d] 23)) x y (by simp)
  exact ⟨hA.c0, hA.c1, hB.c0, hB.c1, hC.c0, hC.c1, (((Below.refl w.heap.size w).alloc (Nat.le_refl _) _).alloc (by simp) _).alloc (by simp; omega) _⟩
theorem S3.call {w V : World} {a b c d x y : Int} {f : FuncId} {args : Array Value} {v : Value} (h : S3 w a b c d x y V) (hc : Calls Try.prog f args V fun e V' => e = .returned v ∧ Below V.heap.size V V') :
    Calls Try.prog f args V fun e V' => e = .returned v ∧ S3 w a b c d x y V' := hc.mono fun _ _ hh => ⟨hh.1, h.keep hh.2⟩

set_option maxHeartbeats 2000000 in
theorem stampOrder_w (hS : LessOk) (hN : NextSOk) (hP : PrevOk) (hL : LaterOk) (a b c d x y : Int) (w : World) (ha : -9223372036854775808 ≤ a ∧ a ≤ 9223372036854775807) (hb : -9223372036854775808 ≤ b ∧ b ≤ 9223372036854775807) (hc : -9223372036854775808 ≤ c ∧ c ≤ 9223372036854775807) (hd : -9223372036854775808 ≤ d ∧ d ≤ 9223372036854775807) (hx : -9223372036854775808 ≤ x ∧ x ≤ 9223372036854775807) (hy : -9223372036854775808 ≤ y ∧ y ≤ 9223372036854775807) :
    Calls Try.prog 7 #[sv a b, sv c d, sv x y] w fun e w' => e = .returned (.bool true) ∧ Below w.heap.size w w' := by
  have AW := Lib.hid (awake hS hN hP hL)
  have S1 := Lib.hid hS
  clear hN hP hL ha hb hc hd hx hy hS
  go_enter Try.func7, Try.ntmps7
  go_wp2_with fail
  have hS0 := S3.new w a b c d x y
  have hSd := hS0.drew
  go_region_held3 (fun V => V.cell? ⟨w.heap.size, 0, none⟩ = some (.int .i64 a) ∧ V.cell? ⟨w.heap.size, 1, none⟩ = some (.int .i64 b) ∧ V.cell? ⟨w.heap.size + 1, 0, none⟩ = some (.int .i64 c) ∧ V.cell? ⟨w.heap.size + 1, 1, none⟩ = some (.int .i64 d) ∧
    V.cell? ⟨w.heap.size + 1 + 1, 0, none⟩ = some (.int .i64 x) ∧ V.cell? ⟨w.heap.size + 1 + 1, 1, none⟩ = some (.int .i64 y) ∧ Below w.heap.size w V)
    (first | assumption | exact hS0 | exact hSd)
    (first
      | (go_at_call 13; refine (S3.call (by first | assumption | exact hS0 | exact hSd) (S1.out _ _ _ _ _)).mono ?_; rintro e w4 ⟨rfl, hS4⟩))
  all_goals
    have f1 : a = c → b = d → lt (a, b) (c, d) = false ∧ lt (c, d) (a, b) = false ∧ lt (c, d) (x, y) = lt (a, b) (x, y) := by rintro rfl rfl; exact ⟨lt_irr _, lt_irr _, rfl⟩
    have f2 : ¬ (a = c ∧ b = d) → lt (a, b) (c, d) = !lt (c, d) (a, b) := by
      intro h
      cases h1 : lt (a, b) (c, d) <;> cases h2 : lt (c, d) (a, b) <;> simp only [lt_iff, lt_no] at h1 h2 <;> first | rfl | omega
    have f3 : lt (a, b) (c, d) = true → lt (c, d) (x, y) = true → lt (a, b) (x, y) = true := by simp only [lt_iff]; omega
    have f4 : lt (a, b) (c, d) = false → lt (c, d) (x, y) = false → lt (a, b) (x, y) = false := by simp only [lt_no]; omega
    have c0 := hS4.1
    have c1 := hS4.2.1
    have c2 := hS4.2.2.1
    have c3 := hS4.2.2.2.1
    have hB := hS4.2.2.2.2.2.2
    clear hS4 hS0 hSd S1
    generalize lt (a, b) (c, d) = l1 at *
    generalize lt (c, d) (a, b) = l2 at *
    generalize lt (c, d) (x, y) = l3 at *
    generalize lt (a, b) (x, y) = l4 at *
    by_cases e1 : a = c
    · by_cases e2 : b = d
      · obtain ⟨rfl, rfl, rfl⟩ := f1 e1 e2
        have q1 : (a == c) = true := by simpa using e1
        have q2 : (b == d) = true := by simpa using e2
        clear f1 f2 f3 f4 e1 e2
        cases l3
        all_goals go_wp2_with fail
        all_goals (refine (AW.out _).mono ?_; rintro e7 w7 ⟨rfl, hb7⟩; replace hB := hB.trans (hb7.mono hB.size))
        all_goals go_wp2
        all_goals go_ret
        all_goals exact ⟨rfl, hB⟩
      · have g2 := f2 (fun h => e2 h.2)
        have q1 : (a == c) = true := by simpa using e1
        have q2 : (b == d) = false := by simpa using e2
        clear f1 f2 e1 e2
        cases l1 <;> cases l2 <;> cases l3 <;> cases l4 <;> first | exact absurd g2 (by decide) | exact absurd (f3 rfl rfl) (by decide) | exact absurd (f4 rfl rfl) (by decide) | skip
        all_goals (clear g2 f3 f4; go_wp2_with fail)
        all_goals (refine (AW.out _).mono ?_; rintro e7 w7 ⟨rfl, hb7⟩; replace hB := hB.trans (hb7.mono hB.size))
        all_goals go_wp2
        all_goals go_ret
        all_goals exact ⟨rfl, hB⟩
    · have g2 := f2 (fun h => e1 h.1)
      have q1 : (a == c) = false := by simpa using e1
      clear f1 f2 e1
      cases l1 <;> cases l2 <;> cases l3 <;> cases l4 <;> first | exact absurd g2 (by decide) | exact absurd (f3 rfl rfl) (by decide) | exact absurd (f4 rfl rfl) (by decide) | skip
      all_goals (clear g2 f3 f4; go_wp2_with fail)
      all_goals (refine (AW.out _).mono ?_; rintro e7 w7 ⟨rfl, hb7⟩; replace hB := hB.trans (hb7.mono hB.size))
      all_goals go_wp2
      all_goals go_ret
      all_goals exact ⟨rfl, hB⟩
end Go.Proofs.Ytnjfabgajebfeaa
