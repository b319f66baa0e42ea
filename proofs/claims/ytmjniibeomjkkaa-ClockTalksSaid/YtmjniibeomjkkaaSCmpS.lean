/-
  Layer 5, the code that landed: compare.
-/
import Derived.Test.YtmjniibeomjkkaaSCmp
set_option linter.unusedVariables false
namespace Go.Proofs.Ytmjniibeomjkkaa
open Go.RowKit

theorem pair_cells (V : World) (u v : Int) (t : TypeId) (k : World) (hk : k = V.alloc (.cells #[.int .i64 u, .int .i64 v] t)) :
    k.cell? ⟨V.heap.size, 0, none⟩ = some (.int .i64 u) ∧ k.cell? ⟨V.heap.size, 0 + 1, none⟩ = some (.int .i64 v) := by
  subst hk
  have hC := heap_alloc_new V (.cells #[.int .i64 u, .int .i64 v] t)
  exact ⟨cell_of_row _ _ 0 _ _ (0, 0) hC, cell_of_row _ _ 1 _ _ (0, 0) hC⟩

set_option maxHeartbeats 2000000 in
theorem compare_c (a b c d : Int) (w : World) :
    Calls Try.prog 35 #[sv a b, sv c d] w fun e w' => e = .returned (.int .i64 (cpS (a, b) (c, d))) ∧ Below w.heap.size w w' := by
  have K1 := Lib.hid (fun (x y : Int) V => cmp_c x y V)
  go_enter Try.func35, Try.ntmps35
  go_wp2_with fail
  have hS0 := SS.new w a b c d
  obtain ⟨i1, i2, i3, i4, hB0⟩ := id hS0
  have hSd := hS0.drew
  have hSx := (hS0.keep ((Below.refl _ _).alloc (Nat.le_refl _) (.cells #[.int .i64 (cpi a c), .int .i64 (cpi b d)] 3))).drew
  have hp := pair_cells ((w.alloc (.cells #[.int .i64 a, .int .i64 b] 32)).alloc (.cells #[.int .i64 c, .int .i64 d] 32)) (cpi a c) (cpi b d) 3 _ rfl
  rw [World.size_alloc, World.size_alloc] at hp
  have hO := Lib.hid (show Calls Try.prog 44 #[.slice (some ⟨w.heap.size + 1 + 1, 0, none⟩) 2 2] (World.drew (((w.alloc (.cells #[.int .i64 a, .int .i64 b] 32)).alloc (.cells #[.int .i64 c, .int .i64 d] 32)).alloc (.cells #[.int .i64 (cpi a c), .int .i64 (cpi b d)] 3)))
      (fun e w' => e = .returned (.int .i64 (cpS (a, b) (c, d))) ∧ w' = World.drew (((w.alloc (.cells #[.int .i64 a, .int .i64 b] 32)).alloc (.cells #[.int .i64 c, .int .i64 d] 32)).alloc (.cells #[.int .i64 (cpi a c), .int .i64 (cpi b d)] 3)))
    from or_c (w.heap.size + 1 + 1) 0 2 (cpi a c) (cpi b d) _ hp.1 hp.2)
  clear hp
  go_region_held3 (fun V => V.cell? ⟨w.heap.size, 0, none⟩ = some (.int .i64 a) ∧ V.cell? ⟨w.heap.size, 1, none⟩ = some (.int .i64 b) ∧ V.cell? ⟨w.heap.size + 1, 0, none⟩ = some (.int .i64 c) ∧ V.cell? ⟨w.heap.size + 1, 1, none⟩ = some (.int .i64 d) ∧ Below w.heap.size w V)
    (first | with_reducible assumption | with_reducible exact hS0 | with_reducible exact hSd | with_reducible exact hSx)
    (first
      | (go_at_call 45; refine (K1.out _ _ _).mono ?_; rintro e wx ⟨rfl, rfl⟩)
      | (go_at_call 44; refine hO.out.mono ?_; rintro e wx ⟨rfl, rfl⟩))
  all_goals go_wp2
  all_goals go_ret
  all_goals exact ⟨rfl, hSx.2.2.2.2⟩
end Go.Proofs.Ytmjniibeomjkkaa
