/-
  Layer 6: the statements' own 'bring'.
-/
import Derived.Test.YtmjniibeomjkkaaKDo0
set_option linter.unusedVariables false
namespace Go.Proofs.Ytmjniibeomjkkaa
open Go.RowKit

theorem alloc_at (w : World) (o : Obj) {g : Nat} (h : g = w.heap.size) : (w.alloc o).heap[g]? = some o := h ▸ heap_alloc_new w o
theorem ret_do {fn : Func} {R : Ending → World → Prop} {a : Act} {w : World} {p : Tmp} {g : Nat} {k b x y : Int} (hr : fn.results = #[.cell p 34]) (hp : a.tmps.getD p undef = .pointer (some ⟨g, 0, none⟩))
    (hB : w.heap[g]? = some (.cells #[.int .i64 k, .int .i64 b, .int .i64 x, .int .i64 y] 34 (0, 0))) (hd : a.defers = []) (hR : R (.returned (dov k b x y)) w) : bodyPost Try.prog fn R .ret a w := by
  refine bodyPost_ret ?_ hd hR
  have hp' : a.tmps[p]?.getD undef = .pointer (some ⟨g, 0, none⟩) := by simpa using hp
  simp [results, hr, hp', asAddr, run_loadVar_row w g 34 34 _ (0, 0) _ hB Try.underlying34 rfl (by kernel_rfl)]

set_option maxHeartbeats 2000000 in
theorem bringD (k a x y : Int) (w : World) (ha : -9223372036854775808 ≤ a ∧ a ≤ 9223372036854775807) (hx : -9223372036854775808 ≤ x ∧ x ≤ 9223372036854775807) (hy : -9223372036854775808 ≤ y ∧ y ≤ 9223372036854775807) :
    Calls Try.prog 19 #[dov k a x y] w fun e w' => e = .returned (dov k (a % 500) (x % 500) (y % 1048576)) ∧ Below w.heap.size w w' := by
  have C1 := Lib.hid (fun V => bring a 500 V (by omega) (by omega))
  have C2 := Lib.hid (fun V => bring x 500 V (by omega) (by omega))
  have C3 := Lib.hid (fun V => bring y 1048576 V (by omega) (by omega))
  generalize a % 500 = a' at C1 ⊢
  generalize x % 500 = x' at C2 ⊢
  generalize y % 1048576 = y' at C3 ⊢
  clear ha hx hy
  go_enter Try.func19, Try.ntmps19
  go_wp2_with (first | (go_at_call_of 18 (Value.int .i64 a); refine (C1.out _).mono ?_; rintro e2 w2 ⟨rfl, rfl⟩))
  go_region_with (first
    | (go_at_call_of 18 (Value.int .i64 x); refine (C2.out _).mono ?_; rintro e2 w2 ⟨rfl, rfl⟩)
    | (go_at_call_of 18 (Value.int .i64 y); refine (C3.out _).mono ?_; rintro e3 w3 ⟨rfl, rfl⟩))
  all_goals
    go_wp2
    exact ret_do rfl rfl (alloc_at _ _ (by simp)) rfl ⟨rfl, (((Below.refl w.heap.size w).alloc (Nat.le_refl _) _).alloc (by simp) _).drew⟩

end Go.Proofs.Ytmjniibeomjkkaa
