/-
  Layer 5, the statements' own 'bring': a stamp, brought to be one that may be.
-/
import Derived.Test.YtnjfabgajebfeaaSAwake
set_option linter.unusedVariables false
namespace Go.Proofs.Ytnjfabgajebfeaa
open Go.RowKit

set_option maxHeartbeats 1000000 in
theorem bringS (a b : Int) (w : World) (ha : -9223372036854775808 ≤ a ∧ a ≤ 9223372036854775807) (hb : -9223372036854775808 ≤ b ∧ b ≤ 9223372036854775807) :
    Calls Try.prog 24 #[sv a b] w fun e w' => e = .returned (sv (a % 1099511627777) (b % 1048576)) ∧ Below w.heap.size w w' := by
  have C1 := Lib.hid (fun V => bring a 1099511627777 V (by omega) (by omega))
  have C2 := Lib.hid (fun V => bring b 1048576 V (by omega) (by omega))
  clear ha hb
  go_enter Try.func24, Try.ntmps24
  go_wp2_with fail
  have hA := (Box.new w a b).alloc (.cells #[.int .i64 0, .int .i64 0] 23)
  have hR := Box.new' (g := w.heap.size + 1) (w.alloc (.cells #[.int .i64 a, .int .i64 b] 23)) 0 0 (by simp)
  have hb := ((Below.refl w.heap.size w).alloc (Nat.le_refl _) (.cells #[.int .i64 a, .int .i64 b] 23)).alloc (by simp) (.cells #[.int .i64 0, .int .i64 0] 23)
  generalize (w.alloc (.cells #[.int .i64 a, .int .i64 b] 23)).alloc (.cells #[.int .i64 0, .int .i64 0] 23) = W at hA hR hb ⊢
  have a0 := hA.c0
  have a1 := hA.c1
  have r0 := hR.c0
  have r1 := hR.c1
  have f0 := hR.fz 0
  have f1 := hR.fz 1
  have hRd : Box W.drew (w.heap.size + 1) 0 0 := hR
  go_region_with (first
    | (go_at_call_of 25 (Value.int .i64 a); refine (C1.out _).mono ?_; rintro e2 w2 ⟨rfl, rfl⟩)
    | (go_at_call_of 25 (Value.int .i64 b); refine (C2.out _).mono ?_; rintro e3 w3 ⟨rfl, rfl⟩))
  all_goals go_wp2
  all_goals exact ret_one rfl rfl ((hRd.put0 _).put1 _) rfl ⟨rfl, ((hb.drew).setCell (by simp) _).setCell (by simp) _⟩
end Go.Proofs.Ytnjfabgajebfeaa
