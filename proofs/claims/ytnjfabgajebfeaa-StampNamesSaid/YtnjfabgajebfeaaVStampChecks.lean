/-
  StampChecks: the walk, over what the code's functions promise.
-/
import Derived.Test.YtnjfabgajebfeaaSAwake
import Derived.Test.YtnjfabgajebfeaaSRef
set_option linter.unusedVariables false
namespace Go.Proofs.Ytnjfabgajebfeaa
open Go.RowKit

set_option maxHeartbeats 1000000 in
theorem stampChecks_w (hC : CheckOk) (hS : LessOk) (hN : NextSOk) (hP : PrevOk) (hL : LaterOk) (a b c d : Int) (w : World) (ha : -9223372036854775808 ≤ a ∧ a ≤ 9223372036854775807) (hb : -9223372036854775808 ≤ b ∧ b ≤ 9223372036854775807) (hc : -9223372036854775808 ≤ c ∧ c ≤ 9223372036854775807) (hd : -9223372036854775808 ≤ d ∧ d ≤ 9223372036854775807) :
    Calls Try.prog 3 #[sv a b, sv c d] w fun e w' => e = .returned (.bool true) ∧ Below w.heap.size w w' := by
  have AW := Lib.hid (awake hS hN hP hL)
  have C1 := Lib.hid hC
  have S1 := Lib.hid hS
  have hk : (ck a b == ck a b) = true := beq_self_eq_true _
  have h1 : (lt (a, b) (c, d) == lt (a, b) (c, d)) = true := beq_self_eq_true _
  have h2 : (lt (c, d) (a, b) == lt (c, d) (a, b)) = true := beq_self_eq_true _
  clear hC hS hN hP hL ha hb hc hd
  go_enter Try.func3, Try.ntmps3
  go_wp2_with fail
  have hS0 := SS.new w a b c d
  have hSd : SS w a b c d ((w.alloc (.cells #[.int .i64 a, .int .i64 b] 23)).alloc (.cells #[.int .i64 c, .int .i64 d] 23)).drew := hS0.drew
  go_region_held3 (fun V => V.cell? ⟨w.heap.size, 0, none⟩ = some (.int .i64 a) ∧ V.cell? ⟨w.heap.size, 1, none⟩ = some (.int .i64 b) ∧ V.cell? ⟨w.heap.size + 1, 0, none⟩ = some (.int .i64 c) ∧ V.cell? ⟨w.heap.size + 1, 1, none⟩ = some (.int .i64 d) ∧ Below w.heap.size w V)
    (first | assumption | exact hS0 | exact hSd)
    (first
      | (go_at_call 11; refine (SS.call (by first | assumption | exact hS0 | exact hSd) (C1.out _ _ _)).mono ?_; rintro e w2 ⟨rfl, hS2⟩)
      | (go_at_call 12; refine (SS.call (by first | assumption | exact hS0 | exact hSd) (refCheck5 _ _ _)).mono ?_; rintro e w3 ⟨rfl, hS3⟩)
      | (go_at_call 13; refine (SS.call (by first | assumption | exact hS0 | exact hSd) (S1.out _ _ _ _ _)).mono ?_; rintro e w4 ⟨rfl, hS4⟩)
      | (go_at_call 14; refine (SS.call (by first | assumption | exact hS0 | exact hSd) (refLess5 _ _ _ _ _)).mono ?_; rintro e w5 ⟨rfl, hS5⟩)
      | (go_at_call 15; refine (SS.call (by first | assumption | exact hS0 | exact hSd) (AW.out _)).mono ?_; rintro e w6 ⟨rfl, hS6⟩))
  all_goals go_wp2
  all_goals go_ret
  all_goals exact ⟨rfl, hS6.2.2.2.2⟩
end Go.Proofs.Ytnjfabgajebfeaa
