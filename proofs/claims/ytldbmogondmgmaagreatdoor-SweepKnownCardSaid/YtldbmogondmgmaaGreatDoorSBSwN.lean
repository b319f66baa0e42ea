/-
  Layer 15: a sweep of no table; sweeps of which all is known (written by wip/gensw5.py).
-/
import Derived.Test.YtldbmogondmgmaaGreatDoorSB31
set_option linter.unusedVariables false
set_option linter.unusedSimpArgs false
set_option maxRecDepth 100000
namespace Go.Proofs.YtldbmogondmgmaaGreatDoor
open Go.RowKit

theorem apNil (w : World) : Calls Tryz.prog 27 #[.pointer none, .slice none 0 0] w fun e w' => e = .returned (.int .i64 1) ∧ w' = w := by
  go_enter Tryz.func27, Tryz.ntmps27
  go_wp2_with (first
    | (go_at_call 83
       refine (show Calls Tryz.prog 83 #[.pointer none] w (fun e w' => e = .returned (.bool true) ∧ w' = w) from by
         go_enter Tryz.func83, Tryz.ntmps83
         go_wp2_with (first
           | (go_at_call 44
              refine (show Calls Tryz.prog 44 #[.pointer none] w (fun e w' => e = .returned (.pointer none) ∧ w' = w) from by
                go_enter Tryz.func44, Tryz.ntmps44
                go_wp2_with fail
                go_ret
                exact ⟨rfl, rfl⟩).mono ?_
              rintro e w1 ⟨rfl, rfl⟩))
         go_ret
         exact ⟨rfl, rfl⟩).mono ?_
       rintro e w1 ⟨rfl, rfl⟩))
  go_ret
  exact ⟨rfl, rfl⟩
theorem ckNil (F X : ByteArray) (a b : Int) (w : World) : Calls Tryz.prog 80 #[.pointer none, .agg #[.string F, .string X], sv a b] w fun e w' => e = .returned (.int .i64 1) ∧ Below w.heap.size w w' := by
  have G := Lib.hid (bsa (nbl w (.cells #[.string F, .string X] 66)) (.cells #[.int .i64 a, .int .i64 b] 26))
  go_enter Tryz.func80, Tryz.ntmps80
  go_wp2_with (go_at_call 27; refine (apNil _).mono ?_; rintro e w1 ⟨rfl, rfl⟩)
  go_ret
  exact ⟨rfl, G.out⟩
theorem swNil (F X : ByteArray) (a b : Int) (w : World) : Calls Tryz.prog 24 #[.pointer none, .agg #[.string F, .string X], sv a b] w fun e w' => e = .returned (.tuple #[.slice none 0 0, .int .i64 1]) ∧ Below w.heap.size w w' := by
  have G := Lib.hid (bsa (nbl w (.cells #[.string F, .string X] 66)) (.cells #[.int .i64 a, .int .i64 b] 26))
  go_enter Tryz.func24, Tryz.ntmps24
  go_wp2_with (go_at_call 80; refine (ckNil F X a b _).mono ?_; rintro e w1 ⟨rfl, hb1⟩)
  go_ret2
  exact ⟨rfl, bst G.out hb1⟩
theorem kn {w V : World} {T : List As} {p N : Nat} {r : List Rw} (h : Has w (tbA p r :: T) V) (hr : ROk N r) (hN : N ≤ 999999000) (hM : MaxL w) (F X : ByteArray) (hFs : F.size ≤ 9223372036854775807) (hXs : X.size ≤ 9223372036854775807) (a b k : Int) (m : Nat) (he : swE F X (a, b) = k) (hl : (swC r F X (a, b)).length = m) :
    Calls Tryz.prog 24 #[pt p, .agg #[.string F, .string X], sv a b] V fun e w' => ∃ A c, e = .returned (.tuple #[.slice A m c, .int .i64 k]) ∧ Has w (tbA p r :: T) w' := by
  refine (swSweep h hr hN hM F X hFs hXs a b).mono ?_
  rintro e w' ⟨A, c, rfl, h1, -⟩
  rw [he, hl]
  exact ⟨A, c, rfl, h1.tail⟩
end Go.Proofs.YtldbmogondmgmaaGreatDoor
