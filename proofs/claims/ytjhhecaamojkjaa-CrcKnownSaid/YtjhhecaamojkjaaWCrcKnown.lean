/-
  CrcKnown: the walk.
-/
import Derived.Test.YtjhhecaamojkjaaCWorks
set_option linter.unusedVariables false
namespace Go.Proofs.Ytjhhecaamojkjaa
open Go.RowKit

theorem N_0 : N (crcOf [0]) = 2985771083 := by decide +kernel
theorem N_00 : N (crcOf [0, 0]) ≠ 2985771083 := by decide +kernel
theorem N_12 : N (crcOf [1, 2]) ≠ N (crcOf [2, 1]) := by decide +kernel
theorem N_5 : N (crcAdd 5#32 []) = 5 := by decide +kernel

set_option maxHeartbeats 1000000 in
theorem crcKnown_walk (w : World) :
    Calls Try.prog 10 #[] w fun e w' => e = .returned (.bool true) ∧ Below w.heap.size w w' := by
  have l1 := at_listF 5 [49, 50, 51, 52, 53, 54, 55, 56, 57] (9, 10)
  have l2 := at_list' 5 [0]
  have l3 := at_list' 5 [0, 0]
  have l4 := at_list' 5 [1, 2]
  have l5 := at_list' 5 [2, 1]
  have c1 := fun A c W h => add 0#32 A 9 c [49, 50, 51, 52, 53, 54, 55, 56, 57] W h (by omega)
  have c2 := fun A c W h => of_ A 1 c [0] W h (by omega)
  have c3 := fun A c W h => of_ A 2 c [0, 0] W h (by omega)
  have c4 := fun A c W h => of_ A 2 c [1, 2] W h (by omega)
  have c5 := fun A c W h => of_ A 2 c [2, 1] W h (by omega)
  have hd : N (crcAdd 0#32 [49, 50, 51, 52, 53, 54, 55, 56, 57]) = 4236843288 := N_digits
  rw [hd] at c1
  rw [N_0] at c2
  have n1 := N_00
  have n2 := N_12
  have b1 := N_bounds (crcOf [0, 0])
  generalize N (crcOf [0, 0]) = m1 at c3 n1 b1
  generalize N (crcOf [1, 2]) = m2 at c4 n2
  generalize N (crcOf [2, 1]) = m3 at c5 n2
  have c0 := fun W => add 5#32 none 0 0 [] W (At.nil _ _) (by omega)
  rw [N_5] at c0
  simp only [List.map_cons, List.map_nil, bv, List.length_cons, List.length_nil] at l1 l2 l3 l4 l5
  have L1 := Lib.hid l1
  have L2 := Lib.hid l2
  have L3 := Lib.hid l3
  have L4 := Lib.hid l4
  have L5 := Lib.hid l5
  have C0 := Lib.hid c0
  have C1 := Lib.hid c1
  have C2 := Lib.hid c2
  have C3 := Lib.hid c3
  have C4 := Lib.hid c4
  have C5 := Lib.hid c5
  clear l1 l2 l3 l4 l5 c0 c1 c2 c3 c4 c5 hd
  have kc := fun (w : World) (C : Array Value) (n c : Nat) => Lib.run_convert_bytes_const (P := Try.prog) w 22 5 C n c Try.underlying22 Try.underlying5
  go_enter Try.func10, Try.ntmps10
  go_wp2_with fail
  refine (works _).mono ?_
  rintro e w1 ⟨rfl, hb1⟩
  go_wp2_with fail
  refine (C1.out _ _ _ (L1.out _ _ (by first | rfl | simp))).mono ?_
  rintro e w2 ⟨rfl, hb2⟩
  have hB2 : Below w.heap.size w w2 := (hb1.alloc hb1.size _).trans (hb2.mono (by have := hb1.size; simp; omega))
  clear hb2
  go_wp2_with fail
  refine (C0.out _).mono ?_
  rintro e w3 ⟨rfl, hb3⟩
  have hB3 : Below w.heap.size w w3 := hB2.trans (hb3.mono hB2.size)
  clear hb3
  go_wp2_with fail
  refine (C2.out _ _ _ (L2.out _ _ (by first | rfl | simp))).mono ?_
  rintro e w4 ⟨rfl, hb4⟩
  have hB4 : Below w.heap.size w w4 := (hB3.alloc hB3.size _).trans (hb4.mono (by have := hB3.size; simp; omega))
  clear hb4
  go_wp2_with fail
  refine (C3.out _ _ _ (L3.out _ _ (by first | rfl | simp))).mono ?_
  rintro e w5 ⟨rfl, hb5⟩
  have hB5 : Below w.heap.size w w5 := (hB4.alloc hB4.size _).trans (hb5.mono (by have := hB4.size; simp; omega))
  clear hb5
  have n1' : ¬ 2985771083 = m1 := fun e => n1 e.symm
  go_wp2_with fail
  refine (C4.out _ _ _ (L4.out _ _ (by first | rfl | simp))).mono ?_
  rintro e w6 ⟨rfl, hb6⟩
  have hB6 : Below w.heap.size w w6 := (hB5.alloc hB5.size _).trans (hb6.mono (by have := hB5.size; simp; omega))
  clear hb6
  go_wp2_with fail
  refine (C5.out _ _ _ (L5.out _ _ (by first | rfl | simp))).mono ?_
  rintro e w7 ⟨rfl, hb7⟩
  have hB7 : Below w.heap.size w w7 := (hB6.alloc hB6.size _).trans (hb7.mono (by have := hB6.size; simp; omega))
  clear hb7
  go_wp2
  go_ret
  have e1 : (((2985771083 : Int) != m1) && (m2 != m3)) = true := by simp [n1', n2]
  exact ⟨congrArg (fun b => Ending.returned (Value.bool b)) e1, hB7⟩
end Go.Proofs.Ytjhhecaamojkjaa
