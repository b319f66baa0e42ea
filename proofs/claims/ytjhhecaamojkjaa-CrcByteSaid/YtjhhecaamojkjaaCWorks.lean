/-
  Layer 3: the chapter's examples, as the statements call them.
-/
import Derived.Test.YtjhhecaamojkjaaCCode
import Derived.Test.YtjhhecaamojkjaaRef
import Derived.Lib.SlBytesConst
set_option linter.unusedVariables false
namespace Go.Proofs.Ytjhhecaamojkjaa
open Go.RowKit

theorem N_digits : N (crcOf [49, 50, 51, 52, 53, 54, 55, 56, 57]) = 4236843288 := by rw [crc_digits]; decide
theorem N_a : N (crcOf [97]) = 429103979 := by rw [crc_a]; decide
theorem N_halves : N (crcAdd (crcOf [49, 50, 51, 52]) [53, 54, 55, 56, 57]) = 4236843288 := by rw [crc_halves]; decide
theorem N_none : N (crcOf []) = 0 := by rw [crc_none]; decide

set_option maxHeartbeats 1000000 in
theorem works (w : World) : Calls Try.prog 15 #[] w fun e w' => e = .returned (.bool true) ∧ Below w.heap.size w w' := by
  have l1 := at_listF 5 [49, 50, 51, 52, 53, 54, 55, 56, 57] (9, 10)
  have l2 := at_listF 5 [97] (1, 2)
  have l3 := at_listF 5 [49, 50, 51, 52] (4, 5)
  have l4 := at_listF 5 [53, 54, 55, 56, 57] (5, 6)
  have c1 := fun A c W h => of_ A 9 c [49, 50, 51, 52, 53, 54, 55, 56, 57] W h (by omega)
  have c2 := fun A c W h => of_ A 1 c [97] W h (by omega)
  have c3 := fun A c W h => of_ A 4 c [49, 50, 51, 52] W h (by omega)
  have c4 := fun A c W h => add (crcOf [49, 50, 51, 52]) A 5 c [53, 54, 55, 56, 57] W h (by omega)
  rw [N_digits] at c1
  rw [N_a] at c2
  rw [N_halves] at c4
  generalize N (crcOf [49, 50, 51, 52]) = m at c3 c4
  have c0 := fun W => of_ none 0 0 [] W (At.nil _ _) (by omega)
  rw [N_none] at c0
  simp only [List.map_cons, List.map_nil, bv, List.length_cons, List.length_nil] at l1 l2 l3 l4
  have L1 := Lib.hid l1
  have L2 := Lib.hid l2
  have L3 := Lib.hid l3
  have L4 := Lib.hid l4
  have C0 := Lib.hid c0
  have C1 := Lib.hid c1
  have C2 := Lib.hid c2
  have C3 := Lib.hid c3
  have C4 := Lib.hid c4
  clear l1 l2 l3 l4 c0 c1 c2 c3 c4
  have kc := fun (w : World) (C : Array Value) (n c : Nat) => Lib.run_convert_bytes_const (P := Try.prog) w 22 5 C n c Try.underlying22 Try.underlying5
  go_enter Try.func15, Try.ntmps15
  go_wp2_with fail
  refine (C0.out _).mono ?_
  rintro e w1 ⟨rfl, hb1⟩
  go_wp2_with fail
  refine (C1.out _ _ _ (L1.out _ _ (by first | rfl | simp))).mono ?_
  rintro e w2 ⟨rfl, hb2⟩
  have hB2 : Below w.heap.size w w2 := (hb1.alloc hb1.size _).trans (hb2.mono (by have := hb1.size; simp; omega))
  clear hb2
  go_wp2_with fail
  refine (C2.out _ _ _ (L2.out _ _ (by first | rfl | simp))).mono ?_
  rintro e w3 ⟨rfl, hb3⟩
  have hB3 : Below w.heap.size w w3 := (hB2.alloc hB2.size _).trans (hb3.mono (by have := hB2.size; simp; omega))
  clear hb3
  go_wp2_with fail
  refine (C3.out _ _ _ (L3.out _ _ (by first | rfl | simp))).mono ?_
  rintro e w4 ⟨rfl, hb4⟩
  have hB4 : Below w.heap.size w w4 := (hB3.alloc hB3.size _).trans (hb4.mono (by have := hB3.size; simp; omega))
  clear hb4
  go_wp2_with fail
  refine (C4.out _ _ _ (L4.out _ _ (by first | rfl | simp))).mono ?_
  rintro e w5 ⟨rfl, hb5⟩
  have hB5 : Below w.heap.size w w5 := (hB4.alloc hB4.size _).trans (hb5.mono (by have := hB4.size; simp; omega))
  clear hb5
  go_wp2
  go_ret
  exact ⟨rfl, hB5⟩
end Go.Proofs.Ytjhhecaamojkjaa
