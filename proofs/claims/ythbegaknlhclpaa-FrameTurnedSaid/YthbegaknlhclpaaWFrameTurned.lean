/-
  FrameTurned: the walk, of the code that landed.
-/
import Derived.Test.YthbegaknlhclpaaVFrameTurned
import Derived.Test.YthbegaknlhclpaaFNext
set_option linter.unusedVariables false
namespace Go.Proofs.Ythbegaknlhclpaa
open Go.RowKit

theorem frameTurned_walk (A : Option Addr) (n c : Nat) (xs : List UInt8) (bit : Int) (w : World) (hx : At w A n xs) (hnc : n ≤ c) (hk : c ≤ 140737488351232) (hz : A = none → c = 0)
    (hi : -9223372036854775808 ≤ bit ∧ bit ≤ 9223372036854775807) :
    Calls Try.prog 7 #[.slice A n c, .int .i64 bit] w fun e w' => e = .returned (.bool true) ∧ Below w.heap.size w w' :=
  frameTurned_w frame_ok next_ok A n c xs bit w hx hnc hk hz hi

end Go.Proofs.Ythbegaknlhclpaa
