/-
  FrameBurst: the walk, of the code that landed.
-/
import Derived.Test.YthbegaknlhclpaaVFrameBurst
import Derived.Test.YthbegaknlhclpaaFNext
set_option linter.unusedVariables false
namespace Go.Proofs.Ythbegaknlhclpaa
open Go.RowKit

theorem frameBurst_walk (A : Option Addr) (n c : Nat) (xs : List UInt8) (at_ : Int) (s : BitVec 32) (w : World) (hx : At w A n xs) (hnc : n ≤ c) (hk : c ≤ 140737488351232) (hz : A = none → c = 0)
    (hi : -9223372036854775808 ≤ at_ ∧ at_ ≤ 9223372036854775807) :
    Calls Try.prog 8 #[.slice A n c, .int .i64 at_, .int .u32 (N s)] w fun e w' => e = .returned (.bool true) ∧ Below w.heap.size w w' :=
  frameBurst_w frame_ok next_ok A n c xs at_ s w hx hnc hk hz hi

end Go.Proofs.Ythbegaknlhclpaa
