/-
  DiskMoves: the walk, of the code that landed.
-/
import Derived.Test.YtmjoaeljfhgojaaVDiskMoves
import Derived.Test.YtmjoaeljfhgojaaGOk
set_option linter.unusedVariables false
namespace Go.Proofs.Ytmjoaeljfhgojaa
open Go.RowKit

theorem diskMoves_walk (A : Option Addr) (n c : Nat) (xs : List UInt8) (B : Option Addr) (m d : Nat) (ys : List UInt8) (kp : Int) (w : World) (hx : At w A n xs) (hnc : n ≤ c) (hk : c ≤ 140737488351232) (hz : A = none → c = 0) (hy : At w B m ys) (hmd : m ≤ d) (hk2 : d ≤ 140737488351232) (hz2 : B = none → d = 0) (hi : -9223372036854775808 ≤ kp ∧ kp ≤ 9223372036854775807) :
    Calls Try.prog 7 #[.slice A n c, .slice B m d, .int .i64 kp] w fun e w' => e = .returned (.bool true) ∧ Below w.heap.size w w' :=
  diskMoves_w disk_ok A B n c m d xs ys kp w hx hnc hk hy hmd hk2 hi

end Go.Proofs.Ytmjoaeljfhgojaa
