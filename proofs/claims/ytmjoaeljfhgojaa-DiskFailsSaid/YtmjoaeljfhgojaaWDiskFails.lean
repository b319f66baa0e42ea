/-
  DiskFails: the walk, of the code that landed.
-/
import Derived.Test.YtmjoaeljfhgojaaVDiskFails
import Derived.Test.YtmjoaeljfhgojaaGOk
set_option linter.unusedVariables false
namespace Go.Proofs.Ytmjoaeljfhgojaa
open Go.RowKit

theorem diskFails_walk (A : Option Addr) (n c : Nat) (q : Int) (w : World) (hx : ∃ xs, IAt w A n xs) (hnc : n ≤ c) (hk : c ≤ 17592186043904) (hi : -9223372036854775808 ≤ q ∧ q ≤ 9223372036854775807) :
    Calls Try.prog 6 #[.slice A n c, .int .i64 q] w fun e w' => e = .returned (.bool true) ∧ Below w.heap.size w w' := by
  obtain ⟨xs, hx⟩ := hx
  exact diskFails_w disk_ok A n c xs q w hx hnc (by omega)

end Go.Proofs.Ytmjoaeljfhgojaa
