/-
  DiskPieces: the walk, of the code that landed.
-/
import Derived.Test.YtmjoaeljfhgojaaVDiskPieces
import Derived.Test.YtmjoaeljfhgojaaGOk
set_option linter.unusedVariables false
namespace Go.Proofs.Ytmjoaeljfhgojaa
open Go.RowKit

theorem diskPieces_walk (A : Option Addr) (n c : Nat) (q : Int) (w : World) (hx : ∃ ls, LsB w A n ls) (hnc : n ≤ c) (hk : c ≤ 5864062014634) (hi : -9223372036854775808 ≤ q ∧ q ≤ 9223372036854775807) :
    Calls Try.prog 5 #[.slice A n c, .int .i64 q] w fun e w' => e = .returned (.bool true) ∧ Below w.heap.size w w' := by
  obtain ⟨ls, hx⟩ := hx
  exact diskPieces_w disk_ok A n c ls q w hx hnc (by omega)

end Go.Proofs.Ytmjoaeljfhgojaa
