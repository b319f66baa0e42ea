/-
  DiskKeeps: the walk, of the code that landed.
-/
import Derived.Test.YtmjoaeljfhgojaaVDiskKeeps
import Derived.Test.YtmjoaeljfhgojaaGOk
set_option linter.unusedVariables false
namespace Go.Proofs.Ytmjoaeljfhgojaa
open Go.RowKit

theorem diskKeeps_walk (L : Option Addr) (ln lc : Nat) (A : Option Addr) (n c : Nat) (xs : List UInt8) (B : Option Addr) (m d : Nat) (ys : List UInt8) (w : World) (hL : ∃ qs, Deeds w L ln qs) (hlc : ln ≤ lc) (hlk : lc ≤ 9223372036854775807)
    (hx : At w A n xs) (hnc : n ≤ c) (hk : c ≤ 140737488351232) (hz : A = none → c = 0) (hy : At w B m ys) (hmd : m ≤ d) (hk2 : d ≤ 140737488351232) (hz2 : B = none → d = 0) :
    Calls Try.prog 4 #[.slice L ln lc, .slice A n c, .slice B m d] w fun e w' => e = .returned (.bool true) ∧ Below w.heap.size w w' := by
  obtain ⟨qs, hL⟩ := hL
  exact diskKeeps_w disk_ok L ln lc qs A B n c m d xs ys w hL hlc hlk hx hnc (by omega) hy hmd (by omega)

end Go.Proofs.Ytmjoaeljfhgojaa
