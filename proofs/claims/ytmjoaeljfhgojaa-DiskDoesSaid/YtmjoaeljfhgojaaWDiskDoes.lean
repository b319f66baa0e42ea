/-
  DiskDoes: the walk, of the code that landed.
-/
import Derived.Test.YtmjoaeljfhgojaaVDiskDoes
import Derived.Test.YtmjoaeljfhgojaaGOk
set_option linter.unusedVariables false
namespace Go.Proofs.Ytmjoaeljfhgojaa
open Go.RowKit

theorem diskDoes_walk (L : Option Addr) (ln lc : Nat) (w : World) (hL : ∃ qs, Deeds w L ln qs) (hlc : ln ≤ lc) (hlk : lc ≤ 9223372036854775807) :
    Calls Try.prog 3 #[.slice L ln lc] w fun e w' => e = .returned (.bool true) ∧ Below w.heap.size w w' := by
  obtain ⟨qs, hL⟩ := hL
  exact diskDoes_w disk_ok L ln lc qs w hL hlc hlk

end Go.Proofs.Ytmjoaeljfhgojaa
