/-
  DiskKnown: the walk, of the code that landed.
-/
import Derived.Test.YtkhalpajomammaaVDiskKnown
import Derived.Test.YtkhalpajomammaaGOk
import Derived.Test.YtkhalpajomammaaShelf
set_option linter.unusedVariables false
namespace Go.Proofs.Ytkhalpajomammaa
open Go.RowKit

theorem rep40 (V : World) : Calls Try.prog 32 #[.string ⟨#[110]⟩, .int .i64 40] V fun e w' => e = .returned (.string nL) ∧ Below V.heap.size V w' :=
  (Try.strings_Repeat ⟨#[110]⟩ 40 V (by omega) (by show 1 * 40 ≤ _; omega)).mono fun e w' ⟨h1, h2⟩ => ⟨by rw [h1]; kernel_rfl, h2⟩
theorem diskKnown_walk (w : World) :
    Calls Try.prog 8 #[] w fun e w' => e = .returned (.bool true) ∧ Below w.heap.size w w' :=
  diskKnown_w disk_ok w rep40

end Go.Proofs.Ytkhalpajomammaa
