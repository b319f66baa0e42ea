/-
  bytes.Equal.
-/
import Derived.Test.YthbegaknlhclpaaBase
import Derived.Lib.BytesEntry
set_option linter.unusedVariables false
namespace Go.Proofs.Ythbegaknlhclpaa
open Go.RowKit

theorem bytesEqual (A B : Option Addr) (n m c d : Nat) (xs ys : List UInt8) (w : World) (hx : At w A n xs) (hy : At w B m ys) :
    Calls Try.prog 33 #[.slice A n c, .slice B m d] w fun e w' => e = .returned (.bool (xs == ys)) ∧ w = w' := by
  have k1 := hx.conv (P := Try.prog) c 22 5 9 Try.underlying22 Try.underlying5 Try.underlying9
  have k2 := hy.conv (P := Try.prog) d 22 5 9 Try.underlying22 Try.underlying5 Try.underlying9
  go_enter Try.func33, Try.ntmps33
  go_wp2
  go_ret
  exact ⟨rfl, rfl⟩
end Go.Proofs.Ythbegaknlhclpaa
