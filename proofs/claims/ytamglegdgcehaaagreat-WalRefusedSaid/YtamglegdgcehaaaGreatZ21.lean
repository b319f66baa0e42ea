/-
  bytes.Equal.
-/
import Derived.Test.YtamglegdgcehaaaGreatZ01
import Derived.Lib.BytesEntry
set_option linter.unusedVariables false
namespace Go.Proofs.YtamglegdgcehaaaGreat
open Go.RowKit

theorem bytesEqual (A B : Option Addr) (n m c d : Nat) (xs ys : List UInt8) (w : World) (hx : At w A n xs) (hy : At w B m ys) :
    Calls Tryz.prog 90 #[.slice A n c, .slice B m d] w fun e w' => e = .returned (.bool (xs == ys)) ∧ w = w' := by
  have k1 := hx.conv (P := Tryz.prog) c 40 5 9 Tryz.underlying40 Tryz.underlying5 Tryz.underlying9
  have k2 := hy.conv (P := Tryz.prog) d 40 5 9 Tryz.underlying40 Tryz.underlying5 Tryz.underlying9
  go_enter Tryz.func90, Tryz.ntmps90
  go_wp2
  go_ret
  exact ⟨rfl, rfl⟩
end Go.Proofs.YtamglegdgcehaaaGreat
