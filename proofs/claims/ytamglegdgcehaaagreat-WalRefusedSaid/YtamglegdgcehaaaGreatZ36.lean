/-
  Layer 8: WalRefused, over the code's own disk.
-/
import Derived.Test.YtamglegdgcehaaaGreatZ29
import Derived.Test.YtamglegdgcehaaaGreatZ35
set_option linter.unusedVariables false
namespace Go.Proofs.YtamglegdgcehaaaGreat
open Go.RowKit
theorem walRefused_walk (A0 : Option Addr) (n0 c0 : Nat) (A1 : Option Addr) (n1 c1 : Nat) (w : World) (h0 : ∃ l, OAt w A0 n0 l) (l0 : n0 ≤ c0) (k0 : c0 ≤ 17592186043904) (h1 : ∃ l : List Rw, WAt w A1 n1 l ∧ ∀ i (h : i < l.length), (l[i]'h).key.size ≤ 562949953421312 ∧ (l[i]'h).value.size ≤ 562949953421312) (l1 : n1 ≤ c1) (k1 : c1 ≤ 9223372036854775807) :
    Calls Tryz.prog 8 #[.slice A0 n0 c0, .slice A1 n1 c1] w fun e w' => e = .returned (.bool true) ∧ Below w.heap.size w w' := by
  obtain ⟨l, hl⟩ := h0
  obtain ⟨r, hr, _⟩ := h1
  exact walRefused_w disk_ok A0 n0 c0 A1 n1 c1 w l r hl hr (by omega) (by omega)
end Go.Proofs.YtamglegdgcehaaaGreat
