/-
  FrameBack: the walk, of the code that landed.
-/
import Derived.Test.YthbegaknlhclpaaVFrameBack
import Derived.Test.YthbegaknlhclpaaFNext
import Derived.Test.YthbegaknlhclpaaFAll
set_option linter.unusedVariables false
namespace Go.Proofs.Ythbegaknlhclpaa
open Go.RowKit

theorem frameBack_walk (A : Option Addr) (m c : Nat) (ls : List (List UInt8)) (w : World) (hx : Lists w A m ls) (hm : m ≤ 9223372036854775807)
    (hcap : ∀ b o i (h : i < ls.length) Ai ci, A = some ⟨b, o, none⟩ → w.cell? ⟨b, o + i, none⟩ = some (.slice Ai ls[i].length ci) → ls[i].length ≤ ci ∧ ci ≤ 9223372036854775807) :
    Calls Try.prog 5 #[.slice A m c] w fun e w' => e = .returned (.bool true) ∧ Below w.heap.size w w' :=
  frameBack_w frame_ok next_ok (all_ok next_ok) A m c ls w hx hm hcap

end Go.Proofs.Ythbegaknlhclpaa
