/-
  Layer 4: what All promises, with new memory.
-/
import Derived.Test.YthbegaknlhclpaaFOk
import Derived.Test.YthbegaknlhclpaaRangeN
set_option linter.unusedVariables false
namespace Go.Proofs.Ythbegaknlhclpaa
open Go.RowKit

/-- What All promises: an iterator, over bytes that lie so in w00 and are kept by each round; what it hands over is new. -/
def AllOkN : Prop := ∀ (A : Option Addr) (n c : Nat) (bs : List UInt8) (w00 W : World), At w00 A n bs → n ≤ c → c ≤ 9223372036854775807 → n ≤ 200000000000000 → Below w00.heap.size w00 W →
    Calls Try.prog 19 #[.slice A n c] W fun e W' => ∃ (g : Nat) (lb : Array Value), e = .returned (.func (.func g) #[] lb) ∧ (∀ args w, (callFunc g args).run Try.prog w = .ok (.enter g args) w) ∧ Below W.heap.size W W' ∧
      ∀ w0, Below W'.heap.size W' w0 → TellsN Try.prog g lb (fun x : Piece => #[x.1]) (fun x V X => Own X V.heap.size x.1 x.2) (Below w00.heap.size) (fun xs => xs.map (·.2) = alls bs) (fun pre => ∃ r, alls bs = pre.map (·.2) ++ r) w0

end Go.Proofs.Ythbegaknlhclpaa
