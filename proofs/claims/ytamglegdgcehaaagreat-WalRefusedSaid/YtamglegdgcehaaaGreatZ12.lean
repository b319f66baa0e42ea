/-
  Layer 4: what the code's functions promise, as the statements' walks take it.
  Layer 4: what All promises, with new memory.
-/
import Derived.Test.YtamglegdgcehaaaGreatZ11
import Derived.Test.YtamglegdgcehaaaGreatZ05
import Derived.Lib.MinMax
set_option linter.unusedVariables false
namespace Go.Proofs.YtamglegdgcehaaaGreat
open Go.RowKit

/-- What Next promises. -/
def NextOk : Prop := ∀ (A : Option Addr) (n c : Nat) (xs p : List UInt8) (size e : Nat) (W : World), At W A n xs → n ≤ c → c ≤ 9223372036854775807 → n ≤ 200000000000000 → nx xs = (p, size, e) →
    Calls Tryz.prog 35 #[.slice A n c] W fun x W' => ∃ v, x = .returned (.tuple #[v, .int .i64 size, .int .i64 e]) ∧ Own W' W.heap.size v p ∧ Below W.heap.size W W'

abbrev Piece := Value × List UInt8

/-- What Frame promises. -/
def FrameOk : Prop := ∀ (A : Option Addr) (n c : Nat) (xs : List UInt8) (W : World), At W A n xs → n ≤ c → c ≤ 9223372036854775807 → n ≤ 200000000000000 →
    Calls Tryz.prog 69 #[.slice A n c] W fun x W' => ∃ v, x = .returned (.tuple #[v, .int .i64 (if 65536 < n then 5 else 0)]) ∧ Own W' W.heap.size v (if 65536 < n then [] else fr xs) ∧ Below W.heap.size W W'

/-- What All promises: an iterator, over bytes that lie so in w00 and are kept by each round. -/
def AllOk : Prop := ∀ (A : Option Addr) (n c : Nat) (bs : List UInt8) (w00 W : World), At w00 A n bs → n ≤ c → c ≤ 9223372036854775807 → n ≤ 200000000000000 → Below w00.heap.size w00 W →
    Calls Tryz.prog 159 #[.slice A n c] W fun e W' => ∃ (g : Nat) (lb : Array Value), e = .returned (.func (.func g) #[] lb) ∧ (∀ args w, (callFunc g args).run Tryz.prog w = .ok (.enter g args) w) ∧ Below W.heap.size W W' ∧
      ∀ w0, Below W'.heap.size W' w0 → Tells Tryz.prog g lb (fun x : Piece => #[x.1]) (fun x V => Own V w0.heap.size x.1 x.2) (Below w00.heap.size) (fun xs => xs.map (·.2) = alls bs) (fun pre => ∃ r, alls bs = pre.map (·.2) ++ r) w0
end Go.Proofs.YtamglegdgcehaaaGreat
set_option linter.unusedVariables false
namespace Go.Proofs.YtamglegdgcehaaaGreat
open Go.RowKit

/-- What All promises: an iterator, over bytes that lie so in w00 and are kept by each round; what it hands over is new. -/
def AllOkN : Prop := ∀ (A : Option Addr) (n c : Nat) (bs : List UInt8) (w00 W : World), At w00 A n bs → n ≤ c → c ≤ 9223372036854775807 → n ≤ 200000000000000 → Below w00.heap.size w00 W →
    Calls Tryz.prog 159 #[.slice A n c] W fun e W' => ∃ (g : Nat) (lb : Array Value), e = .returned (.func (.func g) #[] lb) ∧ (∀ args w, (callFunc g args).run Tryz.prog w = .ok (.enter g args) w) ∧ Below W.heap.size W W' ∧
      ∀ w0, Below W'.heap.size W' w0 → TellsN Tryz.prog g lb (fun x : Piece => #[x.1]) (fun x V X => Own X V.heap.size x.1 x.2) (Below w00.heap.size) (fun xs => xs.map (·.2) = alls bs) (fun pre => ∃ r, alls bs = pre.map (·.2) ++ r) w0

end Go.Proofs.YtamglegdgcehaaaGreat
