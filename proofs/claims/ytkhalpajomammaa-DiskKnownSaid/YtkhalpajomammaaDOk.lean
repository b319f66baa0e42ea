/-
  Layer 7: what the code's disk owes, as the statements' walks take it: over whatever way it lies in memory (R: the world, its block, what it is, its blocks).
-/
import Derived.Test.YtkhalpajomammaaDTurn
set_option linter.unusedVariables false
namespace Go.Proofs.Ytkhalpajomammaa
open Go.RowKit

abbrev DRep : Type := World → Nat → Dk → (Nat → Prop) → Prop
def newF (w w' : World) : Nat → Prop := fun k => w.heap.size ≤ k ∧ k < w'.heap.size

structure DiskOk (R : DRep) : Prop where
  on : ∀ {V V' : World} {g : Nat} {D : Dk} {F : Nat → Prop}, R V g D F → V.heap.size ≤ V'.heap.size → (∀ k, F k → V'.heap[k]? = V.heap[k]?) → R V' g D F
  mono : ∀ {V : World} {g : Nat} {D : Dk} {F G : Nat → Prop}, R V g D F → (∀ k, F k → G k) → (∀ k, G k → k < V.heap.size) → R V g D G
  lt : ∀ {V : World} {g : Nat} {D : Dk} {F : Nat → Prop}, R V g D F → ∀ k, F k → k < V.heap.size
  ok : ∀ {V : World} {g : Nat} {D : Dk} {F : Nat → Prop}, R V g D F → D.ok
  new : ∀ (w : World), Calls Try.prog 9 #[] w fun e w' => ∃ g, e = .returned (pt g) ∧ w.heap.size ≤ g ∧ R w' g dk0 (newF w w') ∧ Below w.heap.size w w'
  append : ∀ (w : World) (g : Nat) (D : Dk) (F : Nat → Prop) (nm : ByteArray) (XA : Option Addr) (xn xc : Nat) (xs : List UInt8), R w g D F → At w XA xn xs → (0 < xn → InF (fun k => ¬ F k) XA) → xn ≤ 140000000000000 →
    Calls Try.prog 20 #[pt g, .string nm, .slice XA xn xc] w fun e w' => e = .returned (.int .i64 (appE D nm xs.length)) ∧ Turns R w g F (app D nm xs) w'
  sync : ∀ (w : World) (g : Nat) (D : Dk) (F : Nat → Prop) (nm : ByteArray), R w g D F → Calls Try.prog 21 #[pt g, .string nm] w fun e w' => e = .returned (.int .i64 (synE D nm)) ∧ Turns R w g F (syn D nm) w'
  cut : ∀ (w : World) (g : Nat) (D : Dk) (F : Nat → Prop) (nm : ByteArray) (k : Int), (-9223372036854775808 ≤ k ∧ k ≤ 9223372036854775807) → R w g D F → Calls Try.prog 29 #[pt g, .string nm, .int .i64 k] w fun e w' => e = .returned (.int .i64 (cutE D nm k)) ∧ Turns R w g F (cut D nm k) w'
  rename : ∀ (w : World) (g : Nat) (D : Dk) (F : Nat → Prop) (nm t : ByteArray), R w g D F → Calls Try.prog 31 #[pt g, .string nm, .string t] w fun e w' => e = .returned (.int .i64 (renE D nm t)) ∧ Turns R w g F (ren D nm t) w'
  remove : ∀ (w : World) (g : Nat) (D : Dk) (F : Nat → Prop) (nm : ByteArray), R w g D F → Calls Try.prog 33 #[pt g, .string nm] w fun e w' => e = .returned (.int .i64 (remE D nm)) ∧ Turns R w g F (rem D nm) w'
  crash : ∀ (w : World) (g : Nat) (D : Dk) (F : Nat → Prop) (A : Option Addr) (n c : Nat) (keep : List Int), R w g D F → IAt w A n keep → (0 < n → InF (fun k => k < w.heap.size ∧ ¬ F k) A) → n ≤ c → c ≤ 9223372036854775807 →
    Calls Try.prog 23 #[pt g, .slice A n c] w fun e w' => e = .returned (.tuple #[]) ∧ Turns R w g F (crash D keep) w'
  fail : ∀ (w : World) (g : Nat) (D : Dk) (F : Nat → Prop) (k : Int) (A : Option Addr) (n c : Nat) (keep : List Int), -9223372036854775808 ≤ k → k ≤ 9223372036854775807 → R w g D F → IAt w A n keep → (0 < n → InF (fun k => ¬ F k) A) → n ≤ 17592186044416 → n ≤ c →
    Calls Try.prog 30 #[pt g, .int .i64 k, .slice A n c] w fun e w' => e = .returned (.tuple #[]) ∧ Turns R w g F (fal D k keep) w'
  boot : ∀ (w : World) (g : Nat) (D : Dk) (F : Nat → Prop), R w g D F → Calls Try.prog 24 #[pt g] w fun e w' => e = .returned (.tuple #[]) ∧ Turns R w g F (boot D) w'
  turn : ∀ (w : World) (g : Nat) (D : Dk) (F : Nat → Prop) (nm : ByteArray) (i b : Int), (-9223372036854775808 ≤ i ∧ i ≤ 9223372036854775807) → (-9223372036854775808 ≤ b ∧ b ≤ 9223372036854775807) → R w g D F →
    Calls Try.prog 34 #[pt g, .string nm, .int .i64 i, .int .i64 b] w fun e w' => e = .returned (.int .i64 (trnE D nm i b)) ∧ Turns R w g F (trn D nm i b) w'
  read : ∀ (w : World) (g : Nat) (D : Dk) (F : Nat → Prop) (nm : ByteArray), R w g D F → Calls Try.prog 25 #[pt g, .string nm] w fun e w' => ∃ v, e = .returned (.tuple #[v, .int .i64 (rdE D nm)]) ∧ NewBytes w w' v (rdB D nm) ∧ Below w.heap.size w w'
  size : ∀ (w : World) (g : Nat) (D : Dk) (F : Nat → Prop) (nm : ByteArray), R w g D F → Calls Try.prog 26 #[pt g, .string nm] w fun e w' => e = .returned (.tuple #[.int .i64 ((rdB D nm).length : Nat), .int .i64 (rdE D nm)]) ∧ Below w.heap.size w w'
  names : ∀ (w : World) (g : Nat) (D : Dk) (F : Nat → Prop), R w g D F → Calls Try.prog 27 #[pt g] w fun e w' => ∃ A c, e = .returned (.slice A (nms D).length c) ∧ TAt w' A (nms D).length (nms D) ∧ (nms D).length ≤ c ∧ c ≤ 9223372036854775807 ∧ Below w.heap.size w w'
  dead : ∀ (w : World) (g : Nat) (D : Dk) (F : Nat → Prop), R w g D F → Calls Try.prog 15 #[pt g] w fun e w' => e = .returned (.bool D.dead) ∧ Below w.heap.size w w'
section
variable {R : DRep} {V V' w : World} {g : Nat} {D D' : Dk} {F : Nat → Prop}
theorem DiskOk.below (hR : DiskOk R) (h : R V g D F) (hb : Below V.heap.size V V') : R V' g D F := hR.on h hb.size (fun k e => hb.block k (hR.lt h k e))
end
/-- A disk of the call's own, and nothing older has changed. -/
def DOwn (R : DRep) (w : World) (g : Nat) (D : Dk) (V : World) : Prop := ∃ F, R V g D F ∧ (∀ k, F k → w.heap.size ≤ k) ∧ Below w.heap.size w V
section
variable {R : DRep} {w V V' : World} {g : Nat} {D D' : Dk} {f : FuncId} {args : Array Value} {v : Value}
theorem DOwn.keep (hR : DiskOk R) (h : DOwn R w g D V) (hb : Below V.heap.size V V') : DOwn R w g D V' := by
  obtain ⟨F, h1, h2, h3⟩ := h
  exact ⟨F, hR.below h1 hb, h2, h3.trans (hb.mono h3.size)⟩
theorem DOwn.turn {F : Nat → Prop} (hF : ∀ k, F k → w.heap.size ≤ k) (hb : Below w.heap.size w V) (h : Turns R V g F D' V') : DOwn R w g D' V' :=
  ⟨_, h.1, fun k e => by rcases e with e | e; exact hF k e; exact Nat.le_trans hb.size e.1, h.2.below hb hb.size hF⟩
end
end Go.Proofs.Ytkhalpajomammaa
