/-
  Layer 7: the code's disk beside other memory of the walk's own (S) that its calls leave as it is.
-/
import Derived.Test.YtmjoaeljfhgojaaDWorks
set_option linter.unusedVariables false
namespace Go.Proofs.Ytmjoaeljfhgojaa
open Go.RowKit

def inB (A : Option Addr) : Nat → Prop := fun k => ∃ a, A = some a ∧ a.block = k
theorem inB_self (A : Option Addr) : InF (inB A) A := fun a e => ⟨a, e, rfl⟩
def DSep (R : DRep) (w : World) (g : Nat) (D : Dk) (V : World) (S : Nat → Prop) : Prop := ∃ F, R V g D F ∧ (∀ k, F k → w.heap.size ≤ k ∧ ¬ S k) ∧ (∀ k, S k → k < V.heap.size) ∧ Below w.heap.size w V
section
variable {R : DRep} {w V V' : World} {g : Nat} {D D' : Dk} {S T : Nat → Prop}
theorem DSep.own (h : DSep R w g D V S) : DOwn R w g D V := by
  obtain ⟨F, h1, h2, h3, h4⟩ := h
  exact ⟨F, h1, fun k e => (h2 k e).1, h4⟩
theorem DSep.bel (h : DSep R w g D V S) : Below w.heap.size w V := h.own.bel
theorem DOwn.sep (hD : DiskOk R) (h : DOwn R w g D V) (hb : Below V.heap.size V V') (hS : ∀ k, S k → V.heap.size ≤ k ∧ k < V'.heap.size) : DSep R w g D V' S := by
  obtain ⟨F, h1, h2, h3⟩ := h
  exact ⟨F, hD.below h1 hb, fun k e => ⟨h2 k e, fun s => by have := hD.lt h1 k e; have := (hS k s).1; omega⟩, fun k s => (hS k s).2, h3.trans (hb.mono h3.size)⟩
/-- More memory is held beside it: what is new. -/
theorem DSep.more (hD : DiskOk R) (h : DSep R w g D V S) (hb : Below V.heap.size V V') (hT : ∀ k, T k → S k ∨ (V.heap.size ≤ k ∧ k < V'.heap.size)) : DSep R w g D V' T := by
  obtain ⟨F, h1, h2, h3, h4⟩ := h
  refine ⟨F, hD.below h1 hb, fun k e => ⟨(h2 k e).1, fun t => ?_⟩, fun k t => ?_, h4.trans (hb.mono h4.size)⟩
  · have := hD.lt h1 k e
    rcases hT k t with s | s
    · exact (h2 k e).2 s
    · omega
  · rcases hT k t with s | s
    · exact Nat.lt_of_lt_of_le (h3 k s) hb.size
    · exact s.2
theorem DSep.keep (hD : DiskOk R) (h : DSep R w g D V S) (hb : Below V.heap.size V V') : DSep R w g D V' S := h.more hD hb (fun k s => .inl s)
theorem DSep.kept (h : DSep R w g D V S) (hb : Below V.heap.size V V') : ∀ k, S k → V'.heap[k]? = V.heap[k]? := by
  obtain ⟨F, h1, h2, h3, h4⟩ := h
  exact fun k s => hb.block k (h3 k s)
/-- A call that changes the disk. -/
theorem DSep.step (h : DSep R w g D V S) {f : FuncId} {args : Array Value} {v v' : Value} {D1 : Dk}
    (hc : ∀ F, R V g D F → (∀ k, F k → k < V.heap.size → w.heap.size ≤ k ∧ ¬ S k) → Calls Try.prog f args V fun e w' => e = .returned v ∧ Turns R V g F D1 w') (e1 : D1 = D') (e2 : v = v') :
    Calls Try.prog f args V fun e w' => e = .returned v' ∧ DSep R w g D' w' S ∧ (∀ k, S k → w'.heap[k]? = V.heap[k]?) := by
  subst e1 e2
  obtain ⟨F, h1, h2, h3, h4⟩ := h
  refine (hc F h1 (fun k e _ => h2 k e)).mono fun e w' hh => ⟨hh.1, ⟨_, hh.2.1, fun k e => ?_, fun k s => Nat.lt_of_lt_of_le (h3 k s) hh.2.2.size, hh.2.2.below h4 h4.size (fun k e => (h2 k e).1)⟩, fun k s => hh.2.2.block k (h3 k s) (fun e => (h2 k e).2 s)⟩
  rcases e with e | e
  · exact h2 k e
  · have := h4.size
    exact ⟨by omega, fun s => by have := h3 k s; omega⟩
theorem DSep.crashL (hD : DiskOk R) (h : DSep R w g D V S) (k : Int) (e1 : Go.Proofs.Ytmjoaeljfhgojaa.crash D [k] = D') :
    Calls Try.prog 23 #[pt g, .slice (some ⟨V.heap.size, 0, none⟩) 1 1] (V.alloc (.cells #[.int .i64 k] 3)) fun e w' => e = .returned (.tuple #[]) ∧ DSep R w g D' w' S ∧ (∀ k, S k → w'.heap[k]? = V.heap[k]?) := by
  have hb := below_alloc V (.cells #[.int .i64 k] 3)
  have hlt : V.heap.size < (V.alloc (.cells #[.int .i64 k] 3)).heap.size := (Array.getElem?_eq_some_iff.1 (heap_alloc_new V _)).1
  have h2 : DSep R w g D (V.alloc (.cells #[.int .i64 k] 3)) (fun j => S j ∨ j = V.heap.size) := h.more hD hb (fun j e => by
    rcases e with e | e
    · exact .inl e
    · exact .inr (by omega))
  refine (h2.step (fun F hF hS => hD.crash _ g D F _ 1 1 [k] hF (iat_new 3 [k] V) (fun _ a e => ?_) (Nat.le_refl _) (by omega)) e1 rfl).mono ?_
  · injection e with e
    subst e
    exact ⟨hlt, fun hF' => (hS _ hF' hlt).2 (.inr rfl)⟩
  · rintro e w' ⟨he, hs, hk⟩
    refine ⟨he, ?_, fun j s => (hk j (.inl s)).trans (h.kept hb j s)⟩
    obtain ⟨F, a1, a2, a3, a4⟩ := hs
    exact ⟨F, a1, fun j e => ⟨(a2 j e).1, fun s => (a2 j e).2 (.inl s)⟩, fun j s => a3 j (.inl s), a4⟩
end
end Go.Proofs.Ytmjoaeljfhgojaa
