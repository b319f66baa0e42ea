/-
  Layer 6: three clocks in an array.
-/
import Derived.Test.YtmjniibeomjkkaaKTalk
import Derived.Test.YtmjniibeomjkkaaKList
import Derived.Test.YtmjniibeomjkkaaKAwake
set_option linter.unusedVariables false
namespace Go.Proofs.Ytmjniibeomjkkaa
open Go.RowKit

/-- The array's cells: the first n clocks are there. -/
def cellv (g : Nat → Nat) (n i : Nat) : Value := if i < n then pt (g i) else .pointer none
def triRow (g : Nat → Nat) (n : Nat) : Array Value := #[cellv g n 0, cellv g n 1, cellv g n 2]
/-- Three clocks in an array, of which the first n are there: which readings they have, the greatest Logic. -/
structure Tri (w : World) (B n : Nat) (r : Nat → Int) (m : Int) (g : Nat → Nat) (c : Nat → Ck) (V : World) : Prop where
  row : V.heap[B]? = some (.cells (triRow g n) 50 (0, 0))
  clk : ∀ i, i < n → Clk V (g i) (c i)
  talk : ∀ i, i < n → Talk (r i) (5 * (i : Int)) m (c i)
  own : ∀ i, i < n → w.heap.size ≤ g i ∧ g i ≠ B
  one : ∀ i j, i < n → j < n → g i = g j → i = j
  below : Below w.heap.size w V
  wide : w.heap.size ≤ B
section
variable {w V V' : World} {B n : Nat} {r : Nat → Int} {m : Int} {g : Nat → Nat} {c : Nat → Ck}
theorem Tri.lt (h : Tri w B n r m g c V) : B < V.heap.size := (Array.getElem?_eq_some_iff.1 h.row).1
theorem Tri.keep (h : Tri w B n r m g c V) (hb : Below V.heap.size V V') : Tri w B n r m g c V' :=
  ⟨(hb.block B h.lt).trans h.row, fun i hi => (h.clk i hi).below hb, h.talk, h.own, h.one, h.below.trans (hb.mono h.below.size), h.wide⟩
theorem Tri.alloc (h : Tri w B n r m g c V) (o : Obj) : Tri w B n r m g c (V.alloc o) := h.keep ((Below.refl _ _).alloc (Nat.le_refl _) _)
theorem Tri.drew (h : Tri w B n r m g c V) : Tri w B n r m g c V.drew := h.keep (Below.refl _ _).drew
theorem Tri.cell (h : Tri w B n r m g c V) {i : Nat} (hi : i < 3) : V.cell? ⟨B, i, none⟩ = some (cellv g n i) := by
  rw [cell_of_row V B i _ _ (0, 0) h.row]
  rcases (show i = 0 ∨ i = 1 ∨ i = 2 by omega) with rfl | rfl | rfl <;> rfl
theorem Tri.fz (h : Tri w B n r m g c V) (i : Nat) : V.frozen? ⟨B, i, none⟩ = false := by
  have h := h.row
  simp [World.frozen?, h]
theorem Tri.at_ (h : Tri w B 3 r m g c V) {i : Nat} (hi : i < 3) : V.cell? ⟨B, i, none⟩ = some (pt (g i)) := by
  rw [h.cell hi]
  unfold cellv
  rw [if_pos hi]
/-- One clock has gone on. -/
theorem Tri.upd (h : Tri w B n r m g c V) {k : Nat} (hk : k < n) {c' : Ck} {r' m' : Int} (hc : Clk V' (g k) c') (hg : V.grownBy V' (some (g k))) (ht : Talk r' (5 * (k : Int)) m' c') (hm : m ≤ m') :
    Tri w B n (fun i => if i = k then r' else r i) m' g (fun i => if i = k then c' else c i) V' := by
  refine ⟨(hg.block B h.lt (fun e => (h.own k hk).2 (Option.some.inj e).symm)).trans h.row, fun i hi => ?_, fun i hi => ?_, h.own, h.one, h.below.grown hg h.below.size (fun _ e => Option.some.inj e ▸ (h.own k hk).1), h.wide⟩
  · by_cases e : i = k
    · subst e
      simpa using hc
    · simp only [e, if_false]
      exact (h.clk i hi).other hg (fun e2 => e (h.one i k hi hk e2))
  · by_cases e : i = k
    · subst e
      simpa using ht
    · simp only [e, if_false]
      exact talk_mono (h.talk i hi) hm
/-- One more clock is there. -/
theorem Tri.add (h : Tri w B n r m g c V) (hn : n < 3) {x : Nat} {c' : Ck} (hc : Clk V x c') (hx : w.heap.size ≤ x) (hB : x ≠ B) (hf : ∀ i, i < n → g i ≠ x) (ht : Talk (r n) (5 * (n : Int)) m c') :
    Tri w B (n + 1) r m (fun i => if i = n then x else g i) (fun i => if i = n then c' else c i) (V.setCell ⟨B, n, none⟩ (pt x)) := by
  refine ⟨?_, fun i hi => ?_, fun i hi => ?_, fun i hi => ?_, fun i j hi hj e => ?_, h.below.setCell h.wide _, h.wide⟩
  · have h1 := h.row
    simp only [World.setCell, Array.getElem?_modify, if_true, h1, Option.map_some]
    rcases (show n = 0 ∨ n = 1 ∨ n = 2 by omega) with rfl | rfl | rfl <;> rfl
  · by_cases e : i = n
    · subst e
      simpa using hc.far hB _ _
    · simp only [e, if_false]
      exact (h.clk i (by omega)).far (h.own i (by omega)).2 _ _
  · by_cases e : i = n
    · subst e
      simpa using ht
    · simp only [e, if_false]
      exact h.talk i (by omega)
  · by_cases e : i = n
    · subst e
      simpa using ⟨hx, hB⟩
    · simp only [e, if_false]
      exact h.own i (by omega)
  · by_cases e1 : i = n <;> by_cases e2 : j = n <;> simp only [e1, e2, if_true, if_false] at e
    · omega
    · exact absurd e.symm (hf j (by omega))
    · exact absurd e (hf i (by omega))
    · exact h.one i j (by omega) (by omega) e
/-- The array, ahead of all. -/
theorem Tri.new (w : World) (r : Nat → Int) (m : Int) (g : Nat → Nat) (c : Nat → Ck) : Tri w w.heap.size 0 r m g c (w.alloc (.cells #[.pointer none, .pointer none, .pointer none] 50)) :=
  ⟨heap_alloc_new w _, fun i hi => by omega, fun i hi => by omega, fun i hi => by omega, fun i j hi => by omega, (Below.refl _ _).alloc (Nat.le_refl _) _, Nat.le_refl _⟩
theorem Tri.same (h : Tri w B n r m g c V) {r' : Nat → Int} (hr : ∀ i, i < n → r' i = r i) : Tri w B n r' m g c V :=
  ⟨h.row, h.clk, fun i hi => by rw [hr i hi]; exact h.talk i hi, h.own, h.one, h.below, h.wide⟩
theorem Tri.lev (h : Tri w B n r m g c V) {m' : Int} (hm : m' = m) : Tri w B n r m' g c V := hm ▸ h
theorem step_if (j k : Nat) (a b : Int) : (if j < k + 1 then a else b) = (if j = k then a else if j < k then a else b) := by
  by_cases h1 : j = k
  · rw [if_pos h1, if_pos (by omega)]
  · rw [if_neg h1]
    by_cases h2 : j < k
    · rw [if_pos h2, if_pos (by omega)]
    · rw [if_neg h2, if_neg (by omega)]
/-- A call that reads; a call of one clock that goes on. -/
theorem Tri.read (h : Tri w B 3 r m g c V) {f : FuncId} {args : Array Value} {v : Value} (hc : Calls Try.prog f args V fun e V' => e = .returned v ∧ Below V.heap.size V V') :
    Calls Try.prog f args V fun e V' => e = .returned v ∧ Below V.heap.size V V' ∧ Tri w B 3 r m g c V' := hc.mono fun _ _ hh => ⟨hh.1, hh.2, h.keep hh.2⟩
theorem Tri.mut (h : Tri w B 3 r m g c V) {k : Nat} (hk : k < 3) {f : FuncId} {args : Array Value} {v : Value} {c' : Ck} {r' m' : Int} (ht : Talk r' (5 * (k : Int)) m' c') (hm : m ≤ m')
    (hc : Calls Try.prog f args V fun e V' => e = .returned v ∧ Clk V' (g k) c' ∧ V.grownBy V' (some (g k))) :
    Calls Try.prog f args V fun e V' => e = .returned v ∧ V.grownBy V' (some (g k)) ∧ Tri w B 3 (fun i => if i = k then r' else r i) m' g (fun i => if i = k then c' else c i) V' :=
  hc.mono fun _ _ hh => ⟨hh.1, hh.2.2, h.upd hk hh.2.1 hh.2.2 ht hm⟩
end
end Go.Proofs.Ytmjniibeomjkkaa
