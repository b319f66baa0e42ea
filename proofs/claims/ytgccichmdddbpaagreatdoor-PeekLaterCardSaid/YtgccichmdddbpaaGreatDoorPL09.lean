/-
  A range over a function whose rounds are handed memory: the iterator's contract says of each value what memory says of it ('Px'); the caller's law, in the plain walk. It speaks of no program.
-/
import Derived.Test.YtgccichmdddbpaaGreatDoorPL01
import Derived.RangeFuncBound
import Derived.RangeFuncNested
import Derived.RangeFuncLeaves
set_option linter.unusedVariables false
namespace Go.Proofs.YtgccichmdddbpaaGreatDoor
open Go.RowKit

/-- Whatever is cells, and whatever lies below B, lies as it lay. -/
structure Firm (B : Nat) (w w' : World) : Prop where
  os : w'.os = w.os
  tape : w'.tape = w.tape
  output : w'.output = w.output
  size : w.heap.size ≤ w'.heap.size
  same : ∀ k o, w.heap[k]? = some o → (o.isCells = true ∨ k < B) → w'.heap[k]? = some o

section
variable {B : Nat} {u v w w' : World}
theorem Firm.refl (B : Nat) (w : World) : Firm B w w := ⟨rfl, rfl, rfl, Nat.le_refl _, fun _ _ h _ => h⟩
theorem Firm.trans (h : Firm B u v) (k : Firm B v w) : Firm B u w :=
  ⟨k.os.trans h.os, k.tape.trans h.tape, k.output.trans h.output, Nat.le_trans h.size k.size, fun i o hi ho => k.same i o (h.same i o hi ho) ho⟩
theorem lt_of_some {k : Nat} {o : Obj} (h : w.heap[k]? = some o) : k < w.heap.size := (Array.getElem?_eq_some_iff.1 h).1
theorem Firm.of_below (h : Below w.heap.size w w') : Firm B w w' :=
  ⟨h.os, h.tape, h.output, h.size, fun k o hk _ => (h.block k (lt_of_some hk)).trans hk⟩
theorem Firm.put (l : Nat) {o : Obj} (o' : Obj) (hB : B ≤ l) (hl : w.heap[l]? = some o) (ho : o.isCells = false) : Firm B w (w.putObj l o') := by
  refine ⟨rfl, rfl, rfl, Nat.le_of_eq World.putObj_size.symm, fun k o2 hk hc => ?_⟩
  have hne : k ≠ l := by
    rintro rfl
    rw [hl] at hk
    cases hk
    rcases hc with hc | hc
    · rw [ho] at hc; cases hc
    · omega
  exact (World.putObj_heap_other hne).trans hk
theorem Firm.new (o : Obj) : Firm B w (w.alloc o) := .of_below ((Below.refl _ _).alloc (Nat.le_refl _) o)
theorem Firm.below {n : Nat} (h : Firm B w w') (hn : n ≤ B) (hw : n ≤ w.heap.size) : Below n w w' :=
  ⟨h.os, h.tape, h.output, h.size, fun k hk => by
    obtain ⟨o, ho⟩ : ∃ o, w.heap[k]? = some o := ⟨_, Array.getElem?_eq_getElem (by omega)⟩
    rw [h.same k o ho (.inr (by omega)), ho]⟩
theorem Firm.cell {p : Addr} {x : Value} (h : Firm B w w') (hc : w.cell? p = some x) : w'.cell? p = some x := by
  obtain ⟨o, ho⟩ : ∃ o, w.heap[p.block]? = some o := ⟨_, Array.getElem?_eq_getElem (World.block_lt_of_cell? w _ hc)⟩
  have hoc : o.isCells = true := by
    unfold World.cell? at hc
    rw [ho] at hc
    cases o <;> first | rfl | cases hc
  rw [World.cell?_of_block (w := w) ((h.same _ o ho (.inl hoc)).trans ho.symm), hc]
theorem Firm.cells {g : Nat} {cs : Array Value} {t : TypeId} {f : Nat × Nat} (h : Firm B w w') (hg : w.heap[g]? = some (.cells cs t f)) : w'.heap[g]? = some (.cells cs t f) := h.same g _ hg (.inl rfl)
theorem At.firm {A : Option Addr} {n : Nat} {xs : List UInt8} (ha : At w A n xs) (h : Firm B w w') : At w' A n xs := by
  refine ⟨ha.1, fun hn => ?_⟩
  obtain ⟨b, o, e, hc⟩ := ha.2 hn
  exact ⟨b, o, e, fun i hi => h.cell (hc i hi)⟩
theorem ownsRow_firm {base : Nat} {e : TypeId} {size : Nat} {x : Value} {n : Nat} {xs : List Value} (ho : w.ownsRow base e size x n xs) (h : Firm B w w') : w'.ownsRow base e size x n xs := by
  refine ⟨ho.1, ?_⟩
  rcases ho.2 with h2 | ⟨g, cap, cur, hv, hg, hh, r⟩
  · exact .inl h2
  · exact .inr ⟨g, cap, cur, hv, hg, h.cells hh, r⟩
theorem Own.firm {base : Nat} {x : Value} {xs : List UInt8} (ho : Own w base x xs) (h : Firm B w w') : Own w' base x xs := ownsRow_firm ho h
end

section
variable {P : Program} {ps : Array Tmp} {assign body : Code} {w : World}

/-- The loop's two blocks: its record, and the one for calls that rounds put off. -/
def Book (r : Loop) (l D : Nat) (st : LoopState) (pe : Option Code) (W : World) : Prop :=
  W.heap[l]? = some (.loop { r with state := st, pending := pe }) ∧ W.heap[D]? = some (.deferred (some []))
theorem Book.below {r : Loop} {l D : Nat} {st : LoopState} {pe : Option Code} {W W' : World} (h : Book r l D st pe W) (hb : Below W.heap.size W W') : Book r l D st pe W' :=
  ⟨(hb.block _ (lt_of_some h.1)).trans h.1, (hb.block _ (lt_of_some h.2)).trans h.2⟩
theorem Book.keeps {r : Loop} {l D B : Nat} {st : LoopState} {pe : Option Code} {W W' : World} (h : Book r l D st pe W) (hk : KeepsFrom B W W') (hl : B ≤ l) (hD : B ≤ D) : Book r l D st pe W' :=
  ⟨hk.same _ _ hl h.1 rfl, hk.same _ _ hD h.2 rfl⟩
theorem Book.turn {r : Loop} {l D : Nat} {st : LoopState} {pe : Option Code} {W : World} (h : Book r l D st pe W) (hne : D ≠ l) (st' : LoopState) (pe' : Option Code) :
    Book r l D st' pe' (W.putObj l (.loop { r with state := st', pending := pe' })) :=
  ⟨World.putObj_heap_same (lt_of_some h.1), (World.putObj_heap_other hne).trans h.2⟩

/-- The end of a round: the record is turned, what the round left stays. -/
theorem Book.ends {r : Loop} {l D B : Nat} {W W' : World} (h : Book r l D .busy none W) (hk : KeepsFrom B W W') (hl : B ≤ l) (hD : B ≤ D) (hne : D ≠ l) (jump : Option Code) :
    ∃ W'', (Instr.endRound l jump).run P W' = .ok (.bool jump.isNone) W'' ∧ Firm B W' W'' ∧ Book r l D (if jump.isNone then .ready else .done) jump W'' := by
  have h' := h.keeps hk hl hD
  exact ⟨_, run_endRound jump h'.1, Firm.put l _ hl h'.1 rfl, h'.turn hne _ _⟩

end
end Go.Proofs.YtgccichmdddbpaaGreatDoor
