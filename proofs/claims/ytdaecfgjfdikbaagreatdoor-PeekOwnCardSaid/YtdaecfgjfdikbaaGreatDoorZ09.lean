/-
  A range over a function whose rounds are handed memory: the iterator's contract says of each value what memory says of it ('Px'); the caller's law, in the plain walk. It speaks of no program.
-/
import Derived.Test.YtdaecfgjfdikbaaGreatDoorZ01
import Derived.RangeFuncBound
import Derived.RangeFuncNested
import Derived.RangeFuncLeaves
set_option linter.unusedVariables false
namespace Go.Proofs.YtdaecfgjfdikbaaGreatDoor
open Go.RowKit

/-- Whatever is cells, and whatever lies below B, lies as it lay. -/
structure Firm (B : Nat) (w w' : World) : Prop where
  os : w'.os = w.os
  tape : w'.tape = w.tape
  output : w'.output = w.output
  size : w.heap.size ≤ w'.heap.size
  same : ∀ k o, w.heap[k]? = some o → (o.isCells = true ∨ k < B) → w'.heap[k]? = some o

section
variable {B : Nat} {u v w w' : World}
theorem Firm.refl (B : Nat) (w : World) : Firm B w w := ⟨rfl, rfl, rfl, Nat.le_refl _, fun _ _ h _ => h⟩
theorem Firm.trans (h : Firm B u v) (k : Firm B v w) : Firm B u w :=
  ⟨k.os.trans h.os, k.tape.trans h.tape, k.output.trans h.output, Nat.le_trans h.size k.size, fun i o hi ho => k.same i o (h.same i o hi ho) ho⟩
theorem lt_of_some {k : Nat} {o : Obj} (h : w.heap[k]? = some o) : k < w.heap.size := (Array.getElem?_eq_some_iff.1 h).1
theorem Firm.of_below (h : Below w.heap.size w w') : Firm B w w' :=
  ⟨h.os, h.tape, h.output, h.size, fun k o hk _ => (h.block k (lt_of_some hk)).trans hk⟩
theorem Firm.put (l : Nat) {o : Obj} (o' : Obj) (hB : B ≤ l) (hl : w.heap[l]? = some o) (ho : o.isCells = false) : Firm B w (w.putObj l o') := by
  refine ⟨rfl, rfl, rfl, Nat.le_of_eq World.putObj_size.symm, fun k o2 hk hc => ?_⟩
  have hne : k ≠ l := by
    rintro rfl
    rw [hl] at hk
    cases hk
    rcases hc with hc | hc
    · rw [ho] at hc; cases hc
    · omega
  exact (World.putObj_heap_other hne).trans hk
theorem Firm.new (o : Obj) : Firm B w (w.alloc o) := .of_below ((Below.refl _ _).alloc (Nat.le_refl _) o)
theorem Firm.below {n : Nat} (h : Firm B w w') (hn : n ≤ B) (hw : n ≤ w.heap.size) : Below n w w' :=
  ⟨h.os, h.tape, h.output, h.size, fun k hk => by
    obtain ⟨o, ho⟩ : ∃ o, w.heap[k]? = some o := ⟨_, Array.getElem?_eq_getElem (by omega)⟩
    rw [h.same k o ho (.inr (by omega)), ho]⟩
theorem Firm.cell {p : Addr} {x : Value} (h : Firm B w w') (hc : w.cell? p = some x) : w'.cell? p = some x := by
  obtain ⟨o, ho⟩ : ∃ o, w.heap[p.block]? = some o := ⟨_, Array.getElem?_eq_getElem (World.block_lt_of_cell? w _ hc)⟩
  have hoc : o.isCells = true := by
    unfold World.cell? at hc
    rw [ho] at hc
    cases o <;> first | rfl | cases hc
  rw [World.cell?_of_block (w := w) ((h.same _ o ho (.inl hoc)).trans ho.symm), hc]
theorem Firm.cells {g : Nat} {cs : Array Value} {t : TypeId} {f : Nat × Nat} (h : Firm B w w') (hg : w.heap[g]? = some (.cells cs t f)) : w'.heap[g]? = some (.cells cs t f) := h.same g _ hg (.inl rfl)
theorem At.firm {A : Option Addr} {n : Nat} {xs : List UInt8} (ha : At w A n xs) (h : Firm B w w') : At w' A n xs := by
  refine ⟨ha.1, fun hn => ?_⟩
  obtain ⟨b, o, e, hc⟩ := ha.2 hn
  exact ⟨b, o, e, fun i hi => h.cell (hc i hi)⟩
theorem ownsRow_firm {base : Nat} {e : TypeId} {size : Nat} {x : Value} {n : Nat} {xs : List Value} (ho : w.ownsRow base e size x n xs) (h : Firm B w w') : w'.ownsRow base e size x n xs := by
  refine ⟨ho.1, ?_⟩
  rcases ho.2 with h2 | ⟨g, cap, cur, hv, hg, hh, r⟩
  · exact .inl h2
  · exact .inr ⟨g, cap, cur, hv, hg, h.cells hh, r⟩
theorem Own.firm {base : Nat} {x : Value} {xs : List UInt8} (ho : Own w base x xs) (h : Firm B w w') : Own w' base x xs := ownsRow_firm ho h
end

/-- An iterator: whatever loop it is called for, whatever the loop's rounds carry on, so long as they carry it on: what came, came one by one, each with what 'Px' says of it, what has come being what 'Sp' says; each round keeps 'Kq'. -/
def Tells {α : Type} (P : Program) (g : Nat) (lb : Array Value) (encs : α → Array Value) (Px : α → World → Prop) (Kq : World → World → Prop) (S Sp : List α → Prop) (w0 : World) : Prop :=
  ∀ (l : Nat) (J Jx : List α → World → Prop) (W : World), Below w0.heap.size w0 W →
    (∀ s X Y, J s X → Below X.heap.size X Y → J s Y) → (∀ s X Y, Jx s X → Below X.heap.size X Y → Jx s Y) →
    (∀ pre x W1, J pre W1 → Px x W1 → Sp (pre ++ [x]) → YieldAt Fence.wide 2 P l (encs x) W1 fun e W' =>
      (e = .returned (.bool true) ∧ J (pre ++ [x]) W' ∧ Kq W1 W') ∨ (e = .returned (.bool false) ∧ Jx (pre ++ [x]) W')) →
    J [] W →
    CallsIn Fence.wide 3 P g (#[.func (.yield l) #[] #[]] ++ lb) W fun e W' => (∃ v, e = .returned v) ∧ ((∃ xs, S xs ∧ J xs W') ∨ (∃ pre, Sp pre ∧ Jx pre W'))

/-- How a round may be left. -/
def roundEnd {α : Type} (B : Nat) (Kq : World → World → Prop) (I : List α → World → Prop) (Ix : Code → List α → World → Prop) (xs : List α) (W : World) : Exit → Act → World → Prop
  | .normal, _, W' => KeepsFrom B W W' ∧ Kq W W' ∧ I xs W'
  | .ret, _, W' => KeepsFrom B W W' ∧ Ix .ret xs W'
  | .exit id, _, W' => KeepsFrom B W W' ∧ Ix (.exit id) xs W'
  | .goto t, _, W' => KeepsFrom B W W' ∧ Ix (.goto t) xs W'
  | _, _, _ => False

section
variable {P : Program} {ps : Array Tmp} {assign body : Code} {w : World}

/-- The loop's two blocks: its record, and the one for calls that rounds put off. -/
def Book (r : Loop) (l D : Nat) (st : LoopState) (pe : Option Code) (W : World) : Prop :=
  W.heap[l]? = some (.loop { r with state := st, pending := pe }) ∧ W.heap[D]? = some (.deferred (some []))
theorem Book.below {r : Loop} {l D : Nat} {st : LoopState} {pe : Option Code} {W W' : World} (h : Book r l D st pe W) (hb : Below W.heap.size W W') : Book r l D st pe W' :=
  ⟨(hb.block _ (lt_of_some h.1)).trans h.1, (hb.block _ (lt_of_some h.2)).trans h.2⟩
theorem Book.keeps {r : Loop} {l D B : Nat} {st : LoopState} {pe : Option Code} {W W' : World} (h : Book r l D st pe W) (hk : KeepsFrom B W W') (hl : B ≤ l) (hD : B ≤ D) : Book r l D st pe W' :=
  ⟨hk.same _ _ hl h.1 rfl, hk.same _ _ hD h.2 rfl⟩
theorem Book.turn {r : Loop} {l D : Nat} {st : LoopState} {pe : Option Code} {W : World} (h : Book r l D st pe W) (hne : D ≠ l) (st' : LoopState) (pe' : Option Code) :
    Book r l D st' pe' (W.putObj l (.loop { r with state := st', pending := pe' })) :=
  ⟨World.putObj_heap_same (lt_of_some h.1), (World.putObj_heap_other hne).trans h.2⟩

/-- The end of a round: the record is turned, what the round left stays. -/
theorem Book.ends {r : Loop} {l D B : Nat} {W W' : World} (h : Book r l D .busy none W) (hk : KeepsFrom B W W') (hl : B ≤ l) (hD : B ≤ D) (hne : D ≠ l) (jump : Option Code) :
    ∃ W'', (Instr.endRound l jump).run P W' = .ok (.bool jump.isNone) W'' ∧ Firm B W' W'' ∧ Book r l D (if jump.isNone then .ready else .done) jump W'' := by
  have h' := h.keeps hk hl hD
  exact ⟨_, run_endRound jump h'.1, Firm.put l _ hl h'.1 rfl, h'.turn hne _ _⟩

/-- THE LAW. -/
theorem wp_range {α : Type} {g : Operand} {Q : Exit → Act → World → Prop} {a : Act} {gf : Nat} {lb : Array Value} (hg : a.eval g = .func (.func gf) #[] lb) (eg : ∀ args w, (callFunc gf args).run P w = .ok (.enter gf args) w)
    {encs : α → Array Value} {Px : α → World → Prop} {Kq : World → World → Prop} {S Sp : List α → Prop} (hseq : Tells P gf lb encs Px Kq S Sp w) (hps : ∀ x, (encs x).size = ps.size)
    (hKf : ∀ {X Y : World}, w.heap.size ≤ X.heap.size → Firm w.heap.size X Y → Kq X Y) (hKt : ∀ {X Y Z : World}, Kq X Y → Kq Y Z → Kq X Z) (hPx : ∀ x X Y, Px x X → Firm w.heap.size X Y → Px x Y)
    (I : List α → World → Prop) (Ix : Code → List α → World → Prop) (hI : ∀ s X Y, I s X → w.heap.size ≤ X.heap.size → Firm w.heap.size X Y → I s Y) (hIx : ∀ c s X Y, Ix c s X → w.heap.size ≤ X.heap.size → Firm w.heap.size X Y → Ix c s Y) (h0 : I [] w) (a₁ : α → Act)
    (hassign : ∀ (l : Nat) (x : α) (W : World) (K : Act → World → Prop), K (a₁ x) W →
      assign.wpIn (Fence.wide.inRound l) 2 P (Exit.then K (fun _ _ _ => False)) { tmps := (ps.zip (encs x)).foldl (fun t (p, v) => t.setIfInBounds p v) a.tmps, defers := [] } W)
    (hbody : ∀ (l : Nat) (pre : List α) (x : α) (W : World), w.heap.size ≤ W.heap.size → I pre W → Px x W → Sp (pre ++ [x]) → body.wpIn (Fence.wide.inRound l) 2 P (roundEnd w.heap.size Kq I Ix (pre ++ [x]) W) (a₁ x) W)
    (hdone : ∀ (D : Nat) (xs : List α) (W : World), w.heap.size ≤ D → S xs → I xs W → W.heap[D]? = some (.deferred (some [])) → Q .normal { a with defers := { target := .collected D, args := #[] } :: a.defers } W)
    (hstop : ∀ (D : Nat) (c : Code) (pre : List α) (W : World), w.heap.size ≤ D → Sp pre → Ix c pre W → W.heap[D]? = some (.deferred (some [])) → c.wp P Q { a with defers := { target := .collected D, args := #[] } :: a.defers } W) :
    (Code.rangeFunc g ps assign body).wp P Q a w := by
  refine (wpIn_wide (n := 4)).1 (wpIn_rangeFunc fun fn _ => ?_)
  obtain ⟨r, hr⟩ : ∃ r : Loop, r = { state := .ready, pending := none, fn, tmps := a.tmps, params := ps, assign, body, defers := w.heap.size } := ⟨_, rfl⟩
  have hr0 : ({ r with state := .ready, pending := none } : Loop) = r := by rw [hr]
  obtain ⟨w1, hw1⟩ : ∃ w1, w1 = (w.alloc (.deferred (some []))).alloc (.loop r) := ⟨_, rfl⟩
  have hbk : Book r (w.heap.size + 1) w.heap.size .ready none w1 := by
    constructor
    · rw [hr0, hw1]
      have := World.alloc_heap_new (w.alloc (.deferred (some []))) (.loop r)
      rwa [World.size_alloc] at this
    · rw [hw1]
      exact (Below.heap_alloc _ _ _ (by simp)).trans (World.alloc_heap_new w _)
  have hb1 : Below w.heap.size w w1 := by
    rw [hw1]
    exact ((Below.refl _ w).alloc (Nat.le_refl _) _).alloc (by simp) _
  refine ⟨w.heap.size + 1, [{ target := .collected w.heap.size, args := #[] }], w1, { target := .fn (.func gf) lb, args := #[.func (.yield (w.heap.size + 1)) #[] #[]] }, w1, gf,
    #[.func (.yield (w.heap.size + 1)) #[] #[]] ++ lb, w1, ?_, ?_, fun _ _ => trivial, ?_, (fun _ => by omega), ?_⟩
  · rw [hw1, hr]
    exact run_enterLoop_outer _ _ _ _ _
  · simp only [resolve, hg]
    simp [go_sem]
  · simp [invoke, go_sem, eg]
  · refine (hseq (w.heap.size + 1) (fun s W => w.heap.size ≤ W.heap.size ∧ I s W ∧ Book r (w.heap.size + 1) w.heap.size .ready none W)
      (fun s W => w.heap.size ≤ W.heap.size ∧ ∃ c, Ix c s W ∧ Book r (w.heap.size + 1) w.heap.size .done (some c) W) w1 hb1
      (fun s X Y h hb => ⟨Nat.le_trans h.1 hb.size, hI s X Y h.2.1 h.1 (.of_below hb), h.2.2.below hb⟩)
      (fun s X Y h hb => by obtain ⟨hs, c, h1, h2⟩ := h; exact ⟨Nat.le_trans hs hb.size, c, hIx c s X Y h1 hs (.of_below hb), h2.below hb⟩)
      ?_ ⟨hb1.size, hI [] w w1 h0 (Nat.le_refl _) (.of_below hb1), hbk⟩).mono ?_
    · rintro pre x W ⟨hs, hi, hbo⟩ hx hSx
      have hl := hbo.1
      have hy := run_yield (P := P) (args := encs x) hl (by rw [hr]; exact hps x)
      rw [hr] at hy
      refine ⟨fn, _, assign, body, hy, roundIn_of_wpIn trivial (hassign _ x W _ ⟨_, run_beginRound hl rfl, ?_⟩)⟩
      have hf : Firm w.heap.size W (W.putObj (w.heap.size + 1) (.loop { r with state := .busy, pending := none })) := .put _ _ (Nat.le_succ _) hl rfl
      have hbu := hbo.turn (by omega) .busy none
      have hs2 := Nat.le_trans hs hf.size
      refine wpIn_mono (hbody _ pre x _ hs2 (hI _ _ _ hi hs hf) (hPx _ _ _ hx hf) hSx) ?_
      intro e a3 W3 hp
      have fin := fun (hk : KeepsFrom w.heap.size (W.putObj (w.heap.size + 1) (.loop { r with state := .busy, pending := none })) W3) (j : Option Code) =>
        hbu.ends (P := P) hk (Nat.le_succ _) (Nat.le_refl _) (by omega) j
      cases e with
      | normal =>
        obtain ⟨hk, hq, hi3⟩ := hp
        obtain ⟨W4, h1, h2, h3⟩ := fin hk none
        have hs3 := Nat.le_trans hs2 hk.size
        exact ⟨_, W4, h1, .inl ⟨rfl, ⟨Nat.le_trans hs3 h2.size, hI _ _ _ hi3 hs3 h2, h3⟩, hKt (hKf hs hf) (hKt hq (hKf hs3 h2))⟩⟩
      | ret =>
        obtain ⟨hk, hi3⟩ := hp
        obtain ⟨W4, h1, h2, h3⟩ := fin hk (some .ret)
        have hs3 := Nat.le_trans hs2 hk.size
        exact ⟨_, W4, h1, .inr ⟨rfl, Nat.le_trans hs3 h2.size, _, hIx _ _ _ _ hi3 hs3 h2, h3⟩⟩
      | exit id =>
        obtain ⟨hk, hi3⟩ := hp
        obtain ⟨W4, h1, h2, h3⟩ := fin hk (some (.exit id))
        have hs3 := Nat.le_trans hs2 hk.size
        exact ⟨_, W4, h1, .inr ⟨rfl, Nat.le_trans hs3 h2.size, _, hIx _ _ _ _ hi3 hs3 h2, h3⟩⟩
      | goto t =>
        obtain ⟨hk, hi3⟩ := hp
        obtain ⟨W4, h1, h2, h3⟩ := fin hk (some (.goto t))
        have hs3 := Nat.le_trans hs2 hk.size
        exact ⟨_, W4, h1, .inr ⟨rfl, Nat.le_trans hs3 h2.size, _, hIx _ _ _ _ hi3 hs3 h2, h3⟩⟩
      | panic ch => exact hp.elim
      | outgrown => exact hp.elim
    · rintro e W2 ⟨⟨v, rfl⟩, (⟨xs, hS, hs, hi, hbo⟩ | ⟨pre, hS, hs, c, hi, hbo⟩)⟩
      · refine ⟨none, _, run_endLoop hbo.1 (by simp), hdone _ xs _ (Nat.le_refl _) hS (hI _ _ _ hi hs (.put _ _ (Nat.le_succ _) hbo.1 rfl)) ((World.putObj_heap_other (by omega)).trans hbo.2)⟩
      · refine ⟨some c, _, run_endLoop hbo.1 (by simp), (wpIn_wide (n := 4)).2 (hstop _ c pre _ (Nat.le_refl _) hS (hIx _ _ _ _ hi hs (.put _ _ (Nat.le_succ _) hbo.1 rfl)) ((World.putObj_heap_other (by omega)).trans hbo.2))⟩
end
end Go.Proofs.YtdaecfgjfdikbaaGreatDoor
