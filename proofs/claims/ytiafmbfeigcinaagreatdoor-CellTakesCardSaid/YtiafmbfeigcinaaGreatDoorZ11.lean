/-
  What a walk has of its own: things that lie apart in memory, each on blocks of its own.
  Layer 5: what the code's functions promise, as the statements' walks take it.
  What a walk within a walk has made.
-/
import Derived.Test.YtiafmbfeigcinaaGreatDoorZ03
import Derived.Test.YtiafmbfeigcinaaGreatDoorZ02
set_option linter.unusedVariables false
namespace Go.Proofs.YtiafmbfeigcinaaGreatDoor
open Go.RowKit

/-- What lies in memory on the blocks F: it stays while these stay. -/
structure As where
  p : World → (Nat → Prop) → Prop
  on : ∀ {V V' : World} {F : Nat → Prop}, p V F → V.heap.size ≤ V'.heap.size → (∀ k, F k → V'.heap[k]? = V.heap[k]?) → p V' F
  lt : ∀ {V : World} {F : Nat → Prop}, p V F → ∀ k, F k → k < V.heap.size
def Sep (V : World) : List As → (Nat → Prop) → Prop
  | [], F => ∀ k, ¬ F k
  | A :: l, F => ∃ F1 F2, A.p V F1 ∧ Sep V l F2 ∧ (∀ k, F1 k → ¬ F2 k) ∧ ∀ k, F k ↔ F1 k ∨ F2 k
/-- What the walk has, each apart; nothing older has changed. -/
def Has (w : World) (l : List As) (V : World) : Prop := (∃ F, Sep V l F ∧ ∀ k, F k → w.heap.size ≤ k) ∧ Below w.heap.size w V
section
variable {w V V' : World} {l l' : List As} {A A' B C : As} {F : Nat → Prop}
theorem Sep.on {F : Nat → Prop} (h : Sep V l F) (hs : V.heap.size ≤ V'.heap.size) (hk : ∀ k, F k → V'.heap[k]? = V.heap[k]?) : Sep V' l F := by
  induction l generalizing F with
  | nil => exact h
  | cons A l ih =>
    obtain ⟨F1, F2, h1, h2, h3, h4⟩ := h
    exact ⟨F1, F2, A.on h1 hs (fun k e => hk k ((h4 k).2 (.inl e))), ih h2 (fun k e => hk k ((h4 k).2 (.inr e))), h3, h4⟩
theorem Sep.lt {F : Nat → Prop} (h : Sep V l F) : ∀ k, F k → k < V.heap.size := by
  induction l generalizing F with
  | nil => exact fun k e => absurd e (h k)
  | cons A l ih =>
    obtain ⟨F1, F2, h1, h2, h3, h4⟩ := h
    intro k e
    rcases (h4 k).1 e with e | e
    · exact A.lt h1 k e
    · exact ih h2 k e
theorem Has.bel (h : Has w l V) : Below w.heap.size w V := h.2
theorem Has.size (h : Has w l V) : w.heap.size ≤ V.heap.size := h.2.size
theorem Has.nil (h : Below w.heap.size w V) : Has w [] V := ⟨⟨fun _ => False, fun k e => e, fun k e => e.elim⟩, h⟩
theorem Has.keep (h : Has w l V) (hb : Below V.heap.size V V') : Has w l V' := by
  obtain ⟨⟨F, h1, h2⟩, h3⟩ := h
  exact ⟨⟨F, h1.on hb.size (fun k e => hb.block k (h1.lt k e)), h2⟩, h3.trans (hb.mono h3.size)⟩
theorem Has.alloc (h : Has w l V) (o : Obj) : Has w l (V.alloc o) := h.keep ((Below.refl _ _).alloc (Nat.le_refl _) o)
theorem Has.drewN (h : Has w l V) (n : Nat) : Has w l (V.drewN n) := h.keep ⟨rfl, rfl, rfl, Nat.le_refl _, fun _ _ => rfl⟩
theorem Has.drew (h : Has w l V) : Has w l V.drew := h.keep ⟨rfl, rfl, rfl, Nat.le_refl _, fun _ _ => rfl⟩
theorem Has.get (h : Has w (A :: l) V) : ∃ F, A.p V F ∧ (∀ k, F k → w.heap.size ≤ k) := by
  obtain ⟨⟨F, ⟨F1, F2, h1, h2, h3, h4⟩, h5⟩, h6⟩ := h
  exact ⟨F1, h1, fun k e => h5 k ((h4 k).2 (.inl e))⟩
/-- The first thing turns. -/
theorem Has.step (h : Has w (A :: l) V) : ∃ F, A.p V F ∧ (∀ k, F k → w.heap.size ≤ k) ∧ ∀ (V' : World) (A' : As) (F' : Nat → Prop), Grow F V V' → A'.p V' F' → (∀ k, F' k → nF F V V' k) → Has w (A' :: l) V' := by
  obtain ⟨⟨F, ⟨F1, F2, h1, h2, h3, h4⟩, h5⟩, h6⟩ := h
  refine ⟨F1, h1, fun k e => h5 k ((h4 k).2 (.inl e)), fun V' A' F' hG hA hF => ?_⟩
  have hlt2 := h2.lt
  refine ⟨⟨fun k => F' k ∨ F2 k, ⟨F', F2, hA, h2.on hG.size (fun k e => hG.block k (hlt2 k e) (fun e1 => h3 k e1 e)), fun k e e2 => ?_, fun k => Iff.rfl⟩, fun k e => ?_⟩, hG.below h6 h6.size (fun k e => h5 k ((h4 k).2 (.inl e)))⟩
  · rcases hF k e with e1 | e1
    · exact h3 k e1 e2
    · have := hlt2 k e2; omega
  · rcases e with e | e
    · rcases hF k e with e1 | e1
      · exact h5 k ((h4 k).2 (.inl e1))
      · exact Nat.le_trans h6.size e1.1
    · exact h5 k ((h4 k).2 (.inr e))
theorem Has.turn (h : Has w (A :: l) V) {f : FuncId} {args : Array Value} {v : Value}
    (hc : ∀ F, A.p V F → Calls Tryz.prog f args V fun e w' => e = .returned v ∧ ∃ F', A'.p w' F' ∧ Grow F V w' ∧ ∀ k, F' k → nF F V w' k) :
    Calls Tryz.prog f args V fun e w' => e = .returned v ∧ Has w (A' :: l) w' := by
  obtain ⟨F, h1, _, h2⟩ := h.step
  refine (hc F h1).mono ?_
  rintro e w' ⟨rfl, F', h3, h4, h5⟩
  exact ⟨rfl, h2 w' A' F' h4 h3 h5⟩
/-- A new thing. -/
theorem Has.new (h : Has w l V) (hb : Below V.heap.size V V') (hA : A.p V' F) (hF : ∀ k, F k → V.heap.size ≤ k) : Has w (A :: l) V' := by
  obtain ⟨⟨F2, h1, h2⟩, h3⟩ := h
  have hlt := h1.lt
  refine ⟨⟨fun k => F k ∨ F2 k, ⟨F, F2, hA, h1.on hb.size (fun k e => hb.block k (hlt k e)), fun k e e2 => ?_, fun k => Iff.rfl⟩, fun k e => ?_⟩, h3.trans (hb.mono h3.size)⟩
  · have := hF k e
    have := hlt k e2
    omega
  · rcases e with e | e
    · exact Nat.le_trans h3.size (hF k e)
    · exact h2 k e
theorem Has.tail (h : Has w (A :: l) V) : Has w l V := by
  obtain ⟨⟨F, ⟨F1, F2, h1, h2, h3, h4⟩, h5⟩, h6⟩ := h
  exact ⟨⟨F2, h2, fun k e => h5 k ((h4 k).2 (.inr e))⟩, h6⟩
/-- What is told of the first thing as something else. -/
theorem Has.imp (h : Has w (A :: l) V) (hi : ∀ F, A.p V F → A'.p V F) : Has w (A' :: l) V := by
  obtain ⟨⟨F, ⟨F1, F2, h1, h2, h3, h4⟩, h5⟩, h6⟩ := h
  exact ⟨⟨F, ⟨F1, F2, hi F1 h1, h2, h3, h4⟩, h5⟩, h6⟩
theorem Sep.perm (hp : l.Perm l') : ∀ {F : Nat → Prop}, Sep V l F → Sep V l' F := by
  induction hp with
  | nil => exact fun h => h
  | cons A _ ih => rintro F ⟨F1, F2, h1, h2, h3, h4⟩; exact ⟨F1, F2, h1, ih h2, h3, h4⟩
  | swap A B l =>
    rintro F ⟨F1, F2, h1, ⟨F3, F4, h2, h5, h6, h7⟩, h3, h4⟩
    refine ⟨F3, fun k => F1 k ∨ F4 k, h2, ⟨F1, F4, h1, h5, fun k e e2 => h3 k e ((h7 k).2 (.inr e2)), fun k => Iff.rfl⟩, fun k e e2 => ?_, fun k => ?_⟩
    · rcases e2 with e2 | e2
      · exact h3 k e2 ((h7 k).2 (.inl e))
      · exact h6 k e e2
    · rw [h4, h7]
      constructor
      · rintro (e | e | e)
        · exact .inr (.inl e)
        · exact .inl e
        · exact .inr (.inr e)
      · rintro (e | e | e)
        · exact .inr (.inl e)
        · exact .inl e
        · exact .inr (.inr e)
  | trans _ _ ih1 ih2 => exact fun h => ih2 (ih1 h)
theorem Has.perm (h : Has w l V) (hp : l.Perm l') : Has w l' V := ⟨let ⟨F, h1, h2⟩ := h.1; ⟨F, h1.perm hp, h2⟩, h.2⟩
theorem Has.swap (h : Has w (A :: B :: l) V) : Has w (B :: A :: l) V := h.perm (List.Perm.swap B A l)
theorem Has.rot3 (h : Has w (A :: B :: C :: l) V) : Has w (C :: A :: B :: l) V := h.perm ((List.Perm.cons A (List.Perm.swap C B l)).trans (List.Perm.swap C A (B :: l)))
/-- From a walk within a walk. -/
theorem Has.base (h : Has V l V') (hb : Below w.heap.size w V) : Has w l V' := ⟨let ⟨F, h1, h2⟩ := h.1; ⟨F, h1, fun k e => Nat.le_trans hb.size (h2 k e)⟩, hb.trans (h.2.mono hb.size)⟩
end

/-- A block that is known whole. -/
def blkA (g : Nat) (t : TypeId) (cs : Array Value) : As where
  p V F := Blk V g t cs ∧ ∀ k, F k ↔ k = g
  on h _ hk := ⟨(hk _ ((h.2 _).2 rfl)).trans h.1, h.2⟩
  lt h k e := ((h.2 k).1 e) ▸ h.1.lt
/-- A row of its own. -/
def rowA (E : TypeId) (size : Nat) (v : Value) (n : Nat) (xs : List Value) : As where
  p V F := V.ownsRow 0 E size v n xs ∧ ∀ k, F k ↔ v.ownBlock = some k
  on {V V' F} h _ hk := ⟨⟨h.1.1, h.1.2.elim .inl (fun ⟨q, cap, cur, e, hq, hh, r⟩ => .inr ⟨q, cap, cur, e, hq, (hk q ((h.2 q).2 (by rw [e]; rfl))).trans hh, r⟩)⟩, h.2⟩
  lt {V F} h k e := by
    have e2 := (h.2 k).1 e
    rcases h.1.2 with ⟨rfl, _⟩ | ⟨q, cap, cur, rfl, hq, hh, _⟩
    · cases e2
    · have e3 : some q = some k := e2
      injection e3 with e3
      subst e3
      exact (Array.getElem?_eq_some_iff.1 hh).1
section
variable {w V V' : World} {l : List As}
theorem Has.newBlk (h : Has w l V) (t : TypeId) (cs : Array Value) : Has w (blkA V.heap.size t cs :: l) (V.alloc (.cells cs t)) :=
  h.new (F := fun k => k = V.heap.size) ((Below.refl _ _).alloc (Nat.le_refl _) _) ⟨Blk.new V t cs, fun k => Iff.rfl⟩ (fun k e => Nat.le_of_eq e.symm)
theorem Has.blk {g : Nat} {t : TypeId} {cs : Array Value} (h : Has w (blkA g t cs :: l) V) : Blk V g t cs ∧ w.heap.size ≤ g := by
  obtain ⟨F, h1, h2⟩ := h.get
  exact ⟨h1.1, h2 g ((h1.2 g).2 rfl)⟩
theorem Has.setBlk {g : Nat} {t : TypeId} {cs : Array Value} (h : Has w (blkA g t cs :: l) V) (i : Nat) (u : Value) : Has w (blkA g t (cs.setIfInBounds i u) :: l) (V.setCell ⟨g, i, none⟩ u) := by
  obtain ⟨F, h1, _, h2⟩ := h.step
  refine h2 _ _ F ((Grow.refl F V).set (.inl ((h1.2 g).2 rfl)) u) ⟨h1.1.set_ i u, h1.2⟩ (fun k e => .inl e)
theorem Has.rowNil (h : Has w l V) (E : TypeId) (size : Nat) : Has w (rowA E size (.slice none 0 0) 0 [] :: l) V :=
  h.new (F := fun _ => False) (Below.refl _ _) ⟨World.ownsRow_nil V 0 E size, fun k => ⟨fun e => e.elim, fun e => nomatch e⟩⟩ (fun k e => e.elim)
end
end Go.Proofs.YtiafmbfeigcinaaGreatDoor
set_option linter.unusedVariables false
namespace Go.Proofs.YtiafmbfeigcinaaGreatDoor
open Go.RowKit

/-- A stamp's value. -/
abbrev sv (a b : Int) : Value := .agg #[.int .i64 a, .int .i64 b]

/-- A list of stamps. -/
def Stamps (w : World) (A : Option Addr) (n : Nat) (l : List (Int × Int)) : Prop :=
  l.length = n ∧ (0 < n → ∃ b o, A = some ⟨b, o, none⟩ ∧ ∀ i, (h : i < l.length) → w.cell? ⟨b, o + i * 2, none⟩ = some (.int .i64 l[i].1) ∧ w.cell? ⟨b, o + i * 2 + 1, none⟩ = some (.int .i64 l[i].2))
theorem Stamps.nil (w : World) (A : Option Addr) : Stamps w A 0 [] := ⟨rfl, fun h => absurd h (by omega)⟩
theorem Stamps.keep {w w' : World} {A : Option Addr} {n : Nat} {l : List (Int × Int)} (h : Stamps w A n l) (hk : ∀ p : Addr, p.block < w.heap.size → w'.cell? p = w.cell? p) : Stamps w' A n l := by
  refine ⟨h.1, fun hn => ?_⟩
  obtain ⟨b, o, e, hc⟩ := h.2 hn
  refine ⟨b, o, e, fun i hi => ?_⟩
  obtain ⟨h1, h2⟩ := hc i hi
  exact ⟨by rw [hk _ (World.block_lt_of_cell? w _ h1)]; exact h1, by rw [hk _ (World.block_lt_of_cell? w _ h2)]; exact h2⟩
theorem Stamps.below' {w w' : World} {A : Option Addr} {n : Nat} {l : List (Int × Int)} (h : Stamps w A n l) (hb : Below w.heap.size w w') : Stamps w' A n l := h.keep fun _ hp => hb.cell hp
theorem Stamps.drewN {w : World} {A : Option Addr} {n : Nat} {l : List (Int × Int)} (h : Stamps w A n l) (k : Nat) : Stamps (w.drewN k) A n l := h
theorem Stamps.upto {w : World} {A : Option Addr} {n : Nat} {l : List (Int × Int)} (h : Stamps w A n l) (k : Nat) (hk : k ≤ n) : Stamps w A k (l.take k) := by
  have hl := h.1
  refine ⟨by rw [List.length_take]; omega, fun h0 => ?_⟩
  obtain ⟨b, o, e, hc⟩ := h.2 (by omega)
  refine ⟨b, o, e, fun i hi => ?_⟩
  have := hc i (by simp at hi; omega)
  simpa using this

def CheckOk : Prop := ∀ (a b : Int) (w : World), Calls Tryz.prog 86 #[sv a b] w fun e w' => e = .returned (.int .i64 (ck a b)) ∧ Below w.heap.size w w'
def LessOk : Prop := ∀ (a b c d : Int) (w : World), Calls Tryz.prog 107 #[sv a b, sv c d] w fun e w' => e = .returned (.bool (lt (a, b) (c, d))) ∧ Below w.heap.size w w'
def MaxOk : Prop := ∀ (A : Option Addr) (n c : Nat) (l : List (Int × Int)) (w : World), Stamps w A n l → n ≤ 9223372036854775807 → Calls Tryz.prog 60 #[.slice A n c] w fun e w' => e = .returned (sv (mx l).1 (mx l).2) ∧ Below w.heap.size w w'
end Go.Proofs.YtiafmbfeigcinaaGreatDoor
set_option linter.unusedVariables false
namespace Go.Proofs.YtiafmbfeigcinaaGreatDoor
open Go.RowKit

section
variable {w V V' : World} {l l' : List As} {A : As}
theorem Sep.congr {F G : Nat → Prop} (h : Sep V l F) (e : ∀ k, F k ↔ G k) : Sep V l G := by
  cases l with
  | nil => exact fun k hk => h k ((e k).2 hk)
  | cons A l =>
    obtain ⟨F1, F2, h1, h2, h3, h4⟩ := h
    exact ⟨F1, F2, h1, h2, h3, fun k => (e k).symm.trans (h4 k)⟩
theorem Sep.app {F G : Nat → Prop} (h : Sep V l F) (h2 : Sep V l' G) (hd : ∀ k, F k → ¬ G k) : Sep V (l ++ l') (fun k => F k ∨ G k) := by
  induction l generalizing F with
  | nil => exact h2.congr (fun k => ⟨.inr, fun e => e.elim (fun e => absurd e (h k)) id⟩)
  | cons A l ih =>
    obtain ⟨F1, F2, h1, h3, h4, h5⟩ := h
    refine ⟨F1, _, h1, ih h3 (fun k e => hd k ((h5 k).2 (.inr e))), fun k e e2 => ?_, fun k => ?_⟩
    · rcases e2 with e2 | e2
      · exact h4 k e e2
      · exact hd k ((h5 k).2 (.inl e)) e2
    · show (F k ∨ G k) ↔ _
      rw [h5]
      exact or_assoc
/-- What a walk within a walk has made. -/
theorem Has.join (h : Has w l V) (h2 : Has V l' V') : Has w (l' ++ l) V' := by
  obtain ⟨⟨F, h1, h3⟩, h4⟩ := h
  obtain ⟨⟨G, h5, h6⟩, h7⟩ := h2
  have hlt := h1.lt
  have hk := h1.on h7.size (fun k e => h7.block k (hlt k e))
  refine ⟨⟨_, h5.app hk (fun k e e2 => by have := h6 k e; have := hlt k e2; omega), fun k e => ?_⟩, h4.trans (h7.mono h4.size)⟩
  rcases e with e | e
  · exact Nat.le_trans h4.size (h6 k e)
  · exact h3 k e
end
end Go.Proofs.YtiafmbfeigcinaaGreatDoor
