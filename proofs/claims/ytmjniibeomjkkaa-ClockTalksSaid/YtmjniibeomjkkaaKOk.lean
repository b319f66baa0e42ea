/-
  Layer 6: how the code's clock lies in memory, and what its calls promise, as the statements' walks take it.
-/
import Derived.Test.YtmjniibeomjkkaaKRep
set_option linter.unusedVariables false
namespace Go.Proofs.Ytmjniibeomjkkaa
open Go.RowKit

/-! ### the code's clock in memory (of the code that landed) -/
def ccells (c : Ck) : Array Value := #[.bool true, .int .i64 c.off, .int .i64 c.fst, .int .i64 c.rd, .int .i64 c.most, .int .i64 c.s1, .int .i64 c.s2]
def zcells : Array Value := #[.bool false, .int .i64 0, .int .i64 0, .int .i64 0, .int .i64 0, .int .i64 0, .int .i64 0]
def Clk (w : World) (g : Nat) (c : Ck) : Prop := w.heap[g]? = some (.cells (ccells c) 58 (0, 0)) ∧ c.ok
/-- A clock that is none: nil, or a zero one. -/
def NoClk (w : World) (v : Value) : Prop := v = .pointer none ∨ ∃ g, v = .pointer (some ⟨g, 0, none⟩) ∧ w.heap[g]? = some (.cells zcells 58 (0, 0))
theorem NoClk.nil (w : World) : NoClk w (.pointer none) := .inl rfl
theorem NoClk.new (w : World) : NoClk (w.alloc (.cells zcells 58)) (.pointer (some ⟨w.heap.size, 0, none⟩)) := .inr ⟨_, rfl, heap_alloc_new w _⟩
theorem NoClk.below {w w' : World} {v : Value} (h : NoClk w v) (hb : Below w.heap.size w w') : NoClk w' v := by
  rcases h with h | ⟨g, h, hg⟩
  · exact .inl h
  · exact .inr ⟨g, h, (hb.block g (Array.getElem?_eq_some_iff.1 hg).1).trans hg⟩

section
variable {w w' : World} {g g' : Nat} {c : Ck}
theorem Clk.ok (h : Clk w g c) : c.ok := h.2
theorem Clk.lt (h : Clk w g c) : g < w.heap.size := (Array.getElem?_eq_some_iff.1 h.1).1
theorem Clk.keep (h : Clk w g c) (hb : w'.heap[g]? = w.heap[g]?) : Clk w' g c := ⟨hb.trans h.1, h.2⟩
theorem Clk.below (h : Clk w g c) (hb : Below w.heap.size w w') : Clk w' g c := h.keep (hb.block g h.lt)
theorem Clk.other (h : Clk w g c) (hb : w.grownBy w' (some g')) (hn : g ≠ g') : Clk w' g c := h.keep (hb.block g h.lt (fun e => hn (Option.some.inj e)))
theorem Clk.alloc (h : Clk w g c) (o : Obj) : Clk (w.alloc o) g c := h.below ((Below.refl _ _).alloc (Nat.le_refl _) _)
theorem Clk.cell (h : Clk w g c) (i : Nat) : w.cell? ⟨g, i, none⟩ = (ccells c)[i]? := cell_of_row w g i (ccells c) 58 (0, 0) h.1
theorem Clk.fz (h : Clk w g c) (i : Nat) : w.frozen? ⟨g, i, none⟩ = false := by
  obtain ⟨h, _⟩ := h
  simp [World.frozen?, h]
theorem Clk.put (h : Clk w g c) (i : Nat) (v : Value) {c' : Ck} (hc : (ccells c).setIfInBounds i v = ccells c') (ho : c'.ok) : Clk (w.setCell ⟨g, i, none⟩ v) g c' := by
  refine ⟨?_, ho⟩
  have h1 := h.1
  simp only [World.setCell, Array.getElem?_modify, if_true, h1, Option.map_some]
  rw [← hc]
  rfl
theorem Clk.puts (h : Clk w g c) (x y : Int) (ho : ({ c with s1 := x, s2 := y } : Ck).ok) : Clk ((w.setCell ⟨g, 5, none⟩ (.int .i64 x)).setCell ⟨g, 6, none⟩ (.int .i64 y)) g { c with s1 := x, s2 := y } := by
  refine ⟨?_, ho⟩
  have h1 := h.1
  simp only [World.setCell, Array.getElem?_modify, if_true, h1, Option.map_some]
  rfl
theorem Clk.far (h : Clk w g c) {x : Nat} (hx : g ≠ x) (i : Nat) (v : Value) : Clk (w.setCell ⟨x, i, none⟩ v) g c := h.keep (by
  simp only [World.setCell, Array.getElem?_modify]
  rw [if_neg (fun e => hx e.symm)])
end

/-! ### the words -/
abbrev pt (g : Nat) : Value := .pointer (some ⟨g, 0, none⟩)
def Made (o b : Int) (w : World) (e : Ending) (w' : World) : Prop :=
  ∃ g, w.heap.size ≤ g ∧ e = .returned (.tuple #[pt g, .int .i64 0]) ∧ Clk w' g (newC o b) ∧ Below w.heap.size w w'
def NewBad : Prop := ∀ (o b : Int) (w : World), newBad o b = true → Calls Try.prog 9 #[.int .i64 o, .int .i64 b] w fun e w' => e = .returned (.tuple #[.pointer none, .int .i64 9]) ∧ Below w.heap.size w w'
def NewOk : Prop := ∀ (o b : Int) (w : World), newBad o b = false → Calls Try.prog 9 #[.int .i64 o, .int .i64 b] w (Made o b w)
def SetOk : Prop := ∀ (w : World) (g : Nat) (c : Ck) (r : Int), Clk w g c → Calls Try.prog 24 #[pt g, .int .i64 r] w fun e w' => e = .returned (.int .i64 (setE c r)) ∧ Clk w' g (setC c r) ∧ w.grownBy w' (some g)
def RaiseOk : Prop := ∀ (w : World) (g : Nat) (c : Ck) (r : Int), Clk w g c → Calls Try.prog 23 #[pt g, .int .i64 r] w fun e w' => e = .returned (.int .i64 (rseE c r)) ∧ Clk w' g (rseC c r) ∧ w.grownBy w' (some g)
def ReadyOk : Prop := ∀ (w : World) (g : Nat) (c : Ck), Clk w g c → Calls Try.prog 12 #[pt g] w fun e w' => e = .returned (.bool (rdy c)) ∧ Below w.heap.size w w'
def NowOk : Prop := ∀ (w : World) (g : Nat) (c : Ck), Clk w g c → Calls Try.prog 25 #[pt g] w fun e w' => e = .returned (.tuple #[sv (nowR c).1 (nowR c).2.1, .int .i64 (nowR c).2.2]) ∧ Clk w' g (nowC c) ∧ w.grownBy w' (some g)
def SeeOk : Prop := ∀ (w : World) (g : Nat) (c : Ck) (a b : Int), Clk w g c → Calls Try.prog 26 #[pt g, sv a b] w fun e w' => e = .returned (.int .i64 (seeE c a b)) ∧ Clk w' g (seeC c a b) ∧ w.grownBy w' (some g)
def ReadingOk : Prop := ∀ (w : World) (g : Nat) (c : Ck), Clk w g c → Calls Try.prog 14 #[pt g] w fun e w' => e = .returned (.int .i64 c.rd) ∧ Below w.heap.size w w'
def LastOk : Prop := ∀ (w : World) (g : Nat) (c : Ck), Clk w g c → Calls Try.prog 15 #[pt g] w fun e w' => e = .returned (sv c.s1 c.s2) ∧ Below w.heap.size w w'
def BoundOk : Prop := ∀ (w : World) (g : Nat) (c : Ck), Clk w g c → Calls Try.prog 16 #[pt g] w fun e w' => e = .returned (.int .i64 c.most) ∧ Below w.heap.size w w'
/-- What a clock that is none answers. -/
structure NoOk : Prop where
  set : ∀ (w : World) (v : Value) (r : Int), NoClk w v → Calls Try.prog 24 #[v, .int .i64 r] w fun e w' => e = .returned (.int .i64 1) ∧ Below w.heap.size w w'
  raise : ∀ (w : World) (v : Value) (r : Int), NoClk w v → Calls Try.prog 23 #[v, .int .i64 r] w fun e w' => e = .returned (.int .i64 1) ∧ Below w.heap.size w w'
  ready : ∀ (w : World) (v : Value), NoClk w v → Calls Try.prog 12 #[v] w fun e w' => e = .returned (.bool false) ∧ Below w.heap.size w w'
  now : ∀ (w : World) (v : Value), NoClk w v → Calls Try.prog 25 #[v] w fun e w' => e = .returned (.tuple #[sv 0 0, .int .i64 1]) ∧ Below w.heap.size w w'
  see : ∀ (w : World) (v : Value) (a b : Int), NoClk w v → Calls Try.prog 26 #[v, sv a b] w fun e w' => e = .returned (.int .i64 1) ∧ Below w.heap.size w w'
  reading : ∀ (w : World) (v : Value), NoClk w v → Calls Try.prog 14 #[v] w fun e w' => e = .returned (.int .i64 0) ∧ Below w.heap.size w w'
  last : ∀ (w : World) (v : Value), NoClk w v → Calls Try.prog 15 #[v] w fun e w' => e = .returned (sv 0 0) ∧ Below w.heap.size w w'
  bound : ∀ (w : World) (v : Value), NoClk w v → Calls Try.prog 16 #[v] w fun e w' => e = .returned (.int .i64 0) ∧ Below w.heap.size w w'
/-- All that the code's clock owes. -/
structure ClockOk : Prop where
  newBad : NewBad
  new : NewOk
  set : SetOk
  raise : RaiseOk
  ready : ReadyOk
  now : NowOk
  see : SeeOk
  reading : ReadingOk
  last : LastOk
  bound : BoundOk
end Go.Proofs.Ytmjniibeomjkkaa
