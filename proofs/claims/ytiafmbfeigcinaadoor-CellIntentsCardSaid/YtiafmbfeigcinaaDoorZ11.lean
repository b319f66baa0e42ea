/-
  Layer 11: how changes, writes, intents and records lie in memory; what is looked through by a function.
-/
import Derived.Test.YtiafmbfeigcinaaDoorZ09
import Derived.Test.YtiafmbfeigcinaaDoorZ03
import Derived.Test.YtiafmbfeigcinaaDoorZ10
set_option linter.unusedVariables false
namespace Go.Proofs.YtiafmbfeigcinaaDoor
open Go.RowKit

abbrev chv (c : Ch) : Value := .agg #[.int .i64 c.q, .string c.s, .bool c.d]
abbrev wtv (c : Wt) : Value := .agg #[.string c.k, .int .i64 c.q]
def chc (c : Ch) : List Value := [.int .i64 c.q, .string c.s, .bool c.d]
def wtc (c : Wt) : List Value := [.string c.k, .int .i64 c.q]
abbrev itc (x : It) (v : Value) : Array Value := #[.int .i64 x.id, .int .i64 x.ep, .int .i64 x.pr, .string x.an, .int .i64 x.sw, .int .i64 x.sl, .int .i64 x.bw, .int .i64 x.bl, v]
abbrev itv (x : It) (v : Value) : Value := .agg (itc x v)
abbrev rcc (x : Rc) (v : Value) : Array Value := #[.int .i64 x.id, .int .i64 x.ep, .int .i64 x.st, .int .i64 x.pr, .string x.an, .int .i64 x.sw, .int .i64 x.sl, .int .i64 x.bw, .int .i64 x.bl, v]
abbrev rcv (x : Rc) (v : Value) : Value := .agg (rcc x v)

/-- Changes in memory; writes; numbers. -/
def ChAt (w : World) (A : Option Addr) (n : Nat) (l : List Ch) : Prop :=
  l.length = n ∧ (0 < n → ∃ b o, A = some ⟨b, o, none⟩ ∧ ∀ i (h : i < l.length), w.cell? ⟨b, o + i * 3, none⟩ = some (.int .i64 (l[i]'h).q) ∧ w.cell? ⟨b, o + i * 3 + 1, none⟩ = some (.string (l[i]'h).s) ∧ w.cell? ⟨b, o + i * 3 + 2, none⟩ = some (.bool (l[i]'h).d))
def WtAt (w : World) (A : Option Addr) (n : Nat) (l : List Wt) : Prop :=
  l.length = n ∧ (0 < n → ∃ b o, A = some ⟨b, o, none⟩ ∧ ∀ i (h : i < l.length), w.cell? ⟨b, o + i * 2, none⟩ = some (.string (l[i]'h).k) ∧ w.cell? ⟨b, o + i * 2 + 1, none⟩ = some (.int .i64 (l[i]'h).q))
def IAt (w : World) (A : Option Addr) (n : Nat) (l : List Int) : Prop :=
  l.length = n ∧ (0 < n → ∃ b o, A = some ⟨b, o, none⟩ ∧ ∀ i (h : i < l.length), w.cell? ⟨b, o + i, none⟩ = some (.int .i64 (l[i]'h)))
theorem ChAt.keep {w w' : World} {A : Option Addr} {n : Nat} {l : List Ch} (h : ChAt w A n l) (hk : ∀ a, A = some a → ∀ j v, w.cell? ⟨a.block, j, none⟩ = some v → w'.cell? ⟨a.block, j, none⟩ = some v) : ChAt w' A n l := by
  refine ⟨h.1, fun hn => ?_⟩
  obtain ⟨b, o, e, hc⟩ := h.2 hn
  refine ⟨b, o, e, fun i hi => ?_⟩
  obtain ⟨h1, h2, h3⟩ := hc i hi
  exact ⟨hk _ e _ _ h1, hk _ e _ _ h2, hk _ e _ _ h3⟩
theorem WtAt.keep {w w' : World} {A : Option Addr} {n : Nat} {l : List Wt} (h : WtAt w A n l) (hk : ∀ a, A = some a → ∀ j v, w.cell? ⟨a.block, j, none⟩ = some v → w'.cell? ⟨a.block, j, none⟩ = some v) : WtAt w' A n l := by
  refine ⟨h.1, fun hn => ?_⟩
  obtain ⟨b, o, e, hc⟩ := h.2 hn
  refine ⟨b, o, e, fun i hi => ?_⟩
  obtain ⟨h1, h2⟩ := hc i hi
  exact ⟨hk _ e _ _ h1, hk _ e _ _ h2⟩
theorem IAt.keep {w w' : World} {A : Option Addr} {n : Nat} {l : List Int} (h : IAt w A n l) (hk : ∀ a, A = some a → ∀ j v, w.cell? ⟨a.block, j, none⟩ = some v → w'.cell? ⟨a.block, j, none⟩ = some v) : IAt w' A n l := by
  refine ⟨h.1, fun hn => ?_⟩
  obtain ⟨b, o, e, hc⟩ := h.2 hn
  exact ⟨b, o, e, fun i hi => hk _ e _ _ (hc i hi)⟩
theorem kept_below {w w' : World} (hb : Below w.heap.size w w') (p : Addr) (v : Value) (h : w.cell? p = some v) : w'.cell? p = some v := (hb.cell (World.block_lt_of_cell? w _ h)).trans h
theorem ChAt.below {w w' : World} {A : Option Addr} {n : Nat} {l : List Ch} (h : ChAt w A n l) (hb : Below w.heap.size w w') : ChAt w' A n l := h.keep fun _ _ _ _ hv => kept_below hb _ _ hv
theorem WtAt.below {w w' : World} {A : Option Addr} {n : Nat} {l : List Wt} (h : WtAt w A n l) (hb : Below w.heap.size w w') : WtAt w' A n l := h.keep fun _ _ _ _ hv => kept_below hb _ _ hv
theorem IAt.below {w w' : World} {A : Option Addr} {n : Nat} {l : List Int} (h : IAt w A n l) (hb : Below w.heap.size w w') : IAt w' A n l := h.keep fun _ _ _ _ hv => kept_below hb _ _ hv
theorem ChAt.nil (w : World) (A : Option Addr) : ChAt w A 0 [] := ⟨rfl, fun h => absurd h (by omega)⟩
theorem WtAt.nil (w : World) (A : Option Addr) : WtAt w A 0 [] := ⟨rfl, fun h => absurd h (by omega)⟩

/-- What a function that looks at one behind the other says of all. -/
def scan {S E : Type} (ok : S → E → Bool) (nx : S → E → S) : S → List E → Bool
  | _, [] => true
  | s, c :: l => ok s c && scan ok nx (nx s c) l
theorem scan_rise : ∀ (a : Int) (l : List Ch), scan okCh (fun _ c => c.q) a l = rise a l
  | _, [] => rfl
  | a, c :: l => by rw [scan, rise, scan_rise]
theorem scan_riseW : ∀ (a : ByteArray) (l : List Wt), scan okWt (fun _ c => c.k) a l = riseW a l
  | _, [] => rfl
  | a, c :: l => by rw [scan, riseW, scan_riseW]
def mayP (p : Int × Int) : Bool := may p.1 p.2
theorem scan_all : ∀ (l : List (Int × Int)), scan (fun (_ : Unit) p => mayP p) (fun u _ => u) () l = l.all mayP
  | [] => rfl
  | c :: l => by rw [scan, List.all_cons, scan_all]
end Go.Proofs.YtiafmbfeigcinaaDoor
