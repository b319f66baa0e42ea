/-
  How arguments are opened: a list of changes; a list of batches; each with its sizes.
  Layer 10: what only asks, wherever a thing stands among a walk's own; batches done to both tables.
  Layer 10: changes in a row of the walk's own; a row's cells are written.
-/
import Derived.Test.YtgccichmdddbpaaGreatDoorPL02
import Derived.Test.YtgccichmdddbpaaGreatDoorPL15
import Derived.Lib.SmallJoins
import Derived.Deep.SlicePairs
set_option linter.unusedVariables false
namespace Go.Proofs.YtgccichmdddbpaaGreatDoor
open Go.ChangeShapes Go.WideShapes Go.ChangeAt Go.RowKit Go.Joins Go.Deep

/-- Batches in memory. -/
def BAt (w : World) (A : Option Addr) (n : Nat) (bs : List (List Op_)) : Prop :=
  bs.length = n ∧ (0 < n → ∃ b o, A = some ⟨b, o, none⟩ ∧ ∀ i (h : i < bs.length), ∃ Ai ci, w.cell? ⟨b, o + i, none⟩ = some (.slice Ai (bs[i]'h).length ci) ∧ OAt w Ai (bs[i]'h).length (bs[i]'h) ∧ (bs[i]'h).length ≤ ci ∧ ci ≤ 9223372036854775807)
theorem BAt.below {w w' : World} {A : Option Addr} {n : Nat} {bs : List (List Op_)} (h : BAt w A n bs) (hb : Below w.heap.size w w') : BAt w' A n bs := by
  refine ⟨h.1, fun hn => ?_⟩
  obtain ⟨b, o, e, hc⟩ := h.2 hn
  refine ⟨b, o, e, fun i hi => ?_⟩
  obtain ⟨Ai, ci, h1, h2, h3⟩ := hc i hi
  exact ⟨Ai, ci, (hb.cell (World.block_lt_of_cell? w _ h1)).trans h1, h2.below hb, h3⟩
section
variable {H : Type} {enc : TypeId × Value → H} {w : World} {base : Nat} {held : Bool} {d : DataW H} {p : List MemPlace} {v : Value} {r : Reach} {b0 : Nat} {fuel : Nat} {cs : List Value}
end
end Go.Proofs.YtgccichmdddbpaaGreatDoor
set_option linter.unusedVariables false
namespace Go.Proofs.YtgccichmdddbpaaGreatDoor
open Go.RowKit Go.Shelf

section
variable {w V V' : World} {l T : List As} {p b : Nat} {r r' : List Rw}
end
/-! ### batches -/
section
variable {w V V' : World} {T : List As} {p b : Nat} {r r' : List Rw} {x y : Bool}
/-- Where the two tables stand. -/
def TS (w : World) (p b : Nat) (r r' : List Rw) (T : List As) (x y : Bool) (V : World) : Prop := Has w (tbA p (if x then r' else r) :: rtA b (if y then r' else r) :: T) V
theorem TS.bel (h : TS w p b r r' T x y V) : Below w.heap.size w V := Has.bel h
end
end Go.Proofs.YtgccichmdddbpaaGreatDoor
set_option linter.unusedVariables false
namespace Go.Proofs.YtgccichmdddbpaaGreatDoor
open Go.RowKit Go.Shelf

theorem infoOp : (Tryz.prog.info? 93).map (fun i => (i.zero, i.size, i.bytes)) = some (some (.agg #[.string ByteArray.empty, .string ByteArray.empty, .bool false]), 3, 40) := by kernel_rfl
theorem ofl_one (l : List Op_) : ∀ u ∈ ofl l, u.oneCell' = true := by
  intro u hu
  obtain ⟨x, hx, h2⟩ := List.mem_flatMap.1 hu
  simp only [List.mem_cons, List.not_mem_nil, or_false] at h2
  rcases h2 with rfl | rfl | rfl <;> rfl
theorem OAt.news {w : World} {ad : Addr} {n : Nat} {l : List Op_} (hr : OAt w (some ad) n l) : ∀ j u, (ofl l)[j]? = some u → w.cell? (ad.add j) = some u := by
  intro j u hj
  have hjl : j < (ofl l).length := by
    rcases Nat.lt_or_ge j (ofl l).length with h0 | h0
    · exact h0
    · rw [List.getElem?_eq_none h0] at hj
      cases hj
  rw [ofl_len] at hjl
  have hi2 : j / 3 < l.length := by omega
  obtain ⟨b, o2, hh, hc⟩ := hr.2 (by have := hr.1; omega)
  injection hh with hh
  subst hh
  obtain ⟨c1, c2, c3⟩ := hc (j / 3) hi2
  obtain ⟨g1, g2, g3⟩ := ofl_get l (j / 3) hi2
  rw [Go.WideShapes.add_plain]
  rcases (show j % 3 = 0 ∨ j % 3 = 1 ∨ j % 3 = 2 from by omega) with h0 | h0 | h0
  · rw [show j / 3 * 3 = j by omega] at c1 g1
    rw [hj] at g1
    injection g1 with g1
    rw [c1, g1]
  · rw [show o2 + j / 3 * 3 + 1 = o2 + j by omega] at c2
    rw [show j / 3 * 3 + 1 = j by omega] at g2
    rw [hj] at g2
    injection g2 with g2
    rw [c2, g2]
  · rw [show o2 + j / 3 * 3 + 2 = o2 + j by omega] at c3
    rw [show j / 3 * 3 + 2 = j by omega] at g3
    rw [hj] at g3
    injection g3 with g3
    rw [c3, g3]
def ORow (w : World) (B : Nat) (v : Value) (n : Nat) (l : List Op_) : Prop := w.ownsRow B 93 3 v n (ofl l)
/-- Changes of the walk's own. -/
abbrev opA (v : Value) (l : List Op_) : As := rowA 93 3 v l.length (ofl l)
section
variable {w V V' : World} {l T : List As} {E : TypeId} {size n : Nat} {v : Value} {xs : List Value}
theorem Has.setRow (h : Has w (rowA E size v n xs :: T) V) {q c : Nat} (hv : v = .slice (some ⟨q, 0, none⟩) n c) (i : Nat) (u : Value) : Has w (rowA E size v n (xs.set i u) :: T) (V.setCell ⟨q, i, none⟩ u) := by
  obtain ⟨F, h1, _, h2⟩ := h.step
  have hq : F q := (h1.2 q).2 (by rw [hv]; rfl)
  refine h2 _ _ F ((Grow.refl F V).set (.inl hq) u) ⟨?_, h1.2⟩ (fun k e => .inl e)
  subst hv
  exact (World.ownsRow.stored h1.1 i u).1
theorem Has.newOp (h : Has w T V) {v : Value} {L : List Op_} (hr : ORow V' V.heap.size v L.length L) (hb : Below V.heap.size V V') : Has w (opA v L :: T) V' :=
  h.new (F := fun k => v.ownBlock = some k) hb ⟨row0 hr, fun k => Iff.rfl⟩ (fun k e => (World.ownsRow.lt hr k e).1)
theorem ORow.form {w : World} {B n : Nat} {v : Value} {l : List Op_} (h : ORow w B v n l) : (n = 0 ∧ v = .slice none 0 0) ∨ ∃ q c, v = .slice (some ⟨q, 0, none⟩) n c ∧ n ≤ c ∧ c ≤ 9223372036854775807 := by
  rcases h.2 with ⟨rfl, h0⟩ | ⟨g, cap, cur, rfl, hb, hg, hnc, hcm, _⟩
  · exact .inl ⟨h0, rfl⟩
  · exact .inr ⟨g, cap, rfl, hnc, hcm⟩
theorem OAt.own {V : World} {B n : Nat} {v : Value} {L : List Op_} (h : ORow V B v n L) : ∃ A c, v = .slice A n c ∧ OAt V A n L ∧ n ≤ c ∧ c ≤ 9223372036854775807 ∧ (0 < n → ∃ q, A = some ⟨q, 0, none⟩) ∧ ∀ q, A = some ⟨q, 0, none⟩ → ∀ i, V.frozen? ⟨q, i, none⟩ = false := by
  have hl : L.length = n := by have := h.1; rw [ofl_len] at this; omega
  rcases h.form with ⟨rfl, rfl⟩ | ⟨q, c, rfl, h1, h2⟩
  · obtain rfl : L = [] := List.eq_nil_of_length_eq_zero hl
    exact ⟨none, 0, rfl, OAt.nil _ _, Nat.le_refl _, by omega, fun h => absurd h (Nat.lt_irrefl _), fun q e => nomatch e⟩
  · refine ⟨_, c, rfl, ⟨hl, fun _ => ⟨q, 0, rfl, fun i hi => ?_⟩⟩, h1, h2, fun _ => ⟨q, rfl⟩, fun q' e i => ?_⟩
    · obtain ⟨g1, g2, g3⟩ := ofl_get L i hi
      have c1 := World.ownsRow.cells h (g := q) rfl _ _ g1
      have c2 := World.ownsRow.cells h (g := q) rfl _ _ g2
      have c3 := World.ownsRow.cells h (g := q) rfl _ _ g3
      rw [Go.WideShapes.add_plain] at c1 c2 c3
      exact ⟨c1, by rw [Nat.add_assoc]; exact c2, by rw [Nat.add_assoc]; exact c3⟩
    · injection e with e
      injection e with e
      subst e
      exact World.ownsRow.frozenAt h i
theorem WAt.own {V : World} {B n : Nat} {v : Value} {L : List Rw} (h : RRow V B v n L) : (0 < n → ∃ q c, v = .slice (some ⟨q, 0, none⟩) n c) ∧ ∀ q c, v = .slice (some ⟨q, 0, none⟩) n c → ∀ i, V.frozen? ⟨q, i, none⟩ = false := by
  refine ⟨fun h0 => ?_, fun q c e i => ?_⟩
  · rcases h.2 with ⟨rfl, h1⟩ | ⟨g, cap, cur, rfl, hb, hg, hnc, hcm, _⟩
    · omega
    · exact ⟨g, cap, rfl⟩
  · subst e
    exact World.ownsRow.frozenAt h i
theorem opA_at {W : World} {F : Nat → Prop} {A : Option Addr} {n c : Nat} {L : List Op_} (h : (opA (.slice A n c) L).p W F) (hn : n = L.length) : OAt W A n L := by
  subst hn
  obtain ⟨A2, c2, e, h2, _⟩ := OAt.own (show ORow W 0 (.slice A L.length c) L.length L from h.1)
  injection e with e1 e2 e3
  subst e1
  exact h2
end
end Go.Proofs.YtgccichmdddbpaaGreatDoor
