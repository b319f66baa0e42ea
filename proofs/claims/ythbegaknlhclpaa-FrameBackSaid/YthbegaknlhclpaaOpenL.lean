/-
  How a list of lists of bytes is opened.
-/
import Derived.Test.YthbegaknlhclpaaOpen
import Derived.Test.YthbegaknlhclpaaJoin
import Derived.Test.YthbegaknlhclpaaBulk
import Derived.Deep.Matrix
set_option linter.unusedVariables false
namespace Go.Proofs.Ythbegaknlhclpaa
open Go.ChangeShapes Go.WideShapes Go.ChangeAt Go.RowKit Go.Deep

theorem rows_le {H : Type} (A : Nat → Option Addr) (L : Nat → Nat) (Z : Nat → List Int) (f : Nat → List UInt8) (hf : ∀ r, (f r).length = L r) (n : Nat) (hz : ∀ r, r < n → L r ≤ (Z r).length ∧ (A r = none → L r = 0)) :
    ((List.range n).map f).flatten.length ≤ Rows.uptoBulkAll ((List.range n).map fun r => intRow (H := H) .u8 (A r) (L r) (Z r)) := by
  have key : ∀ l : List Nat, (∀ r ∈ l, r < n) → (l.map f).flatten.length ≤ Rows.uptoBulkAll (l.map fun r => intRow (H := H) .u8 (A r) (L r) (Z r)) := by
    intro l
    induction l with
    | nil => intro _; exact Nat.zero_le _
    | cons r l ih =>
      intro h
      have h1 := ih fun x hx => h x (List.mem_cons_of_mem _ hx)
      have h2 := hz r (h r (List.mem_cons_self ..))
      rw [List.map_cons, List.flatten_cons, List.length_append, List.map_cons, Rows.uptoBulkAll, hf]
      have h3 : L r ≤ Rows.uptoBulk (intRow (H := H) .u8 (A r) (L r) (Z r)) := by
        cases hA : A r with
        | none => rw [h2.2 hA]; exact Nat.zero_le _
        | some a =>
          have h4 := bulks.slice_le (H := H) (lits .u8 ((Z r).take (L r))) (lits .u8 ((Z r).drop (L r)))
          have h5 : (lits (H := H) .u8 ((Z r).take (L r))).length = L r := by simp [lits]; omega
          show L r ≤ Rows.uptoBulk (.slice (lits .u8 ((Z r).take (L r))) (lits .u8 ((Z r).drop (L r))))
          omega
      omega
  exact key _ fun r hr => List.mem_range.1 hr

theorem open_lists {H : Type} {enc : TypeId × Value → H} {P : Program} {W : World} {base : Nat} {sp : Nat → Bool} {held : Bool} {t e q : TypeId} {v : Value} {d : DataW H} {ps : List MemPlace} {r : Reach} {b0 : Nat}
    (ht : P.underlying t = some (.slice e)) (he : P.underlying e = some (.slice q)) (hq : P.underlying q = some (.int .u8)) (ce : P.cellsOf e = 1) (cq : P.cellsOf q = 1)
    (hval : Value.okWide P W r b0 t v) (hd : DataW.Trod enc P W base sp held t v d ps) (hsp : ∀ b, sp b = true) :
    ∃ A n c ls, v = .slice A n c ∧ Lists W A n ls ∧ n ≤ c ∧ (A = none → c = 0) ∧ ∀ K, (∀ elems spare, d = .slice elems spare → Rows.uptoBulkAll elems ≤ K ∧ elems.length + spare.length ≤ K) → c ≤ K ∧ ls.flatten.length ≤ K := by
  obtain ⟨A, n, c, rfl⟩ := okWide_slice ht hval
  obtain ⟨fuel, hf⟩ := hd
  have hsp' : sp = fun _ => true := funext hsp
  subst hsp'
  rcases open_int_rows ht he hq ce cq hf with ⟨hcs, _⟩ | ⟨a, len, cap, A', L, C, Z, hcs, _, hl, hm, hx, hrow⟩
  · simp [Value.cells] at hcs
    obtain ⟨rfl, rfl, rfl⟩ := hcs
    exact ⟨none, 0, 0, [], rfl, ⟨rfl, fun h => absurd h (by omega)⟩, Nat.le_refl _, fun _ => rfl, fun _ _ => ⟨Nat.zero_le _, Nat.zero_le _⟩⟩
  · simp [Value.cells] at hcs
    obtain ⟨rfl, rfl, rfl⟩ := hcs
    have hat : ∀ i, i < n → At W (A' i) (L i) (((Z i).take (L i)).map fun x => UInt8.ofNat x.toNat) := by
      intro i hi
      obtain ⟨_, h2, h3, h4, h5, h6, h7⟩ := hrow i (by omega)
      cases hA : A' i with
      | none =>
        have h8 := h6 hA
        have h9 : L i = 0 := by omega
        rw [h9]
        exact At.nil _ _
      | some a' => exact at_of_ints (by omega) (fun c hc => (h7 a' hA).2 c (by omega)) h5
    have hlen : ∀ i, i < n → (((Z i).take (L i)).map fun x => UInt8.ofNat x.toNat).length = L i := fun i hi => (hat i hi).1
    refine ⟨some a, n, c, (List.range n).map fun i => ((Z i).take (L i)).map fun x => UInt8.ofNat x.toNat, rfl, ⟨by simp, fun h0 => ?_⟩, hl, (fun h => nomatch h), fun K hK => ?_⟩
    · obtain ⟨b, o, s⟩ := a
      have h1 := (hrow 0 (by omega)).1
      obtain rfl : s = none := by simpa [Addr.add] using World.cell?_spot h1
      refine ⟨b, o, rfl, fun i hi => ?_⟩
      have hi' : i < n := by simpa using hi
      have h2 := (hrow i (by omega)).1
      rw [Go.WideShapes.add_plain] at h2
      have h3 := hlen i hi'
      simp only [List.getElem_map, List.getElem_range]
      rw [h3]
      exact ⟨A' i, C i, h2, hat i hi'⟩
    · have hd := congrArg Prod.fst hx
      obtain ⟨h1, h2⟩ := hK _ _ hd
      simp only [List.length_map, List.length_range] at h2
      refine ⟨by omega, Nat.le_trans ?_ h1⟩
      have h3 : ∀ i, i < n → L i ≤ (Z i).length ∧ (A' i = none → L i = 0) := fun i hi => by
        obtain ⟨_, h4, _, h5, _, h6, _⟩ := hrow i (by omega)
        exact ⟨by omega, fun h => by have := h6 h; omega⟩
      have key : ((List.range n).map fun i => ((Z i).take (L i)).map fun x => UInt8.ofNat x.toNat).flatten.length ≤ Rows.uptoBulkAll ((List.range n).map fun r => intRow (H := H) .u8 (A' r) (L r) (Z r)) := by
        have h7 := rows_le (H := H) A' L Z (fun i => (((Z i).take (L i)).map fun x => UInt8.ofNat x.toNat) ++ List.replicate (L i - (Z i).length) 0) (fun i => by simp; omega) n h3
        refine Nat.le_trans (Nat.le_of_eq ?_) h7
        congr 2
        apply List.map_congr_left
        intro i hi
        have := (h3 i (List.mem_range.1 hi)).1
        rw [show L i - (Z i).length = 0 by omega]
        simp
      exact key

/-- The first form: each inner slice's capacity besides. -/
theorem open_listsC {H : Type} {enc : TypeId × Value → H} {P : Program} {W : World} {base : Nat} {sp : Nat → Bool} {held : Bool} {t e q : TypeId} {v : Value} {d : DataW H} {ps : List MemPlace} {r : Reach} {b0 : Nat}
    (ht : P.underlying t = some (.slice e)) (he : P.underlying e = some (.slice q)) (hq : P.underlying q = some (.int .u8)) (ce : P.cellsOf e = 1) (cq : P.cellsOf q = 1)
    (hval : Value.okWide P W r b0 t v) (hd : DataW.Trod enc P W base sp held t v d ps) (hsp : ∀ b, sp b = true) :
    ∃ A n c ls, v = .slice A n c ∧ Lists W A n ls ∧ n ≤ 9223372036854775807 ∧
      ∀ b o i (h : i < ls.length) Ai ci, A = some ⟨b, o, none⟩ → W.cell? ⟨b, o + i, none⟩ = some (.slice Ai ls[i].length ci) → ls[i].length ≤ ci ∧ ci ≤ 9223372036854775807 := by
  obtain ⟨A, n, c, ls, rfl, hL, hnc, hz, _⟩ := open_lists ht he hq ce cq hval hd hsp
  obtain ⟨fuel, hf⟩ := hd
  have hsp' : sp = fun _ => true := funext hsp
  subst hsp'
  have hmax : maxLen ≤ 9223372036854775807 := by decide
  rcases open_int_rows ht he hq ce cq hf with ⟨hcs, _⟩ | ⟨a, len, cap, A', L, C, Z, hcs, _, hl, hm, hx, hrow⟩
  · simp [Value.cells] at hcs
    obtain ⟨rfl, rfl, rfl⟩ := hcs
    exact ⟨none, 0, 0, ls, rfl, hL, by omega, fun b o i h Ai ci hA => nomatch hA⟩
  · simp [Value.cells] at hcs
    obtain ⟨rfl, rfl, rfl⟩ := hcs
    refine ⟨_, _, _, ls, rfl, hL, by omega, fun b o i h Ai ci hA hc => ?_⟩
    cases hA
    have hn := hL.1
    obtain ⟨h1, h2, h3, _⟩ := hrow i (by omega)
    rw [Go.WideShapes.add_plain, hc] at h1
    obtain ⟨_, h4, h5⟩ := Value.slice.inj (Option.some.inj h1)
    exact ⟨by omega, by omega⟩

end Go.Proofs.Ythbegaknlhclpaa
