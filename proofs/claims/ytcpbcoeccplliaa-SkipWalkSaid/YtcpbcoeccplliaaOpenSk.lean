/-
  How arguments are opened: a list of deeds (keys, values, steps).
-/
import Derived.Test.YtcpbcoeccplliaaOpen
import Derived.Test.YtcpbcoeccplliaaSkDone
import Derived.Lib.SmallJoins
import Derived.Deep.SlicePairs
set_option linter.unusedVariables false
namespace Go.Proofs.Ytcpbcoeccplliaa
open Go.ChangeShapes Go.WideShapes Go.ChangeAt Go.RowKit Go.Joins Go.Deep

theorem cellsSd : Try.prog.cellsOf 29 = 4 := by kernel_rfl
theorem cellsSdI : Try.prog.cellsOf 3 = 1 := by kernel_rfl
theorem cellsSdT : Try.prog.cellsOf 9 = 1 := by kernel_rfl
theorem mem_allSd {H : Type} {P : Program} {e : TypeId} {x : Nat} : ∀ {l : List (DataW H)} {d : DataW H}, d ∈ l → x ∈ d.weights P e → x ∈ DataW.weightsAll P e l
  | a :: l, d, h, hx => by
    unfold DataW.weightsAll
    rcases List.mem_cons.1 h with rfl | h
    · exact List.mem_append.2 (.inl hx)
    · exact List.mem_append.2 (.inr (mem_allSd h hx))
theorem four_ {α : Type} {l : List α} (h : l.length = 4) : ∃ a b c d, l = [a, b, c, d] := by
  match l, h with
  | [a, b, c, d], _ => exact ⟨a, b, c, d, rfl⟩
section
variable {H : Type} {enc : TypeId × Value → H} {w : World} {base : Nat} {held : Bool} {d : DataW H} {p : List MemPlace} {v : Value} {r : Reach} {b0 : Nat}
set_option maxRecDepth 100000 in
theorem open_sdeeds (hval : Value.okWide Try.prog w r b0 22 v) (hd : DataW.Trod enc Try.prog w base (fun _ => true) held 22 v d p) (hW : ∀ y ∈ d.weights Try.prog 22, y ≤ 140737488351232) :
    ∃ A n c, v = .slice A n c ∧ (∃ l : List Sd9, SdAt w A n l ∧ ∀ i (h : i < l.length), (l[i]'h).ok) ∧ n ≤ c ∧ c ≤ 9223372036854775807 := by
  have hmax : maxLen ≤ 9223372036854775807 := by decide
  obtain ⟨A, n, c, rfl⟩ := okWide_slice Try.underlying22 hval
  obtain ⟨fuel, hf⟩ := hd
  rcases open_slice Try.underlying22 hf with ⟨hcs, _⟩ | ⟨a, len, cap, m, k, D, Pl, hcs, _, hl, hm, hmm, hx, hrow⟩
  · simp [Value.cells] at hcs
    obtain ⟨rfl, rfl, rfl⟩ := hcs
    exact ⟨none, 0, 0, rfl, ⟨[], ⟨rfl, fun h => absurd h (Nat.lt_irrefl _)⟩, fun i h => absurd h (Nat.not_lt_zero _)⟩, Nat.le_refl _, by omega⟩
  · simp [Value.cells] at hcs
    obtain ⟨rfl, rfl, rfl⟩ := hcs
    rw [if_pos rfl] at hmm
    have hdd : d = .slice ((List.range n).map D) ((List.range (m - n)).map fun j => D (n + j)) := congrArg Prod.fst hx
    have hv : ∀ i, i < n → ∃ (q : Sd9), w.cell? (a.add (i * 4)) = some (.int .i64 q.kind) ∧ w.cell? (a.add (i * 4 + 1)) = some (.string q.key) ∧ w.cell? (a.add (i * 4 + 2)) = some (.int .i64 q.val) ∧ w.cell? (a.add (i * 4 + 3)) = some (.int .i64 q.st) ∧ q.ok := by
      intro i hi
      obtain ⟨cs', h1, h2⟩ := hrow i (by omega)
      rw [cellsSd] at h1
      obtain ⟨_, hlen, hcell⟩ := World.cells?_some h1
      obtain ⟨xs, k', hk', hxy, _, hxl, hfl⟩ := DataW.trod_struct Try.underlying29 h2
      have hDi : D i = .agg (xs.map (·.1)) := congrArg Prod.fst hxy
      have hWi : ∀ y ∈ (D i).weights Try.prog 29, y ≤ 140737488351232 := fun y hy => hW y (by
        rw [hdd]
        simp only [DataW.weights, Try.underlying22]
        exact List.mem_cons.2 (.inr (List.mem_append.2 (.inl (mem_allSd (List.mem_map.2 ⟨i, List.mem_range.2 hi, rfl⟩) hy)))))
      obtain ⟨y0, y1, y2, y3, rfl⟩ := four_ hxl
      obtain ⟨v0, v1, v2, v3, rfl⟩ := four_ hlen
      have g0 := hfl 0 _ rfl
      have g1 := hfl 1 _ rfl
      have g2 := hfl 2 _ rfl
      have g3 := hfl 3 _ rfl
      simp [cellsSdI, cellsSdT] at g0 g1 g2 g3
      obtain ⟨z0, e0, _, w0⟩ := DataW.trod_int Try.underlying3 g0
      obtain ⟨s1, e1, x1, _⟩ := DataW.trod_string Try.underlying9 g1
      obtain ⟨z2, e2, _, w2⟩ := DataW.trod_int Try.underlying3 g2
      obtain ⟨z3, e3, _, w3⟩ := DataW.trod_int Try.underlying3 g3
      simp at e0 e1 e2 e3
      have hwe : ∀ (j : Nat) (t : TypeId) (dd : DataW H), [3, 9, 3, 3][j]? = some t → [y0.1, y1.1, y2.1, y3.1][j]? = some dd → ∀ y ∈ dd.weights Try.prog t, y ≤ 140737488351232 := fun j t dd ht hdj y hy => hWi y (by
        rw [hDi]
        simp only [DataW.weights, Try.underlying29]
        exact DataW.weights_mem_each (j := j) ht hdj y hy)
      have q1 := hwe 1 _ _ rfl rfl s1.data.toList.length (by rw [x1]; simp [DataW.weights])
      have z1 : s1.data.toList.length = s1.size := by rw [Array.length_toList]; rfl
      have c0 := hcell 0 (by omega)
      have c1 := hcell 1 (by omega)
      have c2 := hcell 2 (by omega)
      have c3 := hcell 3 (by omega)
      rw [Go.Deep.add_add] at c0 c1 c2 c3
      have ib := int_bounds w3
      exact ⟨⟨z0, s1, z2, z3⟩, by rw [← e0]; simpa using c0, by rw [← e1]; simpa using c1, by rw [← e2]; simpa using c2, by rw [← e3]; simpa using c3, ⟨by show s1.size ≤ _; omega, ib.1, ib.2, w2⟩⟩
    refine ⟨some a, n, c, rfl, ?_, hl, by omega⟩
    have hch : ∃ f : Nat → Sd9, ∀ i, i < n → w.cell? (a.add (i * 4)) = some (.int .i64 (f i).kind) ∧ w.cell? (a.add (i * 4 + 1)) = some (.string (f i).key) ∧ w.cell? (a.add (i * 4 + 2)) = some (.int .i64 (f i).val) ∧ w.cell? (a.add (i * 4 + 3)) = some (.int .i64 (f i).st) ∧ (f i).ok := by
      refine ⟨fun i => if h : i < n then (hv i h).choose else ⟨0, ByteArray.empty, 0, 0⟩, fun i hi => ?_⟩
      simp only [dif_pos hi]
      exact (hv i hi).choose_spec
    obtain ⟨f, hf⟩ := hch
    refine ⟨(List.range n).map f, ⟨by simp, fun h0 => ?_⟩, fun i hi => by simp only [List.getElem_map, List.getElem_range]; exact (hf i (by simpa using hi)).2.2.2.2⟩
    obtain ⟨b, o, s⟩ := a
    obtain ⟨h1, _⟩ := hf 0 h0
    obtain rfl : s = none := by simpa [Addr.add] using World.cell?_spot h1
    refine ⟨b, o, rfl, fun i hi => ?_⟩
    have hi' : i < n := by simpa using hi
    obtain ⟨h1, h2, h3, h4, _⟩ := hf i hi'
    rw [Go.WideShapes.add_plain] at h1 h2 h3 h4
    simp only [List.getElem_map, List.getElem_range]
    exact ⟨h1, by rw [Nat.add_assoc]; exact h2, by rw [Nat.add_assoc]; exact h3, by rw [Nat.add_assoc]; exact h4⟩
theorem sized_sdeeds {ts : List TypeId} {ds : List (DataW H)} (h : (DataW.weightsEach Try.prog ts ds).all (· ≤ reachBytes) = true) {j : Nat} {d : DataW H} (ht : ts[j]? = some 22) (hd : ds[j]? = some d) :
    ∀ y ∈ d.weights Try.prog 22, y ≤ 140737488351232 := fun y hy => by
  have h1 := List.all_eq_true.1 h _ (DataW.weights_mem_each ht hd y hy)
  rw [reach_le] at h1
  exact of_decide_eq_true h1
end
end Go.Proofs.Ytcpbcoeccplliaa
