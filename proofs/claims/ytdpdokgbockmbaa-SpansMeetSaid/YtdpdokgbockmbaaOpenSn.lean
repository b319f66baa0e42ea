/-
  How spans, and lists of them, are opened as arguments.
-/
import Derived.Test.YtdpdokgbockmbaaOpen
import Derived.Test.YtdpdokgbockmbaaSpRow
import Derived.Lib.SmallJoins
import Derived.Deep.SlicePairs
set_option linter.unusedVariables false
set_option linter.unusedSimpArgs false
set_option maxRecDepth 100000
namespace Go.Proofs.Ytdpdokgbockmbaa
open Go.ChangeShapes Go.WideShapes Go.ChangeAt Go.RowKit Go.Joins Go.Deep

theorem cellsSn : Try.prog.cellsOf 30 = 2 := by kernel_rfl
theorem cellsSnT : Try.prog.cellsOf 9 = 1 := by kernel_rfl
theorem twoSn_ {α : Type} {l : List α} (h : l.length = 2) : ∃ a b, l = [a, b] := by
  match l, h with
  | [a, b], _ => exact ⟨a, b, rfl⟩
theorem mem_allSn {H : Type} {P : Program} {e : TypeId} {x : Nat} : ∀ {l : List (DataW H)} {d : DataW H}, d ∈ l → x ∈ d.weights P e → x ∈ DataW.weightsAll P e l
  | a :: l, d, h, hx => by
    unfold DataW.weightsAll
    rcases List.mem_cons.1 h with rfl | h
    · exact List.mem_append.2 (.inl hx)
    · exact List.mem_append.2 (.inr (mem_allSn h hx))
section
variable {H : Type} {enc : TypeId × Value → H} {w : World} {base : Nat} {spare : Nat → Bool} {held : Bool} {d : DataW H} {p : List MemPlace} {v : Value} {r : Reach} {b0 : Nat}
set_option maxRecDepth 100000 in
theorem open_spans (hval : Value.okWide Try.prog w r b0 22 v) (hd : DataW.Trod enc Try.prog w base (fun _ => true) held 22 v d p) (hW : ∀ y ∈ d.weights Try.prog 22, y ≤ 140737488351232) :
    ∃ A n c, v = .slice A n c ∧ (∃ l : List Sn, SnAt w A n l ∧ ∀ i (h : i < l.length), (l[i]'h).f.size ≤ 562949953421312 ∧ (l[i]'h).t.size ≤ 562949953421312) ∧ n ≤ c ∧ c ≤ 9223372036854775807 := by
  have hmax : maxLen ≤ 9223372036854775807 := by decide
  obtain ⟨A, n, c, rfl⟩ := okWide_slice Try.underlying22 hval
  obtain ⟨fuel, hf⟩ := hd
  rcases open_slice Try.underlying22 hf with ⟨hcs, _⟩ | ⟨a, len, cap, m, k, D, Pl, hcs, _, hl, hm, hmm, hx, hrow⟩
  · simp [Value.cells] at hcs
    obtain ⟨rfl, rfl, rfl⟩ := hcs
    exact ⟨none, 0, 0, rfl, ⟨[], SnAt.nil _ _, fun i h => absurd h (Nat.not_lt_zero _)⟩, Nat.le_refl _, by omega⟩
  · simp [Value.cells] at hcs
    obtain ⟨rfl, rfl, rfl⟩ := hcs
    rw [if_pos rfl] at hmm
    have hdd : d = .slice ((List.range n).map D) ((List.range (m - n)).map fun j => D (n + j)) := congrArg Prod.fst hx
    have hv : ∀ i, i < n → ∃ (q : Sn), w.cell? (a.add (i * 2)) = some (.string q.f) ∧ w.cell? (a.add (i * 2 + 1)) = some (.string q.t) ∧ q.f.size ≤ 562949953421312 ∧ q.t.size ≤ 562949953421312 := by
      intro i hi
      obtain ⟨cs', h1, h2⟩ := hrow i (by omega)
      rw [cellsSn] at h1
      obtain ⟨_, hlen, hcell⟩ := World.cells?_some h1
      obtain ⟨xs, k', hk', hxy, _, hxl, hfl⟩ := DataW.trod_struct Try.underlying30 h2
      have hDi : D i = .agg (xs.map (·.1)) := congrArg Prod.fst hxy
      have hWi : ∀ y ∈ (D i).weights Try.prog 30, y ≤ 140737488351232 := fun y hy => hW y (by
        rw [hdd]
        simp only [DataW.weights, Try.underlying22]
        exact List.mem_cons.2 (.inr (List.mem_append.2 (.inl (mem_allSn (List.mem_map.2 ⟨i, List.mem_range.2 hi, rfl⟩) hy)))))
      obtain ⟨y0, y1, rfl⟩ := twoSn_ hxl
      obtain ⟨v0, v1, rfl⟩ := twoSn_ hlen
      have g0 := hfl 0 _ rfl
      have g1 := hfl 1 _ rfl
      simp [cellsSnT] at g0 g1
      obtain ⟨s0, e0, x0, _⟩ := DataW.trod_string Try.underlying9 g0
      obtain ⟨s1, e1, x1, _⟩ := DataW.trod_string Try.underlying9 g1
      simp at e0 e1
      have hwe : ∀ (j : Nat) (t : TypeId) (dd : DataW H), [9, 9][j]? = some t → [y0.1, y1.1][j]? = some dd → ∀ y ∈ dd.weights Try.prog t, y ≤ 140737488351232 := fun j t dd ht hdj y hy => hWi y (by
        rw [hDi]
        simp only [DataW.weights, Try.underlying30]
        exact DataW.weights_mem_each (j := j) ht hdj y hy)
      have q0 := hwe 0 _ _ rfl rfl s0.data.toList.length (by rw [x0]; simp [DataW.weights])
      have q1 := hwe 1 _ _ rfl rfl s1.data.toList.length (by rw [x1]; simp [DataW.weights])
      have z0 : s0.data.toList.length = s0.size := by rw [Array.length_toList]; rfl
      have z1 : s1.data.toList.length = s1.size := by rw [Array.length_toList]; rfl
      have c0 := hcell 0 (by omega)
      have c1 := hcell 1 (by omega)
      rw [Go.Deep.add_add] at c0 c1
      exact ⟨⟨s0, s1⟩, by rw [← e0]; simpa using c0, by rw [← e1]; simpa using c1, by show s0.size ≤ _; omega, by show s1.size ≤ _; omega⟩
    refine ⟨some a, n, c, rfl, ?_, hl, by omega⟩
    · have hch : ∃ f : Nat → Sn, ∀ i, i < n → w.cell? (a.add (i * 2)) = some (.string (f i).f) ∧ w.cell? (a.add (i * 2 + 1)) = some (.string (f i).t) ∧ (f i).f.size ≤ 562949953421312 ∧ (f i).t.size ≤ 562949953421312 := by
        refine ⟨fun i => if h : i < n then (hv i h).choose else ⟨ByteArray.empty, ByteArray.empty⟩, fun i hi => ?_⟩
        simp only [dif_pos hi]
        exact (hv i hi).choose_spec
      obtain ⟨f, hf⟩ := hch
      refine ⟨(List.range n).map f, ⟨by simp, fun h0 => ?_⟩, fun i hi => by simp only [List.getElem_map, List.getElem_range]; exact (hf i (by simpa using hi)).2.2⟩
      obtain ⟨b, o, s⟩ := a
      obtain ⟨h1, _⟩ := hf 0 h0
      obtain rfl : s = none := by simpa [Addr.add] using World.cell?_spot h1
      refine ⟨b, o, rfl, fun i hi => ?_⟩
      have hi' : i < n := by simpa using hi
      obtain ⟨h1, h2, _⟩ := hf i hi'
      rw [Go.WideShapes.add_plain] at h1 h2
      simp only [List.getElem_map, List.getElem_range]
      exact ⟨h1, by rw [Nat.add_assoc]; exact h2⟩
theorem sized_spans {ts : List TypeId} {ds : List (DataW H)} (h : (DataW.weightsEach Try.prog ts ds).all (· ≤ reachBytes) = true) {j : Nat} {d : DataW H} (ht : ts[j]? = some 22) (hd : ds[j]? = some d) :
    ∀ y ∈ d.weights Try.prog 22, y ≤ 140737488351232 := fun y hy => by
  have h1 := List.all_eq_true.1 h _ (DataW.weights_mem_each ht hd y hy)
  rw [reach_le] at h1
  exact of_decide_eq_true h1
end
section
variable {H : Type} {enc : TypeId × Value → H} {w : World} {base : Nat} {held : Bool} {d : DataW H} {p : List MemPlace} {v : Value} {r : Reach} {b0 : Nat} {fuel : Nat} {cs : List Value}
theorem open_spnS (hf : DataW.trod enc Try.prog w base (fun _ => true) held fuel 30 cs = some (d, p)) (hW : ∀ y ∈ d.weights Try.prog 30, y ≤ 140737488351232) :
    ∃ (f t : ByteArray), cs = [.string f, .string t] ∧ f.size ≤ 140737488351232 ∧ t.size ≤ 140737488351232 := by
  obtain ⟨xs, k', hk', hxy, hcl, hxl, hfl⟩ := DataW.trod_struct Try.underlying30 hf
  rw [cellsSn] at hcl
  obtain ⟨v0, v1, rfl⟩ := twoSn_ hcl
  obtain ⟨y0, y1, rfl⟩ := twoSn_ hxl
  have hDi : d = .agg ([y0, y1].map (·.1)) := congrArg Prod.fst hxy
  have hwe : ∀ (j : Nat) (t : TypeId) (dd : DataW H), [9, 9][j]? = some t → [y0.1, y1.1][j]? = some dd → ∀ y ∈ dd.weights Try.prog t, y ≤ 140737488351232 := fun j t dd ht hdj y hy => hW y (by
    rw [hDi]
    simp only [DataW.weights, Try.underlying30]
    exact DataW.weights_mem_each (j := j) ht hdj y hy)
  have g0 := hfl 0 _ rfl
  have g1 := hfl 1 _ rfl
  simp [cellsSnT] at g0 g1
  obtain ⟨s0, e0, x0, _⟩ := DataW.trod_string Try.underlying9 g0
  obtain ⟨s1, e1, x1, _⟩ := DataW.trod_string Try.underlying9 g1
  have q0 := hwe 0 _ _ rfl rfl s0.data.toList.length (by rw [x0]; simp [DataW.weights])
  have q1 := hwe 1 _ _ rfl rfl s1.data.toList.length (by rw [x1]; simp [DataW.weights])
  have k0 : s0.data.toList.length = s0.size := by rw [Array.length_toList]; rfl
  have k1 : s1.data.toList.length = s1.size := by rw [Array.length_toList]; rfl
  simp at e0 e1
  subst e0 e1
  exact ⟨s0, s1, rfl, by omega, by omega⟩
theorem open_spanS (hval : Value.okWide Try.prog w r b0 30 v) (hd : DataW.Trod enc Try.prog w base (fun _ => true) held 30 v d p) (hW : ∀ y ∈ d.weights Try.prog 30, y ≤ 140737488351232) :
    ∃ (f t : ByteArray), v = .agg #[.string f, .string t] ∧ f.size ≤ 140737488351232 ∧ t.size ≤ 140737488351232 := by
  obtain ⟨cs, rfl, hsz⟩ : ∃ cs, v = .agg cs ∧ cs.size = Try.prog.cellsOf 30 := by
    simp only [Value.okWide, Try.underlying30] at hval
    obtain ⟨cs, h1, h2, _⟩ := hval
    exact ⟨cs, h1, h2⟩
  obtain ⟨fuel, hf⟩ := hd
  obtain ⟨f, t, hx, h1⟩ := open_spnS hf hW
  exact ⟨f, t, by congr 1; exact Array.ext' hx, h1⟩
theorem sized_spanS {ts : List TypeId} {ds : List (DataW H)} (h : (DataW.weightsEach Try.prog ts ds).all (· ≤ reachBytes) = true) {j : Nat} {d : DataW H} (ht : ts[j]? = some 30) (hd : ds[j]? = some d) :
    ∀ y ∈ d.weights Try.prog 30, y ≤ 140737488351232 := fun y hy => by
  have h1 := List.all_eq_true.1 h _ (DataW.weights_mem_each ht hd y hy)
  rw [reach_le] at h1
  exact of_decide_eq_true h1
end
end Go.Proofs.Ytdpdokgbockmbaa
