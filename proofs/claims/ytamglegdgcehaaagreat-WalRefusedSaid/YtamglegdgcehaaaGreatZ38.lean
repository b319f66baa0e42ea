/-
  How arguments are opened: a list of changes; of rows.
-/
import Derived.Test.YtamglegdgcehaaaGreatZ37
import Derived.Test.YtamglegdgcehaaaGreatZ27
import Derived.Lib.SmallJoins
import Derived.Deep.SlicePairs
set_option linter.unusedVariables false
namespace Go.Proofs.YtamglegdgcehaaaGreat
open Go.ChangeShapes Go.WideShapes Go.ChangeAt Go.RowKit Go.Joins Go.Deep

theorem cellsOp : Tryz.prog.cellsOf 73 = 3 := by kernel_rfl
theorem cellsRw : Tryz.prog.cellsOf 75 = 2 := by kernel_rfl
theorem cellsSt : Tryz.prog.cellsOf 9 = 1 := by kernel_rfl
theorem cellsBl : Tryz.prog.cellsOf 4 = 1 := by kernel_rfl
theorem three_ {α : Type} {l : List α} (h : l.length = 3) : ∃ a b c, l = [a, b, c] := by
  match l, h with
  | [a, b, c], _ => exact ⟨a, b, c, rfl⟩
theorem two_ {α : Type} {l : List α} (h : l.length = 2) : ∃ a b, l = [a, b] := by
  match l, h with
  | [a, b], _ => exact ⟨a, b, rfl⟩
theorem mem_allW {H : Type} {P : Program} {e : TypeId} {x : Nat} : ∀ {l : List (DataW H)} {d : DataW H}, d ∈ l → x ∈ d.weights P e → x ∈ DataW.weightsAll P e l
  | a :: l, d, h, hx => by
    unfold DataW.weightsAll
    rcases List.mem_cons.1 h with rfl | h
    · exact List.mem_append.2 (.inl hx)
    · exact List.mem_append.2 (.inr (mem_allW h hx))
section
variable {H : Type} {enc : TypeId × Value → H} {w : World} {base : Nat} {spare : Nat → Bool} {held : Bool} {d : DataW H} {p : List MemPlace} {v : Value} {r : Reach} {b0 : Nat}
set_option maxRecDepth 100000 in
theorem open_ops (hval : Value.okWide Tryz.prog w r b0 34 v) (hd : DataW.Trod enc Tryz.prog w base spare held 34 v d p) (hsp : ∀ b, spare b = true) :
    ∃ A n c, v = .slice A n c ∧ (∃ l, OAt w A n l) ∧ n ≤ c ∧ (A = none → c = 0) ∧ ∀ K, (∀ elems spare, d = .slice elems spare → elems.length + spare.length ≤ K) → c ≤ K := by
  obtain ⟨A, n, c, rfl⟩ := okWide_slice Tryz.underlying34 hval
  obtain ⟨fuel, hf⟩ := hd
  rcases open_slice Tryz.underlying34 hf with ⟨hcs, _⟩ | ⟨a, len, cap, m, k, D, Pl, hcs, _, hl, hm, hmm, hx, hrow⟩
  · simp [Value.cells] at hcs
    obtain ⟨rfl, rfl, rfl⟩ := hcs
    exact ⟨none, 0, 0, rfl, ⟨[], OAt.nil _⟩, Nat.le_refl _, fun _ => rfl, fun _ _ => Nat.zero_le _⟩
  · simp [Value.cells] at hcs
    obtain ⟨rfl, rfl, rfl⟩ := hcs
    rw [hsp, if_pos rfl] at hmm
    have hv : ∀ i, i < n → ∃ (q : Op_), w.cell? (a.add (i * 3)) = some (.string q.key) ∧ w.cell? (a.add (i * 3 + 1)) = some (.string q.value) ∧ w.cell? (a.add (i * 3 + 2)) = some (.bool q.del) := by
      intro i hi
      obtain ⟨cs', h1, h2⟩ := hrow i (by omega)
      rw [cellsOp] at h1
      obtain ⟨_, hlen, hcell⟩ := World.cells?_some h1
      obtain ⟨xs, k', hk', hxy, _, hxl, hfl⟩ := DataW.trod_struct Tryz.underlying73 h2
      obtain ⟨y0, y1, y2, rfl⟩ := three_ hxl
      obtain ⟨v0, v1, v2, rfl⟩ := three_ hlen
      have g0 := hfl 0 _ rfl
      have g1 := hfl 1 _ rfl
      have g2 := hfl 2 _ rfl
      simp [cellsSt, cellsBl] at g0 g1 g2
      obtain ⟨s0, e0, _, _⟩ := DataW.trod_string Tryz.underlying9 g0
      obtain ⟨s1, e1, _, _⟩ := DataW.trod_string Tryz.underlying9 g1
      obtain ⟨z2, e2, _⟩ := DataW.trod_bool Tryz.underlying4 g2
      simp at e0 e1 e2
      have c0 := hcell 0 (by omega)
      have c1 := hcell 1 (by omega)
      have c2 := hcell 2 (by omega)
      rw [Go.Deep.add_add] at c0 c1 c2
      exact ⟨⟨s0, s1, z2⟩, by rw [← e0]; simpa using c0, by rw [← e1]; simpa using c1, by rw [← e2]; simpa using c2⟩
    refine ⟨some a, n, c, rfl, ?_, hl, (fun h => nomatch h), fun K hK => ?_⟩
    · have hch : ∃ f : Nat → Op_, ∀ i, i < n → w.cell? (a.add (i * 3)) = some (.string (f i).key) ∧ w.cell? (a.add (i * 3 + 1)) = some (.string (f i).value) ∧ w.cell? (a.add (i * 3 + 2)) = some (.bool (f i).del) := by
        refine ⟨fun i => if h : i < n then (hv i h).choose else ⟨ByteArray.empty, ByteArray.empty, false⟩, fun i hi => ?_⟩
        simp only [dif_pos hi]
        exact (hv i hi).choose_spec
      obtain ⟨f, hf⟩ := hch
      refine ⟨(List.range n).map f, by simp, fun h0 => ?_⟩
      obtain ⟨b, o, s⟩ := a
      obtain ⟨h1, _⟩ := hf 0 h0
      obtain rfl : s = none := by simpa [Addr.add] using World.cell?_spot h1
      refine ⟨b, o, rfl, fun i hi => ?_⟩
      have hi' : i < n := by simpa using hi
      obtain ⟨h1, h2, h3⟩ := hf i hi'
      rw [Go.WideShapes.add_plain] at h1 h2 h3
      simp only [List.getElem_map, List.getElem_range]
      exact ⟨h1, by rw [Nat.add_assoc]; exact h2, by rw [Nat.add_assoc]; exact h3⟩
    · have hd := congrArg Prod.fst hx
      have := hK _ _ hd
      simp only [List.length_map, List.length_range] at this
      omega
theorem sized_ops {ts : List TypeId} {ds : List (DataW H)} (h : (DataW.weightsEach Tryz.prog ts ds).all (· ≤ reachBytes) = true) {j : Nat} {d : DataW H} (ht : ts[j]? = some 34) (hd : ds[j]? = some d) :
    ∀ elems spare, d = .slice elems spare → elems.length + spare.length ≤ 17592186043904 := by
  rintro elems spare rfl
  have := sized_slice h ht hd Tryz.underlying34
  rw [show Tryz.prog.bytesOf 73 = 40 by kernel_rfl, reach_le] at this
  omega
set_option maxRecDepth 100000 in
theorem open_rws (hval : Value.okWide Tryz.prog w r b0 35 v) (hd : DataW.Trod enc Tryz.prog w base (fun _ => true) held 35 v d p) (hW : ∀ y ∈ d.weights Tryz.prog 35, y ≤ 140737488351232) :
    ∃ A n c, v = .slice A n c ∧ (∃ l : List Rw, WAt w A n l ∧ ∀ i (h : i < l.length), (l[i]'h).key.size ≤ 562949953421312 ∧ (l[i]'h).value.size ≤ 562949953421312) ∧ n ≤ c ∧ c ≤ 9223372036854775807 := by
  have hmax : maxLen ≤ 9223372036854775807 := by decide
  obtain ⟨A, n, c, rfl⟩ := okWide_slice Tryz.underlying35 hval
  obtain ⟨fuel, hf⟩ := hd
  rcases open_slice Tryz.underlying35 hf with ⟨hcs, _⟩ | ⟨a, len, cap, m, k, D, Pl, hcs, _, hl, hm, hmm, hx, hrow⟩
  · simp [Value.cells] at hcs
    obtain ⟨rfl, rfl, rfl⟩ := hcs
    exact ⟨none, 0, 0, rfl, ⟨[], WAt.nil _, fun i h => absurd h (Nat.not_lt_zero _)⟩, Nat.le_refl _, by omega⟩
  · simp [Value.cells] at hcs
    obtain ⟨rfl, rfl, rfl⟩ := hcs
    rw [if_pos rfl] at hmm
    have hdd : d = .slice ((List.range n).map D) ((List.range (m - n)).map fun j => D (n + j)) := congrArg Prod.fst hx
    have hv : ∀ i, i < n → ∃ (q : Rw), w.cell? (a.add (i * 2)) = some (.string q.key) ∧ w.cell? (a.add (i * 2 + 1)) = some (.string q.value) ∧ q.key.size ≤ 562949953421312 ∧ q.value.size ≤ 562949953421312 := by
      intro i hi
      obtain ⟨cs', h1, h2⟩ := hrow i (by omega)
      rw [cellsRw] at h1
      obtain ⟨_, hlen, hcell⟩ := World.cells?_some h1
      obtain ⟨xs, k', hk', hxy, _, hxl, hfl⟩ := DataW.trod_struct Tryz.underlying75 h2
      have hDi : D i = .agg (xs.map (·.1)) := congrArg Prod.fst hxy
      have hWi : ∀ y ∈ (D i).weights Tryz.prog 75, y ≤ 140737488351232 := fun y hy => hW y (by
        rw [hdd]
        simp only [DataW.weights, Tryz.underlying35]
        exact List.mem_cons.2 (.inr (List.mem_append.2 (.inl (mem_allW (List.mem_map.2 ⟨i, List.mem_range.2 hi, rfl⟩) hy)))))
      obtain ⟨y0, y1, rfl⟩ := two_ hxl
      obtain ⟨v0, v1, rfl⟩ := two_ hlen
      have g0 := hfl 0 _ rfl
      have g1 := hfl 1 _ rfl
      simp [cellsSt] at g0 g1
      obtain ⟨s0, e0, x0, _⟩ := DataW.trod_string Tryz.underlying9 g0
      obtain ⟨s1, e1, x1, _⟩ := DataW.trod_string Tryz.underlying9 g1
      simp at e0 e1
      have hwe : ∀ (j : Nat) (t : TypeId) (dd : DataW H), [9, 9][j]? = some t → [y0.1, y1.1][j]? = some dd → ∀ y ∈ dd.weights Tryz.prog t, y ≤ 140737488351232 := fun j t dd ht hdj y hy => hWi y (by
        rw [hDi]
        simp only [DataW.weights, Tryz.underlying75]
        exact DataW.weights_mem_each (j := j) ht hdj y hy)
      have q0 := hwe 0 _ _ rfl rfl s0.data.toList.length (by rw [x0]; simp [DataW.weights])
      have q1 := hwe 1 _ _ rfl rfl s1.data.toList.length (by rw [x1]; simp [DataW.weights])
      have z0 : s0.data.toList.length = s0.size := by rw [Array.length_toList]; rfl
      have z1 : s1.data.toList.length = s1.size := by rw [Array.length_toList]; rfl
      have c0 := hcell 0 (by omega)
      have c1 := hcell 1 (by omega)
      rw [Go.Deep.add_add] at c0 c1
      exact ⟨⟨s0, s1⟩, by rw [← e0]; simpa using c0, by rw [← e1]; simpa using c1, by show s0.size ≤ _; omega, by show s1.size ≤ _; omega⟩
    refine ⟨some a, n, c, rfl, ?_, hl, by omega⟩
    · have hch : ∃ f : Nat → Rw, ∀ i, i < n → w.cell? (a.add (i * 2)) = some (.string (f i).key) ∧ w.cell? (a.add (i * 2 + 1)) = some (.string (f i).value) ∧ (f i).key.size ≤ 562949953421312 ∧ (f i).value.size ≤ 562949953421312 := by
        refine ⟨fun i => if h : i < n then (hv i h).choose else ⟨ByteArray.empty, ByteArray.empty⟩, fun i hi => ?_⟩
        simp only [dif_pos hi]
        exact (hv i hi).choose_spec
      obtain ⟨f, hf⟩ := hch
      refine ⟨(List.range n).map f, ⟨by simp, fun h0 => ?_⟩, fun i hi => by simp only [List.getElem_map, List.getElem_range]; exact (hf i (by simpa using hi)).2.2⟩
      obtain ⟨b, o, s⟩ := a
      obtain ⟨h1, _⟩ := hf 0 h0
      obtain rfl : s = none := by simpa [Addr.add] using World.cell?_spot h1
      refine ⟨b, o, rfl, fun i hi => ?_⟩
      have hi' : i < n := by simpa using hi
      obtain ⟨h1, h2, _⟩ := hf i hi'
      rw [Go.WideShapes.add_plain] at h1 h2
      simp only [List.getElem_map, List.getElem_range]
      exact ⟨h1, by rw [Nat.add_assoc]; exact h2⟩
theorem sized_rws {ts : List TypeId} {ds : List (DataW H)} (h : (DataW.weightsEach Tryz.prog ts ds).all (· ≤ reachBytes) = true) {j : Nat} {d : DataW H} (ht : ts[j]? = some 35) (hd : ds[j]? = some d) :
    ∀ y ∈ d.weights Tryz.prog 35, y ≤ 140737488351232 := fun y hy => by
  have h1 := List.all_eq_true.1 h _ (DataW.weights_mem_each ht hd y hy)
  rw [reach_le] at h1
  exact of_decide_eq_true h1
end
end Go.Proofs.YtamglegdgcehaaaGreat
