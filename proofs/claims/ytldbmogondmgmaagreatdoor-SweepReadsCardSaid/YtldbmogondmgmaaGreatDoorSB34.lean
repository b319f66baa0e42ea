/-
  How arguments are opened: a transaction, a change, things.
  How arguments of layer 15's statements are opened: cells, a span (written by wip/genswopen.py).
-/
import Derived.Test.YtldbmogondmgmaaGreatDoorSB33
import Derived.Test.YtldbmogondmgmaaGreatDoorSB27
import Derived.Test.YtldbmogondmgmaaGreatDoorSBSwCe
set_option linter.unusedVariables false
set_option linter.unusedSimpArgs false
set_option maxRecDepth 100000
namespace Go.Proofs.YtldbmogondmgmaaGreatDoor
open Go.ChangeShapes Go.WideShapes Go.ChangeAt Go.RowKit Go.Joins Go.Deep

theorem l6 {α : Type} {l : List α} (h : l.length = 6) : ∃ a b c d e f, l = [a, b, c, d, e, f] := by
  match l, h with
  | [a, b, c, d, e, f], _ => exact ⟨a, b, c, d, e, f, rfl⟩
section
variable {H : Type} {enc : TypeId × Value → H} {w : World} {base : Nat} {held : Bool} {d : DataW H} {p : List MemPlace} {v : Value} {r : Reach} {b0 : Nat} {fuel : Nat} {cs : List Value}
end
end Go.Proofs.YtldbmogondmgmaaGreatDoor
set_option linter.unusedVariables false
set_option linter.unusedSimpArgs false
set_option maxRecDepth 100000
namespace Go.Proofs.YtldbmogondmgmaaGreatDoor
open Go.ChangeShapes Go.WideShapes Go.ChangeAt Go.RowKit Go.Joins Go.Deep

theorem kCe : Tryz.prog.cellsOf 144 = 6 := by kernel_rfl
theorem kSn15 : Tryz.prog.cellsOf 66 = 2 := by kernel_rfl
theorem five_ {α : Type} {l : List α} (h : l.length = 5) : ∃ a b c d e, l = [a, b, c, d, e] := by
  match l, h with
  | [a, b, c, d, e], _ => exact ⟨a, b, c, d, e, rfl⟩
section
variable {H : Type} {enc : TypeId × Value → H} {w : World} {base : Nat} {held : Bool} {d : DataW H} {p : List MemPlace} {v : Value} {r : Reach} {b0 : Nat} {fuel : Nat} {cs : List Value}
theorem open_ce (hf : DataW.trod enc Tryz.prog w base (fun _ => true) held fuel 144 cs = some (d, p)) (hW : ∀ y ∈ d.weights Tryz.prog 144, y ≤ 140737488351232) :
    ∃ (x : Ce), cs = (cec x).toList ∧ CeSz x := by
  obtain ⟨xs, k', hk', hxy, hcl, hxl, hfl⟩ := DataW.trod_struct Tryz.underlying144 hf
  rw [kCe] at hcl
  obtain ⟨v0, v1, v2, v3, v4, v5, rfl⟩ := l6 hcl
  obtain ⟨y0, y1, y2, y3, y4, rfl⟩ := five_ hxl
  have hDi : d = .agg ([y0, y1, y2, y3, y4].map (·.1)) := congrArg Prod.fst hxy
  have hwe : ∀ (j : Nat) (t : TypeId) (dd : DataW H), [3, 9, 26, 4, 9][j]? = some t → [y0.1, y1.1, y2.1, y3.1, y4.1][j]? = some dd → ∀ y ∈ dd.weights Tryz.prog t, y ≤ 140737488351232 := fun j t dd ht hdj y hy => hW y (by
    rw [hDi]
    simp only [DataW.weights, Tryz.underlying144]
    exact DataW.weights_mem_each (j := j) ht hdj y hy)
  have g0 := hfl 0 _ rfl
  have g1 := hfl 1 _ rfl
  have g2 := hfl 2 _ rfl
  have g3 := hfl 3 _ rfl
  have g4 := hfl 4 _ rfl
  simp [kIn, kSt, kSp, kBl] at g0 g1 g2 g3 g4
  obtain ⟨z0, e0, _, _⟩ := DataW.trod_int Tryz.underlying3 g0
  obtain ⟨s1, e1, x1, _⟩ := DataW.trod_string Tryz.underlying9 g1
  obtain ⟨a2, b2, e2⟩ := open_sp g2
  obtain ⟨z3, e3, _⟩ := DataW.trod_bool Tryz.underlying4 g3
  obtain ⟨s4, e4, x4, _⟩ := DataW.trod_string Tryz.underlying9 g4
  have q1 := hwe 1 _ _ rfl rfl s1.data.toList.length (by rw [x1]; simp [DataW.weights])
  have q4 := hwe 4 _ _ rfl rfl s4.data.toList.length (by rw [x4]; simp [DataW.weights])
  have k1 : s1.data.toList.length = s1.size := by rw [Array.length_toList]; rfl
  have k4 : s4.data.toList.length = s4.size := by rw [Array.length_toList]; rfl
  simp at e0 e1 e2 e3 e4
  obtain ⟨e2, e2'⟩ := e2
  subst e0 e1 e2 e2' e3 e4
  exact ⟨⟨z0, s1, a2, b2, z3, s4⟩, rfl, by show s1.size ≤ _; omega, by show s4.size ≤ _; omega⟩
theorem open_cells15 (hval : Value.okWide Tryz.prog w r b0 76 v) (hd : DataW.Trod enc Tryz.prog w base (fun _ => true) held 76 v d p) (hW : ∀ y ∈ d.weights Tryz.prog 76, y ≤ 140737488351232) :
    ∃ A n c, v = .slice A n c ∧ (∃ l : List Ce, CeAt w A n l ∧ ∀ x ∈ l, CeSz x) ∧ n ≤ c ∧ c ≤ 9223372036854775807 ∧ True := by
  have hmax : maxLen ≤ 9223372036854775807 := by decide
  obtain ⟨A, n, c, rfl⟩ := okWide_slice Tryz.underlying76 hval
  obtain ⟨fuel, hf⟩ := hd
  rcases open_slice Tryz.underlying76 hf with ⟨hcs, _⟩ | ⟨a, n', c', m, k, D, Pl, hcs, _, hl, hm, hmm, hx, hrow⟩
  · simp [Value.cells] at hcs
    obtain ⟨rfl, rfl, rfl⟩ := hcs
    exact ⟨none, 0, 0, rfl, ⟨[], ⟨rfl, fun h => absurd h (by omega)⟩, fun b hb => (nomatch hb)⟩, Nat.le_refl _, by omega, trivial⟩
  · simp [Value.cells] at hcs
    obtain ⟨rfl, rfl, rfl⟩ := hcs
    rw [if_pos rfl] at hmm
    have hdd : d = .slice ((List.range n).map D) ((List.range (m - n)).map fun j => D (n + j)) := congrArg Prod.fst hx
    have hv : ∀ i, i < n → ∃ (q : Ce), (∀ j u, (cec q)[j]? = some u → w.cell? (a.add (i * 6 + j)) = some u) ∧ CeSz q := by
      intro i hi
      obtain ⟨cs', h1, h2⟩ := hrow i (by omega)
      rw [kCe] at h1
      obtain ⟨_, hlen, hcell⟩ := World.cells?_some h1
      have hWi : ∀ y ∈ (D i).weights Tryz.prog 144, y ≤ 140737488351232 := fun y hy => hW y (by
        rw [hdd]
        simp only [DataW.weights, Tryz.underlying76]
        exact List.mem_cons.2 (.inr (List.mem_append.2 (.inl (mem_allW11 (List.mem_map.2 ⟨i, List.mem_range.2 hi, rfl⟩) hy)))))
      obtain ⟨q, rfl, hz⟩ := open_ce h2 hWi
      refine ⟨q, fun j u hu => ?_, hz⟩
      obtain ⟨hj, hju⟩ := Array.getElem?_eq_some_iff.1 hu
      have c0 := hcell j (by simpa using hj)
      rw [Go.Deep.add_add] at c0
      rw [c0, Array.getElem?_toList]
      exact hu
    refine ⟨some a, n, c, rfl, ?_, hl, by omega, trivial⟩
    have hch : ∃ f : Nat → Ce, ∀ i, i < n → (∀ j u, (cec (f i))[j]? = some u → w.cell? (a.add (i * 6 + j)) = some u) ∧ CeSz (f i) := by
      refine ⟨fun i => if h : i < n then (hv i h).choose else ⟨0, ByteArray.empty, 0, 0, false, ByteArray.empty⟩, fun i hi => ?_⟩
      simp only [dif_pos hi]
      exact (hv i hi).choose_spec
    obtain ⟨f, hf⟩ := hch
    refine ⟨(List.range n).map f, ⟨by simp, fun h0 => ?_⟩, fun o ho => ?_⟩
    · obtain ⟨b, o, s⟩ := a
      obtain ⟨h1, _⟩ := hf 0 h0
      obtain rfl : s = none := by simpa [Addr.add] using World.cell?_spot (h1 0 _ rfl)
      refine ⟨b, o, rfl, fun i hi => ?_⟩
      have hi' : i < n := by simpa using hi
      obtain ⟨h1, _⟩ := hf i hi'
      simp only [List.getElem_map, List.getElem_range]
      intro j u hu
      have := h1 j u hu
      rw [Go.WideShapes.add_plain] at this
      rw [Nat.add_assoc]
      exact this
    · obtain ⟨i, hi, rfl⟩ := List.mem_map.1 ho
      exact (hf i (List.mem_range.1 hi)).2
theorem sized_cells15 {ts : List TypeId} {ds : List (DataW H)} (h : (DataW.weightsEach Tryz.prog ts ds).all (· ≤ reachBytes) = true) {j : Nat} {d : DataW H} (ht : ts[j]? = some 76) (hd : ds[j]? = some d) :
    ∀ y ∈ d.weights Tryz.prog 76, y ≤ 140737488351232 := fun y hy => by
  have h1 := List.all_eq_true.1 h _ (DataW.weights_mem_each ht hd y hy)
  rw [reach_le] at h1
  exact of_decide_eq_true h1
theorem open_spn15 (hf : DataW.trod enc Tryz.prog w base (fun _ => true) held fuel 66 cs = some (d, p)) (hW : ∀ y ∈ d.weights Tryz.prog 66, y ≤ 140737488351232) :
    ∃ (f t : ByteArray), cs = [.string f, .string t] ∧ f.size ≤ 140737488351232 ∧ t.size ≤ 140737488351232 := by
  obtain ⟨xs, k', hk', hxy, hcl, hxl, hfl⟩ := DataW.trod_struct Tryz.underlying66 hf
  rw [kSn15] at hcl
  obtain ⟨v0, v1, rfl⟩ := l2 hcl
  obtain ⟨y0, y1, rfl⟩ := l2 hxl
  have hDi : d = .agg ([y0, y1].map (·.1)) := congrArg Prod.fst hxy
  have hwe : ∀ (j : Nat) (t : TypeId) (dd : DataW H), [9, 9][j]? = some t → [y0.1, y1.1][j]? = some dd → ∀ y ∈ dd.weights Tryz.prog t, y ≤ 140737488351232 := fun j t dd ht hdj y hy => hW y (by
    rw [hDi]
    simp only [DataW.weights, Tryz.underlying66]
    exact DataW.weights_mem_each (j := j) ht hdj y hy)
  have g0 := hfl 0 _ rfl
  have g1 := hfl 1 _ rfl
  simp [kSt] at g0 g1
  obtain ⟨s0, e0, x0, _⟩ := DataW.trod_string Tryz.underlying9 g0
  obtain ⟨s1, e1, x1, _⟩ := DataW.trod_string Tryz.underlying9 g1
  have q0 := hwe 0 _ _ rfl rfl s0.data.toList.length (by rw [x0]; simp [DataW.weights])
  have q1 := hwe 1 _ _ rfl rfl s1.data.toList.length (by rw [x1]; simp [DataW.weights])
  have k0 : s0.data.toList.length = s0.size := by rw [Array.length_toList]; rfl
  have k1 : s1.data.toList.length = s1.size := by rw [Array.length_toList]; rfl
  simp at e0 e1
  subst e0 e1
  exact ⟨s0, s1, rfl, by omega, by omega⟩
theorem open_span15 (hval : Value.okWide Tryz.prog w r b0 66 v) (hd : DataW.Trod enc Tryz.prog w base (fun _ => true) held 66 v d p) (hW : ∀ y ∈ d.weights Tryz.prog 66, y ≤ 140737488351232) :
    ∃ (f t : ByteArray), v = .agg #[.string f, .string t] ∧ f.size ≤ 140737488351232 ∧ t.size ≤ 140737488351232 := by
  obtain ⟨cs, rfl, hsz⟩ : ∃ cs, v = .agg cs ∧ cs.size = Tryz.prog.cellsOf 66 := by
    simp only [Value.okWide, Tryz.underlying66] at hval
    obtain ⟨cs, h1, h2, _⟩ := hval
    exact ⟨cs, h1, h2⟩
  obtain ⟨fuel, hf⟩ := hd
  obtain ⟨f, t, hx, h1⟩ := open_spn15 hf hW
  exact ⟨f, t, by congr 1; exact Array.ext' hx, h1⟩
theorem sized_span15 {ts : List TypeId} {ds : List (DataW H)} (h : (DataW.weightsEach Tryz.prog ts ds).all (· ≤ reachBytes) = true) {j : Nat} {d : DataW H} (ht : ts[j]? = some 66) (hd : ds[j]? = some d) :
    ∀ y ∈ d.weights Tryz.prog 66, y ≤ 140737488351232 := fun y hy => by
  have h1 := List.all_eq_true.1 h _ (DataW.weights_mem_each ht hd y hy)
  rw [reach_le] at h1
  exact of_decide_eq_true h1
end
end Go.Proofs.YtldbmogondmgmaaGreatDoor
