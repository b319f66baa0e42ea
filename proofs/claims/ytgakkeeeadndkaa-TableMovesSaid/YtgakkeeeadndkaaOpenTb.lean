/-
  How arguments are opened: a list of changes; a list of batches; each with its sizes.
-/
import Derived.Test.YtgakkeeeadndkaaOpen
import Derived.Test.YtgakkeeeadndkaaTbWorks
import Derived.Lib.SmallJoins
import Derived.Deep.SlicePairs
set_option linter.unusedVariables false
namespace Go.Proofs.Ytgakkeeeadndkaa
open Go.ChangeShapes Go.WideShapes Go.ChangeAt Go.RowKit Go.Joins Go.Deep

/-- Batches in memory. -/
def BAt (w : World) (A : Option Addr) (n : Nat) (bs : List (List Op_)) : Prop :=
  bs.length = n ∧ (0 < n → ∃ b o, A = some ⟨b, o, none⟩ ∧ ∀ i (h : i < bs.length), ∃ Ai ci, w.cell? ⟨b, o + i, none⟩ = some (.slice Ai (bs[i]'h).length ci) ∧ OAt w Ai (bs[i]'h).length (bs[i]'h) ∧ (bs[i]'h).length ≤ ci ∧ ci ≤ 9223372036854775807)
theorem BAt.below {w w' : World} {A : Option Addr} {n : Nat} {bs : List (List Op_)} (h : BAt w A n bs) (hb : Below w.heap.size w w') : BAt w' A n bs := by
  refine ⟨h.1, fun hn => ?_⟩
  obtain ⟨b, o, e, hc⟩ := h.2 hn
  refine ⟨b, o, e, fun i hi => ?_⟩
  obtain ⟨Ai, ci, h1, h2, h3⟩ := hc i hi
  exact ⟨Ai, ci, (hb.cell (World.block_lt_of_cell? w _ h1)).trans h1, h2.below hb, h3⟩
theorem cellsOp : Try.prog.cellsOf 32 = 3 := by kernel_rfl
theorem cellsLo : Try.prog.cellsOf 27 = 1 := by kernel_rfl
theorem cellsSt : Try.prog.cellsOf 9 = 1 := by kernel_rfl
theorem cellsBl : Try.prog.cellsOf 4 = 1 := by kernel_rfl
theorem three_ {α : Type} {l : List α} (h : l.length = 3) : ∃ a b c, l = [a, b, c] := by
  match l, h with
  | [a, b, c], _ => exact ⟨a, b, c, rfl⟩
theorem one_ {α : Type} {l : List α} (h : l.length = 1) : ∃ a, l = [a] := by
  match l, h with
  | [a], _ => exact ⟨a, rfl⟩
theorem mem_allW {H : Type} {P : Program} {e : TypeId} {x : Nat} : ∀ {l : List (DataW H)} {d : DataW H}, d ∈ l → x ∈ d.weights P e → x ∈ DataW.weightsAll P e l
  | a :: l, d, h, hx => by
    unfold DataW.weightsAll
    rcases List.mem_cons.1 h with rfl | h
    · exact List.mem_append.2 (.inl hx)
    · exact List.mem_append.2 (.inr (mem_allW h hx))
section
variable {H : Type} {enc : TypeId × Value → H} {w : World} {base : Nat} {held : Bool} {d : DataW H} {p : List MemPlace} {v : Value} {r : Reach} {b0 : Nat} {fuel : Nat} {cs : List Value}
set_option maxRecDepth 100000 in
theorem open_opsz (hf : DataW.trod enc Try.prog w base (fun _ => true) held fuel 27 cs = some (d, p)) (hW : ∀ y ∈ d.weights Try.prog 27, y ≤ 140737488351232) :
    ∃ A n c, cs = [.slice A n c] ∧ (∃ l : List Op_, OAt w A n l ∧ OSz l ∧ l.length * 40 ≤ 140737488351232) ∧ n ≤ c ∧ c ≤ 9223372036854775807 := by
  have hmax : maxLen ≤ 9223372036854775807 := by decide
  rcases open_slice Try.underlying27 hf with ⟨hcs, _⟩ | ⟨a, n, c, m, k, D, Pl, hcs, _, hl, hm, hmm, hx, hrow⟩
  · exact ⟨none, 0, 0, hcs, ⟨[], OAt.nil _ _, fun o ho => (nomatch ho), by simp⟩, Nat.le_refl _, by omega⟩
  · rw [if_pos rfl] at hmm
    have hdd : d = .slice ((List.range n).map D) ((List.range (m - n)).map fun j => D (n + j)) := congrArg Prod.fst hx
    have hv : ∀ i, i < n → ∃ (q : Op_), w.cell? (a.add (i * 3)) = some (.string q.key) ∧ w.cell? (a.add (i * 3 + 1)) = some (.string q.value) ∧ w.cell? (a.add (i * 3 + 2)) = some (.bool q.del) ∧ q.key.size ≤ 140737488351232 ∧ q.value.size ≤ 140737488351232 := by
      intro i hi
      obtain ⟨cs', h1, h2⟩ := hrow i (by omega)
      rw [cellsOp] at h1
      obtain ⟨_, hlen, hcell⟩ := World.cells?_some h1
      obtain ⟨xs, k', hk', hxy, _, hxl, hfl⟩ := DataW.trod_struct Try.underlying32 h2
      have hDi : D i = .agg (xs.map (·.1)) := congrArg Prod.fst hxy
      have hWi : ∀ y ∈ (D i).weights Try.prog 32, y ≤ 140737488351232 := fun y hy => hW y (by
        rw [hdd]
        simp only [DataW.weights, Try.underlying27]
        exact List.mem_cons.2 (.inr (List.mem_append.2 (.inl (mem_allW (List.mem_map.2 ⟨i, List.mem_range.2 hi, rfl⟩) hy)))))
      obtain ⟨y0, y1, y2, rfl⟩ := three_ hxl
      obtain ⟨v0, v1, v2, rfl⟩ := three_ hlen
      have g0 := hfl 0 _ rfl
      have g1 := hfl 1 _ rfl
      have g2 := hfl 2 _ rfl
      simp [cellsSt, cellsBl] at g0 g1 g2
      obtain ⟨s0, e0, x0, _⟩ := DataW.trod_string Try.underlying9 g0
      obtain ⟨s1, e1, x1, _⟩ := DataW.trod_string Try.underlying9 g1
      obtain ⟨z2, e2, _⟩ := DataW.trod_bool Try.underlying4 g2
      simp at e0 e1 e2
      have hwe : ∀ (j : Nat) (t : TypeId) (dd : DataW H), [9, 9, 4][j]? = some t → [y0.1, y1.1, y2.1][j]? = some dd → ∀ y ∈ dd.weights Try.prog t, y ≤ 140737488351232 := fun j t dd ht hdj y hy => hWi y (by
        rw [hDi]
        simp only [DataW.weights, Try.underlying32]
        exact DataW.weights_mem_each (j := j) ht hdj y hy)
      have q0 := hwe 0 _ _ rfl rfl s0.data.toList.length (by rw [x0]; simp [DataW.weights])
      have q1 := hwe 1 _ _ rfl rfl s1.data.toList.length (by rw [x1]; simp [DataW.weights])
      have z0 : s0.data.toList.length = s0.size := by rw [Array.length_toList]; rfl
      have z1 : s1.data.toList.length = s1.size := by rw [Array.length_toList]; rfl
      have c0 := hcell 0 (by omega)
      have c1 := hcell 1 (by omega)
      have c2 := hcell 2 (by omega)
      rw [Go.Deep.add_add] at c0 c1 c2
      exact ⟨⟨s0, s1, z2⟩, by rw [← e0]; simpa using c0, by rw [← e1]; simpa using c1, by rw [← e2]; simpa using c2, by show s0.size ≤ _; omega, by show s1.size ≤ _; omega⟩
    have hbig : n * 40 ≤ 140737488351232 := by
      have h1 := hW ((((List.range n).map D).length + ((List.range (m - n)).map fun j => D (n + j)).length) * Try.prog.bytesOf 32) (by
        rw [hdd]
        simp only [DataW.weights, Try.underlying27]
        exact List.mem_cons_self)
      rw [show Try.prog.bytesOf 32 = 40 by kernel_rfl] at h1
      simp only [List.length_map, List.length_range] at h1
      omega
    refine ⟨some a, n, c, hcs, ?_, hl, by omega⟩
    have hch : ∃ f : Nat → Op_, ∀ i, i < n → w.cell? (a.add (i * 3)) = some (.string (f i).key) ∧ w.cell? (a.add (i * 3 + 1)) = some (.string (f i).value) ∧ w.cell? (a.add (i * 3 + 2)) = some (.bool (f i).del) ∧ (f i).key.size ≤ 140737488351232 ∧ (f i).value.size ≤ 140737488351232 := by
      refine ⟨fun i => if h : i < n then (hv i h).choose else ⟨ByteArray.empty, ByteArray.empty, false⟩, fun i hi => ?_⟩
      simp only [dif_pos hi]
      exact (hv i hi).choose_spec
    obtain ⟨f, hf⟩ := hch
    refine ⟨(List.range n).map f, ⟨by simp, fun h0 => ?_⟩, fun o ho => ?_, by simpa using hbig⟩
    · obtain ⟨b, o, s⟩ := a
      obtain ⟨h1, _⟩ := hf 0 h0
      obtain rfl : s = none := by simpa [Addr.add] using World.cell?_spot h1
      refine ⟨b, o, rfl, fun i hi => ?_⟩
      have hi' : i < n := by simpa using hi
      obtain ⟨h1, h2, h3, _⟩ := hf i hi'
      rw [Go.WideShapes.add_plain] at h1 h2 h3
      simp only [List.getElem_map, List.getElem_range]
      exact ⟨h1, by rw [Nat.add_assoc]; exact h2, by rw [Nat.add_assoc]; exact h3⟩
    · obtain ⟨i, hi, rfl⟩ := List.mem_map.1 ho
      exact (hf i (List.mem_range.1 hi)).2.2.2
theorem open_opz (hval : Value.okWide Try.prog w r b0 27 v) (hd : DataW.Trod enc Try.prog w base (fun _ => true) held 27 v d p) (hW : ∀ y ∈ d.weights Try.prog 27, y ≤ 140737488351232) :
    ∃ A n c, v = .slice A n c ∧ (∃ l : List Op_, OAt w A n l ∧ OSz l ∧ l.length * 40 ≤ 140737488351232) ∧ n ≤ c ∧ c ≤ 9223372036854775807 := by
  obtain ⟨A, n, c, rfl⟩ := okWide_slice Try.underlying27 hval
  obtain ⟨fuel, hf⟩ := hd
  obtain ⟨A', n', c', hcs, h1, h2, h3⟩ := open_opsz hf hW
  simp [Value.cells] at hcs
  obtain ⟨rfl, rfl, rfl⟩ := hcs
  exact ⟨A, n, c, rfl, h1, h2, h3⟩
set_option maxRecDepth 100000 in
theorem open_bats (hval : Value.okWide Try.prog w r b0 22 v) (hd : DataW.Trod enc Try.prog w base (fun _ => true) held 22 v d p) (hW : ∀ y ∈ d.weights Try.prog 22, y ≤ 140737488351232) :
    ∃ A n c, v = .slice A n c ∧ (∃ l : List (List Op_), BAt w A n l ∧ ∀ b ∈ l, OSz b ∧ b.length * 40 ≤ 140737488351232) ∧ n ≤ c ∧ c ≤ 9223372036854775807 := by
  have hmax : maxLen ≤ 9223372036854775807 := by decide
  obtain ⟨A, n, c, rfl⟩ := okWide_slice Try.underlying22 hval
  obtain ⟨fuel, hf⟩ := hd
  rcases open_slice Try.underlying22 hf with ⟨hcs, _⟩ | ⟨a, n', c', m, k, D, Pl, hcs, _, hl, hm, hmm, hx, hrow⟩
  · simp [Value.cells] at hcs
    obtain ⟨rfl, rfl, rfl⟩ := hcs
    exact ⟨none, 0, 0, rfl, ⟨[], ⟨rfl, fun h => absurd h (Nat.lt_irrefl _)⟩, fun b hb => (nomatch hb)⟩, Nat.le_refl _, by omega⟩
  · simp [Value.cells] at hcs
    obtain ⟨rfl, rfl, rfl⟩ := hcs
    rw [if_pos rfl] at hmm
    have hdd : d = .slice ((List.range n).map D) ((List.range (m - n)).map fun j => D (n + j)) := congrArg Prod.fst hx
    have hv : ∀ i, i < n → ∃ (q : List Op_), ∃ Ai ci, w.cell? (a.add i) = some (.slice Ai q.length ci) ∧ OAt w Ai q.length q ∧ q.length ≤ ci ∧ ci ≤ 9223372036854775807 ∧ OSz q ∧ q.length * 40 ≤ 140737488351232 := by
      intro i hi
      obtain ⟨cs', h1, h2⟩ := hrow i (by omega)
      rw [cellsLo, Nat.mul_one] at h1
      obtain ⟨_, hlen, hcell⟩ := World.cells?_some h1
      have hWi : ∀ y ∈ (D i).weights Try.prog 27, y ≤ 140737488351232 := fun y hy => hW y (by
        rw [hdd]
        simp only [DataW.weights, Try.underlying22]
        exact List.mem_cons.2 (.inr (List.mem_append.2 (.inl (mem_allW (List.mem_map.2 ⟨i, List.mem_range.2 hi, rfl⟩) hy)))))
      obtain ⟨Ai, ni, ci, rfl, ⟨q, hq, hz⟩, h3, h4⟩ := open_opsz h2 hWi
      have c0 := hcell 0 (by simp)
      obtain rfl : q.length = ni := hq.1
      exact ⟨q, Ai, ci, by simpa [Go.Deep.add_add] using c0, hq, h3, h4, hz⟩
    refine ⟨some a, n, c, rfl, ?_, hl, by omega⟩
    have hch : ∃ f : Nat → List Op_, ∀ i, i < n → ∃ Ai ci, w.cell? (a.add i) = some (.slice Ai (f i).length ci) ∧ OAt w Ai (f i).length (f i) ∧ (f i).length ≤ ci ∧ ci ≤ 9223372036854775807 ∧ OSz (f i) ∧ (f i).length * 40 ≤ 140737488351232 := by
      refine ⟨fun i => if h : i < n then (hv i h).choose else [], fun i hi => ?_⟩
      simp only [dif_pos hi]
      exact (hv i hi).choose_spec
    obtain ⟨f, hf⟩ := hch
    refine ⟨(List.range n).map f, ⟨by simp, fun h0 => ?_⟩, fun o ho => ?_⟩
    · obtain ⟨b, o, s⟩ := a
      obtain ⟨_, _, h1, _⟩ := hf 0 h0
      obtain rfl : s = none := by simpa [Addr.add] using World.cell?_spot h1
      refine ⟨b, o, rfl, fun i hi => ?_⟩
      have hi' : i < n := by simpa using hi
      obtain ⟨Ai, ci, h1, h2, h3, h4, _⟩ := hf i hi'
      rw [Go.WideShapes.add_plain] at h1
      simp only [List.getElem_map, List.getElem_range]
      exact ⟨Ai, ci, h1, h2, h3, h4⟩
    · obtain ⟨i, hi, rfl⟩ := List.mem_map.1 ho
      obtain ⟨_, _, _, _, _, _, h5⟩ := hf i (List.mem_range.1 hi)
      exact h5
theorem sized_opz {ts : List TypeId} {ds : List (DataW H)} (h : (DataW.weightsEach Try.prog ts ds).all (· ≤ reachBytes) = true) {j : Nat} {d : DataW H} (ht : ts[j]? = some 27) (hd : ds[j]? = some d) :
    ∀ y ∈ d.weights Try.prog 27, y ≤ 140737488351232 := fun y hy => by
  have h1 := List.all_eq_true.1 h _ (DataW.weights_mem_each ht hd y hy)
  rw [reach_le] at h1
  exact of_decide_eq_true h1
theorem sized_bats {ts : List TypeId} {ds : List (DataW H)} (h : (DataW.weightsEach Try.prog ts ds).all (· ≤ reachBytes) = true) {j : Nat} {d : DataW H} (ht : ts[j]? = some 22) (hd : ds[j]? = some d) :
    ∀ y ∈ d.weights Try.prog 22, y ≤ 140737488351232 := fun y hy => by
  have h1 := List.all_eq_true.1 h _ (DataW.weights_mem_each ht hd y hy)
  rw [reach_le] at h1
  exact of_decide_eq_true h1
end
end Go.Proofs.Ytgakkeeeadndkaa
