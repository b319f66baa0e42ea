/-
  How arguments are opened: a list of deeds.
-/
import Derived.Test.YtmjoaeljfhgojaaOpenD
import Derived.Test.YtmjoaeljfhgojaaVDiskKeeps
import Derived.Lib.SmallJoins
import Derived.Deep.SlicePairs
set_option linter.unusedVariables false
namespace Go.Proofs.Ytmjoaeljfhgojaa
open Go.ChangeShapes Go.WideShapes Go.ChangeAt Go.RowKit Go.Joins Go.Deep

theorem cellsDeed : Try.prog.cellsOf 30 = 7 := by kernel_rfl
theorem cellsI : Try.prog.cellsOf 3 = 1 := by kernel_rfl
theorem cellsT : Try.prog.cellsOf 9 = 1 := by kernel_rfl
theorem cellsB : Try.prog.cellsOf 27 = 1 := by kernel_rfl
theorem cellsN : Try.prog.cellsOf 28 = 1 := by kernel_rfl
theorem mem_all {H : Type} {P : Program} {e : TypeId} {x : Nat} : ∀ {l : List (DataW H)} {d : DataW H}, d ∈ l → x ∈ d.weights P e → x ∈ DataW.weightsAll P e l
  | a :: l, d, h, hx => by
    unfold DataW.weightsAll
    rcases List.mem_cons.1 h with rfl | h
    · exact List.mem_append.2 (.inl hx)
    · exact List.mem_append.2 (.inr (mem_all h hx))
theorem seven {α : Type} {l : List α} (h : l.length = 7) : ∃ a b c d e f g, l = [a, b, c, d, e, f, g] := by
  match l, h with
  | [a, b, c, d, e, f, g], _ => exact ⟨a, b, c, d, e, f, g, rfl⟩
section
variable {H : Type} {enc : TypeId × Value → H} {w : World} {base : Nat} {held : Bool} {d : DataW H} {p : List MemPlace} {v : Value} {r : Reach} {b0 : Nat} {fuel : Nat} {x : DataW H × List MemPlace}
set_option maxRecDepth 100000 in
theorem cell_bytes (h : DataW.trod enc Try.prog w base (fun _ => true) held fuel 27 [v] = some x) : ∃ A n c xs, v = .slice A n c ∧ At w A n xs ∧ n ≤ c ∧ c ≤ 9223372036854775807 := by
  have hmax : maxLen ≤ 9223372036854775807 := by decide
  rcases open_ints Try.underlying27 Try.underlying5 (by kernel_rfl) h with ⟨hcs, _⟩ | ⟨a, l, c', zs, hcs, _, hl, hm, hz, hx, hcell, hwz⟩
  · simp at hcs
    exact ⟨none, 0, 0, [], hcs, At.nil _ _, Nat.le_refl _, by omega⟩
  · simp at hcs
    rw [if_pos rfl] at hz
    exact ⟨some a, l, c', _, hcs, at_of_ints (n := l) (by omega) hcell hwz, hl, by omega⟩
set_option maxRecDepth 100000 in
theorem cell_nums (h : DataW.trod enc Try.prog w base (fun _ => true) held fuel 28 [v] = some x) : ∃ A n c xs, v = .slice A n c ∧ IAt w A n xs ∧ n ≤ c ∧ c ≤ 9223372036854775807 ∧ ∀ K, (∀ y ∈ x.1.weights Try.prog 28, y ≤ K) → n * 8 ≤ K := by
  have hmax : maxLen ≤ 9223372036854775807 := by decide
  rcases open_ints Try.underlying28 Try.underlying3 (by kernel_rfl) h with ⟨hcs, _⟩ | ⟨a, l, c', zs, hcs, _, hl, hm, hz, hx, hcell, hwz⟩
  · simp at hcs
    exact ⟨none, 0, 0, [], hcs, IAt.nil _ _, Nat.le_refl _, by omega, fun _ _ => by omega⟩
  · simp at hcs
    rw [if_pos rfl] at hz
    refine ⟨some a, l, c', _, hcs, iat_of_ints (n := l) (by omega) (fun i hi => hcell i (by omega)), hl, by omega, fun K hK => ?_⟩
    have h1 := hK ((l + (zs.length - l)) * 8) (by
      rw [hx]
      simp only [DataW.weights, Try.underlying28]
      refine List.mem_cons.2 (.inl ?_)
      rw [show Try.prog.bytesOf 3 = 8 by kernel_rfl]
      simp [lits]
      omega)
    omega
set_option maxRecDepth 100000 in
set_option maxHeartbeats 2000000 in
theorem open_deeds (hval : Value.okWide Try.prog w r b0 22 v) (hd : DataW.Trod enc Try.prog w base (fun _ => true) held 22 v d p) (hW : ∀ y ∈ d.weights Try.prog 22, y ≤ 140737488351232) :
    ∃ A n c, v = .slice A n c ∧ (∃ qs, Deeds w A n qs) ∧ n ≤ c ∧ c ≤ 9223372036854775807 := by
  have hmax : maxLen ≤ 9223372036854775807 := by decide
  obtain ⟨A, n, c, rfl⟩ := okWide_slice Try.underlying22 hval
  obtain ⟨fuel, hf⟩ := hd
  rcases open_slice Try.underlying22 hf with ⟨hcs, _⟩ | ⟨a, len, cap, m, k, D, Pl, hcs, _, hl, hm, hmm, hx, hrow⟩
  · simp [Value.cells] at hcs
    obtain ⟨rfl, rfl, rfl⟩ := hcs
    exact ⟨none, 0, 0, rfl, ⟨[], rfl, fun h => absurd h (by omega)⟩, Nat.le_refl _, by omega⟩
  · simp [Value.cells] at hcs
    obtain ⟨rfl, rfl, rfl⟩ := hcs
    rw [if_pos rfl] at hmm
    have hdd : d = .slice ((List.range n).map D) ((List.range (m - n)).map fun j => D (n + j)) := congrArg Prod.fst hx
    have hv : ∀ i, i < n → ∃ (q : Dd) (BA : Option Addr) (bc : Nat) (KA : Option Addr) (kc : Nat), w.cell? (a.add (i * 7)) = some (.int .i64 q.k) ∧ w.cell? (a.add (i * 7 + 1)) = some (.string q.nm) ∧ w.cell? (a.add (i * 7 + 2)) = some (.string q.tn) ∧ w.cell? (a.add (i * 7 + 3)) = some (.slice BA q.bs.length bc) ∧ w.cell? (a.add (i * 7 + 4)) = some (.int .i64 q.n) ∧ w.cell? (a.add (i * 7 + 5)) = some (.int .i64 q.at_) ∧ w.cell? (a.add (i * 7 + 6)) = some (.slice KA q.keep.length kc) ∧
        At w BA q.bs.length q.bs ∧ IAt w KA q.keep.length q.keep ∧ q.bs.length ≤ bc ∧ bc ≤ 9223372036854775807 ∧ q.keep.length ≤ kc ∧ kc ≤ 9223372036854775807 ∧ q.keep.length ≤ 17592186044416 ∧ q.nm.size ≤ 9223372036854775000 ∧ q.tn.size ≤ 9223372036854775000 ∧ In64 q.k ∧ In64 q.n ∧ In64 q.at_ := by
      intro i hi
      obtain ⟨cs', h1, h2⟩ := hrow i (by omega)
      rw [cellsDeed] at h1
      obtain ⟨_, hlen, hcell⟩ := World.cells?_some h1
      obtain ⟨xs, k', hk', hxy, _, hxl, hfl⟩ := DataW.trod_struct Try.underlying30 h2
      have hDi : D i = .agg (xs.map (·.1)) := congrArg Prod.fst hxy
      have hWi : ∀ y ∈ (D i).weights Try.prog 30, y ≤ 140737488351232 := fun y hy => hW y (by
        rw [hdd]
        simp only [DataW.weights, Try.underlying22]
        exact List.mem_cons.2 (.inr (List.mem_append.2 (.inl (mem_all (List.mem_map.2 ⟨i, List.mem_range.2 hi, rfl⟩) hy)))))
      obtain ⟨y0, y1, y2, y3, y4, y5, y6, rfl⟩ := seven hxl
      obtain ⟨v0, v1, v2, v3, v4, v5, v6, rfl⟩ := seven hlen
      · skip
        have g0 := hfl 0 _ rfl
        have g1 := hfl 1 _ rfl
        have g2 := hfl 2 _ rfl
        have g3 := hfl 3 _ rfl
        have g4 := hfl 4 _ rfl
        have g5 := hfl 5 _ rfl
        have g6 := hfl 6 _ rfl
        simp [cellsI, cellsT, cellsB, cellsN] at g0 g1 g2 g3 g4 g5 g6
        obtain ⟨z0, e0, _, w0⟩ := DataW.trod_int Try.underlying3 g0
        obtain ⟨s1, e1, x1, _⟩ := DataW.trod_string Try.underlying9 g1
        obtain ⟨s2, e2, x2, _⟩ := DataW.trod_string Try.underlying9 g2
        obtain ⟨BA, bn, bc, bs, e3, hB, hb1, hb2⟩ := cell_bytes g3
        obtain ⟨z4, e4, _, w4⟩ := DataW.trod_int Try.underlying3 g4
        obtain ⟨z5, e5, _, w5⟩ := DataW.trod_int Try.underlying3 g5
        obtain ⟨KA, kn, kc, ks, e6, hK, hk1, hk2, hk3⟩ := cell_nums g6
        simp at e0 e1 e2 e4 e5
        have hwe : ∀ (j : Nat) (t : TypeId) (dd : DataW H), [3, 9, 9, 27, 3, 3, 28][j]? = some t → [y0.1, y1.1, y2.1, y3.1, y4.1, y5.1, y6.1][j]? = some dd → ∀ y ∈ dd.weights Try.prog t, y ≤ 140737488351232 := fun j t dd ht hdj y hy => hWi y (by
          rw [hDi]
          simp only [DataW.weights, Try.underlying30]
          exact DataW.weights_mem_each (j := j) ht hdj y hy)
        have n1 := hwe 1 _ _ rfl rfl s1.data.toList.length (by rw [x1]; simp [DataW.weights])
        have n2 := hwe 2 _ _ rfl rfl s2.data.toList.length (by rw [x2]; simp [DataW.weights])
        have n6 := hk3 _ (hwe 6 _ _ rfl rfl)
        have c0 := hcell 0 (by omega)
        have c1 := hcell 1 (by omega)
        have c2 := hcell 2 (by omega)
        have c3 := hcell 3 (by omega)
        have c4 := hcell 4 (by omega)
        have c5 := hcell 5 (by omega)
        have c6 := hcell 6 (by omega)
        rw [Go.Deep.add_add] at c0 c1 c2 c3 c4 c5 c6
        have lb := hB.1
        have lk := hK.1
        refine ⟨⟨z0, s1, s2, bs, z4, z5, ks⟩, BA, bc, KA, kc, by rw [← e0]; simpa using c0, by rw [← e1]; simpa using c1, by rw [← e2]; simpa using c2, ?_, by rw [← e4]; simpa using c4, by rw [← e5]; simpa using c5, ?_, by rw [lb]; exact hB, by rw [lk]; exact hK, by rw [lb]; exact hb1, hb2, by rw [lk]; exact hk1, hk2, by rw [lk]; omega, ?_, ?_, int_bounds w0, int_bounds w4, int_bounds w5⟩
        · rw [lb, ← e3]
          simpa using c3
        · rw [lk, ← e6]
          simpa using c6
        · have e : s1.data.toList.length = s1.size := by rw [Array.length_toList]; rfl
          show s1.size ≤ _
          omega
        · have e : s2.data.toList.length = s2.size := by rw [Array.length_toList]; rfl
          show s2.size ≤ _
          omega
    refine ⟨some a, n, c, rfl, ?_, hl, by omega⟩
    have hch : ∃ f : Nat → Dd, ∀ i, i < n → ∃ BA bc KA kc, w.cell? (a.add (i * 7)) = some (.int .i64 (f i).k) ∧ w.cell? (a.add (i * 7 + 1)) = some (.string (f i).nm) ∧ w.cell? (a.add (i * 7 + 2)) = some (.string (f i).tn) ∧ w.cell? (a.add (i * 7 + 3)) = some (.slice BA (f i).bs.length bc) ∧ w.cell? (a.add (i * 7 + 4)) = some (.int .i64 (f i).n) ∧ w.cell? (a.add (i * 7 + 5)) = some (.int .i64 (f i).at_) ∧ w.cell? (a.add (i * 7 + 6)) = some (.slice KA (f i).keep.length kc) ∧
        At w BA (f i).bs.length (f i).bs ∧ IAt w KA (f i).keep.length (f i).keep ∧ (f i).bs.length ≤ bc ∧ bc ≤ 9223372036854775807 ∧ (f i).keep.length ≤ kc ∧ kc ≤ 9223372036854775807 ∧ (f i).keep.length ≤ 17592186044416 ∧ (f i).nm.size ≤ 9223372036854775000 ∧ (f i).tn.size ≤ 9223372036854775000 ∧ In64 (f i).k ∧ In64 (f i).n ∧ In64 (f i).at_ := by
      refine ⟨fun i => if h : i < n then (hv i h).choose else ⟨0, ByteArray.empty, ByteArray.empty, [], 0, 0, []⟩, fun i hi => ?_⟩
      simp only [dif_pos hi]
      exact (hv i hi).choose_spec
    obtain ⟨f, hf⟩ := hch
    refine ⟨(List.range n).map f, by simp, fun h0 => ?_⟩
    obtain ⟨b, o, s⟩ := a
    obtain ⟨_, _, _, _, h1, _⟩ := hf 0 h0
    obtain rfl : s = none := by simpa [Addr.add] using World.cell?_spot h1
    refine ⟨b, o, rfl, fun i hi => ?_⟩
    have hi' : i < n := by simpa using hi
    obtain ⟨BA, bc, KA, kc, h1, h2, h3, h4, h5, h6, h7, hr⟩ := hf i hi'
    rw [Go.WideShapes.add_plain] at h1 h2 h3 h4 h5 h6 h7
    obtain ⟨r1, r2, r3, r4, r5, r6, r7, r8, r9, r10, r11, r12⟩ := hr
    simp only [List.getElem_map, List.getElem_range]
    exact ⟨BA, bc, KA, kc, ⟨h1, by rw [Nat.add_assoc]; exact h2, by rw [Nat.add_assoc]; exact h3, by rw [Nat.add_assoc]; exact h4, by rw [Nat.add_assoc]; exact h5, by rw [Nat.add_assoc]; exact h6, by rw [Nat.add_assoc]; exact h7, r1, r2, r3, r4, r5, r6, r7, r8, r9, r10, r11, r12⟩⟩
theorem sized_deeds {ts : List TypeId} {ds : List (DataW H)} (h : (DataW.weightsEach Try.prog ts ds).all (· ≤ reachBytes) = true) {j : Nat} {d : DataW H} (ht : ts[j]? = some 22) (hd : ds[j]? = some d) :
    ∀ y ∈ d.weights Try.prog 22, y ≤ 140737488351232 := fun y hy => by
  have h1 := List.all_eq_true.1 h _ (DataW.weights_mem_each ht hd y hy)
  rw [reach_le] at h1
  exact of_decide_eq_true h1
end
end Go.Proofs.Ytmjoaeljfhgojaa
