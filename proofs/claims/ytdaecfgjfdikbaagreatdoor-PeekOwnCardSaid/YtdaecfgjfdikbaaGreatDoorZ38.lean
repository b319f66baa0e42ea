/-
  How arguments are opened: a transaction, a change, things.
-/
import Derived.Test.YtdaecfgjfdikbaaGreatDoorZ37
import Derived.Test.YtdaecfgjfdikbaaGreatDoorZ31
set_option linter.unusedVariables false
set_option linter.unusedSimpArgs false
set_option maxRecDepth 100000
namespace Go.Proofs.YtdaecfgjfdikbaaGreatDoor
open Go.ChangeShapes Go.WideShapes Go.ChangeAt Go.RowKit Go.Joins Go.Deep

theorem kTx : Tryz.prog.cellsOf 28 = 12 := by kernel_rfl
theorem l6 {α : Type} {l : List α} (h : l.length = 6) : ∃ a b c d e f, l = [a, b, c, d, e, f] := by
  match l, h with
  | [a, b, c, d, e, f], _ => exact ⟨a, b, c, d, e, f, rfl⟩
theorem l4 {α : Type} {l : List α} (h : l.length = 4) : ∃ a b c d, l = [a, b, c, d] := by
  match l, h with
  | [a, b, c, d], _ => exact ⟨a, b, c, d, rfl⟩
theorem l12 {α : Type} {l : List α} (h : l.length = 12) : ∃ a0 a1 a2 a3 a4 a5 a6 a7 a8 a9 a10 a11, l = [a0, a1, a2, a3, a4, a5, a6, a7, a8, a9, a10, a11] := by
  match l, h with
  | [a0, a1, a2, a3, a4, a5, a6, a7, a8, a9, a10, a11], _ => exact ⟨_, _, _, _, _, _, _, _, _, _, _, _, rfl⟩
theorem l15 {α : Type} {l : List α} (h : l.length = 15) : ∃ a0 a1 a2 a3 a4 a5 a6 a7 a8 a9 a10 a11 a12 a13 a14, l = [a0, a1, a2, a3, a4, a5, a6, a7, a8, a9, a10, a11, a12, a13, a14] := by
  match l, h with
  | [a0, a1, a2, a3, a4, a5, a6, a7, a8, a9, a10, a11, a12, a13, a14], _ => exact ⟨_, _, _, _, _, _, _, _, _, _, _, _, _, _, _, rfl⟩
section
variable {H : Type} {enc : TypeId × Value → H} {w : World} {base : Nat} {held : Bool} {d : DataW H} {p : List MemPlace} {v : Value} {r : Reach} {b0 : Nat} {fuel : Nat} {cs : List Value}
theorem open_it (hf : DataW.trod enc Tryz.prog w base (fun _ => true) held fuel 37 cs = some (d, p)) (hW : ∀ y ∈ d.weights Tryz.prog 37, y ≤ 140737488351232) :
    ∃ (x : It) (A : Option Addr) (n c : Nat), cs = [.int .i64 x.id, .int .i64 x.ep, .int .i64 x.pr, .string x.an, .int .i64 x.sw, .int .i64 x.sl, .int .i64 x.bw, .int .i64 x.bl, .slice A n c] ∧ ChAt w A n x.l ∧ n * 32 ≤ 140737488351232 ∧ n ≤ c ∧ c ≤ 9223372036854775807 := by
  obtain ⟨xs, k', hk', hxy, hcl, hxl, hfl⟩ := DataW.trod_struct Tryz.underlying37 hf
  rw [kIt] at hcl
  obtain ⟨v0, v1, v2, v3, v4, v5, v6, v7, v8, rfl⟩ := l9 hcl
  obtain ⟨y0, y1, y2, y3, y4, y5, y6, rfl⟩ := l7 hxl
  have hDi : d = .agg ([y0, y1, y2, y3, y4, y5, y6].map (·.1)) := congrArg Prod.fst hxy
  have g0 := hfl 0 _ rfl
  have g1 := hfl 1 _ rfl
  have g2 := hfl 2 _ rfl
  have g3 := hfl 3 _ rfl
  have g4 := hfl 4 _ rfl
  have g5 := hfl 5 _ rfl
  have g6 := hfl 6 _ rfl
  simp [kIn, kSt, kSp, kLc] at g0 g1 g2 g3 g4 g5 g6
  obtain ⟨z0, e0, _, _⟩ := DataW.trod_int Tryz.underlying3 g0
  obtain ⟨z1, e1, _, _⟩ := DataW.trod_int Tryz.underlying3 g1
  obtain ⟨z2, e2, _, _⟩ := DataW.trod_int Tryz.underlying3 g2
  obtain ⟨s3, e3, _, _⟩ := DataW.trod_string Tryz.underlying9 g3
  obtain ⟨a4, b4, e4⟩ := open_sp g4
  obtain ⟨a5, b5, e5⟩ := open_sp g5
  obtain ⟨A, n, c, e6, ⟨l, h1, h2⟩, h3, h4⟩ := open_chs (d := y6.1) (p := y6.2) g6 (fun y hy => hW y (by
    rw [hDi]
    simp only [DataW.weights, Tryz.underlying37]
    exact DataW.weights_mem_each (j := 6) (t := 35) rfl rfl y hy))
  simp at e0 e1 e2 e3 e4 e5 e6
  obtain ⟨e4, e4'⟩ := e4
  obtain ⟨e5, e5'⟩ := e5
  subst e0 e1 e2 e3 e4 e4' e5 e5' e6
  exact ⟨⟨z0, z1, z2, s3, a4, b4, a5, b5, l⟩, A, n, c, rfl, h1, by rw [← h1.1]; exact h2, h3, h4⟩
theorem open_tx (hf : DataW.trod enc Tryz.prog w base (fun _ => true) held fuel 28 cs = some (d, p)) :
    ∃ (x : Tx), cs = (txc x).toList := by
  obtain ⟨xs, k', hk', hxy, hcl, hxl, hfl⟩ := DataW.trod_struct Tryz.underlying28 hf
  rw [kTx] at hcl
  obtain ⟨v0, v1, v2, v3, v4, v5, v6, v7, v8, v9, v10, v11, rfl⟩ := l12 hcl
  obtain ⟨y0, y1, y2, y3, y4, y5, y6, y7, rfl⟩ := l8 hxl
  have g0 := hfl 0 _ rfl
  have g1 := hfl 1 _ rfl
  have g2 := hfl 2 _ rfl
  have g3 := hfl 3 _ rfl
  have g4 := hfl 4 _ rfl
  have g5 := hfl 5 _ rfl
  have g6 := hfl 6 _ rfl
  have g7 := hfl 7 _ rfl
  simp [kIn, kSt, kSp] at g0 g1 g2 g3 g4 g5 g6 g7
  obtain ⟨z0, e0, _, _⟩ := DataW.trod_int Tryz.underlying3 g0
  obtain ⟨z1, e1, _, _⟩ := DataW.trod_int Tryz.underlying3 g1
  obtain ⟨z2, e2, _, _⟩ := DataW.trod_int Tryz.underlying3 g2
  obtain ⟨s3, e3, _, _⟩ := DataW.trod_string Tryz.underlying9 g3
  obtain ⟨a4, b4, e4⟩ := open_sp g4
  obtain ⟨a5, b5, e5⟩ := open_sp g5
  obtain ⟨a6, b6, e6⟩ := open_sp g6
  obtain ⟨a7, b7, e7⟩ := open_sp g7
  simp at e0 e1 e2 e3 e4 e5 e6 e7
  obtain ⟨e4, e4'⟩ := e4
  obtain ⟨e5, e5'⟩ := e5
  obtain ⟨e6, e6'⟩ := e6
  obtain ⟨e7, e7'⟩ := e7
  subst e0 e1 e2 e3 e4 e4' e5 e5' e6 e6' e7 e7'
  exact ⟨⟨z0, z1, z2, s3, a4, b4, a5, b5, a6, b6, a7, b7⟩, rfl⟩
theorem open_ch (hf : DataW.trod enc Tryz.prog w base (fun _ => true) held fuel 79 cs = some (d, p)) (hW : ∀ y ∈ d.weights Tryz.prog 79, y ≤ 140737488351232) :
    ∃ (q : Int) (s : ByteArray) (b : Bool), cs = [.int .i64 q, .string s, .bool b] ∧ s.size ≤ 140737488351232 ∧ -9223372036854775808 ≤ q ∧ q ≤ 9223372036854775807 := by
  obtain ⟨xs, k', hk', hxy, hcl, hxl, hfl⟩ := DataW.trod_struct Tryz.underlying79 hf
  rw [kCh] at hcl
  obtain ⟨v0, v1, v2, rfl⟩ := l3 hcl
  obtain ⟨y0, y1, y2, rfl⟩ := l3 hxl
  have hDi : d = .agg ([y0, y1, y2].map (·.1)) := congrArg Prod.fst hxy
  have g0 := hfl 0 _ rfl
  have g1 := hfl 1 _ rfl
  have g2 := hfl 2 _ rfl
  simp [kIn, kSt, kBl] at g0 g1 g2
  obtain ⟨z0, e0, _, wz⟩ := DataW.trod_int Tryz.underlying3 g0
  obtain ⟨s1, e1, x1, _⟩ := DataW.trod_string Tryz.underlying9 g1
  obtain ⟨z2, e2, _⟩ := DataW.trod_bool Tryz.underlying4 g2
  simp at e0 e1 e2
  have q1 := hW s1.data.toList.length (by
    rw [hDi]
    simp only [DataW.weights, Tryz.underlying79]
    exact DataW.weights_mem_each (j := 1) (t := 9) rfl rfl _ (by rw [x1]; simp [DataW.weights]))
  have z1 : s1.data.toList.length = s1.size := by rw [Array.length_toList]; rfl
  have hb := int_bounds wz
  subst e0 e1 e2
  exact ⟨z0, s1, z2, rfl, by omega, hb.1, hb.2⟩
theorem open_txn (hval : Value.okWide Tryz.prog w r b0 28 v) (hd : DataW.Trod enc Tryz.prog w base (fun _ => true) held 28 v d p) : ∃ x : Tx, v = txv x := by
  obtain ⟨cs, rfl, hsz⟩ : ∃ cs, v = .agg cs ∧ cs.size = Tryz.prog.cellsOf 28 := by
    simp only [Value.okWide, Tryz.underlying28] at hval
    obtain ⟨cs, h1, h2, _⟩ := hval
    exact ⟨cs, h1, h2⟩
  obtain ⟨fuel, hf⟩ := hd
  obtain ⟨x, hx⟩ := open_tx hf
  exact ⟨x, by congr 1; exact Array.ext' hx⟩
theorem open_change (hval : Value.okWide Tryz.prog w r b0 79 v) (hd : DataW.Trod enc Tryz.prog w base (fun _ => true) held 79 v d p) (hW : ∀ y ∈ d.weights Tryz.prog 79, y ≤ 140737488351232) :
    ∃ (q : Int) (s : ByteArray) (b : Bool), v = .agg #[.int .i64 q, .string s, .bool b] ∧ s.size ≤ 140737488351232 ∧ -9223372036854775808 ≤ q ∧ q ≤ 9223372036854775807 := by
  obtain ⟨cs, rfl, hsz⟩ : ∃ cs, v = .agg cs ∧ cs.size = Tryz.prog.cellsOf 79 := by
    simp only [Value.okWide, Tryz.underlying79] at hval
    obtain ⟨cs, h1, h2, _⟩ := hval
    exact ⟨cs, h1, h2⟩
  obtain ⟨fuel, hf⟩ := hd
  obtain ⟨q, s, b, hx, h1⟩ := open_ch hf hW
  exact ⟨q, s, b, by congr 1; exact Array.ext' hx, h1⟩
theorem sized_change {ts : List TypeId} {ds : List (DataW H)} (h : (DataW.weightsEach Tryz.prog ts ds).all (· ≤ reachBytes) = true) {j : Nat} {d : DataW H} (ht : ts[j]? = some 79) (hd : ds[j]? = some d) :
    ∀ y ∈ d.weights Tryz.prog 79, y ≤ 140737488351232 := fun y hy => by
  have h1 := List.all_eq_true.1 h _ (DataW.weights_mem_each ht hd y hy)
  rw [reach_le] at h1
  exact of_decide_eq_true h1
theorem kTh12 : Tryz.prog.cellsOf 57 = 15 := by kernel_rfl
theorem open_th12 (hf : DataW.trod enc Tryz.prog w base (fun _ => true) held fuel 57 cs = some (d, p)) (hW : ∀ y ∈ d.weights Tryz.prog 57, y ≤ 140737488351232) :
    ∃ (x : Th) (A : Option Addr) (n c : Nat), cs = (thc x (.slice A n c)).toList ∧ ChAt w A n x.it.l ∧ n ≤ c ∧ c ≤ 9223372036854775807 ∧ TSz x := by
  obtain ⟨xs, k', hk', hxy, hcl, hxl, hfl⟩ := DataW.trod_struct Tryz.underlying57 hf
  rw [kTh12] at hcl
  obtain ⟨v0, v1, v2, v3, v4, v5, v6, v7, v8, v9, v10, v11, v12, v13, v14, rfl⟩ := l15 hcl
  obtain ⟨y0, y1, y2, y3, y4, y5, rfl⟩ := l6 hxl
  have hDi : d = .agg ([y0, y1, y2, y3, y4, y5].map (·.1)) := congrArg Prod.fst hxy
  have hwe : ∀ (j : Nat) (t : TypeId) (dd : DataW H), [3, 9, 9, 4, 26, 37][j]? = some t → [y0.1, y1.1, y2.1, y3.1, y4.1, y5.1][j]? = some dd → ∀ y ∈ dd.weights Tryz.prog t, y ≤ 140737488351232 := fun j t dd ht hdj y hy => hW y (by
    rw [hDi]
    simp only [DataW.weights, Tryz.underlying57]
    exact DataW.weights_mem_each (j := j) ht hdj y hy)
  have g0 := hfl 0 _ rfl
  have g1 := hfl 1 _ rfl
  have g2 := hfl 2 _ rfl
  have g3 := hfl 3 _ rfl
  have g4 := hfl 4 _ rfl
  have g5 := hfl 5 _ rfl
  simp [kIn, kSt, kSp, kBl, kIt] at g0 g1 g2 g3 g4 g5
  obtain ⟨z0, e0, _, wz⟩ := DataW.trod_int Tryz.underlying3 g0
  obtain ⟨s1, e1, x1, _⟩ := DataW.trod_string Tryz.underlying9 g1
  obtain ⟨s2, e2, x2, _⟩ := DataW.trod_string Tryz.underlying9 g2
  obtain ⟨z3, e3, _⟩ := DataW.trod_bool Tryz.underlying4 g3
  obtain ⟨a4, b4, e4⟩ := open_sp g4
  obtain ⟨x, A, n, c, e5, h1, h2, h3, h4⟩ := open_it (d := y5.1) (p := y5.2) g5 (hwe 5 _ _ rfl rfl)
  have q1 := hwe 1 _ _ rfl rfl s1.data.toList.length (by rw [x1]; simp [DataW.weights])
  have q2 := hwe 2 _ _ rfl rfl s2.data.toList.length (by rw [x2]; simp [DataW.weights])
  have k1 : s1.data.toList.length = s1.size := by rw [Array.length_toList]; rfl
  have k2 : s2.data.toList.length = s2.size := by rw [Array.length_toList]; rfl
  have hb := int_bounds wz
  simp at e0 e1 e2 e3 e4 e5
  obtain ⟨e4, e4'⟩ := e4
  obtain ⟨f0, f1, f2, f3, f4, f5, f6, f7, f8⟩ := e5
  subst e0 e1 e2 e3 e4 e4' f0 f1 f2 f3 f4 f5 f6 f7 f8
  exact ⟨⟨z0, s1, s2, z3, a4, b4, x⟩, A, n, c, rfl, h1, h3, h4, by show s1.size ≤ _; omega, by show s2.size ≤ _; omega, hb.1, hb.2⟩
theorem open_things12 (hval : Value.okWide Tryz.prog w r b0 22 v) (hd : DataW.Trod enc Tryz.prog w base (fun _ => true) held 22 v d p) (hW : ∀ y ∈ d.weights Tryz.prog 22, y ≤ 140737488351232) :
    ∃ A n c, v = .slice A n c ∧ (∃ l : List Th, ThAt w A n l ∧ ∀ x ∈ l, TSz x) ∧ n ≤ c ∧ c ≤ 9223372036854775807 ∧ n * 160 ≤ 140737488351232 := by
  have hmax : maxLen ≤ 9223372036854775807 := by decide
  obtain ⟨A, n, c, rfl⟩ := okWide_slice Tryz.underlying22 hval
  obtain ⟨fuel, hf⟩ := hd
  rcases open_slice Tryz.underlying22 hf with ⟨hcs, _⟩ | ⟨a, n', c', m, k, D, Pl, hcs, _, hl, hm, hmm, hx, hrow⟩
  · simp [Value.cells] at hcs
    obtain ⟨rfl, rfl, rfl⟩ := hcs
    exact ⟨none, 0, 0, rfl, ⟨[], ThAt.nil _ _, fun b hb => (nomatch hb)⟩, Nat.le_refl _, by omega, by omega⟩
  · simp [Value.cells] at hcs
    obtain ⟨rfl, rfl, rfl⟩ := hcs
    rw [if_pos rfl] at hmm
    have hdd : d = .slice ((List.range n).map D) ((List.range (m - n)).map fun j => D (n + j)) := congrArg Prod.fst hx
    have hv : ∀ i, i < n → ∃ (q : Th), ∃ Ai ni ci, (∀ j u, (thc q (.slice Ai ni ci))[j]? = some u → w.cell? (a.add (i * 15 + j)) = some u) ∧ ChAt w Ai ni q.it.l ∧ ni ≤ 9223372036854775807 ∧ TSz q := by
      intro i hi
      obtain ⟨cs', h1, h2⟩ := hrow i (by omega)
      rw [kTh12] at h1
      obtain ⟨_, hlen, hcell⟩ := World.cells?_some h1
      have hWi : ∀ y ∈ (D i).weights Tryz.prog 57, y ≤ 140737488351232 := fun y hy => hW y (by
        rw [hdd]
        simp only [DataW.weights, Tryz.underlying22]
        exact List.mem_cons.2 (.inr (List.mem_append.2 (.inl (mem_allW11 (List.mem_map.2 ⟨i, List.mem_range.2 hi, rfl⟩) hy)))))
      obtain ⟨q, Ai, ni, ci, rfl, hq, h3, h4, hz⟩ := open_th12 h2 hWi
      refine ⟨q, Ai, ni, ci, fun j u hu => ?_, hq, by omega, hz⟩
      obtain ⟨hj, hju⟩ := Array.getElem?_eq_some_iff.1 hu
      have c0 := hcell j (by simpa using hj)
      rw [Go.Deep.add_add] at c0
      rw [c0, Array.getElem?_toList]
      exact hu
    have hbig : n * 160 ≤ 140737488351232 := by
      have h1 := hW ((((List.range n).map D).length + ((List.range (m - n)).map fun j => D (n + j)).length) * Tryz.prog.bytesOf 57) (by
        rw [hdd]
        simp only [DataW.weights, Tryz.underlying22]
        exact List.mem_cons_self)
      rw [show Tryz.prog.bytesOf 57 = 160 by kernel_rfl] at h1
      simp only [List.length_map, List.length_range] at h1
      omega
    refine ⟨some a, n, c, rfl, ?_, hl, by omega, hbig⟩
    have hch : ∃ f : Nat → Th, ∀ i, i < n → ∃ Ai ni ci, (∀ j u, (thc (f i) (.slice Ai ni ci))[j]? = some u → w.cell? (a.add (i * 15 + j)) = some u) ∧ ChAt w Ai ni (f i).it.l ∧ ni ≤ 9223372036854775807 ∧ TSz (f i) := by
      refine ⟨fun i => if h : i < n then (hv i h).choose else ⟨0, ByteArray.empty, ByteArray.empty, false, 0, 0, zI⟩, fun i hi => ?_⟩
      simp only [dif_pos hi]
      exact (hv i hi).choose_spec
    obtain ⟨f, hf⟩ := hch
    refine ⟨(List.range n).map f, ⟨by simp, fun h0 => ?_⟩, fun o ho => ?_⟩
    · obtain ⟨b, o, s⟩ := a
      obtain ⟨_, _, _, h1, _⟩ := hf 0 h0
      obtain rfl : s = none := by simpa [Addr.add] using World.cell?_spot (h1 0 _ rfl)
      refine ⟨b, o, rfl, fun i hi => ?_⟩
      have hi' : i < n := by simpa using hi
      obtain ⟨Ai, ni, ci, h1, h2, h3, _⟩ := hf i hi'
      simp only [List.getElem_map, List.getElem_range]
      refine ⟨Ai, ni, ci, fun j u hu => ?_, h2, h3⟩
      have := h1 j u hu
      rw [Go.WideShapes.add_plain] at this
      rw [Nat.add_assoc]
      exact this
    · obtain ⟨i, hi, rfl⟩ := List.mem_map.1 ho
      obtain ⟨_, _, _, _, _, _, h5⟩ := hf i (List.mem_range.1 hi)
      exact h5
theorem sized_things12 {ts : List TypeId} {ds : List (DataW H)} (h : (DataW.weightsEach Tryz.prog ts ds).all (· ≤ reachBytes) = true) {j : Nat} {d : DataW H} (ht : ts[j]? = some 22) (hd : ds[j]? = some d) :
    ∀ y ∈ d.weights Tryz.prog 22, y ≤ 140737488351232 := fun y hy => by
  have h1 := List.all_eq_true.1 h _ (DataW.weights_mem_each ht hd y hy)
  rw [reach_le] at h1
  exact of_decide_eq_true h1
theorem kTh13 : Tryz.prog.cellsOf 111 = 15 := by kernel_rfl
theorem open_th13 (hf : DataW.trod enc Tryz.prog w base (fun _ => true) held fuel 111 cs = some (d, p)) (hW : ∀ y ∈ d.weights Tryz.prog 111, y ≤ 140737488351232) :
    ∃ (x : Th) (A : Option Addr) (n c : Nat), cs = (thc x (.slice A n c)).toList ∧ ChAt w A n x.it.l ∧ n ≤ c ∧ c ≤ 9223372036854775807 ∧ TSz x := by
  obtain ⟨xs, k', hk', hxy, hcl, hxl, hfl⟩ := DataW.trod_struct Tryz.underlying111 hf
  rw [kTh13] at hcl
  obtain ⟨v0, v1, v2, v3, v4, v5, v6, v7, v8, v9, v10, v11, v12, v13, v14, rfl⟩ := l15 hcl
  obtain ⟨y0, y1, y2, y3, y4, y5, rfl⟩ := l6 hxl
  have hDi : d = .agg ([y0, y1, y2, y3, y4, y5].map (·.1)) := congrArg Prod.fst hxy
  have hwe : ∀ (j : Nat) (t : TypeId) (dd : DataW H), [3, 9, 9, 4, 26, 37][j]? = some t → [y0.1, y1.1, y2.1, y3.1, y4.1, y5.1][j]? = some dd → ∀ y ∈ dd.weights Tryz.prog t, y ≤ 140737488351232 := fun j t dd ht hdj y hy => hW y (by
    rw [hDi]
    simp only [DataW.weights, Tryz.underlying111]
    exact DataW.weights_mem_each (j := j) ht hdj y hy)
  have g0 := hfl 0 _ rfl
  have g1 := hfl 1 _ rfl
  have g2 := hfl 2 _ rfl
  have g3 := hfl 3 _ rfl
  have g4 := hfl 4 _ rfl
  have g5 := hfl 5 _ rfl
  simp [kIn, kSt, kSp, kBl, kIt] at g0 g1 g2 g3 g4 g5
  obtain ⟨z0, e0, _, wz⟩ := DataW.trod_int Tryz.underlying3 g0
  obtain ⟨s1, e1, x1, _⟩ := DataW.trod_string Tryz.underlying9 g1
  obtain ⟨s2, e2, x2, _⟩ := DataW.trod_string Tryz.underlying9 g2
  obtain ⟨z3, e3, _⟩ := DataW.trod_bool Tryz.underlying4 g3
  obtain ⟨a4, b4, e4⟩ := open_sp g4
  obtain ⟨x, A, n, c, e5, h1, h2, h3, h4⟩ := open_it (d := y5.1) (p := y5.2) g5 (hwe 5 _ _ rfl rfl)
  have q1 := hwe 1 _ _ rfl rfl s1.data.toList.length (by rw [x1]; simp [DataW.weights])
  have q2 := hwe 2 _ _ rfl rfl s2.data.toList.length (by rw [x2]; simp [DataW.weights])
  have k1 : s1.data.toList.length = s1.size := by rw [Array.length_toList]; rfl
  have k2 : s2.data.toList.length = s2.size := by rw [Array.length_toList]; rfl
  have hb := int_bounds wz
  simp at e0 e1 e2 e3 e4 e5
  obtain ⟨e4, e4'⟩ := e4
  obtain ⟨f0, f1, f2, f3, f4, f5, f6, f7, f8⟩ := e5
  subst e0 e1 e2 e3 e4 e4' f0 f1 f2 f3 f4 f5 f6 f7 f8
  exact ⟨⟨z0, s1, s2, z3, a4, b4, x⟩, A, n, c, rfl, h1, h3, h4, by show s1.size ≤ _; omega, by show s2.size ≤ _; omega, hb.1, hb.2⟩
theorem open_things13 (hval : Value.okWide Tryz.prog w r b0 82 v) (hd : DataW.Trod enc Tryz.prog w base (fun _ => true) held 82 v d p) (hW : ∀ y ∈ d.weights Tryz.prog 82, y ≤ 140737488351232) :
    ∃ A n c, v = .slice A n c ∧ (∃ l : List Th, ThAt w A n l ∧ ∀ x ∈ l, TSz x) ∧ n ≤ c ∧ c ≤ 9223372036854775807 ∧ n * 160 ≤ 140737488351232 := by
  have hmax : maxLen ≤ 9223372036854775807 := by decide
  obtain ⟨A, n, c, rfl⟩ := okWide_slice Tryz.underlying82 hval
  obtain ⟨fuel, hf⟩ := hd
  rcases open_slice Tryz.underlying82 hf with ⟨hcs, _⟩ | ⟨a, n', c', m, k, D, Pl, hcs, _, hl, hm, hmm, hx, hrow⟩
  · simp [Value.cells] at hcs
    obtain ⟨rfl, rfl, rfl⟩ := hcs
    exact ⟨none, 0, 0, rfl, ⟨[], ThAt.nil _ _, fun b hb => (nomatch hb)⟩, Nat.le_refl _, by omega, by omega⟩
  · simp [Value.cells] at hcs
    obtain ⟨rfl, rfl, rfl⟩ := hcs
    rw [if_pos rfl] at hmm
    have hdd : d = .slice ((List.range n).map D) ((List.range (m - n)).map fun j => D (n + j)) := congrArg Prod.fst hx
    have hv : ∀ i, i < n → ∃ (q : Th), ∃ Ai ni ci, (∀ j u, (thc q (.slice Ai ni ci))[j]? = some u → w.cell? (a.add (i * 15 + j)) = some u) ∧ ChAt w Ai ni q.it.l ∧ ni ≤ 9223372036854775807 ∧ TSz q := by
      intro i hi
      obtain ⟨cs', h1, h2⟩ := hrow i (by omega)
      rw [kTh13] at h1
      obtain ⟨_, hlen, hcell⟩ := World.cells?_some h1
      have hWi : ∀ y ∈ (D i).weights Tryz.prog 111, y ≤ 140737488351232 := fun y hy => hW y (by
        rw [hdd]
        simp only [DataW.weights, Tryz.underlying82]
        exact List.mem_cons.2 (.inr (List.mem_append.2 (.inl (mem_allW11 (List.mem_map.2 ⟨i, List.mem_range.2 hi, rfl⟩) hy)))))
      obtain ⟨q, Ai, ni, ci, rfl, hq, h3, h4, hz⟩ := open_th13 h2 hWi
      refine ⟨q, Ai, ni, ci, fun j u hu => ?_, hq, by omega, hz⟩
      obtain ⟨hj, hju⟩ := Array.getElem?_eq_some_iff.1 hu
      have c0 := hcell j (by simpa using hj)
      rw [Go.Deep.add_add] at c0
      rw [c0, Array.getElem?_toList]
      exact hu
    have hbig : n * 160 ≤ 140737488351232 := by
      have h1 := hW ((((List.range n).map D).length + ((List.range (m - n)).map fun j => D (n + j)).length) * Tryz.prog.bytesOf 111) (by
        rw [hdd]
        simp only [DataW.weights, Tryz.underlying82]
        exact List.mem_cons_self)
      rw [show Tryz.prog.bytesOf 111 = 160 by kernel_rfl] at h1
      simp only [List.length_map, List.length_range] at h1
      omega
    refine ⟨some a, n, c, rfl, ?_, hl, by omega, hbig⟩
    have hch : ∃ f : Nat → Th, ∀ i, i < n → ∃ Ai ni ci, (∀ j u, (thc (f i) (.slice Ai ni ci))[j]? = some u → w.cell? (a.add (i * 15 + j)) = some u) ∧ ChAt w Ai ni (f i).it.l ∧ ni ≤ 9223372036854775807 ∧ TSz (f i) := by
      refine ⟨fun i => if h : i < n then (hv i h).choose else ⟨0, ByteArray.empty, ByteArray.empty, false, 0, 0, zI⟩, fun i hi => ?_⟩
      simp only [dif_pos hi]
      exact (hv i hi).choose_spec
    obtain ⟨f, hf⟩ := hch
    refine ⟨(List.range n).map f, ⟨by simp, fun h0 => ?_⟩, fun o ho => ?_⟩
    · obtain ⟨b, o, s⟩ := a
      obtain ⟨_, _, _, h1, _⟩ := hf 0 h0
      obtain rfl : s = none := by simpa [Addr.add] using World.cell?_spot (h1 0 _ rfl)
      refine ⟨b, o, rfl, fun i hi => ?_⟩
      have hi' : i < n := by simpa using hi
      obtain ⟨Ai, ni, ci, h1, h2, h3, _⟩ := hf i hi'
      simp only [List.getElem_map, List.getElem_range]
      refine ⟨Ai, ni, ci, fun j u hu => ?_, h2, h3⟩
      have := h1 j u hu
      rw [Go.WideShapes.add_plain] at this
      rw [Nat.add_assoc]
      exact this
    · obtain ⟨i, hi, rfl⟩ := List.mem_map.1 ho
      obtain ⟨_, _, _, _, _, _, h5⟩ := hf i (List.mem_range.1 hi)
      exact h5
theorem sized_things13 {ts : List TypeId} {ds : List (DataW H)} (h : (DataW.weightsEach Tryz.prog ts ds).all (· ≤ reachBytes) = true) {j : Nat} {d : DataW H} (ht : ts[j]? = some 82) (hd : ds[j]? = some d) :
    ∀ y ∈ d.weights Tryz.prog 82, y ≤ 140737488351232 := fun y hy => by
  have h1 := List.all_eq_true.1 h _ (DataW.weights_mem_each ht hd y hy)
  rw [reach_le] at h1
  exact of_decide_eq_true h1
theorem kAsk13 : Tryz.prog.cellsOf 84 = 18 := by kernel_rfl
theorem l18 {α : Type} {l : List α} (h : l.length = 18) : ∃ a0 a1 a2 a3 a4 a5 a6 a7 a8 a9 a10 a11 a12 a13 a14 a15 a16 a17, l = [a0, a1, a2, a3, a4, a5, a6, a7, a8, a9, a10, a11, a12, a13, a14, a15, a16, a17] := by
  match l, h with
  | [a0, a1, a2, a3, a4, a5, a6, a7, a8, a9, a10, a11, a12, a13, a14, a15, a16, a17], _ => exact ⟨_, _, _, _, _, _, _, _, _, _, _, _, _, _, _, _, _, _, rfl⟩
abbrev askc (key : ByteArray) (q : Int) (s : ByteArray) (b : Bool) (x : Tx) (m1 m2 : Int) : Array Value := #[.string key, .int .i64 q, .string s, .bool b, .int .i64 x.id, .int .i64 x.ep, .int .i64 x.pr, .string x.an, .int .i64 x.rw, .int .i64 x.rl, .int .i64 x.ww, .int .i64 x.wl, .int .i64 x.lw, .int .i64 x.ll, .int .i64 x.bw, .int .i64 x.bl, .int .i64 m1, .int .i64 m2]
theorem open_ak13 (hf : DataW.trod enc Tryz.prog w base (fun _ => true) held fuel 84 cs = some (d, p)) (hW : ∀ y ∈ d.weights Tryz.prog 84, y ≤ 140737488351232) :
    ∃ (key : ByteArray) (q : Int) (s : ByteArray) (b : Bool) (x : Tx) (m1 m2 : Int), cs = (askc key q s b x m1 m2).toList ∧ key.size ≤ 140737488351232 ∧ s.size ≤ 140737488351232 := by
  obtain ⟨xs, k', hk', hxy, hcl, hxl, hfl⟩ := DataW.trod_struct Tryz.underlying84 hf
  rw [kAsk13] at hcl
  obtain ⟨v0, v1, v2, v3, v4, v5, v6, v7, v8, v9, v10, v11, v12, v13, v14, v15, v16, v17, rfl⟩ := l18 hcl
  obtain ⟨y0, y1, y2, y3, rfl⟩ := l4 hxl
  have hDi : d = .agg ([y0, y1, y2, y3].map (·.1)) := congrArg Prod.fst hxy
  have hwe : ∀ (j : Nat) (t : TypeId) (dd : DataW H), [9, 79, 28, 26][j]? = some t → [y0.1, y1.1, y2.1, y3.1][j]? = some dd → ∀ y ∈ dd.weights Tryz.prog t, y ≤ 140737488351232 := fun j t dd ht hdj y hy => hW y (by
    rw [hDi]
    simp only [DataW.weights, Tryz.underlying84]
    exact DataW.weights_mem_each (j := j) ht hdj y hy)
  have g0 := hfl 0 _ rfl
  have g1 := hfl 1 _ rfl
  have g2 := hfl 2 _ rfl
  have g3 := hfl 3 _ rfl
  simp [kSt, kSp, kCh, kTx] at g0 g1 g2 g3
  obtain ⟨s0, e0, x0, _⟩ := DataW.trod_string Tryz.underlying9 g0
  obtain ⟨q, s, b, e1, h1, _⟩ := open_ch (d := y1.1) (p := y1.2) g1 (hwe 1 _ _ rfl rfl)
  obtain ⟨x, e2⟩ := open_tx (d := y2.1) (p := y2.2) g2
  obtain ⟨m1, m2, e3⟩ := open_sp g3
  have q0 := hwe 0 _ _ rfl rfl s0.data.toList.length (by rw [x0]; simp [DataW.weights])
  have k0 : s0.data.toList.length = s0.size := by rw [Array.length_toList]; rfl
  simp at e0 e1 e2 e3
  obtain ⟨a0, a1, a2⟩ := e1
  obtain ⟨b0, b1, b2, b3, b4, b5, b6, b7, b8, b9, b10, b11⟩ := e2
  obtain ⟨c0, c1⟩ := e3
  subst e0 a0 a1 a2 b0 b1 b2 b3 b4 b5 b6 b7 b8 b9 b10 b11 c0 c1
  exact ⟨s0, q, s, b, x, m1, m2, rfl, by omega, h1⟩
theorem open_ask13 (hval : Value.okWide Tryz.prog w r b0 84 v) (hd : DataW.Trod enc Tryz.prog w base (fun _ => true) held 84 v d p) (hW : ∀ y ∈ d.weights Tryz.prog 84, y ≤ 140737488351232) :
    ∃ (key : ByteArray) (q : Int) (s : ByteArray) (b : Bool) (x : Tx) (m1 m2 : Int), v = .agg (askc key q s b x m1 m2) ∧ key.size ≤ 140737488351232 ∧ s.size ≤ 140737488351232 := by
  obtain ⟨cs, rfl, hsz⟩ : ∃ cs, v = .agg cs ∧ cs.size = Tryz.prog.cellsOf 84 := by
    simp only [Value.okWide, Tryz.underlying84] at hval
    obtain ⟨cs, h1, h2, _⟩ := hval
    exact ⟨cs, h1, h2⟩
  obtain ⟨fuel, hf⟩ := hd
  obtain ⟨key, q, s, b, x, m1, m2, hx, h1⟩ := open_ak13 hf hW
  exact ⟨key, q, s, b, x, m1, m2, by congr 1; exact Array.ext' hx, h1⟩
theorem sized_ask13 {ts : List TypeId} {ds : List (DataW H)} (h : (DataW.weightsEach Tryz.prog ts ds).all (· ≤ reachBytes) = true) {j : Nat} {d : DataW H} (ht : ts[j]? = some 84) (hd : ds[j]? = some d) :
    ∀ y ∈ d.weights Tryz.prog 84, y ≤ 140737488351232 := fun y hy => by
  have h1 := List.all_eq_true.1 h _ (DataW.weights_mem_each ht hd y hy)
  rw [reach_le] at h1
  exact of_decide_eq_true h1
end
end Go.Proofs.YtdaecfgjfdikbaaGreatDoor
