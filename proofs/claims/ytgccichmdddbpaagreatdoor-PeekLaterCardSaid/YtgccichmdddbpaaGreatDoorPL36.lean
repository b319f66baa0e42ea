/-
  How arguments are opened: a transaction, a change, things.
  How arguments are opened: layer 12's question.
  Layer 12, plain: the chapter's examples.
  Layer 12, the statements' small helpers (written by wip/genpksm.py).
  Layer 12, the statements' helpers: the chapter's examples (written by wip/genpkawk.py).
-/
import Derived.Test.YtgccichmdddbpaaGreatDoorPL35
import Derived.Test.YtgccichmdddbpaaGreatDoorPL30
import Derived.Test.YtgccichmdddbpaaGreatDoorPL31
import Derived.Test.YtgccichmdddbpaaGreatDoorPL34
import Derived.Test.YtgccichmdddbpaaGreatDoorPL18
set_option linter.unusedVariables false
set_option linter.unusedSimpArgs false
set_option maxRecDepth 100000
namespace Go.Proofs.YtgccichmdddbpaaGreatDoor
open Go.ChangeShapes Go.WideShapes Go.ChangeAt Go.RowKit Go.Joins Go.Deep

theorem kTx : Tryz.prog.cellsOf 28 = 12 := by kernel_rfl
theorem l6 {α : Type} {l : List α} (h : l.length = 6) : ∃ a b c d e f, l = [a, b, c, d, e, f] := by
  match l, h with
  | [a, b, c, d, e, f], _ => exact ⟨a, b, c, d, e, f, rfl⟩
theorem l4 {α : Type} {l : List α} (h : l.length = 4) : ∃ a b c d, l = [a, b, c, d] := by
  match l, h with
  | [a, b, c, d], _ => exact ⟨a, b, c, d, rfl⟩
theorem l12 {α : Type} {l : List α} (h : l.length = 12) : ∃ a0 a1 a2 a3 a4 a5 a6 a7 a8 a9 a10 a11, l = [a0, a1, a2, a3, a4, a5, a6, a7, a8, a9, a10, a11] := by
  match l, h with
  | [a0, a1, a2, a3, a4, a5, a6, a7, a8, a9, a10, a11], _ => exact ⟨_, _, _, _, _, _, _, _, _, _, _, _, rfl⟩
theorem l15 {α : Type} {l : List α} (h : l.length = 15) : ∃ a0 a1 a2 a3 a4 a5 a6 a7 a8 a9 a10 a11 a12 a13 a14, l = [a0, a1, a2, a3, a4, a5, a6, a7, a8, a9, a10, a11, a12, a13, a14] := by
  match l, h with
  | [a0, a1, a2, a3, a4, a5, a6, a7, a8, a9, a10, a11, a12, a13, a14], _ => exact ⟨_, _, _, _, _, _, _, _, _, _, _, _, _, _, _, rfl⟩
section
variable {H : Type} {enc : TypeId × Value → H} {w : World} {base : Nat} {held : Bool} {d : DataW H} {p : List MemPlace} {v : Value} {r : Reach} {b0 : Nat} {fuel : Nat} {cs : List Value}
theorem open_it (hf : DataW.trod enc Tryz.prog w base (fun _ => true) held fuel 38 cs = some (d, p)) (hW : ∀ y ∈ d.weights Tryz.prog 38, y ≤ 140737488351232) :
    ∃ (x : It) (A : Option Addr) (n c : Nat), cs = [.int .i64 x.id, .int .i64 x.ep, .int .i64 x.pr, .string x.an, .int .i64 x.sw, .int .i64 x.sl, .int .i64 x.bw, .int .i64 x.bl, .slice A n c] ∧ ChAt w A n x.l ∧ n * 32 ≤ 140737488351232 ∧ n ≤ c ∧ c ≤ 9223372036854775807 := by
  obtain ⟨xs, k', hk', hxy, hcl, hxl, hfl⟩ := DataW.trod_struct Tryz.underlying38 hf
  rw [kIt] at hcl
  obtain ⟨v0, v1, v2, v3, v4, v5, v6, v7, v8, rfl⟩ := l9 hcl
  obtain ⟨y0, y1, y2, y3, y4, y5, y6, rfl⟩ := l7 hxl
  have hDi : d = .agg ([y0, y1, y2, y3, y4, y5, y6].map (·.1)) := congrArg Prod.fst hxy
  have g0 := hfl 0 _ rfl
  have g1 := hfl 1 _ rfl
  have g2 := hfl 2 _ rfl
  have g3 := hfl 3 _ rfl
  have g4 := hfl 4 _ rfl
  have g5 := hfl 5 _ rfl
  have g6 := hfl 6 _ rfl
  simp [kIn, kSt, kSp, kLc] at g0 g1 g2 g3 g4 g5 g6
  obtain ⟨z0, e0, _, _⟩ := DataW.trod_int Tryz.underlying3 g0
  obtain ⟨z1, e1, _, _⟩ := DataW.trod_int Tryz.underlying3 g1
  obtain ⟨z2, e2, _, _⟩ := DataW.trod_int Tryz.underlying3 g2
  obtain ⟨s3, e3, _, _⟩ := DataW.trod_string Tryz.underlying9 g3
  obtain ⟨a4, b4, e4⟩ := open_sp g4
  obtain ⟨a5, b5, e5⟩ := open_sp g5
  obtain ⟨A, n, c, e6, ⟨l, h1, h2⟩, h3, h4⟩ := open_chs (d := y6.1) (p := y6.2) g6 (fun y hy => hW y (by
    rw [hDi]
    simp only [DataW.weights, Tryz.underlying38]
    exact DataW.weights_mem_each (j := 6) (t := 36) rfl rfl y hy))
  simp at e0 e1 e2 e3 e4 e5 e6
  obtain ⟨e4, e4'⟩ := e4
  obtain ⟨e5, e5'⟩ := e5
  subst e0 e1 e2 e3 e4 e4' e5 e5' e6
  exact ⟨⟨z0, z1, z2, s3, a4, b4, a5, b5, l⟩, A, n, c, rfl, h1, by rw [← h1.1]; exact h2, h3, h4⟩
theorem open_tx (hf : DataW.trod enc Tryz.prog w base (fun _ => true) held fuel 28 cs = some (d, p)) :
    ∃ (x : Tx), cs = (txc x).toList := by
  obtain ⟨xs, k', hk', hxy, hcl, hxl, hfl⟩ := DataW.trod_struct Tryz.underlying28 hf
  rw [kTx] at hcl
  obtain ⟨v0, v1, v2, v3, v4, v5, v6, v7, v8, v9, v10, v11, rfl⟩ := l12 hcl
  obtain ⟨y0, y1, y2, y3, y4, y5, y6, y7, rfl⟩ := l8 hxl
  have g0 := hfl 0 _ rfl
  have g1 := hfl 1 _ rfl
  have g2 := hfl 2 _ rfl
  have g3 := hfl 3 _ rfl
  have g4 := hfl 4 _ rfl
  have g5 := hfl 5 _ rfl
  have g6 := hfl 6 _ rfl
  have g7 := hfl 7 _ rfl
  simp [kIn, kSt, kSp] at g0 g1 g2 g3 g4 g5 g6 g7
  obtain ⟨z0, e0, _, _⟩ := DataW.trod_int Tryz.underlying3 g0
  obtain ⟨z1, e1, _, _⟩ := DataW.trod_int Tryz.underlying3 g1
  obtain ⟨z2, e2, _, _⟩ := DataW.trod_int Tryz.underlying3 g2
  obtain ⟨s3, e3, _, _⟩ := DataW.trod_string Tryz.underlying9 g3
  obtain ⟨a4, b4, e4⟩ := open_sp g4
  obtain ⟨a5, b5, e5⟩ := open_sp g5
  obtain ⟨a6, b6, e6⟩ := open_sp g6
  obtain ⟨a7, b7, e7⟩ := open_sp g7
  simp at e0 e1 e2 e3 e4 e5 e6 e7
  obtain ⟨e4, e4'⟩ := e4
  obtain ⟨e5, e5'⟩ := e5
  obtain ⟨e6, e6'⟩ := e6
  obtain ⟨e7, e7'⟩ := e7
  subst e0 e1 e2 e3 e4 e4' e5 e5' e6 e6' e7 e7'
  exact ⟨⟨z0, z1, z2, s3, a4, b4, a5, b5, a6, b6, a7, b7⟩, rfl⟩
theorem kTh12 : Tryz.prog.cellsOf 90 = 15 := by kernel_rfl
theorem open_th12 (hf : DataW.trod enc Tryz.prog w base (fun _ => true) held fuel 90 cs = some (d, p)) (hW : ∀ y ∈ d.weights Tryz.prog 90, y ≤ 140737488351232) :
    ∃ (x : Th) (A : Option Addr) (n c : Nat), cs = (thc x (.slice A n c)).toList ∧ ChAt w A n x.it.l ∧ n ≤ c ∧ c ≤ 9223372036854775807 ∧ TSz x := by
  obtain ⟨xs, k', hk', hxy, hcl, hxl, hfl⟩ := DataW.trod_struct Tryz.underlying90 hf
  rw [kTh12] at hcl
  obtain ⟨v0, v1, v2, v3, v4, v5, v6, v7, v8, v9, v10, v11, v12, v13, v14, rfl⟩ := l15 hcl
  obtain ⟨y0, y1, y2, y3, y4, y5, rfl⟩ := l6 hxl
  have hDi : d = .agg ([y0, y1, y2, y3, y4, y5].map (·.1)) := congrArg Prod.fst hxy
  have hwe : ∀ (j : Nat) (t : TypeId) (dd : DataW H), [3, 9, 9, 4, 26, 38][j]? = some t → [y0.1, y1.1, y2.1, y3.1, y4.1, y5.1][j]? = some dd → ∀ y ∈ dd.weights Tryz.prog t, y ≤ 140737488351232 := fun j t dd ht hdj y hy => hW y (by
    rw [hDi]
    simp only [DataW.weights, Tryz.underlying90]
    exact DataW.weights_mem_each (j := j) ht hdj y hy)
  have g0 := hfl 0 _ rfl
  have g1 := hfl 1 _ rfl
  have g2 := hfl 2 _ rfl
  have g3 := hfl 3 _ rfl
  have g4 := hfl 4 _ rfl
  have g5 := hfl 5 _ rfl
  simp [kIn, kSt, kSp, kBl, kIt] at g0 g1 g2 g3 g4 g5
  obtain ⟨z0, e0, _, wz⟩ := DataW.trod_int Tryz.underlying3 g0
  obtain ⟨s1, e1, x1, _⟩ := DataW.trod_string Tryz.underlying9 g1
  obtain ⟨s2, e2, x2, _⟩ := DataW.trod_string Tryz.underlying9 g2
  obtain ⟨z3, e3, _⟩ := DataW.trod_bool Tryz.underlying4 g3
  obtain ⟨a4, b4, e4⟩ := open_sp g4
  obtain ⟨x, A, n, c, e5, h1, h2, h3, h4⟩ := open_it (d := y5.1) (p := y5.2) g5 (hwe 5 _ _ rfl rfl)
  have q1 := hwe 1 _ _ rfl rfl s1.data.toList.length (by rw [x1]; simp [DataW.weights])
  have q2 := hwe 2 _ _ rfl rfl s2.data.toList.length (by rw [x2]; simp [DataW.weights])
  have k1 : s1.data.toList.length = s1.size := by rw [Array.length_toList]; rfl
  have k2 : s2.data.toList.length = s2.size := by rw [Array.length_toList]; rfl
  have hb := int_bounds wz
  simp at e0 e1 e2 e3 e4 e5
  obtain ⟨e4, e4'⟩ := e4
  obtain ⟨f0, f1, f2, f3, f4, f5, f6, f7, f8⟩ := e5
  subst e0 e1 e2 e3 e4 e4' f0 f1 f2 f3 f4 f5 f6 f7 f8
  exact ⟨⟨z0, s1, s2, z3, a4, b4, x⟩, A, n, c, rfl, h1, h3, h4, by show s1.size ≤ _; omega, by show s2.size ≤ _; omega, hb.1, hb.2⟩
theorem open_things12 (hval : Value.okWide Tryz.prog w r b0 77 v) (hd : DataW.Trod enc Tryz.prog w base (fun _ => true) held 77 v d p) (hW : ∀ y ∈ d.weights Tryz.prog 77, y ≤ 140737488351232) :
    ∃ A n c, v = .slice A n c ∧ (∃ l : List Th, ThAt w A n l ∧ ∀ x ∈ l, TSz x) ∧ n ≤ c ∧ c ≤ 9223372036854775807 ∧ n * 160 ≤ 140737488351232 := by
  have hmax : maxLen ≤ 9223372036854775807 := by decide
  obtain ⟨A, n, c, rfl⟩ := okWide_slice Tryz.underlying77 hval
  obtain ⟨fuel, hf⟩ := hd
  rcases open_slice Tryz.underlying77 hf with ⟨hcs, _⟩ | ⟨a, n', c', m, k, D, Pl, hcs, _, hl, hm, hmm, hx, hrow⟩
  · simp [Value.cells] at hcs
    obtain ⟨rfl, rfl, rfl⟩ := hcs
    exact ⟨none, 0, 0, rfl, ⟨[], ThAt.nil _ _, fun b hb => (nomatch hb)⟩, Nat.le_refl _, by omega, by omega⟩
  · simp [Value.cells] at hcs
    obtain ⟨rfl, rfl, rfl⟩ := hcs
    rw [if_pos rfl] at hmm
    have hdd : d = .slice ((List.range n).map D) ((List.range (m - n)).map fun j => D (n + j)) := congrArg Prod.fst hx
    have hv : ∀ i, i < n → ∃ (q : Th), ∃ Ai ni ci, (∀ j u, (thc q (.slice Ai ni ci))[j]? = some u → w.cell? (a.add (i * 15 + j)) = some u) ∧ ChAt w Ai ni q.it.l ∧ ni ≤ 9223372036854775807 ∧ TSz q := by
      intro i hi
      obtain ⟨cs', h1, h2⟩ := hrow i (by omega)
      rw [kTh12] at h1
      obtain ⟨_, hlen, hcell⟩ := World.cells?_some h1
      have hWi : ∀ y ∈ (D i).weights Tryz.prog 90, y ≤ 140737488351232 := fun y hy => hW y (by
        rw [hdd]
        simp only [DataW.weights, Tryz.underlying77]
        exact List.mem_cons.2 (.inr (List.mem_append.2 (.inl (mem_allW11 (List.mem_map.2 ⟨i, List.mem_range.2 hi, rfl⟩) hy)))))
      obtain ⟨q, Ai, ni, ci, rfl, hq, h3, h4, hz⟩ := open_th12 h2 hWi
      refine ⟨q, Ai, ni, ci, fun j u hu => ?_, hq, by omega, hz⟩
      obtain ⟨hj, hju⟩ := Array.getElem?_eq_some_iff.1 hu
      have c0 := hcell j (by simpa using hj)
      rw [Go.Deep.add_add] at c0
      rw [c0, Array.getElem?_toList]
      exact hu
    have hbig : n * 160 ≤ 140737488351232 := by
      have h1 := hW ((((List.range n).map D).length + ((List.range (m - n)).map fun j => D (n + j)).length) * Tryz.prog.bytesOf 90) (by
        rw [hdd]
        simp only [DataW.weights, Tryz.underlying77]
        exact List.mem_cons_self)
      rw [show Tryz.prog.bytesOf 90 = 160 by kernel_rfl] at h1
      simp only [List.length_map, List.length_range] at h1
      omega
    refine ⟨some a, n, c, rfl, ?_, hl, by omega, hbig⟩
    have hch : ∃ f : Nat → Th, ∀ i, i < n → ∃ Ai ni ci, (∀ j u, (thc (f i) (.slice Ai ni ci))[j]? = some u → w.cell? (a.add (i * 15 + j)) = some u) ∧ ChAt w Ai ni (f i).it.l ∧ ni ≤ 9223372036854775807 ∧ TSz (f i) := by
      refine ⟨fun i => if h : i < n then (hv i h).choose else ⟨0, ByteArray.empty, ByteArray.empty, false, 0, 0, zI⟩, fun i hi => ?_⟩
      simp only [dif_pos hi]
      exact (hv i hi).choose_spec
    obtain ⟨f, hf⟩ := hch
    refine ⟨(List.range n).map f, ⟨by simp, fun h0 => ?_⟩, fun o ho => ?_⟩
    · obtain ⟨b, o, s⟩ := a
      obtain ⟨_, _, _, h1, _⟩ := hf 0 h0
      obtain rfl : s = none := by simpa [Addr.add] using World.cell?_spot (h1 0 _ rfl)
      refine ⟨b, o, rfl, fun i hi => ?_⟩
      have hi' : i < n := by simpa using hi
      obtain ⟨Ai, ni, ci, h1, h2, h3, _⟩ := hf i hi'
      simp only [List.getElem_map, List.getElem_range]
      refine ⟨Ai, ni, ci, fun j u hu => ?_, h2, h3⟩
      have := h1 j u hu
      rw [Go.WideShapes.add_plain] at this
      rw [Nat.add_assoc]
      exact this
    · obtain ⟨i, hi, rfl⟩ := List.mem_map.1 ho
      obtain ⟨_, _, _, _, _, _, h5⟩ := hf i (List.mem_range.1 hi)
      exact h5
theorem sized_things12 {ts : List TypeId} {ds : List (DataW H)} (h : (DataW.weightsEach Tryz.prog ts ds).all (· ≤ reachBytes) = true) {j : Nat} {d : DataW H} (ht : ts[j]? = some 77) (hd : ds[j]? = some d) :
    ∀ y ∈ d.weights Tryz.prog 77, y ≤ 140737488351232 := fun y hy => by
  have h1 := List.all_eq_true.1 h _ (DataW.weights_mem_each ht hd y hy)
  rw [reach_le] at h1
  exact of_decide_eq_true h1
end
end Go.Proofs.YtgccichmdddbpaaGreatDoor
set_option linter.unusedVariables false
set_option linter.unusedSimpArgs false
set_option maxRecDepth 100000
namespace Go.Proofs.YtgccichmdddbpaaGreatDoor
open Go.ChangeShapes Go.WideShapes Go.ChangeAt Go.RowKit Go.Joins Go.Deep

abbrev ask12c (key f t : ByteArray) (x : Tx) (m1 m2 : Int) : Array Value := #[.string key, .string f, .string t, .int .i64 x.id, .int .i64 x.ep, .int .i64 x.pr, .string x.an, .int .i64 x.rw, .int .i64 x.rl, .int .i64 x.ww, .int .i64 x.wl, .int .i64 x.lw, .int .i64 x.ll, .int .i64 x.bw, .int .i64 x.bl, .int .i64 m1, .int .i64 m2]
section
variable {H : Type} {enc : TypeId × Value → H} {w : World} {base : Nat} {held : Bool} {d : DataW H} {p : List MemPlace} {v : Value} {r : Reach} {b0 : Nat} {fuel : Nat} {cs : List Value}
theorem kSn12 : Tryz.prog.cellsOf 79 = 2 := by kernel_rfl
theorem open_spn12 (hf : DataW.trod enc Tryz.prog w base (fun _ => true) held fuel 79 cs = some (d, p)) (hW : ∀ y ∈ d.weights Tryz.prog 79, y ≤ 140737488351232) :
    ∃ (f t : ByteArray), cs = [.string f, .string t] ∧ f.size ≤ 140737488351232 ∧ t.size ≤ 140737488351232 := by
  obtain ⟨xs, k', hk', hxy, hcl, hxl, hfl⟩ := DataW.trod_struct Tryz.underlying79 hf
  rw [kSn12] at hcl
  obtain ⟨v0, v1, rfl⟩ := l2 hcl
  obtain ⟨y0, y1, rfl⟩ := l2 hxl
  have hDi : d = .agg ([y0, y1].map (·.1)) := congrArg Prod.fst hxy
  have hwe : ∀ (j : Nat) (t : TypeId) (dd : DataW H), [9, 9][j]? = some t → [y0.1, y1.1][j]? = some dd → ∀ y ∈ dd.weights Tryz.prog t, y ≤ 140737488351232 := fun j t dd ht hdj y hy => hW y (by
    rw [hDi]
    simp only [DataW.weights, Tryz.underlying79]
    exact DataW.weights_mem_each (j := j) ht hdj y hy)
  have g0 := hfl 0 _ rfl
  have g1 := hfl 1 _ rfl
  simp [kSt] at g0 g1
  obtain ⟨s0, e0, x0, _⟩ := DataW.trod_string Tryz.underlying9 g0
  obtain ⟨s1, e1, x1, _⟩ := DataW.trod_string Tryz.underlying9 g1
  have q0 := hwe 0 _ _ rfl rfl s0.data.toList.length (by rw [x0]; simp [DataW.weights])
  have q1 := hwe 1 _ _ rfl rfl s1.data.toList.length (by rw [x1]; simp [DataW.weights])
  have k0 : s0.data.toList.length = s0.size := by rw [Array.length_toList]; rfl
  have k1 : s1.data.toList.length = s1.size := by rw [Array.length_toList]; rfl
  simp at e0 e1
  subst e0 e1
  exact ⟨s0, s1, rfl, by omega, by omega⟩
theorem kAsk12 : Tryz.prog.cellsOf 81 = 17 := by kernel_rfl
theorem l17 {α : Type} {l : List α} (h : l.length = 17) : ∃ a0 a1 a2 a3 a4 a5 a6 a7 a8 a9 a10 a11 a12 a13 a14 a15 a16, l = [a0, a1, a2, a3, a4, a5, a6, a7, a8, a9, a10, a11, a12, a13, a14, a15, a16] := by
  match l, h with
  | [a0, a1, a2, a3, a4, a5, a6, a7, a8, a9, a10, a11, a12, a13, a14, a15, a16], _ => exact ⟨_, _, _, _, _, _, _, _, _, _, _, _, _, _, _, _, _, rfl⟩
theorem open_ak12 (hf : DataW.trod enc Tryz.prog w base (fun _ => true) held fuel 81 cs = some (d, p)) (hW : ∀ y ∈ d.weights Tryz.prog 81, y ≤ 140737488351232) :
    ∃ (key f t : ByteArray) (x : Tx) (m1 m2 : Int), cs = (ask12c key f t x m1 m2).toList ∧ key.size ≤ 140737488351232 ∧ f.size ≤ 140737488351232 ∧ t.size ≤ 140737488351232 := by
  obtain ⟨xs, k', hk', hxy, hcl, hxl, hfl⟩ := DataW.trod_struct Tryz.underlying81 hf
  rw [kAsk12] at hcl
  obtain ⟨v0, v1, v2, v3, v4, v5, v6, v7, v8, v9, v10, v11, v12, v13, v14, v15, v16, rfl⟩ := l17 hcl
  obtain ⟨y0, y1, y2, y3, rfl⟩ := l4 hxl
  have hDi : d = .agg ([y0, y1, y2, y3].map (·.1)) := congrArg Prod.fst hxy
  have hwe : ∀ (j : Nat) (t : TypeId) (dd : DataW H), [9, 79, 28, 26][j]? = some t → [y0.1, y1.1, y2.1, y3.1][j]? = some dd → ∀ y ∈ dd.weights Tryz.prog t, y ≤ 140737488351232 := fun j t dd ht hdj y hy => hW y (by
    rw [hDi]
    simp only [DataW.weights, Tryz.underlying81]
    exact DataW.weights_mem_each (j := j) ht hdj y hy)
  have g0 := hfl 0 _ rfl
  have g1 := hfl 1 _ rfl
  have g2 := hfl 2 _ rfl
  have g3 := hfl 3 _ rfl
  simp [kSt, kSp, kSn12, kTx] at g0 g1 g2 g3
  obtain ⟨s0, e0, x0, _⟩ := DataW.trod_string Tryz.underlying9 g0
  obtain ⟨f, t, e1, h1, h2⟩ := open_spn12 (d := y1.1) (p := y1.2) g1 (hwe 1 _ _ rfl rfl)
  obtain ⟨x, e2⟩ := open_tx (d := y2.1) (p := y2.2) g2
  obtain ⟨m1, m2, e3⟩ := open_sp g3
  have q0 := hwe 0 _ _ rfl rfl s0.data.toList.length (by rw [x0]; simp [DataW.weights])
  have k0 : s0.data.toList.length = s0.size := by rw [Array.length_toList]; rfl
  simp at e0 e1 e2 e3
  obtain ⟨a0, a1⟩ := e1
  obtain ⟨b0, b1, b2, b3, b4, b5, b6, b7, b8, b9, b10, b11⟩ := e2
  obtain ⟨c0, c1⟩ := e3
  subst e0 a0 a1 b0 b1 b2 b3 b4 b5 b6 b7 b8 b9 b10 b11 c0 c1
  exact ⟨s0, f, t, x, m1, m2, rfl, by omega, h1, h2⟩
theorem open_ask12 (hval : Value.okWide Tryz.prog w r b0 81 v) (hd : DataW.Trod enc Tryz.prog w base (fun _ => true) held 81 v d p) (hW : ∀ y ∈ d.weights Tryz.prog 81, y ≤ 140737488351232) :
    ∃ (key f t : ByteArray) (x : Tx) (m1 m2 : Int), v = .agg (ask12c key f t x m1 m2) ∧ key.size ≤ 140737488351232 ∧ f.size ≤ 140737488351232 ∧ t.size ≤ 140737488351232 := by
  obtain ⟨cs, rfl, hsz⟩ : ∃ cs, v = .agg cs ∧ cs.size = Tryz.prog.cellsOf 81 := by
    simp only [Value.okWide, Tryz.underlying81] at hval
    obtain ⟨cs, h1, h2, _⟩ := hval
    exact ⟨cs, h1, h2⟩
  obtain ⟨fuel, hf⟩ := hd
  obtain ⟨key, f, t, x, m1, m2, hx, h1⟩ := open_ak12 hf hW
  exact ⟨key, f, t, x, m1, m2, by congr 1; exact Array.ext' hx, h1⟩
theorem sized_ask12 {ts : List TypeId} {ds : List (DataW H)} (h : (DataW.weightsEach Tryz.prog ts ds).all (· ≤ reachBytes) = true) {j : Nat} {d : DataW H} (ht : ts[j]? = some 81) (hd : ds[j]? = some d) :
    ∀ y ∈ d.weights Tryz.prog 81, y ≤ 140737488351232 := fun y hy => by
  have h1 := List.all_eq_true.1 h _ (DataW.weights_mem_each ht hd y hy)
  rw [reach_le] at h1
  exact of_decide_eq_true h1
end
end Go.Proofs.YtgccichmdddbpaaGreatDoor
set_option linter.unusedVariables false
set_option maxRecDepth 100000
namespace Go.Proofs.YtgccichmdddbpaaGreatDoor
open Go.RowKit

def bA : ByteArray := ⟨#[97]⟩
def itOf (id wall : Int) (v : ByteArray) (del : Bool) : It := ⟨id, 0, 1, bA, wall, 0, 0, 0, [⟨1, v, del⟩]⟩
def thV (v : ByteArray) (wall : Int) : Th := ⟨0, bA, v, false, wall, 0, zI⟩
def thI (y : It) : Th := ⟨1, bA, ⟨#[]⟩, false, 0, 0, y⟩
def pairP : List Th := [thV ⟨#[120]⟩ 10, thV ⟨#[121]⟩ 20]
def rdr (wall limit : Int) : Tx := ⟨7, 0, 1, ⟨#[]⟩, wall, 0, wall, 0, limit, 0, 0, 0⟩
def nearP : List Th := pairP ++ [thI (itOf 9 15 ⟨#[122]⟩ false)]
def farP : List Th := pairP ++ [thI (itOf 9 16 ⟨#[122]⟩ false)]
def ownP : List Th := pairP ++ [thI (itOf 7 15 ⟨#[]⟩ true)]
theorem aw1 : pgetC (tabP pairP) bA (rdr 15 15) (0, 0) = (⟨bA, ⟨#[120]⟩, true, false, 10, 0, zI⟩, 0) := by kernel_rfl
theorem aw2 : pgetC (tabP pairP) bA (rdr 15 25) (0, 0) = (⟨bA, ⟨#[]⟩, false, false, 20, 0, zI⟩, 121) := by kernel_rfl
theorem aw3 : pgetC (tabP pairP) bA (rdr 10 10) (0, 0) = (⟨bA, ⟨#[]⟩, false, false, 10, 0, zI⟩, 121) := by kernel_rfl
theorem aw4 : pgetC (tabP nearP) bA (rdr 15 15) (0, 0) = (⟨bA, ⟨#[]⟩, false, false, 0, 0, itOf 9 15 ⟨#[122]⟩ false⟩, 120) := by kernel_rfl
theorem aw5 : pgetC (tabP farP) bA (rdr 15 15) (0, 0) = (⟨bA, ⟨#[120]⟩, true, false, 10, 0, zI⟩, 0) := by kernel_rfl
theorem aw6 : pgetC (tabP ownP) bA (rdr 15 15) (0, 0) = (⟨bA, ⟨#[]⟩, false, true, 15, 0, zI⟩, 0) := by kernel_rfl
end Go.Proofs.YtgccichmdddbpaaGreatDoor
set_option linter.unusedVariables false
set_option linter.unusedSimpArgs false
set_option maxRecDepth 100000
namespace Go.Proofs.YtgccichmdddbpaaGreatDoor
open Go.RowKit

theorem Blk.all12 {w : World} {g : Nat} {t : TypeId} {c0 c1 c2 c3 c4 c5 c6 c7 c8 c9 c10 c11 v0 v1 v2 v3 v4 v5 v6 v7 v8 v9 v10 v11 : Value} (h : Blk w g t #[c0, c1, c2, c3, c4, c5, c6, c7, c8, c9, c10, c11]) : Blk ((((((((((((w.setCell ⟨g, 0, none⟩ v0).setCell ⟨g, 1, none⟩ v1).setCell ⟨g, 2, none⟩ v2).setCell ⟨g, 3, none⟩ v3).setCell ⟨g, 4, none⟩ v4).setCell ⟨g, 5, none⟩ v5).setCell ⟨g, 6, none⟩ v6).setCell ⟨g, 7, none⟩ v7).setCell ⟨g, 8, none⟩ v8).setCell ⟨g, 9, none⟩ v9).setCell ⟨g, 10, none⟩ v10).setCell ⟨g, 11, none⟩ v11) g t #[v0, v1, v2, v3, v4, v5, v6, v7, v8, v9, v10, v11] := by
  have := ((((((((((((h.set_ 0 v0).set_ 1 v1).set_ 2 v2).set_ 3 v3).set_ 4 v4).set_ 5 v5).set_ 6 v6).set_ 7 v7).set_ 8 v8).set_ 9 v9).set_ 10 v10).set_ 11 v11)
  simpa using this
theorem ret_tx1 {fn : Func} {Q : Ending → World → Prop} {a : Act} {w : World} {p : Tmp} {g : Nat} {cs : Array Value} (hr : fn.results = #[.cell p 28]) (hp : a.tmps.getD p undef = .pointer (some ⟨g, 0, none⟩))
    (hB : Blk w g 28 cs) (hs : cs.size = 12) (hd : a.defers = []) (hR : Q (.returned (.agg cs)) w) : bodyPost Tryz.prog fn Q .ret a w := by
  refine bodyPost_ret ?_ hd hR
  have hp' : a.tmps[p]?.getD undef = .pointer (some ⟨g, 0, none⟩) := by simpa using hp
  simp [results, hr, hp', asAddr, run_loadVar_row w g 28 28 _ (0, 0) _ hB Tryz.underlying28 rfl (by rw [hs]; kernel_rfl)]
theorem ret_it1 {fn : Func} {Q : Ending → World → Prop} {a : Act} {w : World} {p : Tmp} {g : Nat} {cs : Array Value} (hr : fn.results = #[.cell p 38]) (hp : a.tmps.getD p undef = .pointer (some ⟨g, 0, none⟩))
    (hB : Blk w g 38 cs) (hs : cs.size = 9) (hd : a.defers = []) (hR : Q (.returned (.agg cs)) w) : bodyPost Tryz.prog fn Q .ret a w := by
  refine bodyPost_ret ?_ hd hR
  have hp' : a.tmps[p]?.getD undef = .pointer (some ⟨g, 0, none⟩) := by simpa using hp
  simp [results, hr, hp', asAddr, run_loadVar_row w g 38 38 _ (0, 0) _ hB Tryz.underlying38 rfl (by rw [hs]; kernel_rfl)]
theorem ret_rfd {fn : Func} {Q : Ending → World → Prop} {a : Act} {w : World} {p : Tmp} {g : Nat} {cs : Array Value} (hr : fn.results = #[.cell p 83]) (hp : a.tmps.getD p undef = .pointer (some ⟨g, 0, none⟩))
    (hB : Blk w g 83 cs) (hs : cs.size = 15) (hd : a.defers = []) (hR : Q (.returned (.agg cs)) w) : bodyPost Tryz.prog fn Q .ret a w := by
  refine bodyPost_ret ?_ hd hR
  have hp' : a.tmps[p]?.getD undef = .pointer (some ⟨g, 0, none⟩) := by simpa using hp
  simp [results, hr, hp', asAddr, run_loadVar_row w g 83 83 _ (0, 0) _ hB Tryz.underlying83 rfl (by rw [hs]; kernel_rfl)]
theorem at_c (n : Int) (w : World) : Calls Tryz.prog 83 #[.int .i64 n] w fun e w' => e = .returned (sv n 0) ∧ Below w.heap.size w w' := by
  have hB := Box.new w n 0
  go_enter Tryz.func83, Tryz.ntmps83
  go_wp2
  exact ret_one rfl rfl hB rfl ⟨rfl, nbl w _⟩
set_option maxHeartbeats 2000000 in
theorem reader_c (a b : Int) (w : World) : Calls Tryz.prog 81 #[.int .i64 a, .int .i64 b] w fun e w' => e = .returned (txv (rdr a b)) ∧ Below w.heap.size w w' := by
  have K0 := Lib.hid (Blk.new w 28 #[.int .i64 0, .int .i64 0, .int .i64 0, .string ⟨#[]⟩, .int .i64 0, .int .i64 0, .int .i64 0, .int .i64 0, .int .i64 0, .int .i64 0, .int .i64 0, .int .i64 0])
  have HG0 := Lib.hid (nbl w (.cells #[.int .i64 0, .int .i64 0, .int .i64 0, .string ⟨#[]⟩, .int .i64 0, .int .i64 0, .int .i64 0, .int .i64 0, .int .i64 0, .int .i64 0, .int .i64 0, .int .i64 0] 28))
  have HA := Lib.hid (at_c a)
  have HB := Lib.hid (at_c b)
  go_enter Tryz.func81, Tryz.ntmps81
  go_wp2_with fail
  refine (HA.out _).mono ?_
  rintro e w1 ⟨rfl, hb1⟩
  go_wp2_with fail
  refine (HA.out _).mono ?_
  rintro e w2 ⟨rfl, hb2⟩
  go_wp2_with fail
  refine (HB.out _).mono ?_
  rintro e w3 ⟨rfl, hb3⟩
  have g3 := bst (bst (bst HG0.out hb1) hb2) hb3
  have k1 := K0.out.below hb1 K0.out.lt
  have k2 := k1.below hb2 k1.lt
  have k3 := k2.below hb3 k2.lt
  have p0 := k3.cell 0
  have f0 := k3.frozen 0
  have p1 := k3.cell 1
  have f1 := k3.frozen 1
  have p2 := k3.cell 2
  have f2 := k3.frozen 2
  have p3 := k3.cell 3
  have f3 := k3.frozen 3
  have p4 := k3.cell 4
  have f4 := k3.frozen 4
  have p5 := k3.cell 5
  have f5 := k3.frozen 5
  have p6 := k3.cell 6
  have f6 := k3.frozen 6
  have p7 := k3.cell 7
  have f7 := k3.frozen 7
  have p8 := k3.cell 8
  have f8 := k3.frozen 8
  have p9 := k3.cell 9
  have f9 := k3.frozen 9
  have p10 := k3.cell 10
  have f10 := k3.frozen 10
  have p11 := k3.cell 11
  have f11 := k3.frozen 11
  simp at p0 p1 p2 p3 p4 p5 p6 p7 p8 p9 p10 p11
  clear hb1 hb2 hb3 k1 k2
  go_wp2_with fail
  exact ret_tx1 rfl rfl (Blk.all12 (v0 := .int .i64 7) (v1 := .int .i64 0) (v2 := .int .i64 1) (v3 := .string ⟨#[]⟩) (v4 := .int .i64 a) (v5 := .int .i64 0) (v6 := .int .i64 a) (v7 := .int .i64 0) (v8 := .int .i64 b) (v9 := .int .i64 0) (v10 := .int .i64 0) (v11 := .int .i64 0) (by exact k3)) rfl rfl ⟨rfl, ((((((((((((g3.setCell (by exact Nat.le_refl _) _).setCell (by exact Nat.le_refl _) _).setCell (by exact Nat.le_refl _) _).setCell (by exact Nat.le_refl _) _).setCell (by exact Nat.le_refl _) _).setCell (by exact Nat.le_refl _) _).setCell (by exact Nat.le_refl _) _).setCell (by exact Nat.le_refl _) _).setCell (by exact Nat.le_refl _) _).setCell (by exact Nat.le_refl _) _).setCell (by exact Nat.le_refl _) _).setCell (by exact Nat.le_refl _) _)⟩
set_option maxHeartbeats 2000000 in
theorem lawInt_c (id wall : Int) (v : ByteArray) (d : Bool) (w : World) : Calls Tryz.prog 82 #[.int .i64 id, .int .i64 wall, .string v, .bool d] w fun e w' =>
    (∃ A n c, e = .returned (itv (itOf id wall v d) (.slice A n c)) ∧ ChAt w' A n (itOf id wall v d).l ∧ n ≤ 9223372036854775807 ∧ ∀ a, A = some a → w.heap.size ≤ a.block) ∧ Below w.heap.size w w' := by
  have K0 := Lib.hid (Blk.new w 38 (itc zI (.slice none 0 0)))
  have HG0 := Lib.hid (nbl w (.cells (itc zI (.slice none 0 0)) 38))
  have HA := Lib.hid (at_c wall)
  go_enter Tryz.func82, Tryz.ntmps82
  go_wp2_with fail
  refine (HA.out _).mono ?_
  rintro e w1 ⟨rfl, hb1⟩
  have k1 := K0.out.below hb1 K0.out.lt
  have k2 := k1.below (nbl w1 (.cells #[.int .i64 1, .string v, .bool d] 24)) k1.lt
  have g2 := bsa (bst HG0.out hb1) (.cells #[.int .i64 1, .string v, .bool d] 24)
  have hne : w1.heap.size ≠ w.heap.size := by have := k1.lt; omega
  have hb1s : w.heap.size ≤ w1.heap.size := (bst HG0.out hb1).size
  have hch : ChAt (w1.alloc (.cells #[.int .i64 1, .string v, .bool d] 24)) (some ⟨w1.heap.size, 0, none⟩) 1 [⟨1, v, d⟩] := by
    have q := Blk.new w1 24 #[.int .i64 1, .string v, .bool d]
    refine ⟨rfl, fun _ => ⟨w1.heap.size, 0, rfl, fun i hi => ?_⟩⟩
    have : i = 0 := by simp at hi; omega
    subst this
    exact ⟨q.cell 0, q.cell 1, q.cell 2⟩
  have HCH := Lib.hid hch
  have hw1 : w.heap.size ≤ w1.heap.size := hb1s
  have HNE := Lib.hid (show 0 < 1 → ∀ a, some (⟨w1.heap.size, 0, none⟩ : Addr) = some a → a.block ≠ w.heap.size from fun _ a ha => by cases ha; exact hne)
  have p0 := k2.cell 0
  have f0 := k2.frozen 0
  have p1 := k2.cell 1
  have f1 := k2.frozen 1
  have p2 := k2.cell 2
  have f2 := k2.frozen 2
  have p3 := k2.cell 3
  have f3 := k2.frozen 3
  have p4 := k2.cell 4
  have f4 := k2.frozen 4
  have p5 := k2.cell 5
  have f5 := k2.frozen 5
  have p6 := k2.cell 6
  have f6 := k2.frozen 6
  have p7 := k2.cell 7
  have f7 := k2.frozen 7
  have p8 := k2.cell 8
  have f8 := k2.frozen 8
  simp at p0 p1 p2 p3 p4 p5 p6 p7 p8
  clear hb1 k1 hch hne
  go_wp2_with fail
  exact ret_it1 rfl rfl (Blk.all9 (v0 := .int .i64 id) (v1 := .int .i64 0) (v2 := .int .i64 1) (v3 := .string bA) (v4 := .int .i64 wall) (v5 := .int .i64 0) (v6 := .int .i64 0) (v7 := .int .i64 0) (v8 := .slice (some ⟨w1.heap.size, 0, none⟩) 1 1) (by exact k2)) rfl rfl ⟨⟨some ⟨w1.heap.size, 0, none⟩, 1, 1, rfl, (((((((((HCH.out.put (g := w.heap.size) (i := 0) (u := .int .i64 id) HNE.out).put (g := w.heap.size) (i := 1) (u := .int .i64 0) HNE.out).put (g := w.heap.size) (i := 2) (u := .int .i64 1) HNE.out).put (g := w.heap.size) (i := 3) (u := .string bA) HNE.out).put (g := w.heap.size) (i := 4) (u := .int .i64 wall) HNE.out).put (g := w.heap.size) (i := 5) (u := .int .i64 0) HNE.out).put (g := w.heap.size) (i := 6) (u := .int .i64 0) HNE.out).put (g := w.heap.size) (i := 7) (u := .int .i64 0) HNE.out).put (g := w.heap.size) (i := 8) (u := .slice (some ⟨w1.heap.size, 0, none⟩) 1 1) HNE.out), by omega, fun a ha => by cases ha; exact hw1⟩, (((((((((g2.setCell (by exact Nat.le_refl _) _).setCell (by exact Nat.le_refl _) _).setCell (by exact Nat.le_refl _) _).setCell (by exact Nat.le_refl _) _).setCell (by exact Nat.le_refl _) _).setCell (by exact Nat.le_refl _) _).setCell (by exact Nat.le_refl _) _).setCell (by exact Nat.le_refl _) _).setCell (by exact Nat.le_refl _) _)⟩
/-- Things in a row, with what their intents' changes are. -/
def tfl (L : List (Th × Value)) : List Value := L.flatMap fun q => (thc q.1 q.2).toList
theorem tfl_len : ∀ (L : List (Th × Value)), (tfl L).length = L.length * 15
  | [] => rfl
  | q :: L => by
    have := tfl_len L
    unfold tfl at *
    rw [List.flatMap_cons, List.length_append, this]
    simp
    omega
theorem tfl_app (L M : List (Th × Value)) : tfl (L ++ M) = tfl L ++ tfl M := by unfold tfl; simp
theorem tfl_get : ∀ (L : List (Th × Value)) (i : Nat) (h : i < L.length) (j : Nat) (u : Value), (thc (L[i]'h).1 (L[i]'h).2)[j]? = some u → (tfl L)[i * 15 + j]? = some u
  | q :: L, 0, _, j, u, hu => by
    unfold tfl
    rw [List.flatMap_cons, Nat.zero_mul, Nat.zero_add]
    have hj : j < (thc q.1 q.2).toList.length := by
      obtain ⟨h1, _⟩ := Array.getElem?_eq_some_iff.1 hu
      simpa using h1
    rw [List.getElem?_append_left hj]
    simpa using hu
  | q :: L, i + 1, h, j, u, hu => by
    have ih := tfl_get L i (by simpa using h) j u (by simpa using hu)
    unfold tfl at *
    rw [List.flatMap_cons, List.getElem?_append_right (by simp; omega)]
    rw [← ih]
    congr 1
    simp
    omega
theorem infoTh : (Tryz.prog.info? 90).map (fun i => (i.zero, i.size, i.bytes)) = some (some (.agg #[.int .i64 0, .string ByteArray.empty, .string ByteArray.empty, .bool false, .int .i64 0, .int .i64 0, .int .i64 0, .int .i64 0, .int .i64 0, .string ByteArray.empty, .int .i64 0, .int .i64 0, .int .i64 0, .int .i64 0, .slice none 0 0]), 15, 160) := by kernel_rfl
theorem pair_c (w : World) : Calls Tryz.prog 80 #[] w fun e w' => (∃ v, e = .returned v ∧ w'.ownsRow w.heap.size 90 15 v 2 (tfl (pairP.map fun x => (x, .slice none 0 0)))) ∧ Below w.heap.size w w' := by
  have HA := Lib.hid (at_c 10)
  have HB := Lib.hid (at_c 20)
  go_enter Tryz.func80, Tryz.ntmps80
  go_wp2_with fail
  refine (HA.out _).mono ?_
  rintro e w1 ⟨rfl, hb1⟩
  go_wp2_with fail
  refine (HB.out _).mono ?_
  rintro e w2 ⟨rfl, hb2⟩
  go_wp2_with fail
  go_ret
  exact ⟨⟨_, rfl, rfl, .inr ⟨w2.heap.size, 2, _, rfl, (bst hb1 hb2).size, World.alloc_heap_new _ _, by omega, by decide, rfl, rfl⟩⟩, bsa (bst hb1 hb2) _⟩
set_option maxHeartbeats 2000000 in
theorem found_c (f : Fd) (A : Option Addr) (n c : Nat) (w : World) : Calls Tryz.prog 31 #[fdv f (.slice A n c)] w fun e w' => e = .returned (fdv f (.slice A n c)) ∧ Below w.heap.size w w' := by
  have hz1 : (w.alloc (.cells (fdc f (.slice A n c)) 73)).heap.size = w.heap.size + 1 := World.size_alloc _ _
  have K0 := Lib.hid (Blk.new (w.alloc (.cells (fdc f (.slice A n c)) 73)) 83 (fdc f (.slice A n c)))
  rw [hz1] at K0
  have G0 := Lib.hid (bsa (nbl w (.cells (fdc f (.slice A n c)) 73)) (.cells (fdc f (.slice A n c)) 83))
  clear hz1
  go_enter Tryz.func31, Tryz.ntmps31
  go_wp2_with fail
  exact ret_rfd rfl rfl K0.out rfl rfl ⟨rfl, G0.out⟩
end Go.Proofs.YtgccichmdddbpaaGreatDoor
set_option linter.unusedVariables false
set_option linter.unusedSimpArgs false
set_option maxRecDepth 100000
namespace Go.Proofs.YtgccichmdddbpaaGreatDoor
open Go.RowKit

theorem wpList_appTh {w : World} {ops : Array Oper} {rest : List Oper} {o : Oper} {a : Act} {Q : Exit → Act → World → Prop} (hgd : o.guard = none) (s x : Operand)
    (ho : o.op = .call { callee := .builtin .append, args := #[s, x], argTypes := #[77, 77] })
    (B : Nat) (v : Value) (k : Nat) (xs l : List (Th × Value)) (hs : a.eval s = v) (hown : w.ownsRow B 90 15 v k (tfl xs))
    (ad : Addr) (n c : Nat) (hx : a.eval x = .slice (some ad) n c) (hl : l.length = n) (hr : ∀ j u, (tfl l)[j]? = some u → w.cell? (ad.add j) = some u) (hone : ∀ u ∈ tfl l, u.oneCell' = true) (hbytes : (k + n) * 160 ≤ 140737488355328) (hbase : B ≤ w.heap.size)
    (h : ∀ v' w', w'.ownsRow B 90 15 v' (k + n) (tfl (xs ++ l)) → w.grownBy w' v.ownBlock → wpList Tryz.prog ops Q rest (a.put o.dst v') w') :
    wpList Tryz.prog ops Q (o :: rest) a w := by
  obtain ⟨i, hi, hz, hsz, hby⟩ := info_parts infoTh
  refine wpList_append_own w hgd s x 77 ho B 90 i _ 15 160 Tryz.underlying77 hi hz hsz hby rfl (by decide) v k (tfl xs) hs hown ad n c (tfl l) hx (by rw [tfl_len, hl]) hr hone (by unfold maxLen; omega) hbytes hbase ?_
  intro v' w' h1 h2 _
  refine h v' w' ?_ h2
  rw [tfl_app]
  exact h1
theorem thRow {w : World} {B n : Nat} {v : Value} {L : List (Th × Value)} (h : w.ownsRow B 90 15 v n (tfl L)) (hc : ∀ q ∈ L, ∃ A m c, q.2 = .slice A m c ∧ ChAt w A m q.1.it.l ∧ m ≤ 9223372036854775807) :
    ∃ A c, v = .slice A n c ∧ ThAt w A n (L.map Prod.fst) := by
  have hl : L.length = n := by have := h.1; rw [tfl_len] at this; omega
  rcases h.2 with ⟨rfl, h0⟩ | ⟨g, cap, cur, rfl, hb, hg, hnc, hcm, _⟩
  · exact ⟨none, 0, by rw [h0], by rw [List.length_map]; exact hl, fun hm => by omega⟩
  · refine ⟨_, cap, rfl, by rw [List.length_map]; exact hl, fun hm => ⟨g, 0, rfl, fun i hi => ?_⟩⟩
    have hi' : i < L.length := by simpa using hi
    obtain ⟨A, m, c, e1, e2, e3⟩ := hc _ (List.getElem_mem hi')
    refine ⟨A, m, c, fun j u hu => ?_, by simpa using e2, e3⟩
    have := World.ownsRow.cells h (g := g) rfl (i * 15 + j) u (tfl_get L i hi' j u (by rw [e1]; simpa using hu))
    rw [Go.WideShapes.add_plain] at this
    rw [Nat.zero_add]
    simpa using this
theorem th_one (w : World) (x : Th) (v : Value) : ∀ j u, (tfl [(x, v)])[j]? = some u → (w.alloc (.cells (thc x v) 90)).cell? ((⟨w.heap.size, 0, none⟩ : Addr).add j) = some u := by
  intro j u hu
  rw [Go.WideShapes.add_plain, Nat.zero_add, (Blk.new w 90 (thc x v)).cell]
  simpa [tfl] using hu
theorem th_cells (x : Th) (A : Option Addr) (n c : Nat) : ∀ u ∈ tfl [(x, .slice A n c)], u.oneCell' = true := by
  intro u hu
  simp only [tfl, List.flatMap_cons, List.flatMap_nil, List.append_nil, List.mem_cons, List.not_mem_nil, or_false] at hu
  rcases hu with rfl | rfl | rfl | rfl | rfl | rfl | rfl | rfl | rfl | rfl | rfl | rfl | rfl | rfl | rfl <;> rfl
theorem ChAt.grown {w w' : World} {A : Option Addr} {n : Nat} {row : Option Nat} {l : List Ch} (h : ChAt w A n l) (hg : w.grownBy w' row) (ha : ∀ a, A = some a → row ≠ some a.block) : ChAt w' A n l := by
  refine h.keep fun a e j v hv => ?_
  have hlt := World.block_lt_of_cell? w _ hv
  have hb := hg.block a.block hlt (fun q => ha a e q.symm)
  simp only [World.cell?] at hv ⊢
  rw [hb]
  exact hv
end Go.Proofs.YtgccichmdddbpaaGreatDoor
