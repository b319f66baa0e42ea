/-
  How arguments are opened: a transaction, a change, things.
  Layer 13, plain: the examples (written by wip/genposm.py).
  Layer 12, the statements' helpers: the chapter's examples (written by wip/genpkawk.py).
  Layer 12, the statements' helpers: awake, walked (written by wip/genpkawk.py).
  Layer 13, the statements' helpers: a thing as a change (written by wip/genpotab.py).
  Layer 13, the statements' helpers: tables (written by wip/genpotab.py).
  Layer 13, the statements' small helpers (written by wip/genposm.py).
  Plain: what stands between two keys, as a filter; versions' keys in their order; the greater of two texts.
-/
import Derived.Test.YtgccichmdddbpaaGreatDoorPA38
import Derived.Test.YtgccichmdddbpaaGreatDoorPA30
import Derived.Test.YtgccichmdddbpaaGreatDoorPA33
import Derived.Test.YtgccichmdddbpaaGreatDoorPA18
import Derived.Test.YtgccichmdddbpaaGreatDoorPA31
import Derived.Test.YtgccichmdddbpaaGreatDoorPA37
import Derived.Test.YtgccichmdddbpaaGreatDoorPA27
set_option linter.unusedVariables false
set_option linter.unusedSimpArgs false
set_option maxRecDepth 100000
namespace Go.Proofs.YtgccichmdddbpaaGreatDoor
open Go.ChangeShapes Go.WideShapes Go.ChangeAt Go.RowKit Go.Joins Go.Deep

theorem kTx : Tryz.prog.cellsOf 28 = 12 := by kernel_rfl
theorem l6 {α : Type} {l : List α} (h : l.length = 6) : ∃ a b c d e f, l = [a, b, c, d, e, f] := by
  match l, h with
  | [a, b, c, d, e, f], _ => exact ⟨a, b, c, d, e, f, rfl⟩
theorem l4 {α : Type} {l : List α} (h : l.length = 4) : ∃ a b c d, l = [a, b, c, d] := by
  match l, h with
  | [a, b, c, d], _ => exact ⟨a, b, c, d, rfl⟩
theorem l12 {α : Type} {l : List α} (h : l.length = 12) : ∃ a0 a1 a2 a3 a4 a5 a6 a7 a8 a9 a10 a11, l = [a0, a1, a2, a3, a4, a5, a6, a7, a8, a9, a10, a11] := by
  match l, h with
  | [a0, a1, a2, a3, a4, a5, a6, a7, a8, a9, a10, a11], _ => exact ⟨_, _, _, _, _, _, _, _, _, _, _, _, rfl⟩
theorem l15 {α : Type} {l : List α} (h : l.length = 15) : ∃ a0 a1 a2 a3 a4 a5 a6 a7 a8 a9 a10 a11 a12 a13 a14, l = [a0, a1, a2, a3, a4, a5, a6, a7, a8, a9, a10, a11, a12, a13, a14] := by
  match l, h with
  | [a0, a1, a2, a3, a4, a5, a6, a7, a8, a9, a10, a11, a12, a13, a14], _ => exact ⟨_, _, _, _, _, _, _, _, _, _, _, _, _, _, _, rfl⟩
section
variable {H : Type} {enc : TypeId × Value → H} {w : World} {base : Nat} {held : Bool} {d : DataW H} {p : List MemPlace} {v : Value} {r : Reach} {b0 : Nat} {fuel : Nat} {cs : List Value}
theorem open_it (hf : DataW.trod enc Tryz.prog w base (fun _ => true) held fuel 38 cs = some (d, p)) (hW : ∀ y ∈ d.weights Tryz.prog 38, y ≤ 140737488351232) :
    ∃ (x : It) (A : Option Addr) (n c : Nat), cs = [.int .i64 x.id, .int .i64 x.ep, .int .i64 x.pr, .string x.an, .int .i64 x.sw, .int .i64 x.sl, .int .i64 x.bw, .int .i64 x.bl, .slice A n c] ∧ ChAt w A n x.l ∧ n * 32 ≤ 140737488351232 ∧ n ≤ c ∧ c ≤ 9223372036854775807 := by
  obtain ⟨xs, k', hk', hxy, hcl, hxl, hfl⟩ := DataW.trod_struct Tryz.underlying38 hf
  rw [kIt] at hcl
  obtain ⟨v0, v1, v2, v3, v4, v5, v6, v7, v8, rfl⟩ := l9 hcl
  obtain ⟨y0, y1, y2, y3, y4, y5, y6, rfl⟩ := l7 hxl
  have hDi : d = .agg ([y0, y1, y2, y3, y4, y5, y6].map (·.1)) := congrArg Prod.fst hxy
  have g0 := hfl 0 _ rfl
  have g1 := hfl 1 _ rfl
  have g2 := hfl 2 _ rfl
  have g3 := hfl 3 _ rfl
  have g4 := hfl 4 _ rfl
  have g5 := hfl 5 _ rfl
  have g6 := hfl 6 _ rfl
  simp [kIn, kSt, kSp, kLc] at g0 g1 g2 g3 g4 g5 g6
  obtain ⟨z0, e0, _, _⟩ := DataW.trod_int Tryz.underlying3 g0
  obtain ⟨z1, e1, _, _⟩ := DataW.trod_int Tryz.underlying3 g1
  obtain ⟨z2, e2, _, _⟩ := DataW.trod_int Tryz.underlying3 g2
  obtain ⟨s3, e3, _, _⟩ := DataW.trod_string Tryz.underlying9 g3
  obtain ⟨a4, b4, e4⟩ := open_sp g4
  obtain ⟨a5, b5, e5⟩ := open_sp g5
  obtain ⟨A, n, c, e6, ⟨l, h1, h2⟩, h3, h4⟩ := open_chs (d := y6.1) (p := y6.2) g6 (fun y hy => hW y (by
    rw [hDi]
    simp only [DataW.weights, Tryz.underlying38]
    exact DataW.weights_mem_each (j := 6) (t := 36) rfl rfl y hy))
  simp at e0 e1 e2 e3 e4 e5 e6
  obtain ⟨e4, e4'⟩ := e4
  obtain ⟨e5, e5'⟩ := e5
  subst e0 e1 e2 e3 e4 e4' e5 e5' e6
  exact ⟨⟨z0, z1, z2, s3, a4, b4, a5, b5, l⟩, A, n, c, rfl, h1, by rw [← h1.1]; exact h2, h3, h4⟩
theorem open_tx (hf : DataW.trod enc Tryz.prog w base (fun _ => true) held fuel 28 cs = some (d, p)) :
    ∃ (x : Tx), cs = (txc x).toList := by
  obtain ⟨xs, k', hk', hxy, hcl, hxl, hfl⟩ := DataW.trod_struct Tryz.underlying28 hf
  rw [kTx] at hcl
  obtain ⟨v0, v1, v2, v3, v4, v5, v6, v7, v8, v9, v10, v11, rfl⟩ := l12 hcl
  obtain ⟨y0, y1, y2, y3, y4, y5, y6, y7, rfl⟩ := l8 hxl
  have g0 := hfl 0 _ rfl
  have g1 := hfl 1 _ rfl
  have g2 := hfl 2 _ rfl
  have g3 := hfl 3 _ rfl
  have g4 := hfl 4 _ rfl
  have g5 := hfl 5 _ rfl
  have g6 := hfl 6 _ rfl
  have g7 := hfl 7 _ rfl
  simp [kIn, kSt, kSp] at g0 g1 g2 g3 g4 g5 g6 g7
  obtain ⟨z0, e0, _, _⟩ := DataW.trod_int Tryz.underlying3 g0
  obtain ⟨z1, e1, _, _⟩ := DataW.trod_int Tryz.underlying3 g1
  obtain ⟨z2, e2, _, _⟩ := DataW.trod_int Tryz.underlying3 g2
  obtain ⟨s3, e3, _, _⟩ := DataW.trod_string Tryz.underlying9 g3
  obtain ⟨a4, b4, e4⟩ := open_sp g4
  obtain ⟨a5, b5, e5⟩ := open_sp g5
  obtain ⟨a6, b6, e6⟩ := open_sp g6
  obtain ⟨a7, b7, e7⟩ := open_sp g7
  simp at e0 e1 e2 e3 e4 e5 e6 e7
  obtain ⟨e4, e4'⟩ := e4
  obtain ⟨e5, e5'⟩ := e5
  obtain ⟨e6, e6'⟩ := e6
  obtain ⟨e7, e7'⟩ := e7
  subst e0 e1 e2 e3 e4 e4' e5 e5' e6 e6' e7 e7'
  exact ⟨⟨z0, z1, z2, s3, a4, b4, a5, b5, a6, b6, a7, b7⟩, rfl⟩
theorem open_ch (hf : DataW.trod enc Tryz.prog w base (fun _ => true) held fuel 24 cs = some (d, p)) (hW : ∀ y ∈ d.weights Tryz.prog 24, y ≤ 140737488351232) :
    ∃ (q : Int) (s : ByteArray) (b : Bool), cs = [.int .i64 q, .string s, .bool b] ∧ s.size ≤ 140737488351232 ∧ -9223372036854775808 ≤ q ∧ q ≤ 9223372036854775807 := by
  obtain ⟨xs, k', hk', hxy, hcl, hxl, hfl⟩ := DataW.trod_struct Tryz.underlying24 hf
  rw [kCh] at hcl
  obtain ⟨v0, v1, v2, rfl⟩ := l3 hcl
  obtain ⟨y0, y1, y2, rfl⟩ := l3 hxl
  have hDi : d = .agg ([y0, y1, y2].map (·.1)) := congrArg Prod.fst hxy
  have g0 := hfl 0 _ rfl
  have g1 := hfl 1 _ rfl
  have g2 := hfl 2 _ rfl
  simp [kIn, kSt, kBl] at g0 g1 g2
  obtain ⟨z0, e0, _, wz⟩ := DataW.trod_int Tryz.underlying3 g0
  obtain ⟨s1, e1, x1, _⟩ := DataW.trod_string Tryz.underlying9 g1
  obtain ⟨z2, e2, _⟩ := DataW.trod_bool Tryz.underlying4 g2
  simp at e0 e1 e2
  have q1 := hW s1.data.toList.length (by
    rw [hDi]
    simp only [DataW.weights, Tryz.underlying24]
    exact DataW.weights_mem_each (j := 1) (t := 9) rfl rfl _ (by rw [x1]; simp [DataW.weights]))
  have z1 : s1.data.toList.length = s1.size := by rw [Array.length_toList]; rfl
  have hb := int_bounds wz
  subst e0 e1 e2
  exact ⟨z0, s1, z2, rfl, by omega, hb.1, hb.2⟩
theorem open_txn (hval : Value.okWide Tryz.prog w r b0 28 v) (hd : DataW.Trod enc Tryz.prog w base (fun _ => true) held 28 v d p) : ∃ x : Tx, v = txv x := by
  obtain ⟨cs, rfl, hsz⟩ : ∃ cs, v = .agg cs ∧ cs.size = Tryz.prog.cellsOf 28 := by
    simp only [Value.okWide, Tryz.underlying28] at hval
    obtain ⟨cs, h1, h2, _⟩ := hval
    exact ⟨cs, h1, h2⟩
  obtain ⟨fuel, hf⟩ := hd
  obtain ⟨x, hx⟩ := open_tx hf
  exact ⟨x, by congr 1; exact Array.ext' hx⟩
theorem kTh13 : Tryz.prog.cellsOf 105 = 15 := by kernel_rfl
theorem open_th13 (hf : DataW.trod enc Tryz.prog w base (fun _ => true) held fuel 105 cs = some (d, p)) (hW : ∀ y ∈ d.weights Tryz.prog 105, y ≤ 140737488351232) :
    ∃ (x : Th) (A : Option Addr) (n c : Nat), cs = (thc x (.slice A n c)).toList ∧ ChAt w A n x.it.l ∧ n ≤ c ∧ c ≤ 9223372036854775807 ∧ TSz x := by
  obtain ⟨xs, k', hk', hxy, hcl, hxl, hfl⟩ := DataW.trod_struct Tryz.underlying105 hf
  rw [kTh13] at hcl
  obtain ⟨v0, v1, v2, v3, v4, v5, v6, v7, v8, v9, v10, v11, v12, v13, v14, rfl⟩ := l15 hcl
  obtain ⟨y0, y1, y2, y3, y4, y5, rfl⟩ := l6 hxl
  have hDi : d = .agg ([y0, y1, y2, y3, y4, y5].map (·.1)) := congrArg Prod.fst hxy
  have hwe : ∀ (j : Nat) (t : TypeId) (dd : DataW H), [3, 9, 9, 4, 26, 38][j]? = some t → [y0.1, y1.1, y2.1, y3.1, y4.1, y5.1][j]? = some dd → ∀ y ∈ dd.weights Tryz.prog t, y ≤ 140737488351232 := fun j t dd ht hdj y hy => hW y (by
    rw [hDi]
    simp only [DataW.weights, Tryz.underlying105]
    exact DataW.weights_mem_each (j := j) ht hdj y hy)
  have g0 := hfl 0 _ rfl
  have g1 := hfl 1 _ rfl
  have g2 := hfl 2 _ rfl
  have g3 := hfl 3 _ rfl
  have g4 := hfl 4 _ rfl
  have g5 := hfl 5 _ rfl
  simp [kIn, kSt, kSp, kBl, kIt] at g0 g1 g2 g3 g4 g5
  obtain ⟨z0, e0, _, wz⟩ := DataW.trod_int Tryz.underlying3 g0
  obtain ⟨s1, e1, x1, _⟩ := DataW.trod_string Tryz.underlying9 g1
  obtain ⟨s2, e2, x2, _⟩ := DataW.trod_string Tryz.underlying9 g2
  obtain ⟨z3, e3, _⟩ := DataW.trod_bool Tryz.underlying4 g3
  obtain ⟨a4, b4, e4⟩ := open_sp g4
  obtain ⟨x, A, n, c, e5, h1, h2, h3, h4⟩ := open_it (d := y5.1) (p := y5.2) g5 (hwe 5 _ _ rfl rfl)
  have q1 := hwe 1 _ _ rfl rfl s1.data.toList.length (by rw [x1]; simp [DataW.weights])
  have q2 := hwe 2 _ _ rfl rfl s2.data.toList.length (by rw [x2]; simp [DataW.weights])
  have k1 : s1.data.toList.length = s1.size := by rw [Array.length_toList]; rfl
  have k2 : s2.data.toList.length = s2.size := by rw [Array.length_toList]; rfl
  have hb := int_bounds wz
  simp at e0 e1 e2 e3 e4 e5
  obtain ⟨e4, e4'⟩ := e4
  obtain ⟨f0, f1, f2, f3, f4, f5, f6, f7, f8⟩ := e5
  subst e0 e1 e2 e3 e4 e4' f0 f1 f2 f3 f4 f5 f6 f7 f8
  exact ⟨⟨z0, s1, s2, z3, a4, b4, x⟩, A, n, c, rfl, h1, h3, h4, by show s1.size ≤ _; omega, by show s2.size ≤ _; omega, hb.1, hb.2⟩
theorem open_things13 (hval : Value.okWide Tryz.prog w r b0 22 v) (hd : DataW.Trod enc Tryz.prog w base (fun _ => true) held 22 v d p) (hW : ∀ y ∈ d.weights Tryz.prog 22, y ≤ 140737488351232) :
    ∃ A n c, v = .slice A n c ∧ (∃ l : List Th, ThAt w A n l ∧ ∀ x ∈ l, TSz x) ∧ n ≤ c ∧ c ≤ 9223372036854775807 ∧ n * 160 ≤ 140737488351232 := by
  have hmax : maxLen ≤ 9223372036854775807 := by decide
  obtain ⟨A, n, c, rfl⟩ := okWide_slice Tryz.underlying22 hval
  obtain ⟨fuel, hf⟩ := hd
  rcases open_slice Tryz.underlying22 hf with ⟨hcs, _⟩ | ⟨a, n', c', m, k, D, Pl, hcs, _, hl, hm, hmm, hx, hrow⟩
  · simp [Value.cells] at hcs
    obtain ⟨rfl, rfl, rfl⟩ := hcs
    exact ⟨none, 0, 0, rfl, ⟨[], ThAt.nil _ _, fun b hb => (nomatch hb)⟩, Nat.le_refl _, by omega, by omega⟩
  · simp [Value.cells] at hcs
    obtain ⟨rfl, rfl, rfl⟩ := hcs
    rw [if_pos rfl] at hmm
    have hdd : d = .slice ((List.range n).map D) ((List.range (m - n)).map fun j => D (n + j)) := congrArg Prod.fst hx
    have hv : ∀ i, i < n → ∃ (q : Th), ∃ Ai ni ci, (∀ j u, (thc q (.slice Ai ni ci))[j]? = some u → w.cell? (a.add (i * 15 + j)) = some u) ∧ ChAt w Ai ni q.it.l ∧ ni ≤ 9223372036854775807 ∧ TSz q := by
      intro i hi
      obtain ⟨cs', h1, h2⟩ := hrow i (by omega)
      rw [kTh13] at h1
      obtain ⟨_, hlen, hcell⟩ := World.cells?_some h1
      have hWi : ∀ y ∈ (D i).weights Tryz.prog 105, y ≤ 140737488351232 := fun y hy => hW y (by
        rw [hdd]
        simp only [DataW.weights, Tryz.underlying22]
        exact List.mem_cons.2 (.inr (List.mem_append.2 (.inl (mem_allW11 (List.mem_map.2 ⟨i, List.mem_range.2 hi, rfl⟩) hy)))))
      obtain ⟨q, Ai, ni, ci, rfl, hq, h3, h4, hz⟩ := open_th13 h2 hWi
      refine ⟨q, Ai, ni, ci, fun j u hu => ?_, hq, by omega, hz⟩
      obtain ⟨hj, hju⟩ := Array.getElem?_eq_some_iff.1 hu
      have c0 := hcell j (by simpa using hj)
      rw [Go.Deep.add_add] at c0
      rw [c0, Array.getElem?_toList]
      exact hu
    have hbig : n * 160 ≤ 140737488351232 := by
      have h1 := hW ((((List.range n).map D).length + ((List.range (m - n)).map fun j => D (n + j)).length) * Tryz.prog.bytesOf 105) (by
        rw [hdd]
        simp only [DataW.weights, Tryz.underlying22]
        exact List.mem_cons_self)
      rw [show Tryz.prog.bytesOf 105 = 160 by kernel_rfl] at h1
      simp only [List.length_map, List.length_range] at h1
      omega
    refine ⟨some a, n, c, rfl, ?_, hl, by omega, hbig⟩
    have hch : ∃ f : Nat → Th, ∀ i, i < n → ∃ Ai ni ci, (∀ j u, (thc (f i) (.slice Ai ni ci))[j]? = some u → w.cell? (a.add (i * 15 + j)) = some u) ∧ ChAt w Ai ni (f i).it.l ∧ ni ≤ 9223372036854775807 ∧ TSz (f i) := by
      refine ⟨fun i => if h : i < n then (hv i h).choose else ⟨0, ByteArray.empty, ByteArray.empty, false, 0, 0, zI⟩, fun i hi => ?_⟩
      simp only [dif_pos hi]
      exact (hv i hi).choose_spec
    obtain ⟨f, hf⟩ := hch
    refine ⟨(List.range n).map f, ⟨by simp, fun h0 => ?_⟩, fun o ho => ?_⟩
    · obtain ⟨b, o, s⟩ := a
      obtain ⟨_, _, _, h1, _⟩ := hf 0 h0
      obtain rfl : s = none := by simpa [Addr.add] using World.cell?_spot (h1 0 _ rfl)
      refine ⟨b, o, rfl, fun i hi => ?_⟩
      have hi' : i < n := by simpa using hi
      obtain ⟨Ai, ni, ci, h1, h2, h3, _⟩ := hf i hi'
      simp only [List.getElem_map, List.getElem_range]
      refine ⟨Ai, ni, ci, fun j u hu => ?_, h2, h3⟩
      have := h1 j u hu
      rw [Go.WideShapes.add_plain] at this
      rw [Nat.add_assoc]
      exact this
    · obtain ⟨i, hi, rfl⟩ := List.mem_map.1 ho
      obtain ⟨_, _, _, _, _, _, h5⟩ := hf i (List.mem_range.1 hi)
      exact h5
theorem sized_things13 {ts : List TypeId} {ds : List (DataW H)} (h : (DataW.weightsEach Tryz.prog ts ds).all (· ≤ reachBytes) = true) {j : Nat} {d : DataW H} (ht : ts[j]? = some 22) (hd : ds[j]? = some d) :
    ∀ y ∈ d.weights Tryz.prog 22, y ≤ 140737488351232 := fun y hy => by
  have h1 := List.all_eq_true.1 h _ (DataW.weights_mem_each ht hd y hy)
  rw [reach_le] at h1
  exact of_decide_eq_true h1
theorem kAsk13 : Tryz.prog.cellsOf 30 = 18 := by kernel_rfl
theorem l18 {α : Type} {l : List α} (h : l.length = 18) : ∃ a0 a1 a2 a3 a4 a5 a6 a7 a8 a9 a10 a11 a12 a13 a14 a15 a16 a17, l = [a0, a1, a2, a3, a4, a5, a6, a7, a8, a9, a10, a11, a12, a13, a14, a15, a16, a17] := by
  match l, h with
  | [a0, a1, a2, a3, a4, a5, a6, a7, a8, a9, a10, a11, a12, a13, a14, a15, a16, a17], _ => exact ⟨_, _, _, _, _, _, _, _, _, _, _, _, _, _, _, _, _, _, rfl⟩
abbrev askc (key : ByteArray) (q : Int) (s : ByteArray) (b : Bool) (x : Tx) (m1 m2 : Int) : Array Value := #[.string key, .int .i64 q, .string s, .bool b, .int .i64 x.id, .int .i64 x.ep, .int .i64 x.pr, .string x.an, .int .i64 x.rw, .int .i64 x.rl, .int .i64 x.ww, .int .i64 x.wl, .int .i64 x.lw, .int .i64 x.ll, .int .i64 x.bw, .int .i64 x.bl, .int .i64 m1, .int .i64 m2]
theorem open_ak13 (hf : DataW.trod enc Tryz.prog w base (fun _ => true) held fuel 30 cs = some (d, p)) (hW : ∀ y ∈ d.weights Tryz.prog 30, y ≤ 140737488351232) :
    ∃ (key : ByteArray) (q : Int) (s : ByteArray) (b : Bool) (x : Tx) (m1 m2 : Int), cs = (askc key q s b x m1 m2).toList ∧ key.size ≤ 140737488351232 ∧ s.size ≤ 140737488351232 := by
  obtain ⟨xs, k', hk', hxy, hcl, hxl, hfl⟩ := DataW.trod_struct Tryz.underlying30 hf
  rw [kAsk13] at hcl
  obtain ⟨v0, v1, v2, v3, v4, v5, v6, v7, v8, v9, v10, v11, v12, v13, v14, v15, v16, v17, rfl⟩ := l18 hcl
  obtain ⟨y0, y1, y2, y3, rfl⟩ := l4 hxl
  have hDi : d = .agg ([y0, y1, y2, y3].map (·.1)) := congrArg Prod.fst hxy
  have hwe : ∀ (j : Nat) (t : TypeId) (dd : DataW H), [9, 24, 28, 26][j]? = some t → [y0.1, y1.1, y2.1, y3.1][j]? = some dd → ∀ y ∈ dd.weights Tryz.prog t, y ≤ 140737488351232 := fun j t dd ht hdj y hy => hW y (by
    rw [hDi]
    simp only [DataW.weights, Tryz.underlying30]
    exact DataW.weights_mem_each (j := j) ht hdj y hy)
  have g0 := hfl 0 _ rfl
  have g1 := hfl 1 _ rfl
  have g2 := hfl 2 _ rfl
  have g3 := hfl 3 _ rfl
  simp [kSt, kSp, kCh, kTx] at g0 g1 g2 g3
  obtain ⟨s0, e0, x0, _⟩ := DataW.trod_string Tryz.underlying9 g0
  obtain ⟨q, s, b, e1, h1, _⟩ := open_ch (d := y1.1) (p := y1.2) g1 (hwe 1 _ _ rfl rfl)
  obtain ⟨x, e2⟩ := open_tx (d := y2.1) (p := y2.2) g2
  obtain ⟨m1, m2, e3⟩ := open_sp g3
  have q0 := hwe 0 _ _ rfl rfl s0.data.toList.length (by rw [x0]; simp [DataW.weights])
  have k0 : s0.data.toList.length = s0.size := by rw [Array.length_toList]; rfl
  simp at e0 e1 e2 e3
  obtain ⟨a0, a1, a2⟩ := e1
  obtain ⟨b0, b1, b2, b3, b4, b5, b6, b7, b8, b9, b10, b11⟩ := e2
  obtain ⟨c0, c1⟩ := e3
  subst e0 a0 a1 a2 b0 b1 b2 b3 b4 b5 b6 b7 b8 b9 b10 b11 c0 c1
  exact ⟨s0, q, s, b, x, m1, m2, rfl, by omega, h1⟩
theorem open_ask13 (hval : Value.okWide Tryz.prog w r b0 30 v) (hd : DataW.Trod enc Tryz.prog w base (fun _ => true) held 30 v d p) (hW : ∀ y ∈ d.weights Tryz.prog 30, y ≤ 140737488351232) :
    ∃ (key : ByteArray) (q : Int) (s : ByteArray) (b : Bool) (x : Tx) (m1 m2 : Int), v = .agg (askc key q s b x m1 m2) ∧ key.size ≤ 140737488351232 ∧ s.size ≤ 140737488351232 := by
  obtain ⟨cs, rfl, hsz⟩ : ∃ cs, v = .agg cs ∧ cs.size = Tryz.prog.cellsOf 30 := by
    simp only [Value.okWide, Tryz.underlying30] at hval
    obtain ⟨cs, h1, h2, _⟩ := hval
    exact ⟨cs, h1, h2⟩
  obtain ⟨fuel, hf⟩ := hd
  obtain ⟨key, q, s, b, x, m1, m2, hx, h1⟩ := open_ak13 hf hW
  exact ⟨key, q, s, b, x, m1, m2, by congr 1; exact Array.ext' hx, h1⟩
theorem sized_ask13 {ts : List TypeId} {ds : List (DataW H)} (h : (DataW.weightsEach Tryz.prog ts ds).all (· ≤ reachBytes) = true) {j : Nat} {d : DataW H} (ht : ts[j]? = some 30) (hd : ds[j]? = some d) :
    ∀ y ∈ d.weights Tryz.prog 30, y ≤ 140737488351232 := fun y hy => by
  have h1 := List.all_eq_true.1 h _ (DataW.weights_mem_each ht hd y hy)
  rw [reach_le] at h1
  exact of_decide_eq_true h1
end
end Go.Proofs.YtgccichmdddbpaaGreatDoor
set_option linter.unusedVariables false
set_option linter.unusedSimpArgs false
set_option maxRecDepth 100000
namespace Go.Proofs.YtgccichmdddbpaaGreatDoor
open Go.RowKit

def wrt (n : Int) : Tx := ⟨7, 0, 1, bA, n, 0, n, 0, n, 0, 0, 0⟩
def oth (n : Int) : Tx := ⟨8, 0, 1, bA, n, 0, n, 0, n, 0, 0, 0⟩
def cZ : Ch := ⟨2, ⟨#[122]⟩, false⟩
def cW : Ch := ⟨1, ⟨#[119]⟩, false⟩
def oneP : List Th := [thV ⟨#[120]⟩ 10]
def twoP : List Th := [thV ⟨#[120]⟩ 10, thV ⟨#[121]⟩ 20]
def itA (a b : Int) : It := ⟨7, 0, 1, bA, a, b, 0, 0, [cZ]⟩
def dnA (a b : Int) : Dn := ⟨some (itA a b), a, b, zI⟩
theorem po1 : pputC (tabP oneP) bA cZ (wrt 15) (5, 0) = (dnA 15 0, 0) := by kernel_rfl
theorem po2 : pputC (tabP oneP) bA cZ (wrt 15) (15, 0) = (dnA 15 1, 0) := by kernel_rfl
theorem po3 : pputC (tabP twoP) bA cZ (wrt 15) (5, 0) = (dnA 20 1, 0) := by kernel_rfl
theorem po4 : pputC (rapp (tabP oneP) (opsD bA (dnA 15 0))) bA cZ (wrt 15) (99, 0) = (⟨none, 15, 0, zI⟩, 0) := by kernel_rfl
theorem po5 : pputC (rapp (tabP oneP) (opsD bA (dnA 15 0))) bA cW (wrt 15) (5, 0) = (zD, 201) := by kernel_rfl
theorem po6 : pputC (rapp (tabP oneP) (opsD bA (dnA 15 0))) bA cZ (oth 15) (5, 0) = (⟨none, 0, 0, itA 15 0⟩, 120) := by kernel_rfl
end Go.Proofs.YtgccichmdddbpaaGreatDoor
set_option linter.unusedVariables false
set_option linter.unusedSimpArgs false
set_option maxRecDepth 100000
namespace Go.Proofs.YtgccichmdddbpaaGreatDoor
open Go.RowKit

theorem th_cells (x : Th) (A : Option Addr) (n c : Nat) : ∀ u ∈ tfl [(x, .slice A n c)], u.oneCell' = true := by
  intro u hu
  simp only [tfl, List.flatMap_cons, List.flatMap_nil, List.append_nil, List.mem_cons, List.not_mem_nil, or_false] at hu
  rcases hu with rfl | rfl | rfl | rfl | rfl | rfl | rfl | rfl | rfl | rfl | rfl | rfl | rfl | rfl | rfl <;> rfl
theorem ChAt.grown {w w' : World} {A : Option Addr} {n : Nat} {row : Option Nat} {l : List Ch} (h : ChAt w A n l) (hg : w.grownBy w' row) (ha : ∀ a, A = some a → row ≠ some a.block) : ChAt w' A n l := by
  refine h.keep fun a e j v hv => ?_
  have hlt := World.block_lt_of_cell? w _ hv
  have hb := hg.block a.block hlt (fun q => ha a e q.symm)
  simp only [World.cell?] at hv ⊢
  rw [hb]
  exact hv
end Go.Proofs.YtgccichmdddbpaaGreatDoor
set_option linter.unusedVariables false
set_option linter.unusedSimpArgs false
set_option maxRecDepth 100000
namespace Go.Proofs.YtgccichmdddbpaaGreatDoor
open Go.RowKit

theorem TSz_V (v : ByteArray) (n : Int) (h : v.size ≤ 100) : TSz (thV v n) := ⟨(by decide : bA.size ≤ _), Nat.le_trans h (by decide), (by decide : (-9223372036854775808 : Int) ≤ 0), (by decide : (0 : Int) ≤ 9223372036854775807)⟩
end Go.Proofs.YtgccichmdddbpaaGreatDoor
set_option linter.unusedVariables false
set_option linter.unusedSimpArgs false
set_option maxRecDepth 100000
namespace Go.Proofs.YtgccichmdddbpaaGreatDoor
open Go.RowKit

set_option maxHeartbeats 8000000 in
theorem thOp13 (x : Th) (A : Option Addr) (n c : Nat) (w : World) (hx : ChAt w A n x.it.l) (hn : n ≤ 9223372036854775807) (hz : TSz x) :
    Calls Tryz.prog 42 #[thv x (.slice A n c)] w (ThP x w) := by
  have g0 := nbl w (.cells (thc x (.slice A n c)) 105)
  have g1 := bsa g0 (.cells #[.string ⟨#[]⟩, .string ⟨#[]⟩, .bool false] 93)
  have kX := (Blk.new w 105 (thc x (.slice A n c))).below (nbl _ (.cells #[.string ⟨#[]⟩, .string ⟨#[]⟩, .bool false] 93)) (by simp)
  have hzz : (w.alloc (.cells (thc x (.slice A n c)) 105)).heap.size = w.heap.size + 1 := by simp
  have kY := Blk.new (w.alloc (.cells (thc x (.slice A n c)) 105)) 93 #[.string ⟨#[]⟩, .string ⟨#[]⟩, .bool false]
  rw [hzz] at kY
  have HL := Lib.hid (hx.below g1)
  have HX := Lib.hid kX
  have HY := Lib.hid kY
  have G1 := Lib.hid g1
  obtain ⟨m, hm⟩ : ∃ m, x.k.tmod 3 = m := ⟨_, rfl⟩
  have m1 : -3 < m := by rw [← hm]; exact Int.lt_tmod_of_pos x.k (by omega)
  have m2 : m < 3 := by rw [← hm]; exact Int.tmod_lt_of_pos x.k (by omega)
  have hk : kd x.k = (m + 3).tmod 3 := by unfold kd; rw [hm]
  have LX := Lib.hid (fun (V : World) (h : Blk V w.heap.size 105 (thc x (.slice A n c))) => (show V.cell? ⟨w.heap.size, 0, none⟩ = some (.int .i64 x.k) ∧ V.cell? ⟨w.heap.size, 1, none⟩ = some (.string x.key) ∧ V.cell? ⟨w.heap.size, 2, none⟩ = some (.string x.value) ∧ V.cell? ⟨w.heap.size, 3, none⟩ = some (.bool x.gone) ∧ V.cell? ⟨w.heap.size, 4, none⟩ = some (.int .i64 x.sw) ∧ V.cell? ⟨w.heap.size, 5, none⟩ = some (.int .i64 x.sl) ∧ V.cell? ⟨w.heap.size, 6, none⟩ = some (.int .i64 x.it.id) ∧ V.cell? ⟨w.heap.size, 7, none⟩ = some (.int .i64 x.it.ep) ∧ V.cell? ⟨w.heap.size, 8, none⟩ = some (.int .i64 x.it.pr) ∧ V.cell? ⟨w.heap.size, 9, none⟩ = some (.string x.it.an) ∧ V.cell? ⟨w.heap.size, 10, none⟩ = some (.int .i64 x.it.sw) ∧ V.cell? ⟨w.heap.size, 11, none⟩ = some (.int .i64 x.it.sl) ∧ V.cell? ⟨w.heap.size, 12, none⟩ = some (.int .i64 x.it.bw) ∧ V.cell? ⟨w.heap.size, 13, none⟩ = some (.int .i64 x.it.bl) ∧ V.cell? ⟨w.heap.size, 14, none⟩ = some (.slice A n c) from ⟨h.cell 0, h.cell 1, h.cell 2, h.cell 3, h.cell 4, h.cell 5, h.cell 6, h.cell 7, h.cell 8, h.cell 9, h.cell 10, h.cell 11, h.cell 12, h.cell 13, h.cell 14⟩))
  clear kX kY g0 g1 hx hzz
  rcases kd_is x.k with h0 | h0 | h0
  all_goals rw [h0] at hk
  all_goals replace hk := hk.symm
  · have hgv : ∃ (vv : ByteArray) (dd : Bool), (if x.gone then ⟨#[]⟩ else x.value) = vv ∧ (!x.gone) = dd := ⟨_, _, rfl, rfl⟩
    obtain ⟨vv, dd, hvv, hdd⟩ := hgv
    have HO2 := Lib.hid (show opOf x = if okV x then some ⟨bs (vkey (sb x.key) x.sw x.sl), bs (txV vv dd), false⟩ else none by unfold opOf; rw [if_pos h0, hvv, hdd])
    have HOK := Lib.hid (show okV x = (decide (x.key.size ≤ 1000) && may x.sw x.sl && isV vv dd) by unfold okV; rw [hvv, hdd])
    by_cases hA : x.key.size ≤ 1000 ∧ may x.sw x.sl = true
    all_goals cases hV : isV vv dd
    · have HKE := Lib.hid (show vkE x.key x.sw x.sl = 0 by unfold vkE; rw [if_pos hA])
      have HVV := Lib.hid hV
      have HO := Lib.hid (show opOf x = if false then some ⟨vkS x.key x.sw x.sl, (if false then bs (txV vv dd) else ⟨#[]⟩), false⟩ else none by
        rw [HO2.out, HOK.out, hV]
        simp)
      cases hg : x.gone
      all_goals (
        rw [hg] at hvv hdd
        simp only [Bool.false_eq_true, if_false, if_true, Bool.not_false, Bool.not_true] at hvv hdd
        subst hvv hdd
        rw [hg] at LX
        clear hA hV HO2 HOK h0)
      all_goals try skip
      · obtain ⟨c0, c1, c2, c3, c4, c5, c6, c7, c8, c9, c10, c11, c12, c13, c14⟩ := LX.out _ HX.out
        go_enter Tryz.func42, Tryz.ntmps42
        go_wp2_with (first
          | (go_at_call 84; refine (rVersionKey x.key x.sw x.sl _).mono ?_; rintro e w1 ⟨rfl, b1⟩; rw [HKE.out]
             obtain ⟨e0, e1, e2, e3, e4, e5, e6, e7, e8, e9, e10, e11, e12, e13, e14⟩ := LX.out _ (HX.out.below b1 HX.out.lt)
             have B1 := Lib.hid b1
             clear b1)
          | (go_at_call 85; refine (rVersion x.value true _).mono ?_; rintro e w2 ⟨he, b2⟩; rw [ansT_form, HVV.out] at he; subst he
             have c2 := bst B1.out b2
             have ky := HY.out.below c2 HY.out.lt
             have y0 := ky.cell 0
             have y1 := ky.cell 1
             have y2 := ky.cell 2
             have f0 := ky.frozen 0
             have f1 := ky.frozen 1
             have f2 := ky.frozen 2
             simp at y0 y1 y2))
        exact ret_op12 rfl rfl ky.all3 rfl (ThP.mk (b := false) HO.out (((bst G1.out c2).setCell (Nat.le_succ _) _).setCell (Nat.le_succ _) _ |>.setCell (Nat.le_succ _) _))
      · obtain ⟨c0, c1, c2, c3, c4, c5, c6, c7, c8, c9, c10, c11, c12, c13, c14⟩ := LX.out _ HX.out
        go_enter Tryz.func42, Tryz.ntmps42
        go_wp2_with (first
          | (go_at_call 84; refine (rVersionKey x.key x.sw x.sl _).mono ?_; rintro e w1 ⟨rfl, b1⟩; rw [HKE.out]
             obtain ⟨e0, e1, e2, e3, e4, e5, e6, e7, e8, e9, e10, e11, e12, e13, e14⟩ := LX.out _ (HX.out.below b1 HX.out.lt)
             have B1 := Lib.hid b1
             clear b1)
          | (go_at_call 85; refine (rVersion ⟨#[]⟩ false _).mono ?_; rintro e w2 ⟨he, b2⟩; rw [ansT_form, HVV.out] at he; subst he
             have c2 := bst B1.out b2
             have ky := HY.out.below c2 HY.out.lt
             have y0 := ky.cell 0
             have y1 := ky.cell 1
             have y2 := ky.cell 2
             have f0 := ky.frozen 0
             have f1 := ky.frozen 1
             have f2 := ky.frozen 2
             simp at y0 y1 y2))
        exact ret_op12 rfl rfl ky.all3 rfl (ThP.mk (b := false) HO.out (((bst G1.out c2).setCell (Nat.le_succ _) _).setCell (Nat.le_succ _) _ |>.setCell (Nat.le_succ _) _))
    · have HKE := Lib.hid (show vkE x.key x.sw x.sl = 0 by unfold vkE; rw [if_pos hA])
      have HVV := Lib.hid hV
      have HO := Lib.hid (show opOf x = if true then some ⟨vkS x.key x.sw x.sl, (if true then bs (txV vv dd) else ⟨#[]⟩), false⟩ else none by
        rw [HO2.out, HOK.out, hV]
        rw [decide_eq_true hA.1, hA.2]; simp [vkS, hA])
      cases hg : x.gone
      all_goals (
        rw [hg] at hvv hdd
        simp only [Bool.false_eq_true, if_false, if_true, Bool.not_false, Bool.not_true] at hvv hdd
        subst hvv hdd
        rw [hg] at LX
        clear hA hV HO2 HOK h0)
      all_goals try skip
      · obtain ⟨c0, c1, c2, c3, c4, c5, c6, c7, c8, c9, c10, c11, c12, c13, c14⟩ := LX.out _ HX.out
        go_enter Tryz.func42, Tryz.ntmps42
        go_wp2_with (first
          | (go_at_call 84; refine (rVersionKey x.key x.sw x.sl _).mono ?_; rintro e w1 ⟨rfl, b1⟩; rw [HKE.out]
             obtain ⟨e0, e1, e2, e3, e4, e5, e6, e7, e8, e9, e10, e11, e12, e13, e14⟩ := LX.out _ (HX.out.below b1 HX.out.lt)
             have B1 := Lib.hid b1
             clear b1)
          | (go_at_call 85; refine (rVersion x.value true _).mono ?_; rintro e w2 ⟨he, b2⟩; rw [ansT_form, HVV.out] at he; subst he
             have c2 := bst B1.out b2
             have ky := HY.out.below c2 HY.out.lt
             have y0 := ky.cell 0
             have y1 := ky.cell 1
             have y2 := ky.cell 2
             have f0 := ky.frozen 0
             have f1 := ky.frozen 1
             have f2 := ky.frozen 2
             simp at y0 y1 y2))
        exact ret_op12 rfl rfl ky.all3 rfl (ThP.mk (b := true) HO.out (((bst G1.out c2).setCell (Nat.le_succ _) _).setCell (Nat.le_succ _) _ |>.setCell (Nat.le_succ _) _))
      · obtain ⟨c0, c1, c2, c3, c4, c5, c6, c7, c8, c9, c10, c11, c12, c13, c14⟩ := LX.out _ HX.out
        go_enter Tryz.func42, Tryz.ntmps42
        go_wp2_with (first
          | (go_at_call 84; refine (rVersionKey x.key x.sw x.sl _).mono ?_; rintro e w1 ⟨rfl, b1⟩; rw [HKE.out]
             obtain ⟨e0, e1, e2, e3, e4, e5, e6, e7, e8, e9, e10, e11, e12, e13, e14⟩ := LX.out _ (HX.out.below b1 HX.out.lt)
             have B1 := Lib.hid b1
             clear b1)
          | (go_at_call 85; refine (rVersion ⟨#[]⟩ false _).mono ?_; rintro e w2 ⟨he, b2⟩; rw [ansT_form, HVV.out] at he; subst he
             have c2 := bst B1.out b2
             have ky := HY.out.below c2 HY.out.lt
             have y0 := ky.cell 0
             have y1 := ky.cell 1
             have y2 := ky.cell 2
             have f0 := ky.frozen 0
             have f1 := ky.frozen 1
             have f2 := ky.frozen 2
             simp at y0 y1 y2))
        exact ret_op12 rfl rfl ky.all3 rfl (ThP.mk (b := true) HO.out (((bst G1.out c2).setCell (Nat.le_succ _) _).setCell (Nat.le_succ _) _ |>.setCell (Nat.le_succ _) _))
    · have HKE := Lib.hid (show vkE x.key x.sw x.sl = 2 by unfold vkE; rw [if_neg hA])
      have HVV := Lib.hid hV
      have HO := Lib.hid (show opOf x = if false then some ⟨vkS x.key x.sw x.sl, (if false then bs (txV vv dd) else ⟨#[]⟩), false⟩ else none by
        rw [HO2.out, HOK.out, hV]
        simp)
      cases hg : x.gone
      all_goals (
        rw [hg] at hvv hdd
        simp only [Bool.false_eq_true, if_false, if_true, Bool.not_false, Bool.not_true] at hvv hdd
        subst hvv hdd
        rw [hg] at LX
        clear hA hV HO2 HOK h0)
      all_goals try skip
      · obtain ⟨c0, c1, c2, c3, c4, c5, c6, c7, c8, c9, c10, c11, c12, c13, c14⟩ := LX.out _ HX.out
        go_enter Tryz.func42, Tryz.ntmps42
        go_wp2_with (first
          | (go_at_call 84; refine (rVersionKey x.key x.sw x.sl _).mono ?_; rintro e w1 ⟨rfl, b1⟩; rw [HKE.out]
             obtain ⟨e0, e1, e2, e3, e4, e5, e6, e7, e8, e9, e10, e11, e12, e13, e14⟩ := LX.out _ (HX.out.below b1 HX.out.lt)
             have B1 := Lib.hid b1
             clear b1)
          | (go_at_call 85; refine (rVersion x.value true _).mono ?_; rintro e w2 ⟨he, b2⟩; rw [ansT_form, HVV.out] at he; subst he
             have c2 := bst B1.out b2
             have ky := HY.out.below c2 HY.out.lt
             have y0 := ky.cell 0
             have y1 := ky.cell 1
             have y2 := ky.cell 2
             have f0 := ky.frozen 0
             have f1 := ky.frozen 1
             have f2 := ky.frozen 2
             simp at y0 y1 y2))
        exact ret_op12 rfl rfl ky.all3 rfl (ThP.mk (b := false) HO.out (((bst G1.out c2).setCell (Nat.le_succ _) _).setCell (Nat.le_succ _) _ |>.setCell (Nat.le_succ _) _))
      · obtain ⟨c0, c1, c2, c3, c4, c5, c6, c7, c8, c9, c10, c11, c12, c13, c14⟩ := LX.out _ HX.out
        go_enter Tryz.func42, Tryz.ntmps42
        go_wp2_with (first
          | (go_at_call 84; refine (rVersionKey x.key x.sw x.sl _).mono ?_; rintro e w1 ⟨rfl, b1⟩; rw [HKE.out]
             obtain ⟨e0, e1, e2, e3, e4, e5, e6, e7, e8, e9, e10, e11, e12, e13, e14⟩ := LX.out _ (HX.out.below b1 HX.out.lt)
             have B1 := Lib.hid b1
             clear b1)
          | (go_at_call 85; refine (rVersion ⟨#[]⟩ false _).mono ?_; rintro e w2 ⟨he, b2⟩; rw [ansT_form, HVV.out] at he; subst he
             have c2 := bst B1.out b2
             have ky := HY.out.below c2 HY.out.lt
             have y0 := ky.cell 0
             have y1 := ky.cell 1
             have y2 := ky.cell 2
             have f0 := ky.frozen 0
             have f1 := ky.frozen 1
             have f2 := ky.frozen 2
             simp at y0 y1 y2))
        exact ret_op12 rfl rfl ky.all3 rfl (ThP.mk (b := false) HO.out (((bst G1.out c2).setCell (Nat.le_succ _) _).setCell (Nat.le_succ _) _ |>.setCell (Nat.le_succ _) _))
    · have HKE := Lib.hid (show vkE x.key x.sw x.sl = 2 by unfold vkE; rw [if_neg hA])
      have HVV := Lib.hid hV
      have HO := Lib.hid (show opOf x = if false then some ⟨vkS x.key x.sw x.sl, (if true then bs (txV vv dd) else ⟨#[]⟩), false⟩ else none by
        rw [HO2.out, HOK.out, hV]
        simp only [Bool.and_true]; rw [if_neg (fun h => hA (by simpa using h))]; simp)
      cases hg : x.gone
      all_goals (
        rw [hg] at hvv hdd
        simp only [Bool.false_eq_true, if_false, if_true, Bool.not_false, Bool.not_true] at hvv hdd
        subst hvv hdd
        rw [hg] at LX
        clear hA hV HO2 HOK h0)
      all_goals try skip
      · obtain ⟨c0, c1, c2, c3, c4, c5, c6, c7, c8, c9, c10, c11, c12, c13, c14⟩ := LX.out _ HX.out
        go_enter Tryz.func42, Tryz.ntmps42
        go_wp2_with (first
          | (go_at_call 84; refine (rVersionKey x.key x.sw x.sl _).mono ?_; rintro e w1 ⟨rfl, b1⟩; rw [HKE.out]
             obtain ⟨e0, e1, e2, e3, e4, e5, e6, e7, e8, e9, e10, e11, e12, e13, e14⟩ := LX.out _ (HX.out.below b1 HX.out.lt)
             have B1 := Lib.hid b1
             clear b1)
          | (go_at_call 85; refine (rVersion x.value true _).mono ?_; rintro e w2 ⟨he, b2⟩; rw [ansT_form, HVV.out] at he; subst he
             have c2 := bst B1.out b2
             have ky := HY.out.below c2 HY.out.lt
             have y0 := ky.cell 0
             have y1 := ky.cell 1
             have y2 := ky.cell 2
             have f0 := ky.frozen 0
             have f1 := ky.frozen 1
             have f2 := ky.frozen 2
             simp at y0 y1 y2))
        exact ret_op12 rfl rfl ky.all3 rfl (ThP.mk (b := false) HO.out (((bst G1.out c2).setCell (Nat.le_succ _) _).setCell (Nat.le_succ _) _ |>.setCell (Nat.le_succ _) _))
      · obtain ⟨c0, c1, c2, c3, c4, c5, c6, c7, c8, c9, c10, c11, c12, c13, c14⟩ := LX.out _ HX.out
        go_enter Tryz.func42, Tryz.ntmps42
        go_wp2_with (first
          | (go_at_call 84; refine (rVersionKey x.key x.sw x.sl _).mono ?_; rintro e w1 ⟨rfl, b1⟩; rw [HKE.out]
             obtain ⟨e0, e1, e2, e3, e4, e5, e6, e7, e8, e9, e10, e11, e12, e13, e14⟩ := LX.out _ (HX.out.below b1 HX.out.lt)
             have B1 := Lib.hid b1
             clear b1)
          | (go_at_call 85; refine (rVersion ⟨#[]⟩ false _).mono ?_; rintro e w2 ⟨he, b2⟩; rw [ansT_form, HVV.out] at he; subst he
             have c2 := bst B1.out b2
             have ky := HY.out.below c2 HY.out.lt
             have y0 := ky.cell 0
             have y1 := ky.cell 1
             have y2 := ky.cell 2
             have f0 := ky.frozen 0
             have f1 := ky.frozen 1
             have f2 := ky.frozen 2
             simp at y0 y1 y2))
        exact ret_op12 rfl rfl ky.all3 rfl (ThP.mk (b := false) HO.out (((bst G1.out c2).setCell (Nat.le_succ _) _).setCell (Nat.le_succ _) _ |>.setCell (Nat.le_succ _) _))
  · have HO2 := Lib.hid (show opOf x = if okI x then some ⟨bs (ikey (sb x.key)), bs (txI x.it), false⟩ else none by unfold opOf; rw [if_neg (by rw [h0]; decide), if_pos h0])
    by_cases hA : x.key.size ≤ 1000
    all_goals cases hV : mayI x.it
    · have HKE := Lib.hid (show ikE x.key = 0 by unfold ikE; rw [if_pos hA])
      have HVV := Lib.hid hV
      have HO := Lib.hid (show opOf x = if false then some ⟨ikS x.key, (if false then bs (txI x.it) else ⟨#[]⟩), false⟩ else none by
        rw [HO2.out]; unfold okI; rw [hV]
        simp)
      clear hA hV HO2 h0
      obtain ⟨c0, c1, c2, c3, c4, c5, c6, c7, c8, c9, c10, c11, c12, c13, c14⟩ := LX.out _ HX.out
      go_enter Tryz.func42, Tryz.ntmps42
      go_wp2_with (first
        | (go_at_call 54; refine (rIntentKey x.key _).mono ?_; rintro e w1 ⟨rfl, b1⟩; rw [HKE.out]
           obtain ⟨e0, e1, e2, e3, e4, e5, e6, e7, e8, e9, e10, e11, e12, e13, e14⟩ := LX.out _ (HX.out.below b1 HX.out.lt)
           have B1 := Lib.hid b1
           have HL1 := Lib.hid (HL.out.below b1)
           clear b1)
        | (go_at_call 55; refine (rIntent_c x.it A n c _ HL1.out hn).mono ?_; rintro e w2 ⟨he, b2⟩; rw [ansT_form, HVV.out] at he; subst he
           have c2 := bst B1.out b2
           have ky := HY.out.below c2 HY.out.lt
           have y0 := ky.cell 0
           have y1 := ky.cell 1
           have y2 := ky.cell 2
           have f0 := ky.frozen 0
           have f1 := ky.frozen 1
           have f2 := ky.frozen 2
           simp at y0 y1 y2))
      exact ret_op12 rfl rfl ky.all3 rfl (ThP.mk (b := false) HO.out (((bst G1.out c2).setCell (Nat.le_succ _) _).setCell (Nat.le_succ _) _ |>.setCell (Nat.le_succ _) _))
    · have HKE := Lib.hid (show ikE x.key = 0 by unfold ikE; rw [if_pos hA])
      have HVV := Lib.hid hV
      have HO := Lib.hid (show opOf x = if true then some ⟨ikS x.key, (if true then bs (txI x.it) else ⟨#[]⟩), false⟩ else none by
        rw [HO2.out]; unfold okI; rw [hV]
        rw [decide_eq_true hA]; simp [ikS, hA])
      clear hA hV HO2 h0
      obtain ⟨c0, c1, c2, c3, c4, c5, c6, c7, c8, c9, c10, c11, c12, c13, c14⟩ := LX.out _ HX.out
      go_enter Tryz.func42, Tryz.ntmps42
      go_wp2_with (first
        | (go_at_call 54; refine (rIntentKey x.key _).mono ?_; rintro e w1 ⟨rfl, b1⟩; rw [HKE.out]
           obtain ⟨e0, e1, e2, e3, e4, e5, e6, e7, e8, e9, e10, e11, e12, e13, e14⟩ := LX.out _ (HX.out.below b1 HX.out.lt)
           have B1 := Lib.hid b1
           have HL1 := Lib.hid (HL.out.below b1)
           clear b1)
        | (go_at_call 55; refine (rIntent_c x.it A n c _ HL1.out hn).mono ?_; rintro e w2 ⟨he, b2⟩; rw [ansT_form, HVV.out] at he; subst he
           have c2 := bst B1.out b2
           have ky := HY.out.below c2 HY.out.lt
           have y0 := ky.cell 0
           have y1 := ky.cell 1
           have y2 := ky.cell 2
           have f0 := ky.frozen 0
           have f1 := ky.frozen 1
           have f2 := ky.frozen 2
           simp at y0 y1 y2))
      exact ret_op12 rfl rfl ky.all3 rfl (ThP.mk (b := true) HO.out (((bst G1.out c2).setCell (Nat.le_succ _) _).setCell (Nat.le_succ _) _ |>.setCell (Nat.le_succ _) _))
    · have HKE := Lib.hid (show ikE x.key = 2 by unfold ikE; rw [if_neg hA])
      have HVV := Lib.hid hV
      have HO := Lib.hid (show opOf x = if false then some ⟨ikS x.key, (if false then bs (txI x.it) else ⟨#[]⟩), false⟩ else none by
        rw [HO2.out]; unfold okI; rw [hV]
        simp)
      clear hA hV HO2 h0
      obtain ⟨c0, c1, c2, c3, c4, c5, c6, c7, c8, c9, c10, c11, c12, c13, c14⟩ := LX.out _ HX.out
      go_enter Tryz.func42, Tryz.ntmps42
      go_wp2_with (first
        | (go_at_call 54; refine (rIntentKey x.key _).mono ?_; rintro e w1 ⟨rfl, b1⟩; rw [HKE.out]
           obtain ⟨e0, e1, e2, e3, e4, e5, e6, e7, e8, e9, e10, e11, e12, e13, e14⟩ := LX.out _ (HX.out.below b1 HX.out.lt)
           have B1 := Lib.hid b1
           have HL1 := Lib.hid (HL.out.below b1)
           clear b1)
        | (go_at_call 55; refine (rIntent_c x.it A n c _ HL1.out hn).mono ?_; rintro e w2 ⟨he, b2⟩; rw [ansT_form, HVV.out] at he; subst he
           have c2 := bst B1.out b2
           have ky := HY.out.below c2 HY.out.lt
           have y0 := ky.cell 0
           have y1 := ky.cell 1
           have y2 := ky.cell 2
           have f0 := ky.frozen 0
           have f1 := ky.frozen 1
           have f2 := ky.frozen 2
           simp at y0 y1 y2))
      exact ret_op12 rfl rfl ky.all3 rfl (ThP.mk (b := false) HO.out (((bst G1.out c2).setCell (Nat.le_succ _) _).setCell (Nat.le_succ _) _ |>.setCell (Nat.le_succ _) _))
    · have HKE := Lib.hid (show ikE x.key = 2 by unfold ikE; rw [if_neg hA])
      have HVV := Lib.hid hV
      have HO := Lib.hid (show opOf x = if false then some ⟨ikS x.key, (if true then bs (txI x.it) else ⟨#[]⟩), false⟩ else none by
        rw [HO2.out]; unfold okI; rw [hV]
        rw [decide_eq_false hA]; simp)
      clear hA hV HO2 h0
      obtain ⟨c0, c1, c2, c3, c4, c5, c6, c7, c8, c9, c10, c11, c12, c13, c14⟩ := LX.out _ HX.out
      go_enter Tryz.func42, Tryz.ntmps42
      go_wp2_with (first
        | (go_at_call 54; refine (rIntentKey x.key _).mono ?_; rintro e w1 ⟨rfl, b1⟩; rw [HKE.out]
           obtain ⟨e0, e1, e2, e3, e4, e5, e6, e7, e8, e9, e10, e11, e12, e13, e14⟩ := LX.out _ (HX.out.below b1 HX.out.lt)
           have B1 := Lib.hid b1
           have HL1 := Lib.hid (HL.out.below b1)
           clear b1)
        | (go_at_call 55; refine (rIntent_c x.it A n c _ HL1.out hn).mono ?_; rintro e w2 ⟨he, b2⟩; rw [ansT_form, HVV.out] at he; subst he
           have c2 := bst B1.out b2
           have ky := HY.out.below c2 HY.out.lt
           have y0 := ky.cell 0
           have y1 := ky.cell 1
           have y2 := ky.cell 2
           have f0 := ky.frozen 0
           have f1 := ky.frozen 1
           have f2 := ky.frozen 2
           simp at y0 y1 y2))
      exact ret_op12 rfl rfl ky.all3 rfl (ThP.mk (b := false) HO.out (((bst G1.out c2).setCell (Nat.le_succ _) _).setCell (Nat.le_succ _) _ |>.setCell (Nat.le_succ _) _))
  · have HO := Lib.hid (show opOf x = if true then some ⟨x.key, x.value, false⟩ else none by unfold opOf; rw [if_neg (by rw [h0]; decide), if_neg (by rw [h0]; decide)]; rfl)
    clear h0
    obtain ⟨c0, c1, c2, c3, c4, c5, c6, c7, c8, c9, c10, c11, c12, c13, c14⟩ := LX.out _ HX.out
    have ky := HY.out.below (Below.refl _ _) HY.out.lt
    have y0 := ky.cell 0
    have y1 := ky.cell 1
    have y2 := ky.cell 2
    have f0 := ky.frozen 0
    have f1 := ky.frozen 1
    have f2 := ky.frozen 2
    simp at y0 y1 y2
    go_enter Tryz.func42, Tryz.ntmps42
    go_wp2_with fail
    exact ret_op12 rfl rfl (by have k := Blk.new (w.alloc (.cells (thc x (.slice A n c)) 105)) 93 #[.string x.key, .string x.value, .bool false]; rw [World.size_alloc] at k; exact k) rfl (ThP.mk (b := true) HO.out (bsa (nbl w _) _))
end Go.Proofs.YtgccichmdddbpaaGreatDoor
set_option linter.unusedVariables false
set_option linter.unusedSimpArgs false
set_option maxRecDepth 100000
namespace Go.Proofs.YtgccichmdddbpaaGreatDoor
open Go.RowKit

theorem tabP_take {l : List Th} {j : Nat} (hj : j < l.length) (h60 : j < 60) : tabP (l.take (j + 1)) = match opOf (l[j]'hj) with | none => tabP (l.take j) | some o => rapp (tabP (l.take j)) [o] := by
  unfold tabP laidP
  rw [List.take_of_length_le (show (l.take (j + 1)).length ≤ 60 by rw [List.length_take]; omega), List.take_of_length_le (show (l.take j).length ≤ 60 by rw [List.length_take]; omega), List.take_succ_eq_append_getElem hj, List.filterMap_append, List.foldl_append]
  cases h : opOf (l[j]'hj) with
  | none => simp [h]
  | some o => simp [h]
theorem tabP_60 (l : List Th) : tabP (l.take 60) = tabP l := by
  unfold tabP laidP
  rw [List.take_take, Nat.min_self]
theorem Has.pick3 {w V : World} {R S P G H : As} (h : Has w (R :: S :: P :: G :: H :: []) V) : Has w (P :: R :: []) V := by
  have h1 := h.perm (show (R :: S :: P :: G :: H :: []).Perm (S :: G :: H :: P :: R :: []) from by
    refine List.Perm.trans (List.perm_append_comm (l₁ := [R]) (l₂ := [S, P, G, H])) ?_
    refine List.Perm.cons S ?_
    exact (List.Perm.swap G P _).trans (List.Perm.cons G (List.Perm.swap H P _)))
  exact h1.tail.tail.tail
set_option maxHeartbeats 8000000 in
theorem tables13_c (A : Option Addr) (n c : Nat) (l : List Th) (w : World) (hx : ThAt w A n l) (hn : n ≤ 9223372036854775807) (hz : ∀ x ∈ l, TSz x) :
    Calls Tryz.prog 11 #[.slice A n c] w fun e w' => ∃ p b, e = .returned (.tuple #[pt p, pt b]) ∧ Has w (tbA p (tabP l) :: rtA b (tabP l) :: []) w' := by
  have HX := Lib.hid hx
  have HZ := Lib.hid hz
  have HLN := Lib.hid hx.1
  clear hx hz
  go_enter Tryz.func11, Tryz.ntmps11
  go_wp2_with (first
    | (go_at_call 41; refine ((Has.nil (Below.refl w.heap.size w)).tbNew 1).mono ?_; rintro e w1 ⟨p, rfl, h1⟩
       have H1 := Lib.hid h1.newRt.swap
       clear h1))
  go_loopw [6] (fun i wr => ∃ (j : Nat), j ≤ n ∧ j ≤ 60 ∧ i = .int .i64 j ∧ Hid (Has w (tbA p (tabP (l.take j)) :: rtA w1.heap.size (tabP (l.take j)) :: []) wr)) (fun i _ => 60 - (intOf i).toNat)
  case atStart => exact ⟨0, Nat.zero_le _, Nat.zero_le _, rfl, H1⟩
  case round =>
    obtain ⟨j, hj, hj2, rfl, HH⟩ := hrel
    by_cases c1 : j < n
    case neg =>
      have hh := HH.out
      rw [List.take_of_length_le (show l.length ≤ j by have := HLN.out; omega)] at hh
      have HF := Lib.hid hh
      clear hh HH
      go_wp2_with fail
      go_ret2
      exact ⟨p, _, rfl, HF.out⟩
    by_cases c2 : j < 60
    case neg =>
      obtain rfl : j = 60 := by omega
      have hh := HH.out
      rw [tabP_60] at hh
      have HF := Lib.hid hh
      clear hh HH
      go_wp2_with fail
      go_ret2
      exact ⟨p, _, rfl, HF.out⟩
    have hb := HH.out.bel
    have hjl : j < l.length := by rw [HLN.out]; exact c1
    obtain ⟨B, o, rfl, hc⟩ := (HX.out.below hb).2 (by omega)
    obtain ⟨Ai, ni, ci, q, hch, hni⟩ := hc j hjl
    have HTK := Lib.hid (tabP_take hjl c2)
    have HOK := Lib.hid (tabP_ok (l := l.take j) (fun y hy => HZ.out y (List.mem_of_mem_take hy)))
    obtain ⟨x, hxx⟩ : ∃ x, l[j]'hjl = x := ⟨_, rfl⟩
    rw [hxx] at q hch HTK
    have HTS := Lib.hid (show TSz x from hxx ▸ HZ.out _ (List.getElem_mem hjl))
    have d0 := q 0 _ rfl
    have d1 := q 1 _ rfl
    have d2 := q 2 _ rfl
    have d3 := q 3 _ rfl
    have d4 := q 4 _ rfl
    have d5 := q 5 _ rfl
    have d6 := q 6 _ rfl
    have d7 := q 7 _ rfl
    have d8 := q 8 _ rfl
    have d9 := q 9 _ rfl
    have d10 := q 10 _ rfl
    have d11 := q 11 _ rfl
    have d12 := q 12 _ rfl
    have d13 := q 13 _ rfl
    have d14 := q 14 _ rfl
    simp only [Nat.add_zero] at d0
    have jz : (0 : Int) ≤ (j : Int) := by omega
    have jn : (j : Int) < (n : Int) := by omega
    have HCH := Lib.hid hch
    clear q hch hc hxx hb
    generalize tabP (l.take j) = R at *
    have HLR := Lib.hid (show R.length ≤ 999999000 by have := HOK.out.len; omega)
    cases hos : opOf x with
    | none =>
      have HOS := Lib.hid (show (opOf x).isSome = false by rw [hos]; rfl)
      rw [hos] at HTK
      have HT2 := Lib.hid (show tabP (l.take (j + 1)) = R from HTK.out)
      clear hos HTK
      go_wp2_with (first
      | (go_at_call 42; refine (thOp13 x Ai ni ci wr HCH.out hni HTS.out).mono ?_; rintro e w2 ⟨k, vv, rfl, ho, hb2⟩; rw [HOS.out]
         have H2 := Lib.hid ((HH.out.keep hb2).keep (nbl w2 (.cells #[.string k, .string vv, .bool false] 93)))
         clear ho hb2))
      go_roundw
      case rel => exact ⟨j + 1, by omega, by omega, by go_num, by rw [HT2.out]; exact H2.out⟩
      case measure => simp [intOf]; omega
    | some oo =>
      have HOS := Lib.hid (show (opOf x).isSome = true by rw [hos]; rfl)
      rw [hos] at HTK
      have HT2 := Lib.hid (show tabP (l.take (j + 1)) = rapp R [oo] from HTK.out)
      have HOO := Lib.hid hos
      clear hos HTK
      go_wp2_with (first
      | (go_at_call 42; refine (thOp13 x Ai ni ci wr HCH.out hni HTS.out).mono ?_; rintro e w2 ⟨k, vv, rfl, ho, hb2⟩; rw [HOS.out]
         have hoo := ho oo HOO.out
         subst hoo
         have h2 := (HH.out.keep hb2).newBlk 93 #[.string k, .string vv, .bool false]
         have b2 := h2.blk.1
         have e0 := b2.cell 0
         have e1 := b2.cell 1
         have e2 := b2.cell 2
         simp at e0 e1 e2
         have h3 := h2.newBlk 93 #[.string k, .string vv, .bool false]
         simp only [World.size_alloc] at h3
         have H3 := Lib.hid (show Has w (tbA p R :: blkA (w2.heap.size + 1) 93 #[.string k, .string vv, .bool false] :: blkA w2.heap.size 93 #[.string k, .string vv, .bool false] :: rtA w1.heap.size R :: []) _ from h3.perm (List.perm_middle (l₁ := [_, _])))
         have HOZ := Lib.hid (show OSz [⟨k, vv, false⟩] from fun y hy => by rw [List.mem_singleton.1 hy]; have := opOf_sz HTS.out HOO.out; exact ⟨this.1, this.2.1⟩)
         clear ho hb2 h2 b2 h3)
      | (go_at_call 19; refine (H3.out.tbApplyB HOK.out (by omega) (some ⟨w2.heap.size + 1, 0, none⟩) 1 1 [⟨k, vv, false⟩] (fun W F2 hb => (by
           refine ⟨rfl, fun _ => ⟨w2.heap.size + 1, 0, rfl, fun i hi => ?_⟩⟩
           have : i = 0 := by simp at hi; omega
           subst this
           exact ⟨hb.1.cell 0, hb.1.cell 1, hb.1.cell 2⟩)) (by omega) HOZ.out).mono ?_; rintro e w3 ⟨rfl, h4, -⟩
         have b3 := h4.blkAt (g := w2.heap.size) (t := 93) (cs := #[.string k, .string vv, .bool false]) (by simp)
         have u0 := b3.cell 0
         have u1 := b3.cell 1
         have u2 := b3.cell 2
         simp at u0 u1 u2
         have h5 := h4.newBlk 93 #[.string k, .string vv, .bool false]
         have H5 := Lib.hid (show Has w (rtA w1.heap.size R :: blkA w3.heap.size 93 #[.string k, .string vv, .bool false] :: tbA p (rapp R [⟨k, vv, false⟩]) :: blkA (w2.heap.size + 1) 93 #[.string k, .string vv, .bool false] :: blkA w2.heap.size 93 #[.string k, .string vv, .bool false] :: []) _ from h5.perm (List.perm_middle (l₁ := [_, _, _, _])))
         clear h4 b3 h5)
      | (go_at_call 20; refine (H5.out.rtApplyB HLR.out (some ⟨w3.heap.size, 0, none⟩) 1 1 [⟨k, vv, false⟩] (fun W F2 hb => (by
           refine ⟨rfl, fun _ => ⟨w3.heap.size, 0, rfl, fun i hi => ?_⟩⟩
           have : i = 0 := by simp at hi; omega
           subst this
           exact ⟨hb.1.cell 0, hb.1.cell 1, hb.1.cell 2⟩)) (by omega)).mono ?_; rintro e w4 ⟨rfl, h6⟩
         have H6 := Lib.hid (show Has w (tbA p (rapp R [⟨k, vv, false⟩]) :: rtA w1.heap.size (rapp R [⟨k, vv, false⟩]) :: []) w4 from Has.pick3 h6)
         clear h6))
      go_roundw
      case rel => exact ⟨j + 1, by omega, by omega, by go_num, by rw [HT2.out]; exact H6.out⟩
      case measure => simp [intOf]; omega
end Go.Proofs.YtgccichmdddbpaaGreatDoor
set_option linter.unusedVariables false
set_option linter.unusedSimpArgs false
set_option maxRecDepth 100000
namespace Go.Proofs.YtgccichmdddbpaaGreatDoor
open Go.RowKit

theorem infoTh13 : (Tryz.prog.info? 105).map (fun i => (i.zero, i.size, i.bytes)) = some (some (.agg #[.int .i64 0, .string ByteArray.empty, .string ByteArray.empty, .bool false, .int .i64 0, .int .i64 0, .int .i64 0, .int .i64 0, .int .i64 0, .string ByteArray.empty, .int .i64 0, .int .i64 0, .int .i64 0, .int .i64 0, .slice none 0 0]), 15, 160) := by kernel_rfl
theorem wpList_appTh13 {w : World} {ops : Array Oper} {rest : List Oper} {o : Oper} {a : Act} {Q : Exit → Act → World → Prop} (hgd : o.guard = none) (s x : Operand)
    (ho : o.op = .call { callee := .builtin .append, args := #[s, x], argTypes := #[22, 22] })
    (B : Nat) (v : Value) (k : Nat) (xs l : List (Th × Value)) (hs : a.eval s = v) (hown : w.ownsRow B 105 15 v k (tfl xs))
    (ad : Addr) (n c : Nat) (hx : a.eval x = .slice (some ad) n c) (hl : l.length = n) (hr : ∀ j u, (tfl l)[j]? = some u → w.cell? (ad.add j) = some u) (hone : ∀ u ∈ tfl l, u.oneCell' = true) (hbytes : (k + n) * 160 ≤ 140737488355328) (hbase : B ≤ w.heap.size)
    (h : ∀ v' w', w'.ownsRow B 105 15 v' (k + n) (tfl (xs ++ l)) → w.grownBy w' v.ownBlock → wpList Tryz.prog ops Q rest (a.put o.dst v') w') :
    wpList Tryz.prog ops Q (o :: rest) a w := by
  obtain ⟨i, hi, hz, hsz, hby⟩ := info_parts infoTh13
  refine wpList_append_own w hgd s x 22 ho B 105 i _ 15 160 Tryz.underlying22 hi hz hsz hby rfl (by decide) v k (tfl xs) hs hown ad n c (tfl l) hx (by rw [tfl_len, hl]) hr hone (by unfold maxLen; omega) hbytes hbase ?_
  intro v' w' h1 h2 _
  refine h v' w' ?_ h2
  rw [tfl_app]
  exact h1
theorem thRow13 {w : World} {B n : Nat} {v : Value} {L : List (Th × Value)} (h : w.ownsRow B 105 15 v n (tfl L)) (hc : ∀ q ∈ L, ∃ A m c, q.2 = .slice A m c ∧ ChAt w A m q.1.it.l ∧ m ≤ 9223372036854775807) :
    ∃ A c, v = .slice A n c ∧ ThAt w A n (L.map Prod.fst) := by
  have hl : L.length = n := by have := h.1; rw [tfl_len] at this; omega
  rcases h.2 with ⟨rfl, h0⟩ | ⟨g, cap, cur, rfl, hb, hg, hnc, hcm, _⟩
  · exact ⟨none, 0, by rw [h0], by rw [List.length_map]; exact hl, fun hm => by omega⟩
  · refine ⟨_, cap, rfl, by rw [List.length_map]; exact hl, fun hm => ⟨g, 0, rfl, fun i hi => ?_⟩⟩
    have hi' : i < L.length := by simpa using hi
    obtain ⟨A, m, c, e1, e2, e3⟩ := hc _ (List.getElem_mem hi')
    refine ⟨A, m, c, fun j u hu => ?_, by simpa using e2, e3⟩
    have := World.ownsRow.cells h (g := g) rfl (i * 15 + j) u (tfl_get L i hi' j u (by rw [e1]; simpa using hu))
    rw [Go.WideShapes.add_plain] at this
    rw [Nat.zero_add]
    simpa using this
theorem th_one13 (w : World) (x : Th) (v : Value) : ∀ j u, (tfl [(x, v)])[j]? = some u → (w.alloc (.cells (thc x v) 105)).cell? ((⟨w.heap.size, 0, none⟩ : Addr).add j) = some u := by
  intro j u hu
  rw [Go.WideShapes.add_plain, Nat.zero_add, (Blk.new w 105 (thc x v)).cell]
  simpa [tfl] using hu
theorem at13_c (n : Int) (w : World) : Calls Tryz.prog 57 #[.int .i64 n] w fun e w' => e = .returned (sv n 0) ∧ Below w.heap.size w w' := by
  have hB := Box.new w n 0
  go_enter Tryz.func57, Tryz.ntmps57
  go_wp2
  exact ret_one rfl rfl hB rfl ⟨rfl, nbl w _⟩
theorem ret_ch1 {fn : Func} {Q : Ending → World → Prop} {a : Act} {w : World} {p : Tmp} {g : Nat} {cs : Array Value} (hr : fn.results = #[.cell p 24]) (hp : a.tmps.getD p undef = .pointer (some ⟨g, 0, none⟩))
    (hB : Blk w g 24 cs) (hs : cs.size = 3) (hd : a.defers = []) (hR : Q (.returned (.agg cs)) w) : bodyPost Tryz.prog fn Q .ret a w := by
  refine bodyPost_ret ?_ hd hR
  have hp' : a.tmps[p]?.getD undef = .pointer (some ⟨g, 0, none⟩) := by simpa using hp
  simp [results, hr, hp', asAddr, run_loadVar_row w g 24 24 _ (0, 0) _ hB Tryz.underlying24 rfl (by rw [hs]; kernel_rfl)]
theorem one13_c (q : Int) (s : ByteArray) (w : World) : Calls Tryz.prog 58 #[.int .i64 q, .string s] w fun e w' => e = .returned (.agg #[.int .i64 q, .string s, .bool false]) ∧ Below w.heap.size w w' := by
  have hB := Blk.new w 24 #[.int .i64 q, .string s, .bool false]
  go_enter Tryz.func58, Tryz.ntmps58
  go_wp2
  exact ret_ch1 rfl rfl hB rfl rfl ⟨rfl, nbl w _⟩
set_option maxHeartbeats 2000000 in
theorem writer13_c (a : Int) (w : World) : Calls Tryz.prog 59 #[.int .i64 a] w fun e w' => e = .returned (txv (wrt a)) ∧ Below w.heap.size w w' := by
  have K0 := Lib.hid (Blk.new w 28 #[.int .i64 0, .int .i64 0, .int .i64 0, .string ⟨#[]⟩, .int .i64 0, .int .i64 0, .int .i64 0, .int .i64 0, .int .i64 0, .int .i64 0, .int .i64 0, .int .i64 0])
  have HG0 := Lib.hid (nbl w (.cells #[.int .i64 0, .int .i64 0, .int .i64 0, .string ⟨#[]⟩, .int .i64 0, .int .i64 0, .int .i64 0, .int .i64 0, .int .i64 0, .int .i64 0, .int .i64 0, .int .i64 0] 28))
  have HA := Lib.hid (at13_c a)
  go_enter Tryz.func59, Tryz.ntmps59
  go_wp2_with fail
  refine (HA.out _).mono ?_
  rintro e w1 ⟨rfl, hb1⟩
  go_wp2_with fail
  refine (HA.out _).mono ?_
  rintro e w2 ⟨rfl, hb2⟩
  go_wp2_with fail
  refine (HA.out _).mono ?_
  rintro e w3 ⟨rfl, hb3⟩
  have g3 := bst (bst (bst HG0.out hb1) hb2) hb3
  have k1 := K0.out.below hb1 K0.out.lt
  have k2 := k1.below hb2 k1.lt
  have k3 := k2.below hb3 k2.lt
  have p0 := k3.cell 0
  have f0 := k3.frozen 0
  have p1 := k3.cell 1
  have f1 := k3.frozen 1
  have p2 := k3.cell 2
  have f2 := k3.frozen 2
  have p3 := k3.cell 3
  have f3 := k3.frozen 3
  have p4 := k3.cell 4
  have f4 := k3.frozen 4
  have p5 := k3.cell 5
  have f5 := k3.frozen 5
  have p6 := k3.cell 6
  have f6 := k3.frozen 6
  have p7 := k3.cell 7
  have f7 := k3.frozen 7
  have p8 := k3.cell 8
  have f8 := k3.frozen 8
  have p9 := k3.cell 9
  have f9 := k3.frozen 9
  have p10 := k3.cell 10
  have f10 := k3.frozen 10
  have p11 := k3.cell 11
  have f11 := k3.frozen 11
  simp at p0 p1 p2 p3 p4 p5 p6 p7 p8 p9 p10 p11
  clear hb1 hb2 hb3 k1 k2
  go_wp2_with fail
  exact ret_tx1 rfl rfl (Blk.all12 (v0 := .int .i64 7) (v1 := .int .i64 0) (v2 := .int .i64 1) (v3 := .string bA) (v4 := .int .i64 a) (v5 := .int .i64 0) (v6 := .int .i64 a) (v7 := .int .i64 0) (v8 := .int .i64 a) (v9 := .int .i64 0) (v10 := .int .i64 0) (v11 := .int .i64 0) (by exact k3)) rfl rfl ⟨rfl, ((((((((((((g3.setCell (by exact Nat.le_refl _) _).setCell (by exact Nat.le_refl _) _).setCell (by exact Nat.le_refl _) _).setCell (by exact Nat.le_refl _) _).setCell (by exact Nat.le_refl _) _).setCell (by exact Nat.le_refl _) _).setCell (by exact Nat.le_refl _) _).setCell (by exact Nat.le_refl _) _).setCell (by exact Nat.le_refl _) _).setCell (by exact Nat.le_refl _) _).setCell (by exact Nat.le_refl _) _).setCell (by exact Nat.le_refl _) _)⟩
theorem oneZ : ∀ x ∈ oneP, TSz x := by
  intro x hx
  simp only [oneP, List.mem_cons, List.not_mem_nil, or_false] at hx
  subst hx
  exact TSz_V _ _ (by decide)
theorem twoZ : ∀ x ∈ twoP, TSz x := by
  intro x hx
  simp only [twoP, List.mem_cons, List.not_mem_nil, or_false] at hx
  rcases hx with rfl | rfl
  · exact TSz_V _ _ (by decide)
  · exact TSz_V _ _ (by decide)
/-- Put, of which the answer is known. -/
theorem poIs {w V : World} {T : List As} {p N : Nat} {r : List Rw} {key : ByteArray} {ch : Ch} {x : Tx} {m1 m2 : Int} {o : Dn × Int} (hp : pputC r key ch x (m1, m2) = o) (h : Has w (tbA p r :: T) V) (hr : ROk N r) (hN : N ≤ 999999000) (hM : MaxL w) :
    Calls Tryz.prog 12 #[pt p, .string key, chv ch, txv x, sv m1 m2] V fun e w' => AnsD key o w (tbA p r :: T) e w' := by
  rw [← hp]
  exact poPut h hr hN hM key ch x m1 m2
end Go.Proofs.YtgccichmdddbpaaGreatDoor
set_option linter.unusedVariables false
set_option linter.unusedSimpArgs false
set_option maxRecDepth 100000
namespace Go.Proofs.YtgccichmdddbpaaGreatDoor
open Go.RowKit

theorem st_rpos (x : Rw) (r : List Rw) (k : ByteArray) : rpos (x :: r) k = if kl x.key k = true then rpos r k + 1 else 0 := by
  unfold rpos
  rw [List.takeWhile_cons]
  split <;> simp
theorem st_btw (f t : ByteArray) : ∀ r : List Rw, RSor r → (r.take (rpos r t)).drop (rpos r f) = r.filter (fun x => !(kl x.key f) && kl x.key t)
  | [], _ => by simp [rpos]
  | x :: r, hs => by
    have hs' : RSor r := (List.pairwise_cons.1 hs).2
    have hx := (List.pairwise_cons.1 hs).1
    have ih := st_btw f t r hs'
    rw [st_rpos, st_rpos]
    cases ht : kl x.key t with
    | true =>
      cases hf : kl x.key f with
      | true => simp [ht, hf, ih]
      | false =>
        have h0 : rpos r f = 0 := by
          cases r with
          | nil => rfl
          | cons y r =>
            rw [st_rpos]
            have h1 := hx y (by simp)
            cases h2 : kl y.key f with
            | false => simp
            | true => rw [kl_trans h1 h2] at hf; cases hf
        rw [h0] at ih
        simp [ht, hf]
        simpa using ih
    | false =>
      have h1 : r.filter (fun x => !(kl x.key f) && kl x.key t) = [] := by
        rw [List.filter_eq_nil_iff]
        intro y hy h2
        simp only [Bool.and_eq_true] at h2
        rw [kl_trans (hx y hy) h2.2] at ht
        cases ht
      simp [ht, h1]
theorem btw_filter {r : List Rw} (hs : RSor r) (f t : ByteArray) (ht : t.toList ≠ []) : btw r f t = r.filter (fun x => !(kl x.key f) && kl x.key t) := by
  unfold btw rend
  rw [if_neg ht]
  exact st_btw f t r hs
theorem zr_ne (s : ByteArray) : (s ++ zr).toList ≠ [] := by rw [ztoList]; simp
end Go.Proofs.YtgccichmdddbpaaGreatDoor
