/-
  How arguments are opened: a list of changes; a list of batches; each with its sizes.
  Layer 10: what only asks, wherever a thing stands among a walk's own; batches done to both tables.
  Layer 10: changes in a row of the walk's own; a row's cells are written.
-/
import Derived.Test.YtdaecfgjfdikbaaGreatDoorZ02
import Derived.Test.YtdaecfgjfdikbaaGreatDoorZ15
import Derived.Lib.SmallJoins
import Derived.Deep.SlicePairs
set_option linter.unusedVariables false
namespace Go.Proofs.YtdaecfgjfdikbaaGreatDoor
open Go.ChangeShapes Go.WideShapes Go.ChangeAt Go.RowKit Go.Joins Go.Deep

/-- Batches in memory. -/
def BAt (w : World) (A : Option Addr) (n : Nat) (bs : List (List Op_)) : Prop :=
  bs.length = n ∧ (0 < n → ∃ b o, A = some ⟨b, o, none⟩ ∧ ∀ i (h : i < bs.length), ∃ Ai ci, w.cell? ⟨b, o + i, none⟩ = some (.slice Ai (bs[i]'h).length ci) ∧ OAt w Ai (bs[i]'h).length (bs[i]'h) ∧ (bs[i]'h).length ≤ ci ∧ ci ≤ 9223372036854775807)
theorem BAt.below {w w' : World} {A : Option Addr} {n : Nat} {bs : List (List Op_)} (h : BAt w A n bs) (hb : Below w.heap.size w w') : BAt w' A n bs := by
  refine ⟨h.1, fun hn => ?_⟩
  obtain ⟨b, o, e, hc⟩ := h.2 hn
  refine ⟨b, o, e, fun i hi => ?_⟩
  obtain ⟨Ai, ci, h1, h2, h3⟩ := hc i hi
  exact ⟨Ai, ci, (hb.cell (World.block_lt_of_cell? w _ h1)).trans h1, h2.below hb, h3⟩
theorem cellsOp : Tryz.prog.cellsOf 60 = 3 := by kernel_rfl
theorem cellsLo : Tryz.prog.cellsOf 86 = 1 := by kernel_rfl
theorem cellsSt : Tryz.prog.cellsOf 9 = 1 := by kernel_rfl
theorem cellsBl : Tryz.prog.cellsOf 4 = 1 := by kernel_rfl
theorem three_ {α : Type} {l : List α} (h : l.length = 3) : ∃ a b c, l = [a, b, c] := by
  match l, h with
  | [a, b, c], _ => exact ⟨a, b, c, rfl⟩
theorem one_ {α : Type} {l : List α} (h : l.length = 1) : ∃ a, l = [a] := by
  match l, h with
  | [a], _ => exact ⟨a, rfl⟩
theorem mem_allW {H : Type} {P : Program} {e : TypeId} {x : Nat} : ∀ {l : List (DataW H)} {d : DataW H}, d ∈ l → x ∈ d.weights P e → x ∈ DataW.weightsAll P e l
  | a :: l, d, h, hx => by
    unfold DataW.weightsAll
    rcases List.mem_cons.1 h with rfl | h
    · exact List.mem_append.2 (.inl hx)
    · exact List.mem_append.2 (.inr (mem_allW h hx))
section
variable {H : Type} {enc : TypeId × Value → H} {w : World} {base : Nat} {held : Bool} {d : DataW H} {p : List MemPlace} {v : Value} {r : Reach} {b0 : Nat} {fuel : Nat} {cs : List Value}
set_option maxRecDepth 100000 in
set_option maxRecDepth 100000 in
theorem open_opsz (hf : DataW.trod enc Tryz.prog w base (fun _ => true) held fuel 86 cs = some (d, p)) (hW : ∀ y ∈ d.weights Tryz.prog 86, y ≤ 140737488351232) :
    ∃ A n c, cs = [.slice A n c] ∧ (∃ l : List Op_, OAt w A n l ∧ OSz l ∧ l.length * 40 ≤ 140737488351232) ∧ n ≤ c ∧ c ≤ 9223372036854775807 := by
  have hmax : maxLen ≤ 9223372036854775807 := by decide
  rcases open_slice Tryz.underlying86 hf with ⟨hcs, _⟩ | ⟨a, n, c, m, k, D, Pl, hcs, _, hl, hm, hmm, hx, hrow⟩
  · exact ⟨none, 0, 0, hcs, ⟨[], OAt.nil _ _, fun o ho => (nomatch ho), by simp⟩, Nat.le_refl _, by omega⟩
  · rw [if_pos rfl] at hmm
    have hdd : d = .slice ((List.range n).map D) ((List.range (m - n)).map fun j => D (n + j)) := congrArg Prod.fst hx
    have hv : ∀ i, i < n → ∃ (q : Op_), w.cell? (a.add (i * 3)) = some (.string q.key) ∧ w.cell? (a.add (i * 3 + 1)) = some (.string q.value) ∧ w.cell? (a.add (i * 3 + 2)) = some (.bool q.del) ∧ q.key.size ≤ 140737488351232 ∧ q.value.size ≤ 140737488351232 := by
      intro i hi
      obtain ⟨cs', h1, h2⟩ := hrow i (by omega)
      rw [cellsOp] at h1
      obtain ⟨_, hlen, hcell⟩ := World.cells?_some h1
      obtain ⟨xs, k', hk', hxy, _, hxl, hfl⟩ := DataW.trod_struct Tryz.underlying60 h2
      have hDi : D i = .agg (xs.map (·.1)) := congrArg Prod.fst hxy
      have hWi : ∀ y ∈ (D i).weights Tryz.prog 60, y ≤ 140737488351232 := fun y hy => hW y (by
        rw [hdd]
        simp only [DataW.weights, Tryz.underlying86]
        exact List.mem_cons.2 (.inr (List.mem_append.2 (.inl (mem_allW (List.mem_map.2 ⟨i, List.mem_range.2 hi, rfl⟩) hy)))))
      obtain ⟨y0, y1, y2, rfl⟩ := three_ hxl
      obtain ⟨v0, v1, v2, rfl⟩ := three_ hlen
      have g0 := hfl 0 _ rfl
      have g1 := hfl 1 _ rfl
      have g2 := hfl 2 _ rfl
      simp [cellsSt, cellsBl] at g0 g1 g2
      obtain ⟨s0, e0, x0, _⟩ := DataW.trod_string Tryz.underlying9 g0
      obtain ⟨s1, e1, x1, _⟩ := DataW.trod_string Tryz.underlying9 g1
      obtain ⟨z2, e2, _⟩ := DataW.trod_bool Tryz.underlying4 g2
      simp at e0 e1 e2
      have hwe : ∀ (j : Nat) (t : TypeId) (dd : DataW H), [9, 9, 4][j]? = some t → [y0.1, y1.1, y2.1][j]? = some dd → ∀ y ∈ dd.weights Tryz.prog t, y ≤ 140737488351232 := fun j t dd ht hdj y hy => hWi y (by
        rw [hDi]
        simp only [DataW.weights, Tryz.underlying60]
        exact DataW.weights_mem_each (j := j) ht hdj y hy)
      have q0 := hwe 0 _ _ rfl rfl s0.data.toList.length (by rw [x0]; simp [DataW.weights])
      have q1 := hwe 1 _ _ rfl rfl s1.data.toList.length (by rw [x1]; simp [DataW.weights])
      have z0 : s0.data.toList.length = s0.size := by rw [Array.length_toList]; rfl
      have z1 : s1.data.toList.length = s1.size := by rw [Array.length_toList]; rfl
      have c0 := hcell 0 (by omega)
      have c1 := hcell 1 (by omega)
      have c2 := hcell 2 (by omega)
      rw [Go.Deep.add_add] at c0 c1 c2
      exact ⟨⟨s0, s1, z2⟩, by rw [← e0]; simpa using c0, by rw [← e1]; simpa using c1, by rw [← e2]; simpa using c2, by show s0.size ≤ _; omega, by show s1.size ≤ _; omega⟩
    have hbig : n * 40 ≤ 140737488351232 := by
      have h1 := hW ((((List.range n).map D).length + ((List.range (m - n)).map fun j => D (n + j)).length) * Tryz.prog.bytesOf 60) (by
        rw [hdd]
        simp only [DataW.weights, Tryz.underlying86]
        exact List.mem_cons_self)
      rw [show Tryz.prog.bytesOf 60 = 40 by kernel_rfl] at h1
      simp only [List.length_map, List.length_range] at h1
      omega
    refine ⟨some a, n, c, hcs, ?_, hl, by omega⟩
    have hch : ∃ f : Nat → Op_, ∀ i, i < n → w.cell? (a.add (i * 3)) = some (.string (f i).key) ∧ w.cell? (a.add (i * 3 + 1)) = some (.string (f i).value) ∧ w.cell? (a.add (i * 3 + 2)) = some (.bool (f i).del) ∧ (f i).key.size ≤ 140737488351232 ∧ (f i).value.size ≤ 140737488351232 := by
      refine ⟨fun i => if h : i < n then (hv i h).choose else ⟨ByteArray.empty, ByteArray.empty, false⟩, fun i hi => ?_⟩
      simp only [dif_pos hi]
      exact (hv i hi).choose_spec
    obtain ⟨f, hf⟩ := hch
    refine ⟨(List.range n).map f, ⟨by simp, fun h0 => ?_⟩, fun o ho => ?_, by simpa using hbig⟩
    · obtain ⟨b, o, s⟩ := a
      obtain ⟨h1, _⟩ := hf 0 h0
      obtain rfl : s = none := by simpa [Addr.add] using World.cell?_spot h1
      refine ⟨b, o, rfl, fun i hi => ?_⟩
      have hi' : i < n := by simpa using hi
      obtain ⟨h1, h2, h3, _⟩ := hf i hi'
      rw [Go.WideShapes.add_plain] at h1 h2 h3
      simp only [List.getElem_map, List.getElem_range]
      exact ⟨h1, by rw [Nat.add_assoc]; exact h2, by rw [Nat.add_assoc]; exact h3⟩
    · obtain ⟨i, hi, rfl⟩ := List.mem_map.1 ho
      exact (hf i (List.mem_range.1 hi)).2.2.2
set_option maxRecDepth 100000 in
theorem open_opz (hval : Value.okWide Tryz.prog w r b0 86 v) (hd : DataW.Trod enc Tryz.prog w base (fun _ => true) held 86 v d p) (hW : ∀ y ∈ d.weights Tryz.prog 86, y ≤ 140737488351232) :
    ∃ A n c, v = .slice A n c ∧ (∃ l : List Op_, OAt w A n l ∧ OSz l ∧ l.length * 40 ≤ 140737488351232) ∧ n ≤ c ∧ c ≤ 9223372036854775807 := by
  obtain ⟨A, n, c, rfl⟩ := okWide_slice Tryz.underlying86 hval
  obtain ⟨fuel, hf⟩ := hd
  obtain ⟨A', n', c', hcs, h1, h2, h3⟩ := open_opsz hf hW
  simp [Value.cells] at hcs
  obtain ⟨rfl, rfl, rfl⟩ := hcs
  exact ⟨A, n, c, rfl, h1, h2, h3⟩
theorem sized_opz {ts : List TypeId} {ds : List (DataW H)} (h : (DataW.weightsEach Tryz.prog ts ds).all (· ≤ reachBytes) = true) {j : Nat} {d : DataW H} (ht : ts[j]? = some 86) (hd : ds[j]? = some d) :
    ∀ y ∈ d.weights Tryz.prog 86, y ≤ 140737488351232 := fun y hy => by
  have h1 := List.all_eq_true.1 h _ (DataW.weights_mem_each ht hd y hy)
  rw [reach_le] at h1
  exact of_decide_eq_true h1
end
end Go.Proofs.YtdaecfgjfdikbaaGreatDoor
set_option linter.unusedVariables false
namespace Go.Proofs.YtdaecfgjfdikbaaGreatDoor
open Go.RowKit Go.Shelf

section
variable {w V V' : World} {l T : List As} {p b : Nat} {r r' : List Rw}
theorem Has.tbGetM (h : Has w l V) (hm : tbA p r ∈ l) (key : ByteArray) : Calls Tryz.prog 29 #[pt p, .string key] V fun e w' => e = .returned (.tuple #[.string (rval r key), .bool (rhas r key)]) ∧ Has w l w' := by
  obtain ⟨F, hA, _⟩ := h.at_ hm
  refine (tb_get hA key).mono ?_
  rintro e w' ⟨rfl, hb⟩
  exact ⟨rfl, h.keep hb⟩
theorem Has.tbRowsM (h : Has w l V) (hm : tbA p r ∈ l) (hz : Szs r) (hl : r.length ≤ 1000000) : Calls Tryz.prog 23 #[pt p] V fun e w' => ∃ A c, e = .returned (.slice A r.length c) ∧ Has w (rwA (.slice A r.length c) r :: l) w' ∧ WAt w' A r.length r ∧ r.length ≤ c ∧ c ≤ 9223372036854775807 ∧ Below V.heap.size V w' := by
  obtain ⟨F, hA, _⟩ := h.at_ hm
  refine (tb_rows hA hz hl).mono ?_
  rintro e w' ⟨u, rfl, hr, hb⟩
  obtain ⟨A, c, rfl, h1, h2, h3⟩ := hr.form
  exact ⟨A, c, rfl, h.newRw hr hb, h1, h2, h3, hb⟩
theorem Has.rtGetM (h : Has w l V) (hm : rtA b r ∈ l) (key : ByteArray) : Calls Tryz.prog 138 #[pt b, .string key] V fun e w' => e = .returned (.tuple #[.string (rval r key), .bool (rhas r key)]) ∧ Has w l w' := by
  obtain ⟨F, ⟨v, hR, _⟩, _⟩ := h.at_ hm
  refine (rt_get hR key).mono ?_
  rintro e w' ⟨rfl, hb⟩
  exact ⟨rfl, h.keep hb⟩
end
/-! ### batches -/
def tabs (bs : List (List Op_)) (k : Nat) : List Rw := (bs.take k).foldl rapp []
theorem tabs_succ {bs : List (List Op_)} {k : Nat} (h : k < bs.length) : tabs bs (k + 1) = rapp (tabs bs k) (bs[k]'h) := by
  unfold tabs
  rw [List.take_succ_eq_append_getElem h, List.foldl_append]
  rfl
theorem tabs_ok {bs : List (List Op_)} (hz : ∀ b ∈ bs, OSz b) (k : Nat) : ROk (128 * k) (tabs bs k) := by
  induction k with
  | zero => exact ROk.nil
  | succ k ih =>
    by_cases h : k < bs.length
    · rw [tabs_succ h]
      exact (ih.app (hz _ (List.getElem_mem h))).mono (by omega)
    · unfold tabs at ih ⊢
      rw [List.take_of_length_le (by omega)] at ih ⊢
      exact ih.mono (by omega)
section
variable {w V V' : World} {T : List As} {p b : Nat} {r r' : List Rw} {x y : Bool}
/-- Where the two tables stand. -/
def TS (w : World) (p b : Nat) (r r' : List Rw) (T : List As) (x y : Bool) (V : World) : Prop := Has w (tbA p (if x then r' else r) :: rtA b (if y then r' else r) :: T) V
theorem TS.bel (h : TS w p b r r' T x y V) : Below w.heap.size w V := Has.bel h
theorem TS.appA {N : Nat} {ops : List Op_} (h : TS w p b r (rapp r ops) T false y V) (hr : ROk N r) (hN : N ≤ 999999000) (A : Option Addr) (n c : Nat) (ho : OAt w A n ops) (hn : n ≤ 9223372036854775807) (hs : OSz ops) :
    Calls Tryz.prog 41 #[pt p, .slice A n c] V fun e w' => e = .returned (.int .i64 (chk ops)) ∧ TS w p b r (rapp r ops) T true y w' ∧ Below w.heap.size w w' ∧ ∀ n, KeepsFrom n V w' := by
  refine (Has.tbApply h hr hN A n c ops ho hn hs).mono ?_
  rintro e w' ⟨rfl, h2, h3⟩
  exact ⟨rfl, h2, Has.bel h2, h3⟩
theorem TS.appB {ops : List Op_} (h : TS w p b r (rapp r ops) T x false V) (hr : r.length ≤ 999999000) (A : Option Addr) (n c : Nat) (ho : OAt w A n ops) (hn : n ≤ 9223372036854775807) :
    Calls Tryz.prog 42 #[pt b, .slice A n c] V fun e w' => e = .returned (.int .i64 (chk ops)) ∧ TS w p b r (rapp r ops) T x true w' ∧ Below w.heap.size w w' ∧ ∀ n, KeepsFrom n V w' := by
  refine (Has.rtApply (Has.swap h) hr A n c ops ho hn).mono ?_
  rintro e w' ⟨rfl, h2, h3⟩
  exact ⟨rfl, Has.swap h2, Has.bel h2, h3⟩
end
end Go.Proofs.YtdaecfgjfdikbaaGreatDoor
set_option linter.unusedVariables false
namespace Go.Proofs.YtdaecfgjfdikbaaGreatDoor
open Go.RowKit Go.Shelf

theorem infoOp : (Tryz.prog.info? 60).map (fun i => (i.zero, i.size, i.bytes)) = some (some (.agg #[.string ByteArray.empty, .string ByteArray.empty, .bool false]), 3, 40) := by kernel_rfl
theorem ofl_one (l : List Op_) : ∀ u ∈ ofl l, u.oneCell' = true := by
  intro u hu
  obtain ⟨x, hx, h2⟩ := List.mem_flatMap.1 hu
  simp only [List.mem_cons, List.not_mem_nil, or_false] at h2
  rcases h2 with rfl | rfl | rfl <;> rfl
theorem OAt.news {w : World} {ad : Addr} {n : Nat} {l : List Op_} (hr : OAt w (some ad) n l) : ∀ j u, (ofl l)[j]? = some u → w.cell? (ad.add j) = some u := by
  intro j u hj
  have hjl : j < (ofl l).length := by
    rcases Nat.lt_or_ge j (ofl l).length with h0 | h0
    · exact h0
    · rw [List.getElem?_eq_none h0] at hj
      cases hj
  rw [ofl_len] at hjl
  have hi2 : j / 3 < l.length := by omega
  obtain ⟨b, o2, hh, hc⟩ := hr.2 (by have := hr.1; omega)
  injection hh with hh
  subst hh
  obtain ⟨c1, c2, c3⟩ := hc (j / 3) hi2
  obtain ⟨g1, g2, g3⟩ := ofl_get l (j / 3) hi2
  rw [Go.WideShapes.add_plain]
  rcases (show j % 3 = 0 ∨ j % 3 = 1 ∨ j % 3 = 2 from by omega) with h0 | h0 | h0
  · rw [show j / 3 * 3 = j by omega] at c1 g1
    rw [hj] at g1
    injection g1 with g1
    rw [c1, g1]
  · rw [show o2 + j / 3 * 3 + 1 = o2 + j by omega] at c2
    rw [show j / 3 * 3 + 1 = j by omega] at g2
    rw [hj] at g2
    injection g2 with g2
    rw [c2, g2]
  · rw [show o2 + j / 3 * 3 + 2 = o2 + j by omega] at c3
    rw [show j / 3 * 3 + 2 = j by omega] at g3
    rw [hj] at g3
    injection g3 with g3
    rw [c3, g3]
def ORow (w : World) (B : Nat) (v : Value) (n : Nat) (l : List Op_) : Prop := w.ownsRow B 60 3 v n (ofl l)
set_option maxRecDepth 100000 in
/-- 'append([]api.Op(nil), l...)'. -/
theorem wpList_appO {w : World} {ops : Array Oper} {rest : List Oper} {o : Oper} {a : Act} {Q : Exit → Act → World → Prop} (hgd : o.guard = none) (s x : Operand)
    (ho : o.op = .call { callee := .builtin .append, args := #[s, x], argTypes := #[86, 86] })
    (hs : a.eval s = .slice none 0 0)
    (A : Option Addr) (n c : Nat) (l : List Op_) (hx : a.eval x = .slice A n c) (hr : OAt w A n l) (hbytes : n * 40 ≤ 140737488355328)
    (h : ∀ v' w', ORow w' w.heap.size v' n l → Below w.heap.size w w' → wpList Tryz.prog ops Q rest (a.put o.dst v') w') :
    wpList Tryz.prog ops Q (o :: rest) a w := by
  obtain ⟨i, hi, hz, hsz, hby⟩ := info_parts infoOp
  have hown : w.ownsRow w.heap.size 60 3 (.slice none 0 0) 0 (ofl []) := World.ownsRow_nil _ _ _ _
  cases A with
  | none =>
    have hm : n = 0 := by
      rcases Nat.eq_zero_or_pos n with h0 | h0
      · exact h0
      · obtain ⟨b, o, hh, _⟩ := hr.2 h0
        cases hh
    subst hm
    obtain rfl : l = [] := List.eq_nil_of_length_eq_zero hr.1
    have hrun := run_append_none (P := Tryz.prog) w w.heap.size 86 o.type 60 i 3 Tryz.underlying86 hi _ 0 _ hown c
    refine wpList_plain hgd fun K hK => ?_
    unfold Oper.wp execOp
    simp only [ho, resolve, invoke, builtin, Sem.run_bind, Sem.run_pure, Result.andThen_ok, List.map_toArray, List.map_cons, List.map_nil, hs, hx, hrun]
    exact hK _ _ (h _ w hown (Below.refl _ _))
  | some ad =>
    refine wpList_append_own w hgd s x 86 ho w.heap.size 60 i _ 3 40 Tryz.underlying86 hi hz hsz hby rfl (by decide) _ 0 _ hs hown ad n c (ofl l) hx (by rw [ofl_len, hr.1]) hr.news (ofl_one l) (by unfold maxLen; omega) (by omega) (Nat.le_refl _) ?_
    intro v' w' h1 h2 _
    rw [Nat.zero_add] at h1
    exact h v' w' h1 ((Below.refl _ _).grown h2 (Nat.le_refl _) (fun k e => nomatch e))
theorem ofl_set : ∀ (l : List Op_) (i : Nat) (h : i < l.length) (k v : ByteArray) (d : Bool), (((ofl l).set (i * 3) (.string k)).set (i * 3 + 1) (.string v)).set (i * 3 + 2) (.bool d) = ofl (l.set i ⟨k, v, d⟩)
  | x :: l, 0, _, k, v, d => by rw [ofl_cons]; simp [ofl]
  | x :: l, i + 1, h, k, v, d => by
    have ih := ofl_set l i (by simpa using h) k v d
    rw [ofl_cons, show (i + 1) * 3 = i * 3 + 1 + 1 + 1 by omega, show i * 3 + 1 + 1 + 1 + 1 = i * 3 + 1 + 1 + 1 + 1 from rfl]
    simp only [List.set_cons_succ]
    rw [ih, ofl_cons]
theorem rfl2_set : ∀ (l : List Rw) (i : Nat) (h : i < l.length) (v : ByteArray), (rfl2 l).set (i * 2 + 1) (.string v) = rfl2 (l.set i ⟨(l[i]'h).key, v⟩)
  | x :: l, 0, _, v => by rw [rfl2_cons]; simp [rfl2]
  | x :: l, i + 1, h, v => by
    have ih := rfl2_set l i (by simpa using h) v
    rw [rfl2_cons, show (i + 1) * 2 + 1 = i * 2 + 1 + 1 + 1 by omega]
    simp only [List.set_cons_succ]
    rw [ih, rfl2_cons]
    rfl
/-- Changes of the walk's own. -/
abbrev opA (v : Value) (l : List Op_) : As := rowA 60 3 v l.length (ofl l)
section
variable {w V V' : World} {l T : List As} {E : TypeId} {size n : Nat} {v : Value} {xs : List Value}
theorem Has.setRow (h : Has w (rowA E size v n xs :: T) V) {q c : Nat} (hv : v = .slice (some ⟨q, 0, none⟩) n c) (i : Nat) (u : Value) : Has w (rowA E size v n (xs.set i u) :: T) (V.setCell ⟨q, i, none⟩ u) := by
  obtain ⟨F, h1, _, h2⟩ := h.step
  have hq : F q := (h1.2 q).2 (by rw [hv]; rfl)
  refine h2 _ _ F ((Grow.refl F V).set (.inl hq) u) ⟨?_, h1.2⟩ (fun k e => .inl e)
  subst hv
  exact (World.ownsRow.stored h1.1 i u).1
theorem Has.newOp (h : Has w T V) {v : Value} {L : List Op_} (hr : ORow V' V.heap.size v L.length L) (hb : Below V.heap.size V V') : Has w (opA v L :: T) V' :=
  h.new (F := fun k => v.ownBlock = some k) hb ⟨row0 hr, fun k => Iff.rfl⟩ (fun k e => (World.ownsRow.lt hr k e).1)
theorem ORow.form {w : World} {B n : Nat} {v : Value} {l : List Op_} (h : ORow w B v n l) : (n = 0 ∧ v = .slice none 0 0) ∨ ∃ q c, v = .slice (some ⟨q, 0, none⟩) n c ∧ n ≤ c ∧ c ≤ 9223372036854775807 := by
  rcases h.2 with ⟨rfl, h0⟩ | ⟨g, cap, cur, rfl, hb, hg, hnc, hcm, _⟩
  · exact .inl ⟨h0, rfl⟩
  · exact .inr ⟨g, cap, rfl, hnc, hcm⟩
theorem OAt.own {V : World} {B n : Nat} {v : Value} {L : List Op_} (h : ORow V B v n L) : ∃ A c, v = .slice A n c ∧ OAt V A n L ∧ n ≤ c ∧ c ≤ 9223372036854775807 ∧ (0 < n → ∃ q, A = some ⟨q, 0, none⟩) ∧ ∀ q, A = some ⟨q, 0, none⟩ → ∀ i, V.frozen? ⟨q, i, none⟩ = false := by
  have hl : L.length = n := by have := h.1; rw [ofl_len] at this; omega
  rcases h.form with ⟨rfl, rfl⟩ | ⟨q, c, rfl, h1, h2⟩
  · obtain rfl : L = [] := List.eq_nil_of_length_eq_zero hl
    exact ⟨none, 0, rfl, OAt.nil _ _, Nat.le_refl _, by omega, fun h => absurd h (Nat.lt_irrefl _), fun q e => nomatch e⟩
  · refine ⟨_, c, rfl, ⟨hl, fun _ => ⟨q, 0, rfl, fun i hi => ?_⟩⟩, h1, h2, fun _ => ⟨q, rfl⟩, fun q' e i => ?_⟩
    · obtain ⟨g1, g2, g3⟩ := ofl_get L i hi
      have c1 := World.ownsRow.cells h (g := q) rfl _ _ g1
      have c2 := World.ownsRow.cells h (g := q) rfl _ _ g2
      have c3 := World.ownsRow.cells h (g := q) rfl _ _ g3
      rw [Go.WideShapes.add_plain] at c1 c2 c3
      exact ⟨c1, by rw [Nat.add_assoc]; exact c2, by rw [Nat.add_assoc]; exact c3⟩
    · injection e with e
      injection e with e
      subst e
      exact World.ownsRow.frozenAt h i
theorem WAt.own {V : World} {B n : Nat} {v : Value} {L : List Rw} (h : RRow V B v n L) : (0 < n → ∃ q c, v = .slice (some ⟨q, 0, none⟩) n c) ∧ ∀ q c, v = .slice (some ⟨q, 0, none⟩) n c → ∀ i, V.frozen? ⟨q, i, none⟩ = false := by
  refine ⟨fun h0 => ?_, fun q c e i => ?_⟩
  · rcases h.2 with ⟨rfl, h1⟩ | ⟨g, cap, cur, rfl, hb, hg, hnc, hcm, _⟩
    · omega
    · exact ⟨g, cap, rfl⟩
  · subst e
    exact World.ownsRow.frozenAt h i
theorem Has.opRow (h : Has w l V) {L : List Op_} (hm : opA v L ∈ l) : ORow V 0 v L.length L := (h.at_ hm).choose_spec.1.1
theorem Has.rwRow (h : Has w l V) {L : List Rw} (hm : rwA v L ∈ l) : RRow V 0 v L.length L := (h.at_ hm).choose_spec.1.1
theorem Has.setOp {q c : Nat} {L : List Op_} (h : Has w (opA v L :: T) V) (hv : v = .slice (some ⟨q, 0, none⟩) L.length c) (i : Nat) (hi : i < L.length) (k u : ByteArray) (d : Bool) :
    Has w (opA v (L.set i ⟨k, u, d⟩) :: T) (((V.setCell ⟨q, i * 3, none⟩ (.string k)).setCell ⟨q, i * 3 + 1, none⟩ (.string u)).setCell ⟨q, i * 3 + 2, none⟩ (.bool d)) := by
  have := ((h.setRow hv (i * 3) (.string k)).setRow hv (i * 3 + 1) (.string u)).setRow hv (i * 3 + 2) (.bool d)
  rw [ofl_set L i hi] at this
  unfold opA
  rw [List.length_set]
  exact this
theorem Has.setRwV {q c : Nat} {L : List Rw} (h : Has w (rwA v L :: T) V) (hv : v = .slice (some ⟨q, 0, none⟩) L.length c) (i : Nat) (hi : i < L.length) (u : ByteArray) :
    Has w (rwA v (L.set i ⟨(L[i]'hi).key, u⟩) :: T) (V.setCell ⟨q, i * 2 + 1, none⟩ (.string u)) := by
  have := h.setRow hv (i * 2 + 1) (.string u)
  rw [rfl2_set L i hi] at this
  unfold rwA
  rw [List.length_set]
  exact this
theorem opA_at {W : World} {F : Nat → Prop} {A : Option Addr} {n c : Nat} {L : List Op_} (h : (opA (.slice A n c) L).p W F) (hn : n = L.length) : OAt W A n L := by
  subst hn
  obtain ⟨A2, c2, e, h2, _⟩ := OAt.own (show ORow W 0 (.slice A L.length c) L.length L from h.1)
  injection e with e1 e2 e3
  subst e1
  exact h2
end
end Go.Proofs.YtdaecfgjfdikbaaGreatDoor
