/-
  Layer 10: changes in a row of the walk's own; a row's cells are written.
-/
import Derived.Test.YtgakkeeeadndkaaTbMem
set_option linter.unusedVariables false
namespace Go.Proofs.Ytgakkeeeadndkaa
open Go.RowKit Go.Shelf

theorem infoOp : (Try.prog.info? 32).map (fun i => (i.zero, i.size, i.bytes)) = some (some (.agg #[.string ByteArray.empty, .string ByteArray.empty, .bool false]), 3, 40) := by kernel_rfl
theorem ofl_one (l : List Op_) : ∀ u ∈ ofl l, u.oneCell' = true := by
  intro u hu
  obtain ⟨x, hx, h2⟩ := List.mem_flatMap.1 hu
  simp only [List.mem_cons, List.not_mem_nil, or_false] at h2
  rcases h2 with rfl | rfl | rfl <;> rfl
theorem OAt.news {w : World} {ad : Addr} {n : Nat} {l : List Op_} (hr : OAt w (some ad) n l) : ∀ j u, (ofl l)[j]? = some u → w.cell? (ad.add j) = some u := by
  intro j u hj
  have hjl : j < (ofl l).length := by
    rcases Nat.lt_or_ge j (ofl l).length with h0 | h0
    · exact h0
    · rw [List.getElem?_eq_none h0] at hj
      cases hj
  rw [ofl_len] at hjl
  have hi2 : j / 3 < l.length := by omega
  obtain ⟨b, o2, hh, hc⟩ := hr.2 (by have := hr.1; omega)
  injection hh with hh
  subst hh
  obtain ⟨c1, c2, c3⟩ := hc (j / 3) hi2
  obtain ⟨g1, g2, g3⟩ := ofl_get l (j / 3) hi2
  rw [Go.WideShapes.add_plain]
  rcases (show j % 3 = 0 ∨ j % 3 = 1 ∨ j % 3 = 2 from by omega) with h0 | h0 | h0
  · rw [show j / 3 * 3 = j by omega] at c1 g1
    rw [hj] at g1
    injection g1 with g1
    rw [c1, g1]
  · rw [show o2 + j / 3 * 3 + 1 = o2 + j by omega] at c2
    rw [show j / 3 * 3 + 1 = j by omega] at g2
    rw [hj] at g2
    injection g2 with g2
    rw [c2, g2]
  · rw [show o2 + j / 3 * 3 + 2 = o2 + j by omega] at c3
    rw [show j / 3 * 3 + 2 = j by omega] at g3
    rw [hj] at g3
    injection g3 with g3
    rw [c3, g3]
def ORow (w : World) (B : Nat) (v : Value) (n : Nat) (l : List Op_) : Prop := w.ownsRow B 32 3 v n (ofl l)
set_option maxRecDepth 100000 in
/-- 'append([]api.Op(nil), l...)'. -/
theorem wpList_appO {w : World} {ops : Array Oper} {rest : List Oper} {o : Oper} {a : Act} {Q : Exit → Act → World → Prop} (hgd : o.guard = none) (s x : Operand)
    (ho : o.op = .call { callee := .builtin .append, args := #[s, x], argTypes := #[27, 27] })
    (hs : a.eval s = .slice none 0 0)
    (A : Option Addr) (n c : Nat) (l : List Op_) (hx : a.eval x = .slice A n c) (hr : OAt w A n l) (hbytes : n * 40 ≤ 140737488355328)
    (h : ∀ v' w', ORow w' w.heap.size v' n l → Below w.heap.size w w' → wpList Try.prog ops Q rest (a.put o.dst v') w') :
    wpList Try.prog ops Q (o :: rest) a w := by
  obtain ⟨i, hi, hz, hsz, hby⟩ := info_parts infoOp
  have hown : w.ownsRow w.heap.size 32 3 (.slice none 0 0) 0 (ofl []) := World.ownsRow_nil _ _ _ _
  cases A with
  | none =>
    have hm : n = 0 := by
      rcases Nat.eq_zero_or_pos n with h0 | h0
      · exact h0
      · obtain ⟨b, o, hh, _⟩ := hr.2 h0
        cases hh
    subst hm
    obtain rfl : l = [] := List.eq_nil_of_length_eq_zero hr.1
    have hrun := run_append_none (P := Try.prog) w w.heap.size 27 o.type 32 i 3 Try.underlying27 hi _ 0 _ hown c
    refine wpList_plain hgd fun K hK => ?_
    unfold Oper.wp execOp
    simp only [ho, resolve, invoke, builtin, Sem.run_bind, Sem.run_pure, Result.andThen_ok, List.map_toArray, List.map_cons, List.map_nil, hs, hx, hrun]
    exact hK _ _ (h _ w hown (Below.refl _ _))
  | some ad =>
    refine wpList_append_own w hgd s x 27 ho w.heap.size 32 i _ 3 40 Try.underlying27 hi hz hsz hby rfl (by decide) _ 0 _ hs hown ad n c (ofl l) hx (by rw [ofl_len, hr.1]) hr.news (ofl_one l) (by unfold maxLen; omega) (by omega) (Nat.le_refl _) ?_
    intro v' w' h1 h2 _
    rw [Nat.zero_add] at h1
    exact h v' w' h1 ((Below.refl _ _).grown h2 (Nat.le_refl _) (fun k e => nomatch e))
theorem ofl_set : ∀ (l : List Op_) (i : Nat) (h : i < l.length) (k v : ByteArray) (d : Bool), (((ofl l).set (i * 3) (.string k)).set (i * 3 + 1) (.string v)).set (i * 3 + 2) (.bool d) = ofl (l.set i ⟨k, v, d⟩)
  | x :: l, 0, _, k, v, d => by rw [ofl_cons]; simp [ofl]
  | x :: l, i + 1, h, k, v, d => by
    have ih := ofl_set l i (by simpa using h) k v d
    rw [ofl_cons, show (i + 1) * 3 = i * 3 + 1 + 1 + 1 by omega, show i * 3 + 1 + 1 + 1 + 1 = i * 3 + 1 + 1 + 1 + 1 from rfl]
    simp only [List.set_cons_succ]
    rw [ih, ofl_cons]
theorem rfl2_set : ∀ (l : List Rw) (i : Nat) (h : i < l.length) (v : ByteArray), (rfl2 l).set (i * 2 + 1) (.string v) = rfl2 (l.set i ⟨(l[i]'h).key, v⟩)
  | x :: l, 0, _, v => by rw [rfl2_cons]; simp [rfl2]
  | x :: l, i + 1, h, v => by
    have ih := rfl2_set l i (by simpa using h) v
    rw [rfl2_cons, show (i + 1) * 2 + 1 = i * 2 + 1 + 1 + 1 by omega]
    simp only [List.set_cons_succ]
    rw [ih, rfl2_cons]
    rfl
/-- Changes of the walk's own. -/
abbrev opA (v : Value) (l : List Op_) : As := rowA 32 3 v l.length (ofl l)
section
variable {w V V' : World} {l T : List As} {E : TypeId} {size n : Nat} {v : Value} {xs : List Value}
theorem Has.setRow (h : Has w (rowA E size v n xs :: T) V) {q c : Nat} (hv : v = .slice (some ⟨q, 0, none⟩) n c) (i : Nat) (u : Value) : Has w (rowA E size v n (xs.set i u) :: T) (V.setCell ⟨q, i, none⟩ u) := by
  obtain ⟨F, h1, _, h2⟩ := h.step
  have hq : F q := (h1.2 q).2 (by rw [hv]; rfl)
  refine h2 _ _ F ((Grow.refl F V).set (.inl hq) u) ⟨?_, h1.2⟩ (fun k e => .inl e)
  subst hv
  exact (World.ownsRow.stored h1.1 i u).1
theorem Has.newOp (h : Has w T V) {v : Value} {L : List Op_} (hr : ORow V' V.heap.size v L.length L) (hb : Below V.heap.size V V') : Has w (opA v L :: T) V' :=
  h.new (F := fun k => v.ownBlock = some k) hb ⟨row0 hr, fun k => Iff.rfl⟩ (fun k e => (World.ownsRow.lt hr k e).1)
theorem ORow.form {w : World} {B n : Nat} {v : Value} {l : List Op_} (h : ORow w B v n l) : (n = 0 ∧ v = .slice none 0 0) ∨ ∃ q c, v = .slice (some ⟨q, 0, none⟩) n c ∧ n ≤ c ∧ c ≤ 9223372036854775807 := by
  rcases h.2 with ⟨rfl, h0⟩ | ⟨g, cap, cur, rfl, hb, hg, hnc, hcm, _⟩
  · exact .inl ⟨h0, rfl⟩
  · exact .inr ⟨g, cap, rfl, hnc, hcm⟩
theorem OAt.own {V : World} {B n : Nat} {v : Value} {L : List Op_} (h : ORow V B v n L) : ∃ A c, v = .slice A n c ∧ OAt V A n L ∧ n ≤ c ∧ c ≤ 9223372036854775807 ∧ (0 < n → ∃ q, A = some ⟨q, 0, none⟩) ∧ ∀ q, A = some ⟨q, 0, none⟩ → ∀ i, V.frozen? ⟨q, i, none⟩ = false := by
  have hl : L.length = n := by have := h.1; rw [ofl_len] at this; omega
  rcases h.form with ⟨rfl, rfl⟩ | ⟨q, c, rfl, h1, h2⟩
  · obtain rfl : L = [] := List.eq_nil_of_length_eq_zero hl
    exact ⟨none, 0, rfl, OAt.nil _ _, Nat.le_refl _, by omega, fun h => absurd h (Nat.lt_irrefl _), fun q e => nomatch e⟩
  · refine ⟨_, c, rfl, ⟨hl, fun _ => ⟨q, 0, rfl, fun i hi => ?_⟩⟩, h1, h2, fun _ => ⟨q, rfl⟩, fun q' e i => ?_⟩
    · obtain ⟨g1, g2, g3⟩ := ofl_get L i hi
      have c1 := World.ownsRow.cells h (g := q) rfl _ _ g1
      have c2 := World.ownsRow.cells h (g := q) rfl _ _ g2
      have c3 := World.ownsRow.cells h (g := q) rfl _ _ g3
      rw [Go.WideShapes.add_plain] at c1 c2 c3
      exact ⟨c1, by rw [Nat.add_assoc]; exact c2, by rw [Nat.add_assoc]; exact c3⟩
    · injection e with e
      injection e with e
      subst e
      exact World.ownsRow.frozenAt h i
theorem WAt.own {V : World} {B n : Nat} {v : Value} {L : List Rw} (h : RRow V B v n L) : (0 < n → ∃ q c, v = .slice (some ⟨q, 0, none⟩) n c) ∧ ∀ q c, v = .slice (some ⟨q, 0, none⟩) n c → ∀ i, V.frozen? ⟨q, i, none⟩ = false := by
  refine ⟨fun h0 => ?_, fun q c e i => ?_⟩
  · rcases h.2 with ⟨rfl, h1⟩ | ⟨g, cap, cur, rfl, hb, hg, hnc, hcm, _⟩
    · omega
    · exact ⟨g, cap, rfl⟩
  · subst e
    exact World.ownsRow.frozenAt h i
theorem Has.opRow (h : Has w l V) {L : List Op_} (hm : opA v L ∈ l) : ORow V 0 v L.length L := (h.at_ hm).choose_spec.1.1
theorem Has.rwRow (h : Has w l V) {L : List Rw} (hm : rwA v L ∈ l) : RRow V 0 v L.length L := (h.at_ hm).choose_spec.1.1
theorem Has.setOp {q c : Nat} {L : List Op_} (h : Has w (opA v L :: T) V) (hv : v = .slice (some ⟨q, 0, none⟩) L.length c) (i : Nat) (hi : i < L.length) (k u : ByteArray) (d : Bool) :
    Has w (opA v (L.set i ⟨k, u, d⟩) :: T) (((V.setCell ⟨q, i * 3, none⟩ (.string k)).setCell ⟨q, i * 3 + 1, none⟩ (.string u)).setCell ⟨q, i * 3 + 2, none⟩ (.bool d)) := by
  have := ((h.setRow hv (i * 3) (.string k)).setRow hv (i * 3 + 1) (.string u)).setRow hv (i * 3 + 2) (.bool d)
  rw [ofl_set L i hi] at this
  unfold opA
  rw [List.length_set]
  exact this
theorem Has.setRwV {q c : Nat} {L : List Rw} (h : Has w (rwA v L :: T) V) (hv : v = .slice (some ⟨q, 0, none⟩) L.length c) (i : Nat) (hi : i < L.length) (u : ByteArray) :
    Has w (rwA v (L.set i ⟨(L[i]'hi).key, u⟩) :: T) (V.setCell ⟨q, i * 2 + 1, none⟩ (.string u)) := by
  have := h.setRow hv (i * 2 + 1) (.string u)
  rw [rfl2_set L i hi] at this
  unfold rwA
  rw [List.length_set]
  exact this
theorem opA_at {W : World} {F : Nat → Prop} {A : Option Addr} {n c : Nat} {L : List Op_} (h : (opA (.slice A n c) L).p W F) (hn : n = L.length) : OAt W A n L := by
  subst hn
  obtain ⟨A2, c2, e, h2, _⟩ := OAt.own (show ORow W 0 (.slice A L.length c) L.length L from h.1)
  injection e with e1 e2 e3
  subst e1
  exact h2
end
end Go.Proofs.Ytgakkeeeadndkaa
