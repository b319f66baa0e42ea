/-
  Layer 5: lists of stamps of the call's own: how they grow, and are read.
-/
import Derived.Test.YtnjfabgajebfeaaSBlk
import Derived.Maps.AppendAt
set_option linter.unusedVariables false
namespace Go.Proofs.Ytnjfabgajebfeaa
open Go.RowKit

/-- The cells of a list of stamps. -/
def flat (l : List (Int × Int)) : List Value := l.flatMap fun x => [.int .i64 x.1, .int .i64 x.2]
theorem flat_app (l r : List (Int × Int)) : flat (l ++ r) = flat l ++ flat r := by simp [flat]
theorem flat_len : ∀ l : List (Int × Int), (flat l).length = l.length * 2
  | [] => rfl
  | x :: l => by
    have := flat_len l
    unfold flat at *
    rw [List.flatMap_cons, List.length_append, this, List.length_cons]
    simp
    omega
theorem flat_get : ∀ (l : List (Int × Int)) (i : Nat) (h : i < l.length), (flat l)[i * 2]? = some (.int .i64 l[i].1) ∧ (flat l)[i * 2 + 1]? = some (.int .i64 l[i].2)
  | x :: l, 0, _ => ⟨rfl, rfl⟩
  | x :: l, i + 1, h => by
    have ih := flat_get l i (by simpa using h)
    have e : flat (x :: l) = .int .i64 x.1 :: .int .i64 x.2 :: flat l := rfl
    rw [e, show (i + 1) * 2 = i * 2 + 1 + 1 by omega]
    simpa using ih
theorem flat_one (l : List (Int × Int)) : ∀ u ∈ flat l, u.oneCell' = true := by
  intro u hu
  obtain ⟨x, _, hx⟩ := List.mem_flatMap.1 hu
  simp at hx
  rcases hx with rfl | rfl <;> rfl
theorem infoT : (Try.prog.info? 23).map (fun i => (i.zero, i.size, i.bytes)) = some (some (.agg #[.int .i64 0, .int .i64 0]), 2, 16) := by kernel_rfl

/-- A list of stamps of the call's own. -/
def Row (w : World) (B : Nat) (v : Value) (n : Nat) (l : List (Int × Int)) : Prop := w.ownsRow B 23 2 v n (flat l)
theorem Row.form {w : World} {B n : Nat} {v : Value} {l : List (Int × Int)} (h : Row w B v n l) : ∃ A c, v = .slice A n c ∧ Stamps w A n l ∧ n ≤ c ∧ c ≤ 9223372036854775807 := by
  have hl : l.length = n := by
    have := h.1
    rw [flat_len] at this
    omega
  rcases h.2 with ⟨rfl, h0⟩ | ⟨g, cap, cur, rfl, hb, hg, hnc, hcm, _⟩
  · exact ⟨none, 0, by rw [h0], ⟨hl, fun hm => by omega⟩, by omega, by omega⟩
  · refine ⟨_, cap, rfl, ⟨hl, fun hm => ⟨g, 0, rfl, fun i hi => ?_⟩⟩, hnc, hcm⟩
    obtain ⟨h1, h2⟩ := flat_get l i hi
    have c1 := World.ownsRow.cells h (g := g) rfl _ _ h1
    have c2 := World.ownsRow.cells h (g := g) rfl _ _ h2
    rw [Go.WideShapes.add_plain] at c1 c2
    exact ⟨c1, by rw [Nat.add_assoc]; exact c2⟩
theorem Row.keep {w w' : World} {B n : Nat} {v : Value} {l : List (Int × Int)} (h : Row w B v n l) (hb : Below w.heap.size w w') : Row w' B v n l :=
  World.ownsRow.kept h (row := none) ⟨hb.os, hb.tape, hb.output, hb.size, fun k hk _ => hb.block k hk⟩ (by
    cases hv : v.ownBlock with
    | none => exact .inl rfl
    | some q => exact .inr (by simp))

/-- 'append(v, l...)'. -/
theorem wpList_appS {w : World} {ops : Array Oper} {rest : List Oper} {o : Oper} {a : Act} {Q : Exit → Act → World → Prop} (hgd : o.guard = none) (s x : Operand)
    (ho : o.op = .call { callee := .builtin .append, args := #[s, x], argTypes := #[28, 28] })
    (B : Nat) (v : Value) (k : Nat) (xs l : List (Int × Int)) (hs : a.eval s = v) (hown : Row w B v k xs)
    (A : Option Addr) (n c : Nat) (hx : a.eval x = .slice A n c) (hr : Stamps w A n l) (hbytes : (k + n) * 16 ≤ 140737488355328) (hbase : B ≤ w.heap.size)
    (h : ∀ v' w', Row w' B v' (k + n) (xs ++ l) → w.grownBy w' v.ownBlock → wpList Try.prog ops Q rest (a.put o.dst v') w') :
    wpList Try.prog ops Q (o :: rest) a w := by
  obtain ⟨i, hi, hz, hsz, hby⟩ := info_parts infoT
  cases A with
  | none =>
    have hm : n = 0 := by
      rcases Nat.eq_zero_or_pos n with h0 | h0
      · exact h0
      · obtain ⟨b, o, hh, _⟩ := hr.2 h0
        cases hh
    subst hm
    obtain rfl : l = [] := List.eq_nil_of_length_eq_zero hr.1
    have hrun := run_append_none (P := Try.prog) w B 28 o.type 23 i 2 Try.underlying28 hi v k _ hown c
    refine wpList_plain hgd fun K hK => ?_
    unfold Oper.wp execOp
    simp only [ho, resolve, invoke, builtin, Sem.run_bind, Sem.run_pure, Result.andThen_ok, List.map_toArray, List.map_cons, List.map_nil, hs, hx, hrun]
    exact hK _ _ (h v w (by simpa using hown) (World.grownBy.refl w _))
  | some ad =>
    have hnews : ∀ j u, (flat l)[j]? = some u → w.cell? (ad.add j) = some u := by
      intro j u hj
      have hjl : j < (flat l).length := by
        rcases Nat.lt_or_ge j (flat l).length with h0 | h0
        · exact h0
        · rw [List.getElem?_eq_none h0] at hj
          cases hj
      rw [flat_len] at hjl
      have hi2 : j / 2 < l.length := by omega
      obtain ⟨b, o2, hh, hc⟩ := hr.2 (by have := hr.1; omega)
      injection hh with hh
      subst hh
      obtain ⟨c1, c2⟩ := hc (j / 2) hi2
      obtain ⟨g1, g2⟩ := flat_get l (j / 2) hi2
      rw [Go.WideShapes.add_plain]
      rcases Nat.mod_two_eq_zero_or_one j with h0 | h0
      · rw [show j / 2 * 2 = j by omega] at c1 g1
        rw [hj] at g1
        injection g1 with g1
        rw [c1, g1]
      · rw [show o2 + j / 2 * 2 + 1 = o2 + j by omega] at c2
        rw [show j / 2 * 2 + 1 = j by omega] at g2
        rw [hj] at g2
        injection g2 with g2
        rw [c2, g2]
    refine wpList_append_own w hgd s x 28 ho B 23 i _ 2 16 Try.underlying28 hi hz hsz hby rfl (by decide) v k (flat xs) hs hown ad n c (flat l) hx (by rw [flat_len, hr.1]) hnews (flat_one l) (by unfold maxLen; omega) hbytes hbase ?_
    intro v' w' h1 h2 _
    refine h v' w' ?_ h2
    unfold Row
    rw [flat_app]
    exact h1
end Go.Proofs.Ytnjfabgajebfeaa
