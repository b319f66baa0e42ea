/-
  'append(s, ys...)' where the slice is full: a row of the call's own.
-/
import Derived.Test.YthbegaknlhclpaaOwn
set_option linter.unusedVariables false
namespace Go.Proofs.Ythbegaknlhclpaa
open Go.RowKit

theorem news_of {w : World} {ad : Addr} {m : Nat} {ys : List UInt8} (hr : At w (some ad) m ys) : ∀ j u, (ys.map bv)[j]? = some u → w.cell? (ad.add j) = some u := by
  intro j u hj
  have hjl : j < ys.length := by
    rcases Nat.lt_or_ge j ys.length with h0 | h0
    · exact h0
    · rw [List.getElem?_eq_none (by simpa using h0)] at hj
      cases hj
  obtain ⟨b, off, hh, hc⟩ := hr.2 (by have := hr.1; omega)
  injection hh with hh
  subst hh
  rw [List.getElem?_map, List.getElem?_eq_getElem hjl] at hj
  injection hj with hj
  subst hj
  rw [Go.WideShapes.add_plain]
  exact hc j hjl

/-- 'append(s, ys...)' where there is no room. -/
theorem wpList_app_full {P : Program} {w : World} {ops : Array Oper} {rest : List Oper} {o : Oper} {a : Act} {Q : Exit → Act → World → Prop} (hgd : o.guard = none) (s x : Operand) (t : TypeId)
    (ho : o.op = .call { callee := .builtin .append, args := #[s, x], argTypes := #[t, t] })
    (e : TypeId) (ht : P.underlying t = some (.slice e)) (hinfo : (P.info? e).map (fun i => (i.zero, i.size, i.bytes)) = some (some (.int .u8 0), 1, 1))
    (A : Option Addr) (n : Nat) (xs ys : List UInt8) (hs : a.eval s = .slice A n n) (hA : At w A n xs) (hnone : A = none → n = 0)
    (ad : Addr) (m c : Nat) (hx : a.eval x = .slice (some ad) m c) (hr : At w (some ad) m ys) (hm : 0 < m) (hbytes : n + m ≤ 140737488355328)
    (h : ∀ v' w', w'.ownsRow w.heap.size e 1 v' (n + m) ((xs ++ ys).map bv) → w.grownBy w' none → wpList P ops Q rest (a.put o.dst v') w') :
    wpList P ops Q (o :: rest) a w := by
  obtain ⟨i, hi, hz, hsz, hby⟩ := info_parts hinfo
  refine wpList_append_grows w hgd s x t ho e i _ 1 1 ht hi hz hsz hby rfl (by omega) A n n (xs.map bv) hs (fun h0 => ⟨hnone h0, hnone h0⟩) (by simp [hA.1]) ?_ ad m c (ys.map bv) hx (by simp [hr.1]) (news_of hr) (bv_one _) (by omega) (by unfold maxLen; omega) (by omega) ?_
  · intro b hb
    subst hb
    exact news_of hA
  · intro v' w' h1 h2
    exact h v' w' (by simpa using h1) h2
end Go.Proofs.Ythbegaknlhclpaa
