/-
  Layer 7: append of rows of files, parts of lists of files.
-/
import Derived.Test.YtkhalpajomammaaDCrash
import Derived.Maps.AppendAt
set_option linter.unusedVariables false
namespace Go.Proofs.Ytkhalpajomammaa
open Go.RowKit

/-- 'append(v, x...)', v the call's own, what is appended lies anywhere, or is nothing. -/
theorem wpList_appV {P : Program} {w : World} {ops : Array Oper} {rest : List Oper} {o : Oper} {a : Act} {Q : Exit → Act → World → Prop} (hgd : o.guard = none) (s x : Operand) (t : TypeId)
    (ho : o.op = .call { callee := .builtin .append, args := #[s, x], argTypes := #[t, t] })
    (base : Nat) (e : TypeId) (i : TypeInfo) (z : Value) (size bytes : Nat) (ht : P.underlying t = some (.slice e)) (hi : P.info? e = some i) (hz : i.zero = some z)
    (hsize : i.size = size) (hby : i.bytes = bytes) (hzs : z.cells.size = size) (hsz : 0 < size)
    (v : Value) (n : Nat) (xs : List Value) (hs : a.eval s = v) (hown : w.ownsRow base e size v n xs)
    (A : Option Addr) (m c : Nat) (news : List Value) (hx : a.eval x = .slice A m c) (hl : news.length = m * size)
    (hnews : 0 < m → ∃ b o, A = some ⟨b, o, none⟩ ∧ ∀ j u, news[j]? = some u → w.cell? ⟨b, o + j, none⟩ = some u) (h1 : ∀ u ∈ news, u.oneCell' = true)
    (h63 : n + m ≤ maxLen) (hbytes : (n + m) * bytes ≤ 140737488355328) (hbase : base ≤ w.heap.size)
    (h : ∀ v' w', w'.ownsRow base e size v' (n + m) (xs ++ news) → w.grownBy w' v.ownBlock → wpList P ops Q rest (a.put o.dst v') w') :
    wpList P ops Q (o :: rest) a w := by
  rcases Nat.eq_zero_or_pos m with hm | hm
  · subst hm
    obtain rfl : news = [] := List.eq_nil_of_length_eq_zero (by simpa using hl)
    cases A with
    | none =>
      refine wpList_plain hgd fun K hK => ?_
      have hrun := run_append_none (P := P) w base t o.type e i size ht hi v n _ hown c
      unfold Oper.wp execOp
      simp only [ho, resolve, invoke, builtin, Sem.run_bind, Sem.run_pure, Result.andThen_ok, List.map_toArray, List.map_cons, List.map_nil, hs, hx, hrun]
      exact hK _ _ (h v w (by simpa using hown) (World.grownBy.refl w _))
    | some ad =>
      exact wpList_append_own w hgd s x t ho base e i z size bytes ht hi hz hsize hby hzs hsz v n xs hs hown ad 0 c [] hx (by simp) (fun j u hj => by simp at hj) h1 h63 hbytes hbase (fun v' w' g1 g2 _ => h v' w' g1 g2)
  · obtain ⟨b, o', rfl, hc⟩ := hnews hm
    exact wpList_append_own w hgd s x t ho base e i z size bytes ht hi hz hsize hby hzs hsz v n xs hs hown ⟨b, o', none⟩ m c news hx hl (fun j u hj => by rw [Go.WideShapes.add_plain]; exact hc j u hj) h1 h63 hbytes hbase (fun v' w' g1 g2 _ => h v' w' g1 g2)

theorem infoF : ∃ z, (Try.prog.info? 97).map (fun i => (i.zero, i.size, i.bytes)) = some (some z, 3, 48) ∧ z.cells.size = 3 := ⟨.agg #[.string ByteArray.empty, .slice none 0 0, .int .i64 0], by kernel_rfl, by kernel_rfl⟩
theorem rows_one (qs : List Fv) : ∀ u ∈ rows qs, u.oneCell' = true := by
  intro u hu
  unfold rows at hu
  obtain ⟨q, _, hq⟩ := List.mem_flatMap.1 hu
  simp only [Fv.vals, List.mem_cons, List.not_mem_nil, or_false] at hq
  rcases hq with rfl | rfl | rfl <;> rfl

/-- A part of a list of files: it reads as a part of the rows. -/
def RowsAt (w : World) (A : Option Addr) (n : Nat) (ps : List Fv) : Prop := ps.length = n ∧ (0 < n → ∃ b o, A = some ⟨b, o, none⟩ ∧ ∀ j u, (rows ps)[j]? = some u → w.cell? ⟨b, o + j, none⟩ = some u)
theorem RowsAt.below {w w' : World} {A : Option Addr} {n : Nat} {ps : List Fv} (h : RowsAt w A n ps) (hb : Below w.heap.size w w') : RowsAt w' A n ps := by
  refine ⟨h.1, fun hn => ?_⟩
  obtain ⟨b, o, e, hc⟩ := h.2 hn
  exact ⟨b, o, e, fun j u hj => (hb.cell (World.block_lt_of_cell? w _ (hc j u hj))).trans (hc j u hj)⟩
theorem RL.part {V : World} {F Fb : Nat → Prop} {A : Option Addr} {m c : Nat} {qs : List Fv} (h : RL V F Fb (.slice A m c) qs) : RowsAt V A m qs ∧ m = qs.length ∧ m ≤ c ∧ c ≤ 9223372036854775807 := by
  obtain ⟨A', c', e, h1, h2, _, h3⟩ := h.form
  injection e with e1 e2 e3
  subst e1 e2 e3
  refine ⟨⟨rfl, fun hn => ?_⟩, rfl, h1, h2⟩
  obtain ⟨b, rfl, _⟩ := h3 hn
  refine ⟨b, 0, rfl, fun j u hj => ?_⟩
  have hl := rows_len qs
  rw [Nat.zero_add, h.row.cellAt j (by have := (List.getElem?_eq_some_iff.1 hj).1; omega)]
  exact hj
def cutF (A : Option Addr) (m l : Nat) : Option Addr := if m = l then A else A.map (·.add (l * 3))
theorem RowsAt.head {w : World} {A : Option Addr} {n : Nat} {ps : List Fv} (h : RowsAt w A n ps) (k : Nat) (hk : k ≤ n) : RowsAt w A k (ps.take k) := by
  refine ⟨by rw [List.length_take, h.1]; omega, fun h0 => ?_⟩
  obtain ⟨b, o, e, hc⟩ := h.2 (by omega)
  refine ⟨b, o, e, fun j u hj => hc j u ?_⟩
  rw [rows_take, List.getElem?_take] at hj
  split at hj
  · exact hj
  · cases hj
theorem RowsAt.tail {w : World} {A : Option Addr} {n m : Nat} {ps : List Fv} (h : RowsAt w A n ps) (k : Nat) (hk : k ≤ n) (hm : n ≤ m) : RowsAt w (cutF A m k) (n - k) (ps.drop k) := by
  refine ⟨by rw [List.length_drop, h.1], fun h0 => ?_⟩
  obtain ⟨b, o, rfl, hc⟩ := h.2 (by omega)
  refine ⟨b, o + k * 3, ?_, fun j u hj => ?_⟩
  · unfold cutF
    rw [if_neg (by omega)]
    simp only [Option.map_some]
    rw [Go.WideShapes.add_plain]
  · rw [rows_drop, List.getElem?_drop] at hj
    rw [Nat.add_assoc]
    exact hc _ u hj

theorem slf_size (w : World) : (sizeOf 97).run Try.prog w = .ok 3 w := by kernel_rfl
theorem slf_elem : Try.prog.elem 37 = 97 := by kernel_rfl
theorem slf_under : Try.prog.underlying 37 = some (.slice (Try.prog.elem 37)) := by rw [slf_elem]; exact Try.underlying37
theorem slf_l (A : Option Addr) (n c : Nat) (kl : IntKind) (l : Int) (w : World) (h0 : 0 ≤ l) (h1 : l ≤ n) :
    (Instr.slice 37 (.slice A n c) (some (.int kl l)) none none).run Try.prog w = .ok (.slice (cutF A c l.toNat) (n - l.toNat) (c - l.toNat)) w := by
  rw [run_slice_l w 37 A n c slf_under kl l h0 h1, slf_elem, slf_size]
  rfl
theorem slf_h (A : Option Addr) (n c : Nat) (kh : IntKind) (h : Int) (w : World) (h0 : 0 ≤ h) (h2 : h ≤ c) :
    (Instr.slice 37 (.slice A n c) none (some (.int kh h)) none).run Try.prog w = .ok (.slice A h.toNat c) w := by
  rw [run_slice_h w 37 A n c slf_under kh h h0 h2, slf_elem, slf_size]
  simp only [Result.andThen, sliced, Nat.sub_zero, Nat.zero_mul]
  congr 2
  split
  · rfl
  · cases A with
    | none => rfl
    | some a => simp [Addr.add]
theorem rowBase {w : World} {B B' n : Nat} {e : TypeId} {s : Nat} {v : Value} {xs : List Value} (h : w.ownsRow B e s v n xs) (hB : B' ≤ B) : w.ownsRow B' e s v n xs := by
  refine ⟨h.1, ?_⟩
  rcases h.2 with hn | ⟨g, cap, cur, hv, hb, rest⟩
  · exact .inl hn
  · exact .inr ⟨g, cap, cur, hv, by omega, rest⟩
theorem rowOwn {w : World} {B n : Nat} {e : TypeId} {s : Nat} {v : Value} {xs : List Value} (h : w.ownsRow B e s v n xs) : ∀ k, v.ownBlock = some k → B ≤ k ∧ k < w.heap.size := World.ownsRow.lt h

/-- An append of files, as the walks take it. -/
theorem wpList_appF {w : World} {ops : Array Oper} {rest : List Oper} {o : Oper} {a : Act} {Q : Exit → Act → World → Prop} (hgd : o.guard = none) (s x : Operand)
    (ho : o.op = .call { callee := .builtin .append, args := #[s, x], argTypes := #[37, 37] })
    (B : Nat) (v : Value) (qs ps : List Fv) (hs : a.eval s = v) (hown : w.ownsRow B 97 3 v qs.length (rows qs)) (A : Option Addr) (m c : Nat) (hx : a.eval x = .slice A m c) (hr : RowsAt w A m ps)
    (hn : qs.length + m ≤ 1000) (hbase : B ≤ w.heap.size)
    (h : ∀ v' w', w'.ownsRow B 97 3 v' (qs ++ ps).length (rows (qs ++ ps)) → Below B w w' → wpList Try.prog ops Q rest (a.put o.dst v') w') :
    wpList Try.prog ops Q (o :: rest) a w := by
  obtain ⟨z, hz0, hzc⟩ := infoF
  obtain ⟨i, hi, hz, hsz, hby⟩ := info_parts hz0
  refine wpList_appV hgd s x 37 ho B 97 i z 3 48 Try.underlying37 hi hz hsz hby hzc (by omega) v qs.length (rows qs) hs hown A m c (rows ps) hx (by rw [rows_len, hr.1]) hr.2 (rows_one ps) (by unfold maxLen; omega) (by omega) hbase ?_
  intro v' w' h1 h2
  refine h v' w' (by rw [List.length_append, hr.1, rows_app]; exact h1) ⟨h2.os, h2.tape, h2.output, h2.size, fun k hk => h2.block k (by omega) (fun e => ?_)⟩
  have := (rowOwn hown k e.symm).1
  omega
end Go.Proofs.Ytkhalpajomammaa
