/-
  Layer 16: ends in memory: those that lie somewhere, those of one's own, what grows by append.
-/
import Derived.Test.YtdpdokgbockmbaaSpRow
import Derived.Maps.AppendAt
import Derived.Laws.OwnMore
set_option linter.unusedVariables false
namespace Go.Proofs.Ytdpdokgbockmbaa
open Go.RowKit

def efl3 (l : List En) : List Value := l.flatMap fun x => [.string x.k, .int .i64 x.li, .int .i64 x.mo]
theorem efl3_app (l r : List En) : efl3 (l ++ r) = efl3 l ++ efl3 r := by simp [efl3]
theorem efl3_cons (x : En) (l : List En) : efl3 (x :: l) = .string x.k :: .int .i64 x.li :: .int .i64 x.mo :: efl3 l := by simp [efl3]
theorem efl3_len : ∀ l : List En, (efl3 l).length = l.length * 3
  | [] => rfl
  | x :: l => by rw [efl3_cons, List.length_cons, List.length_cons, List.length_cons, efl3_len l, List.length_cons]; omega
theorem efl3_get : ∀ (l : List En) (i : Nat) (h : i < l.length), (efl3 l)[i * 3]? = some (.string (l[i]'h).k) ∧ (efl3 l)[i * 3 + 1]? = some (.int .i64 (l[i]'h).li) ∧ (efl3 l)[i * 3 + 2]? = some (.int .i64 (l[i]'h).mo)
  | x :: l, 0, _ => by rw [efl3_cons]; exact ⟨rfl, rfl, rfl⟩
  | x :: l, i + 1, h => by
    have ih := efl3_get l i (by simpa using h)
    rw [efl3_cons, show (i + 1) * 3 = i * 3 + 1 + 1 + 1 by omega]
    simpa using ih
theorem efl3_one (l : List En) : ∀ u ∈ efl3 l, u.oneCell' = true := by
  intro u hu
  obtain ⟨x, hx, h2⟩ := List.mem_flatMap.1 hu
  simp only [List.mem_cons, List.not_mem_nil, or_false] at h2
  rcases h2 with rfl | rfl | rfl <;> rfl
theorem infoEn : (Try.prog.info? 69).map (fun i => (i.zero, i.size, i.bytes)) = some (some (.agg #[.string ByteArray.empty, .int .i64 0, .int .i64 0]), 3, 32) := by kernel_rfl
/-- Rows that lie in memory. -/
def EnAt (w : World) (A : Option Addr) (n : Nat) (l : List En) : Prop :=
  l.length = n ∧ (0 < n → ∃ b o, A = some ⟨b, o, none⟩ ∧ ∀ i (h : i < l.length), w.cell? ⟨b, o + i * 3, none⟩ = some (.string (l[i]'h).k) ∧ w.cell? ⟨b, o + i * 3 + 1, none⟩ = some (.int .i64 (l[i]'h).li) ∧ w.cell? ⟨b, o + i * 3 + 2, none⟩ = some (.int .i64 (l[i]'h).mo))
theorem EnAt.below {w w' : World} {A : Option Addr} {n : Nat} {l : List En} (h : EnAt w A n l) (hb : Below w.heap.size w w') : EnAt w' A n l := by
  refine ⟨h.1, fun hn => ?_⟩
  obtain ⟨b, o, e, hc⟩ := h.2 hn
  exact ⟨b, o, e, fun i hi => ⟨(hb.cell (World.block_lt_of_cell? w _ (hc i hi).1)).trans (hc i hi).1, (hb.cell (World.block_lt_of_cell? w _ (hc i hi).2.1)).trans (hc i hi).2.1, (hb.cell (World.block_lt_of_cell? w _ (hc i hi).2.2)).trans (hc i hi).2.2⟩⟩
theorem EnAt.drewN {w : World} {A : Option Addr} {n : Nat} {l : List En} (h : EnAt w A n l) (m : Nat) : EnAt (w.drewN m) A n l := h
theorem EnAt.nil (w : World) (A : Option Addr) : EnAt w A 0 [] := ⟨rfl, fun h => absurd h (Nat.lt_irrefl _)⟩
theorem EnAt.lit {w : World} {b : Nat} {l : List En} {t : TypeId} {f : Nat × Nat} (h : w.heap[b]? = some (.cells (efl3 l).toArray t f)) : EnAt w (some ⟨b, 0, none⟩) l.length l :=
  ⟨rfl, fun _ => ⟨b, 0, rfl, fun i hi => by
    obtain ⟨h1, h2, h3⟩ := efl3_get l i hi
    exact ⟨by rw [cell_of_row w b _ _ t f h, Nat.zero_add]; simpa using h1, by rw [cell_of_row w b _ _ t f h, Nat.zero_add]; simpa using h2, by rw [cell_of_row w b _ _ t f h, Nat.zero_add]; simpa using h3⟩⟩⟩
/-- Rows of one's own. -/
def EnRow (w : World) (B : Nat) (v : Value) (n : Nat) (l : List En) : Prop := w.ownsRow B 69 3 v n (efl3 l)
section
variable {w w' : World} {B B' n : Nat} {v : Value} {l : List En}
theorem EnRow.nil (w : World) (B : Nat) : EnRow w B (.slice none 0 0) 0 [] := World.ownsRow_nil _ _ _ _
theorem EnRow.len (h : EnRow w B v n l) : l.length = n := by
  have := h.1
  rw [efl3_len] at this
  omega
theorem EnRow.form (h : EnRow w B v n l) : ∃ A c, v = .slice A n c ∧ EnAt w A n l ∧ n ≤ c ∧ c ≤ 9223372036854775807 := by
  have hl := h.len
  rcases h.2 with ⟨rfl, h0⟩ | ⟨g, cap, cur, rfl, hb, hg, hnc, hcm, _⟩
  · exact ⟨none, 0, by rw [h0], ⟨hl, fun hm => by omega⟩, by omega, by omega⟩
  · refine ⟨_, cap, rfl, ⟨hl, fun hm => ⟨g, 0, rfl, fun i hi => ?_⟩⟩, hnc, hcm⟩
    obtain ⟨h1, h2, h3⟩ := efl3_get l i hi
    have c1 := World.ownsRow.cells h (g := g) rfl _ _ h1
    have c2 := World.ownsRow.cells h (g := g) rfl _ _ h2
    have c3 := World.ownsRow.cells h (g := g) rfl _ _ h3
    rw [Go.WideShapes.add_plain] at c1 c2 c3
    exact ⟨c1, by rw [Nat.add_assoc]; exact c2, by rw [Nat.add_assoc]; exact c3⟩
theorem EnRow.keep (h : EnRow w B v n l) (hb : Below w.heap.size w w') : EnRow w' B v n l :=
  World.ownsRow.kept h (row := none) ⟨hb.os, hb.tape, hb.output, hb.size, fun k hk _ => hb.block k hk⟩ (by
    cases hv : v.ownBlock with
    | none => exact .inl rfl
    | some q => exact .inr (by simp))
theorem EnRow.base (h : EnRow w B v n l) (hB : B' ≤ B) : EnRow w B' v n l := by
  refine ⟨h.1, ?_⟩
  rcases h.2 with hn | ⟨g, cap, cur, hv, hb, rest⟩
  · exact .inl hn
  · exact .inr ⟨g, cap, cur, hv, by omega, rest⟩
theorem EnRow.lt (h : EnRow w B v n l) (k : Nat) (e : v.ownBlock = some k) : B ≤ k ∧ k < w.heap.size := World.ownsRow.lt h k e
theorem EnAt.head {A : Option Addr} (h : EnAt w A n l) {p : Nat} (hp : p ≤ n) : EnAt w A p (l.take p) := by
  refine ⟨by rw [List.length_take, h.1]; omega, fun h0 => ?_⟩
  obtain ⟨b, o, e, hc⟩ := h.2 (by omega)
  refine ⟨b, o, e, fun i hi => ?_⟩
  rw [List.length_take] at hi
  rw [List.getElem_take]
  exact hc i (by omega)
/-- Where 'l[k:]' begins. -/
def cutEn (A : Option Addr) (m l : Nat) : Option Addr := if m = l then A else A.map (·.add (l * 3))
theorem EnAt.tail {A : Option Addr} (h : EnAt w A n l) {p c : Nat} (hp : p ≤ n) (hc : n ≤ c) : EnAt w (cutEn A c p) (n - p) (l.drop p) := by
  refine ⟨by rw [List.length_drop, h.1], fun h0 => ?_⟩
  obtain ⟨b, o, rfl, hcc⟩ := h.2 (by omega)
  refine ⟨b, o + p * 3, ?_, fun i hi => ?_⟩
  · unfold cutEn
    rw [if_neg (by omega)]
    simp only [Option.map_some]
    rw [Go.WideShapes.add_plain]
  · rw [List.length_drop] at hi
    rw [List.getElem_drop]
    obtain ⟨c1, c2, c3⟩ := hcc (p + i) (by omega)
    rw [show o + p * 3 + i * 3 = o + (p + i) * 3 by omega]
    exact ⟨c1, c2, c3⟩
end
theorem sle_size (w : World) : (sizeOf 69).run Try.prog w = .ok 3 w := by kernel_rfl
theorem sle_elem : Try.prog.elem 66 = 69 := by kernel_rfl
theorem sle_under : Try.prog.underlying 66 = some (.slice (Try.prog.elem 66)) := by rw [sle_elem]; exact Try.underlying66
theorem sle_l (A : Option Addr) (n c : Nat) (kl : IntKind) (l : Int) (w : World) (h0 : 0 ≤ l) (h1 : l ≤ n) :
    (Instr.slice 66 (.slice A n c) (some (.int kl l)) none none).run Try.prog w = .ok (.slice (cutEn A c l.toNat) (n - l.toNat) (c - l.toNat)) w := by
  rw [run_slice_l w 66 A n c sle_under kl l h0 h1, sle_elem, sle_size]
  rfl
theorem sle_h (A : Option Addr) (n c : Nat) (kh : IntKind) (h : Int) (w : World) (h0 : 0 ≤ h) (h2 : h ≤ c) :
    (Instr.slice 66 (.slice A n c) none (some (.int kh h)) none).run Try.prog w = .ok (.slice A h.toNat c) w := by
  rw [run_slice_h w 66 A n c sle_under kh h h0 h2, sle_elem, sle_size]
  simp only [Result.andThen, sliced, Nat.sub_zero, Nat.zero_mul]
  congr 2
  split
  · rfl
  · cases A with
    | none => rfl
    | some a => simp [Addr.add]
theorem en_two (w : World) (x y : En) : EnAt (w.alloc (.cells #[.string x.k, .int .i64 x.li, .int .i64 x.mo, .string y.k, .int .i64 y.li, .int .i64 y.mo] 69)) (some ⟨w.heap.size, 0, none⟩) 2 [x, y] :=
  EnAt.lit (l := [x, y]) (heap_alloc_new w _)
theorem EnAt.news {w : World} {ad : Addr} {n : Nat} {l : List En} (hr : EnAt w (some ad) n l) : ∀ j u, (efl3 l)[j]? = some u → w.cell? (ad.add j) = some u := by
  intro j u hj
  have hjl : j < (efl3 l).length := by
    rcases Nat.lt_or_ge j (efl3 l).length with h0 | h0
    · exact h0
    · rw [List.getElem?_eq_none h0] at hj
      cases hj
  rw [efl3_len] at hjl
  have hi2 : j / 3 < l.length := by omega
  obtain ⟨b, o2, hh, hc⟩ := hr.2 (by have := hr.1; omega)
  injection hh with hh
  subst hh
  obtain ⟨c1, c2, c3⟩ := hc (j / 3) hi2
  obtain ⟨g1, g2, g3⟩ := efl3_get l (j / 3) hi2
  rw [Go.WideShapes.add_plain]
  rcases (show j % 3 = 0 ∨ j % 3 = 1 ∨ j % 3 = 2 from by omega) with h0 | h0 | h0
  · rw [show j / 3 * 3 = j by omega] at c1 g1
    rw [hj] at g1
    injection g1 with g1
    rw [c1, g1]
  · rw [show o2 + j / 3 * 3 + 1 = o2 + j by omega] at c2
    rw [show j / 3 * 3 + 1 = j by omega] at g2
    rw [hj] at g2
    injection g2 with g2
    rw [c2, g2]
  · rw [show o2 + j / 3 * 3 + 2 = o2 + j by omega] at c3
    rw [show j / 3 * 3 + 2 = j by omega] at g3
    rw [hj] at g3
    injection g3 with g3
    rw [c3, g3]
set_option maxRecDepth 100000 in
/-- 'append(v, l...)'. -/
theorem wpList_appEn {w : World} {ops : Array Oper} {rest : List Oper} {o : Oper} {a : Act} {Q : Exit → Act → World → Prop} (hgd : o.guard = none) (s x : Operand)
    (ho : o.op = .call { callee := .builtin .append, args := #[s, x], argTypes := #[66, 66] })
    (B : Nat) (v : Value) (k : Nat) (xs l : List En) (hs : a.eval s = v) (hown : EnRow w B v k xs)
    (A : Option Addr) (n c : Nat) (hx : a.eval x = .slice A n c) (hr : EnAt w A n l) (hbytes : (k + n) * 32 ≤ 140737488355328) (hbase : B ≤ w.heap.size)
    (h : ∀ v' w', EnRow w' B v' (k + n) (xs ++ l) → w.grownBy w' v.ownBlock → wpList Try.prog ops Q rest (a.put o.dst v') w') :
    wpList Try.prog ops Q (o :: rest) a w := by
  obtain ⟨i, hi, hz, hsz, hby⟩ := info_parts infoEn
  cases A with
  | none =>
    have hm : n = 0 := by
      rcases Nat.eq_zero_or_pos n with h0 | h0
      · exact h0
      · obtain ⟨b, o, hh, _⟩ := hr.2 h0
        cases hh
    subst hm
    obtain rfl : l = [] := List.eq_nil_of_length_eq_zero hr.1
    have hrun := run_append_none (P := Try.prog) w B 66 o.type 69 i 3 Try.underlying66 hi v k _ hown c
    refine wpList_plain hgd fun K hK => ?_
    unfold Oper.wp execOp
    simp only [ho, resolve, invoke, builtin, Sem.run_bind, Sem.run_pure, Result.andThen_ok, List.map_toArray, List.map_cons, List.map_nil, hs, hx, hrun]
    exact hK _ _ (h v w (by simpa using hown) (World.grownBy.refl w _))
  | some ad =>
    refine wpList_append_own w hgd s x 66 ho B 69 i _ 3 32 Try.underlying66 hi hz hsz hby rfl (by decide) v k (efl3 xs) hs hown ad n c (efl3 l) hx (by rw [efl3_len, hr.1]) hr.news (efl3_one l) (by unfold maxLen; omega) hbytes hbase ?_
    intro v' w' h1 h2 _
    refine h v' w' ?_ h2
    unfold EnRow
    rw [efl3_app]
    exact h1
end Go.Proofs.Ytdpdokgbockmbaa
