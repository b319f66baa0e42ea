/-
  Layer 10: rows in memory: those that lie somewhere, those of one's own, what grows by append.
-/
import Derived.Test.YtgccichmdddbpaaGreatDoorPL07
import Derived.Maps.AppendAt
import Derived.Laws.OwnMore
set_option linter.unusedVariables false
namespace Go.Proofs.YtgccichmdddbpaaGreatDoor
open Go.RowKit

def rfl2 (l : List Rw) : List Value := l.flatMap fun x => [.string x.key, .string x.value]
theorem rfl2_app (l r : List Rw) : rfl2 (l ++ r) = rfl2 l ++ rfl2 r := by simp [rfl2]
theorem rfl2_cons (x : Rw) (l : List Rw) : rfl2 (x :: l) = .string x.key :: .string x.value :: rfl2 l := by simp [rfl2]
theorem rfl2_len : ∀ l : List Rw, (rfl2 l).length = l.length * 2
  | [] => rfl
  | x :: l => by rw [rfl2_cons, List.length_cons, List.length_cons, rfl2_len l, List.length_cons]; omega
theorem rfl2_get : ∀ (l : List Rw) (i : Nat) (h : i < l.length), (rfl2 l)[i * 2]? = some (.string (l[i]'h).key) ∧ (rfl2 l)[i * 2 + 1]? = some (.string (l[i]'h).value)
  | x :: l, 0, _ => by rw [rfl2_cons]; exact ⟨rfl, rfl⟩
  | x :: l, i + 1, h => by
    have ih := rfl2_get l i (by simpa using h)
    rw [rfl2_cons, show (i + 1) * 2 = i * 2 + 1 + 1 by omega]
    simpa using ih
theorem rfl2_one (l : List Rw) : ∀ u ∈ rfl2 l, u.oneCell' = true := by
  intro u hu
  obtain ⟨x, hx, h2⟩ := List.mem_flatMap.1 hu
  simp only [List.mem_cons, List.not_mem_nil, or_false] at h2
  rcases h2 with rfl | rfl <;> rfl
theorem infoRw : (Tryz.prog.info? 70).map (fun i => (i.zero, i.size, i.bytes)) = some (some (.agg #[.string ByteArray.empty, .string ByteArray.empty]), 2, 32) := by kernel_rfl
/-- Rows that lie in memory. -/
def WAt (w : World) (A : Option Addr) (n : Nat) (l : List Rw) : Prop :=
  l.length = n ∧ (0 < n → ∃ b o, A = some ⟨b, o, none⟩ ∧ ∀ i (h : i < l.length), w.cell? ⟨b, o + i * 2, none⟩ = some (.string (l[i]'h).key) ∧ w.cell? ⟨b, o + i * 2 + 1, none⟩ = some (.string (l[i]'h).value))
theorem WAt.below {w w' : World} {A : Option Addr} {n : Nat} {l : List Rw} (h : WAt w A n l) (hb : Below w.heap.size w w') : WAt w' A n l := by
  refine ⟨h.1, fun hn => ?_⟩
  obtain ⟨b, o, e, hc⟩ := h.2 hn
  exact ⟨b, o, e, fun i hi => ⟨(hb.cell (World.block_lt_of_cell? w _ (hc i hi).1)).trans (hc i hi).1, (hb.cell (World.block_lt_of_cell? w _ (hc i hi).2)).trans (hc i hi).2⟩⟩
theorem WAt.drewN {w : World} {A : Option Addr} {n : Nat} {l : List Rw} (h : WAt w A n l) (m : Nat) : WAt (w.drewN m) A n l := h
theorem WAt.nil (w : World) (A : Option Addr) : WAt w A 0 [] := ⟨rfl, fun h => absurd h (Nat.lt_irrefl _)⟩
theorem WAt.lit {w : World} {b : Nat} {l : List Rw} {t : TypeId} {f : Nat × Nat} (h : w.heap[b]? = some (.cells (rfl2 l).toArray t f)) : WAt w (some ⟨b, 0, none⟩) l.length l :=
  ⟨rfl, fun _ => ⟨b, 0, rfl, fun i hi => by
    obtain ⟨h1, h2⟩ := rfl2_get l i hi
    exact ⟨by rw [cell_of_row w b _ _ t f h, Nat.zero_add]; simpa using h1, by rw [cell_of_row w b _ _ t f h, Nat.zero_add]; simpa using h2⟩⟩⟩
/-- Rows of one's own. -/
def RRow (w : World) (B : Nat) (v : Value) (n : Nat) (l : List Rw) : Prop := w.ownsRow B 70 2 v n (rfl2 l)
section
variable {w w' : World} {B B' n : Nat} {v : Value} {l : List Rw}
theorem RRow.nil (w : World) (B : Nat) : RRow w B (.slice none 0 0) 0 [] := World.ownsRow_nil _ _ _ _
theorem RRow.len (h : RRow w B v n l) : l.length = n := by
  have := h.1
  rw [rfl2_len] at this
  omega
theorem RRow.form (h : RRow w B v n l) : ∃ A c, v = .slice A n c ∧ WAt w A n l ∧ n ≤ c ∧ c ≤ 9223372036854775807 := by
  have hl := h.len
  rcases h.2 with ⟨rfl, h0⟩ | ⟨g, cap, cur, rfl, hb, hg, hnc, hcm, _⟩
  · exact ⟨none, 0, by rw [h0], ⟨hl, fun hm => by omega⟩, by omega, by omega⟩
  · refine ⟨_, cap, rfl, ⟨hl, fun hm => ⟨g, 0, rfl, fun i hi => ?_⟩⟩, hnc, hcm⟩
    obtain ⟨h1, h2⟩ := rfl2_get l i hi
    have c1 := World.ownsRow.cells h (g := g) rfl _ _ h1
    have c2 := World.ownsRow.cells h (g := g) rfl _ _ h2
    rw [Go.WideShapes.add_plain] at c1 c2
    exact ⟨c1, by rw [Nat.add_assoc]; exact c2⟩
theorem RRow.keep (h : RRow w B v n l) (hb : Below w.heap.size w w') : RRow w' B v n l :=
  World.ownsRow.kept h (row := none) ⟨hb.os, hb.tape, hb.output, hb.size, fun k hk _ => hb.block k hk⟩ (by
    cases hv : v.ownBlock with
    | none => exact .inl rfl
    | some q => exact .inr (by simp))
theorem RRow.base (h : RRow w B v n l) (hB : B' ≤ B) : RRow w B' v n l := by
  refine ⟨h.1, ?_⟩
  rcases h.2 with hn | ⟨g, cap, cur, hv, hb, rest⟩
  · exact .inl hn
  · exact .inr ⟨g, cap, cur, hv, by omega, rest⟩
theorem RRow.lt (h : RRow w B v n l) (k : Nat) (e : v.ownBlock = some k) : B ≤ k ∧ k < w.heap.size := World.ownsRow.lt h k e
theorem WAt.head {A : Option Addr} (h : WAt w A n l) {p : Nat} (hp : p ≤ n) : WAt w A p (l.take p) := by
  refine ⟨by rw [List.length_take, h.1]; omega, fun h0 => ?_⟩
  obtain ⟨b, o, e, hc⟩ := h.2 (by omega)
  refine ⟨b, o, e, fun i hi => ?_⟩
  rw [List.length_take] at hi
  rw [List.getElem_take]
  exact hc i (by omega)
/-- Where 'l[k:]' begins. -/
def cutR (A : Option Addr) (m l : Nat) : Option Addr := if m = l then A else A.map (·.add (l * 2))
theorem WAt.tail {A : Option Addr} (h : WAt w A n l) {p c : Nat} (hp : p ≤ n) (hc : n ≤ c) : WAt w (cutR A c p) (n - p) (l.drop p) := by
  refine ⟨by rw [List.length_drop, h.1], fun h0 => ?_⟩
  obtain ⟨b, o, rfl, hcc⟩ := h.2 (by omega)
  refine ⟨b, o + p * 2, ?_, fun i hi => ?_⟩
  · unfold cutR
    rw [if_neg (by omega)]
    simp only [Option.map_some]
    rw [Go.WideShapes.add_plain]
  · rw [List.length_drop] at hi
    rw [List.getElem_drop]
    obtain ⟨c1, c2⟩ := hcc (p + i) (by omega)
    rw [show o + p * 2 + i * 2 = o + (p + i) * 2 by omega]
    exact ⟨c1, c2⟩
end
theorem slr_size (w : World) : (sizeOf 70).run Tryz.prog w = .ok 2 w := by kernel_rfl
theorem slr_elem : Tryz.prog.elem 50 = 70 := by kernel_rfl
theorem slr_under : Tryz.prog.underlying 50 = some (.slice (Tryz.prog.elem 50)) := by rw [slr_elem]; exact Tryz.underlying50
theorem slr_l (A : Option Addr) (n c : Nat) (kl : IntKind) (l : Int) (w : World) (h0 : 0 ≤ l) (h1 : l ≤ n) :
    (Instr.slice 50 (.slice A n c) (some (.int kl l)) none none).run Tryz.prog w = .ok (.slice (cutR A c l.toNat) (n - l.toNat) (c - l.toNat)) w := by
  rw [run_slice_l w 50 A n c slr_under kl l h0 h1, slr_elem, slr_size]
  rfl
theorem slr_h (A : Option Addr) (n c : Nat) (kh : IntKind) (h : Int) (w : World) (h0 : 0 ≤ h) (h2 : h ≤ c) :
    (Instr.slice 50 (.slice A n c) none (some (.int kh h)) none).run Tryz.prog w = .ok (.slice A h.toNat c) w := by
  rw [run_slice_h w 50 A n c slr_under kh h h0 h2, slr_elem, slr_size]
  simp only [Result.andThen, sliced, Nat.sub_zero, Nat.zero_mul]
  congr 2
  split
  · rfl
  · cases A with
    | none => rfl
    | some a => simp [Addr.add]
theorem row_one (w : World) (k v : ByteArray) : WAt (w.alloc (.cells #[.string k, .string v] 70)) (some ⟨w.heap.size, 0, none⟩) 1 [⟨k, v⟩] :=
  WAt.lit (l := [⟨k, v⟩]) (heap_alloc_new w _)
theorem WAt.news {w : World} {ad : Addr} {n : Nat} {l : List Rw} (hr : WAt w (some ad) n l) : ∀ j u, (rfl2 l)[j]? = some u → w.cell? (ad.add j) = some u := by
  intro j u hj
  have hjl : j < (rfl2 l).length := by
    rcases Nat.lt_or_ge j (rfl2 l).length with h0 | h0
    · exact h0
    · rw [List.getElem?_eq_none h0] at hj
      cases hj
  rw [rfl2_len] at hjl
  have hi2 : j / 2 < l.length := by omega
  obtain ⟨b, o2, hh, hc⟩ := hr.2 (by have := hr.1; omega)
  injection hh with hh
  subst hh
  obtain ⟨c1, c2⟩ := hc (j / 2) hi2
  obtain ⟨g1, g2⟩ := rfl2_get l (j / 2) hi2
  rw [Go.WideShapes.add_plain]
  rcases (show j % 2 = 0 ∨ j % 2 = 1 from by omega) with h0 | h0
  · rw [show j / 2 * 2 = j by omega] at c1 g1
    rw [hj] at g1
    injection g1 with g1
    rw [c1, g1]
  · rw [show o2 + j / 2 * 2 + 1 = o2 + j by omega] at c2
    rw [show j / 2 * 2 + 1 = j by omega] at g2
    rw [hj] at g2
    injection g2 with g2
    rw [c2, g2]
set_option maxRecDepth 100000 in
/-- 'append(v, l...)'. -/
theorem wpList_appR {w : World} {ops : Array Oper} {rest : List Oper} {o : Oper} {a : Act} {Q : Exit → Act → World → Prop} (hgd : o.guard = none) (s x : Operand)
    (ho : o.op = .call { callee := .builtin .append, args := #[s, x], argTypes := #[50, 50] })
    (B : Nat) (v : Value) (k : Nat) (xs l : List Rw) (hs : a.eval s = v) (hown : RRow w B v k xs)
    (A : Option Addr) (n c : Nat) (hx : a.eval x = .slice A n c) (hr : WAt w A n l) (hbytes : (k + n) * 32 ≤ 140737488355328) (hbase : B ≤ w.heap.size)
    (h : ∀ v' w', RRow w' B v' (k + n) (xs ++ l) → w.grownBy w' v.ownBlock → wpList Tryz.prog ops Q rest (a.put o.dst v') w') :
    wpList Tryz.prog ops Q (o :: rest) a w := by
  obtain ⟨i, hi, hz, hsz, hby⟩ := info_parts infoRw
  cases A with
  | none =>
    have hm : n = 0 := by
      rcases Nat.eq_zero_or_pos n with h0 | h0
      · exact h0
      · obtain ⟨b, o, hh, _⟩ := hr.2 h0
        cases hh
    subst hm
    obtain rfl : l = [] := List.eq_nil_of_length_eq_zero hr.1
    have hrun := run_append_none (P := Tryz.prog) w B 50 o.type 70 i 2 Tryz.underlying50 hi v k _ hown c
    refine wpList_plain hgd fun K hK => ?_
    unfold Oper.wp execOp
    simp only [ho, resolve, invoke, builtin, Sem.run_bind, Sem.run_pure, Result.andThen_ok, List.map_toArray, List.map_cons, List.map_nil, hs, hx, hrun]
    exact hK _ _ (h v w (by simpa using hown) (World.grownBy.refl w _))
  | some ad =>
    refine wpList_append_own w hgd s x 50 ho B 70 i _ 2 32 Tryz.underlying50 hi hz hsz hby rfl (by decide) v k (rfl2 xs) hs hown ad n c (rfl2 l) hx (by rw [rfl2_len, hr.1]) hr.news (rfl2_one l) (by unfold maxLen; omega) hbytes hbase ?_
    intro v' w' h1 h2 _
    refine h v' w' ?_ h2
    unfold RRow
    rw [rfl2_app]
    exact h1
end Go.Proofs.YtgccichmdddbpaaGreatDoor
