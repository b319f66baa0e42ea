/-
  Layer 16: spans in memory: those that lie somewhere, those of one's own, what grows by append.
-/
import Derived.Test.YtdpdokgbockmbaaSpM
import Derived.Test.YtdpdokgbockmbaaOwn
import Derived.Maps.AppendAt
import Derived.Laws.OwnMore
set_option linter.unusedVariables false
namespace Go.Proofs.Ytdpdokgbockmbaa
open Go.RowKit

def sfl2 (l : List Sn) : List Value := l.flatMap fun x => [.string x.f, .string x.t]
theorem sfl2_app (l r : List Sn) : sfl2 (l ++ r) = sfl2 l ++ sfl2 r := by simp [sfl2]
theorem sfl2_cons (x : Sn) (l : List Sn) : sfl2 (x :: l) = .string x.f :: .string x.t :: sfl2 l := by simp [sfl2]
theorem sfl2_len : ∀ l : List Sn, (sfl2 l).length = l.length * 2
  | [] => rfl
  | x :: l => by rw [sfl2_cons, List.length_cons, List.length_cons, sfl2_len l, List.length_cons]; omega
theorem sfl2_get : ∀ (l : List Sn) (i : Nat) (h : i < l.length), (sfl2 l)[i * 2]? = some (.string (l[i]'h).f) ∧ (sfl2 l)[i * 2 + 1]? = some (.string (l[i]'h).t)
  | x :: l, 0, _ => by rw [sfl2_cons]; exact ⟨rfl, rfl⟩
  | x :: l, i + 1, h => by
    have ih := sfl2_get l i (by simpa using h)
    rw [sfl2_cons, show (i + 1) * 2 = i * 2 + 1 + 1 by omega]
    simpa using ih
theorem sfl2_one (l : List Sn) : ∀ u ∈ sfl2 l, u.oneCell' = true := by
  intro u hu
  obtain ⟨x, hx, h2⟩ := List.mem_flatMap.1 hu
  simp only [List.mem_cons, List.not_mem_nil, or_false] at h2
  rcases h2 with rfl | rfl <;> rfl
theorem infoSn : (Try.prog.info? 30).map (fun i => (i.zero, i.size, i.bytes)) = some (some (.agg #[.string ByteArray.empty, .string ByteArray.empty]), 2, 32) := by kernel_rfl
/-- Rows that lie in memory. -/
def SnAt (w : World) (A : Option Addr) (n : Nat) (l : List Sn) : Prop :=
  l.length = n ∧ (0 < n → ∃ b o, A = some ⟨b, o, none⟩ ∧ ∀ i (h : i < l.length), w.cell? ⟨b, o + i * 2, none⟩ = some (.string (l[i]'h).f) ∧ w.cell? ⟨b, o + i * 2 + 1, none⟩ = some (.string (l[i]'h).t))
theorem SnAt.below {w w' : World} {A : Option Addr} {n : Nat} {l : List Sn} (h : SnAt w A n l) (hb : Below w.heap.size w w') : SnAt w' A n l := by
  refine ⟨h.1, fun hn => ?_⟩
  obtain ⟨b, o, e, hc⟩ := h.2 hn
  exact ⟨b, o, e, fun i hi => ⟨(hb.cell (World.block_lt_of_cell? w _ (hc i hi).1)).trans (hc i hi).1, (hb.cell (World.block_lt_of_cell? w _ (hc i hi).2)).trans (hc i hi).2⟩⟩
theorem SnAt.drewN {w : World} {A : Option Addr} {n : Nat} {l : List Sn} (h : SnAt w A n l) (m : Nat) : SnAt (w.drewN m) A n l := h
theorem SnAt.nil (w : World) (A : Option Addr) : SnAt w A 0 [] := ⟨rfl, fun h => absurd h (Nat.lt_irrefl _)⟩
theorem SnAt.lit {w : World} {b : Nat} {l : List Sn} {t : TypeId} {f : Nat × Nat} (h : w.heap[b]? = some (.cells (sfl2 l).toArray t f)) : SnAt w (some ⟨b, 0, none⟩) l.length l :=
  ⟨rfl, fun _ => ⟨b, 0, rfl, fun i hi => by
    obtain ⟨h1, h2⟩ := sfl2_get l i hi
    exact ⟨by rw [cell_of_row w b _ _ t f h, Nat.zero_add]; simpa using h1, by rw [cell_of_row w b _ _ t f h, Nat.zero_add]; simpa using h2⟩⟩⟩
/-- Rows of one's own. -/
def SnRow (w : World) (B : Nat) (v : Value) (n : Nat) (l : List Sn) : Prop := w.ownsRow B 30 2 v n (sfl2 l)
section
variable {w w' : World} {B B' n : Nat} {v : Value} {l : List Sn}
theorem SnRow.nil (w : World) (B : Nat) : SnRow w B (.slice none 0 0) 0 [] := World.ownsRow_nil _ _ _ _
theorem SnRow.len (h : SnRow w B v n l) : l.length = n := by
  have := h.1
  rw [sfl2_len] at this
  omega
theorem SnRow.form (h : SnRow w B v n l) : ∃ A c, v = .slice A n c ∧ SnAt w A n l ∧ n ≤ c ∧ c ≤ 9223372036854775807 := by
  have hl := h.len
  rcases h.2 with ⟨rfl, h0⟩ | ⟨g, cap, cur, rfl, hb, hg, hnc, hcm, _⟩
  · exact ⟨none, 0, by rw [h0], ⟨hl, fun hm => by omega⟩, by omega, by omega⟩
  · refine ⟨_, cap, rfl, ⟨hl, fun hm => ⟨g, 0, rfl, fun i hi => ?_⟩⟩, hnc, hcm⟩
    obtain ⟨h1, h2⟩ := sfl2_get l i hi
    have c1 := World.ownsRow.cells h (g := g) rfl _ _ h1
    have c2 := World.ownsRow.cells h (g := g) rfl _ _ h2
    rw [Go.WideShapes.add_plain] at c1 c2
    exact ⟨c1, by rw [Nat.add_assoc]; exact c2⟩
theorem SnRow.keep (h : SnRow w B v n l) (hb : Below w.heap.size w w') : SnRow w' B v n l :=
  World.ownsRow.kept h (row := none) ⟨hb.os, hb.tape, hb.output, hb.size, fun k hk _ => hb.block k hk⟩ (by
    cases hv : v.ownBlock with
    | none => exact .inl rfl
    | some q => exact .inr (by simp))
theorem SnRow.base (h : SnRow w B v n l) (hB : B' ≤ B) : SnRow w B' v n l := by
  refine ⟨h.1, ?_⟩
  rcases h.2 with hn | ⟨g, cap, cur, hv, hb, rest⟩
  · exact .inl hn
  · exact .inr ⟨g, cap, cur, hv, by omega, rest⟩
theorem SnRow.lt (h : SnRow w B v n l) (k : Nat) (e : v.ownBlock = some k) : B ≤ k ∧ k < w.heap.size := World.ownsRow.lt h k e
theorem SnAt.head {A : Option Addr} (h : SnAt w A n l) {p : Nat} (hp : p ≤ n) : SnAt w A p (l.take p) := by
  refine ⟨by rw [List.length_take, h.1]; omega, fun h0 => ?_⟩
  obtain ⟨b, o, e, hc⟩ := h.2 (by omega)
  refine ⟨b, o, e, fun i hi => ?_⟩
  rw [List.length_take] at hi
  rw [List.getElem_take]
  exact hc i (by omega)
/-- Where 'l[k:]' begins. -/
def cutSn (A : Option Addr) (m l : Nat) : Option Addr := if m = l then A else A.map (·.add (l * 2))
theorem SnAt.tail {A : Option Addr} (h : SnAt w A n l) {p c : Nat} (hp : p ≤ n) (hc : n ≤ c) : SnAt w (cutSn A c p) (n - p) (l.drop p) := by
  refine ⟨by rw [List.length_drop, h.1], fun h0 => ?_⟩
  obtain ⟨b, o, rfl, hcc⟩ := h.2 (by omega)
  refine ⟨b, o + p * 2, ?_, fun i hi => ?_⟩
  · unfold cutSn
    rw [if_neg (by omega)]
    simp only [Option.map_some]
    rw [Go.WideShapes.add_plain]
  · rw [List.length_drop] at hi
    rw [List.getElem_drop]
    obtain ⟨c1, c2⟩ := hcc (p + i) (by omega)
    rw [show o + p * 2 + i * 2 = o + (p + i) * 2 by omega]
    exact ⟨c1, c2⟩
end
theorem sls_size (w : World) : (sizeOf 30).run Try.prog w = .ok 2 w := by kernel_rfl
theorem sls_elem : Try.prog.elem 22 = 30 := by kernel_rfl
theorem sls_under : Try.prog.underlying 22 = some (.slice (Try.prog.elem 22)) := by rw [sls_elem]; exact Try.underlying22
theorem sls_l (A : Option Addr) (n c : Nat) (kl : IntKind) (l : Int) (w : World) (h0 : 0 ≤ l) (h1 : l ≤ n) :
    (Instr.slice 22 (.slice A n c) (some (.int kl l)) none none).run Try.prog w = .ok (.slice (cutSn A c l.toNat) (n - l.toNat) (c - l.toNat)) w := by
  rw [run_slice_l w 22 A n c sls_under kl l h0 h1, sls_elem, sls_size]
  rfl
theorem sls_h (A : Option Addr) (n c : Nat) (kh : IntKind) (h : Int) (w : World) (h0 : 0 ≤ h) (h2 : h ≤ c) :
    (Instr.slice 22 (.slice A n c) none (some (.int kh h)) none).run Try.prog w = .ok (.slice A h.toNat c) w := by
  rw [run_slice_h w 22 A n c sls_under kh h h0 h2, sls_elem, sls_size]
  simp only [Result.andThen, sliced, Nat.sub_zero, Nat.zero_mul]
  congr 2
  split
  · rfl
  · cases A with
    | none => rfl
    | some a => simp [Addr.add]
theorem sn_one (w : World) (k v : ByteArray) : SnAt (w.alloc (.cells #[.string k, .string v] 30)) (some ⟨w.heap.size, 0, none⟩) 1 [⟨k, v⟩] :=
  SnAt.lit (l := [⟨k, v⟩]) (heap_alloc_new w _)
theorem SnAt.news {w : World} {ad : Addr} {n : Nat} {l : List Sn} (hr : SnAt w (some ad) n l) : ∀ j u, (sfl2 l)[j]? = some u → w.cell? (ad.add j) = some u := by
  intro j u hj
  have hjl : j < (sfl2 l).length := by
    rcases Nat.lt_or_ge j (sfl2 l).length with h0 | h0
    · exact h0
    · rw [List.getElem?_eq_none h0] at hj
      cases hj
  rw [sfl2_len] at hjl
  have hi2 : j / 2 < l.length := by omega
  obtain ⟨b, o2, hh, hc⟩ := hr.2 (by have := hr.1; omega)
  injection hh with hh
  subst hh
  obtain ⟨c1, c2⟩ := hc (j / 2) hi2
  obtain ⟨g1, g2⟩ := sfl2_get l (j / 2) hi2
  rw [Go.WideShapes.add_plain]
  rcases (show j % 2 = 0 ∨ j % 2 = 1 from by omega) with h0 | h0
  · rw [show j / 2 * 2 = j by omega] at c1 g1
    rw [hj] at g1
    injection g1 with g1
    rw [c1, g1]
  · rw [show o2 + j / 2 * 2 + 1 = o2 + j by omega] at c2
    rw [show j / 2 * 2 + 1 = j by omega] at g2
    rw [hj] at g2
    injection g2 with g2
    rw [c2, g2]
set_option maxRecDepth 100000 in
/-- 'append(v, l...)'. -/
theorem wpList_appSn {w : World} {ops : Array Oper} {rest : List Oper} {o : Oper} {a : Act} {Q : Exit → Act → World → Prop} (hgd : o.guard = none) (s x : Operand)
    (ho : o.op = .call { callee := .builtin .append, args := #[s, x], argTypes := #[22, 22] })
    (B : Nat) (v : Value) (k : Nat) (xs l : List Sn) (hs : a.eval s = v) (hown : SnRow w B v k xs)
    (A : Option Addr) (n c : Nat) (hx : a.eval x = .slice A n c) (hr : SnAt w A n l) (hbytes : (k + n) * 32 ≤ 140737488355328) (hbase : B ≤ w.heap.size)
    (h : ∀ v' w', SnRow w' B v' (k + n) (xs ++ l) → w.grownBy w' v.ownBlock → wpList Try.prog ops Q rest (a.put o.dst v') w') :
    wpList Try.prog ops Q (o :: rest) a w := by
  obtain ⟨i, hi, hz, hsz, hby⟩ := info_parts infoSn
  cases A with
  | none =>
    have hm : n = 0 := by
      rcases Nat.eq_zero_or_pos n with h0 | h0
      · exact h0
      · obtain ⟨b, o, hh, _⟩ := hr.2 h0
        cases hh
    subst hm
    obtain rfl : l = [] := List.eq_nil_of_length_eq_zero hr.1
    have hrun := run_append_none (P := Try.prog) w B 22 o.type 30 i 2 Try.underlying22 hi v k _ hown c
    refine wpList_plain hgd fun K hK => ?_
    unfold Oper.wp execOp
    simp only [ho, resolve, invoke, builtin, Sem.run_bind, Sem.run_pure, Result.andThen_ok, List.map_toArray, List.map_cons, List.map_nil, hs, hx, hrun]
    exact hK _ _ (h v w (by simpa using hown) (World.grownBy.refl w _))
  | some ad =>
    refine wpList_append_own w hgd s x 22 ho B 30 i _ 2 32 Try.underlying22 hi hz hsz hby rfl (by decide) v k (sfl2 xs) hs hown ad n c (sfl2 l) hx (by rw [sfl2_len, hr.1]) hr.news (sfl2_one l) (by unfold maxLen; omega) hbytes hbase ?_
    intro v' w' h1 h2 _
    refine h v' w' ?_ h2
    unfold SnRow
    rw [sfl2_app]
    exact h1
end Go.Proofs.Ytdpdokgbockmbaa
