/-
  Layer 8: what may not be is refused, plainly.
-/
import Derived.Test.YtamglegdgcehaaaGreatZ24
import Derived.Test.YtamglegdgcehaaaGreatZ10
set_option linter.unusedVariables false
namespace Go.Proofs.YtamglegdgcehaaaGreat
open Go.RowKit

def okOp (o : Op_) : Bool := !tooLong o.key o.value && !badOp o
def mayB (l : List Op_) : Bool := decide (1 ≤ l.length ∧ l.length ≤ 128) && l.all okOp
def sumOps (l : List Op_) : Nat := (l.map (fun o => o.key.size + o.value.size + 8)).sum
theorem all_okOp (l : List Op_) : l.all okOp = (!l.any (fun o => tooLong o.key o.value) && !l.any badOp) := by
  induction l with
  | nil => rfl
  | cons a l ih =>
    simp only [List.all_cons, List.any_cons, ih, okOp]
    cases tooLong a.key a.value <;> cases badOp a <;> simp
theorem may_yes {l : List Op_} (h : mayB l = true) : opsE l = 0 := by
  unfold mayB at h
  rw [all_okOp] at h
  simp only [Bool.and_eq_true, decide_eq_true_eq, Bool.not_eq_true'] at h
  obtain ⟨⟨h1, h2⟩, h3, h4⟩ := h
  unfold opsE
  rw [if_neg (by rintro (e | e); omega; rw [h3] at e; cases e), if_neg (by rintro (e | e); rw [e] at h1; simp at h1; rw [h4] at e; cases e)]
theorem may_no {l : List Op_} (h : mayB l = false) : opsE l ≠ 0 := by
  intro h0
  unfold opsE at h0
  split at h0
  · cases h0
  · rename_i h1
    split at h0
    · cases h0
    · rename_i h2
      have a1 : l.any (fun o => tooLong o.key o.value) = false := by
        cases ha : l.any (fun o => tooLong o.key o.value) with
        | false => rfl
        | true => exact absurd (.inr ha) h1
      have a2 : l.any badOp = false := by
        cases ha : l.any badOp with
        | false => rfl
        | true => exact absurd (.inr ha) h2
      have a3 : l ≠ [] := fun e => h2 (.inl e)
      have a4 : 0 < l.length := List.length_pos_iff.2 a3
      have a5 : ¬ 128 < l.length := fun e => h1 (.inl e)
      unfold mayB at h
      rw [all_okOp, a1, a2, decide_eq_true (⟨a4, by omega⟩ : 1 ≤ l.length ∧ l.length ≤ 128)] at h
      cases h
theorem sumOps_take {l : List Op_} {k : Nat} (h : k < l.length) : sumOps (l.take (k + 1)) = sumOps (l.take k) + ((l[k]'h).key.size + (l[k]'h).value.size + 8) := by
  unfold sumOps
  rw [List.take_succ_eq_append_getElem h, List.map_append, List.sum_append]
  simp
theorem all_take_succ {l : List Op_} {k : Nat} (h : k < l.length) (h0 : (l.take k).all okOp = true) : (l.take (k + 1)).all okOp = okOp (l[k]'h) := by
  rw [List.take_succ_eq_append_getElem h, List.all_append, h0]; simp
theorem may_bad {l : List Op_} {k : Nat} (h : k < l.length) (hb : okOp (l[k]'h) = false) : mayB l = false := by
  unfold mayB
  rw [List.all_eq_false.2 ⟨_, List.getElem_mem h, by rw [hb]; simp⟩, Bool.and_false]
theorem enc_le (n k : Nat) (h : n < 256 ^ k) : (enc n).length ≤ k + 1 := by
  unfold enc
  rw [List.length_cons]
  have := digs_len n k h
  omega
theorem opB_len (o : Op_) (h : okOp o = true) : (opB o).length ≤ o.key.size + o.value.size + 8 := by
  unfold okOp tooLong at h
  simp only [Bool.and_eq_true, Bool.not_eq_true', Bool.or_eq_false_iff, decide_eq_false_iff_not] at h
  have h1 := enc_le o.key.size 2 (by omega)
  have h2 := enc_le o.value.size 2 (by omega)
  have h3 := enc_le (if o.del then 1 else 0) 1 (by split <;> omega)
  have e1 : (sb o.key).length = o.key.size := by simp [sb]
  have e2 : (sb o.value).length = o.value.size := by simp [sb]
  unfold opB txt
  simp only [List.length_append, e1, e2]
  omega
theorem ops_len (l : List Op_) (h : l.all okOp = true) : (l.map opB).flatten.length ≤ sumOps l := by
  induction l with
  | nil => exact Nat.le_refl _
  | cons a l ih =>
    simp only [List.all_cons, Bool.and_eq_true] at h
    have h1 := opB_len a h.1
    have h2 := ih h.2
    unfold sumOps at h2 ⊢
    simp only [List.map_cons, List.flatten_cons, List.length_append, List.sum_cons]
    omega
theorem batB_len (l : List Op_) (h : mayB l = true) : (batB 1 l).length ≤ 4 + sumOps l := by
  unfold mayB at h
  simp only [Bool.and_eq_true, decide_eq_true_eq] at h
  have h1 := ops_len l h.2
  have h2 := enc_le 1 1 (by omega)
  have h3 := enc_le l.length 1 (by omega)
  unfold batB
  simp only [List.length_append]
  omega
/-- What Add makes of an empty log. -/
structure RefAdd (l : List Op_) (D1 : Dk) (s1 : Js) (m : Nat) (E : Int) (u1 : T3) (p1 : Pl) : Prop where
  eq : Js.add ⟨D1, some ⟨1, 0, 0⟩⟩ l = (s1, m, E)
  st : s1 = ⟨dk u1 (-1) [], some (p1.lg 0)⟩
  good : Good u1 p1 0
  ok : p1.ok
  len : p1.bats.length = m
  m1 : m ≤ 1
  rows : p1.rows = []
  t : p1.t = 1
  n : p1.n = 0
  no : mayB l = false → E ≠ 0 ∧ m = 0
  yes : mayB l = true → (E = 0 ∧ m = 1) ∨ (E = 5 ∧ 60000 ≤ sumOps l)
  e64 : E = 0 ∨ E = 2 ∨ E = 5
theorem opsE_cases (l : List Op_) : opsE l = 0 ∨ opsE l = 2 ∨ opsE l = 5 := by
  unfold opsE
  split
  · exact .inr (.inr rfl)
  · split
    · exact .inr (.inl rfl)
    · exact .inl rfl
theorem ref_add {u : T3} (hg : Good u p0 0) (l : List Op_) : ∃ s1 m E u1 p1, RefAdd l (dk u (-1) []) s1 m E u1 p1 := by
  have hb := hg.base.len
  have s1 : (baseB 1 0 []).length ≤ 10000 := by have := small_1; omega
  rw [show p0.t = 1 from rfl, show p0.n = 0 from rfl, show p0.rows = [] from rfl] at hb
  cases hm : mayB l with
  | false =>
    have h0 := may_no hm
    have ha : addE (p0.lg 0) l = opsE l := by unfold addE; rw [if_pos h0]
    refine ⟨⟨dk u (-1) [], some (p0.lg 0)⟩, 0, opsE l, u, p0, ?_, rfl, hg, p0_ok, rfl, Nat.zero_le _, rfl, rfl, rfl, fun _ => ⟨h0, rfl⟩, (fun e => by rw [hm] at e; cases e), opsE_cases l⟩
    have := add_no (D := dk u (-1) []) (g := p0.lg 0) (l := l) (by rw [ha]; exact h0)
    rw [ha] at this
    exact this
  | true =>
    have h0 := may_yes hm
    have hlen := batB_len l hm
    by_cases hbig : 65536 < (batB 1 l).length
    · have ha : addE (p0.lg 0) l = 5 := by
        unfold addE
        rw [if_neg (by rw [h0]; simp)]
        exact if_pos hbig
      refine ⟨⟨dk u (-1) [], some (p0.lg 0)⟩, 0, 5, u, p0, ?_, rfl, hg, p0_ok, rfl, Nat.zero_le _, rfl, rfl, rfl, (fun e => by rw [hm] at e; cases e), fun _ => .inr ⟨rfl, by omega⟩, .inr (.inr rfl)⟩
      have := add_no (D := dk u (-1) []) (g := p0.lg 0) (l := l) (by rw [ha]; omega)
      rw [ha] at this
      exact this
    · have ha : addE (p0.lg 0) l = 0 := by
        unfold addE
        rw [if_neg (by rw [h0]; simp)]
        exact if_neg hbig
      have hlog : (p0.snoc l).log.length ≤ 70000 := by
        have e : (p0.snoc l).log = p0.log ++ fr (batB 1 l) := Pl.snoc_log p0 l
        have e2 := fr_len (batB 1 l)
        have e3 := enc_le (batB 1 l).length 3 (by omega)
        have e4 : p0.log.length ≤ 100 := of_decide_eq_true (by kernel_rfl)
        rw [e, List.length_append, e2]
        omega
      obtain ⟨u1, h1, h2, h3, _⟩ := lAdd (keep := []) hg ha (by omega)
      exact ⟨_, 1, 0, u1, p0.snoc l, h1, rfl, h2, Pl.snoc_ok p0_ok ha (by decide), rfl, Nat.le_refl _, rfl, rfl, rfl, (fun e => by rw [hm] at e; cases e), fun _ => .inl ⟨rfl, rfl⟩, .inl rfl⟩
/-- What Checkpoint, and opening anew, make of it. -/
theorem ref_ckp_no {l : List Op_} {D1 : Dk} {s1 : Js} {m : Nat} {E : Int} {u1 : T3} {p1 : Pl} (h : RefAdd l D1 s1 m E u1 p1) {rows : List Rw} (hr : rowsE rows ≠ 0) :
    Js.ckp s1 rows = (s1, rowsE rows) ∧ (rowsE rows = 2 ∨ rowsE rows = 5) ∧ ∃ D x bats, opn s1.D = (D, 0, some (x, ⟨[], bats⟩)) ∧ bats.length = m := by
  refine ⟨?_, ?_, ?_⟩
  · rw [h.st]
    show (if rowsE rows ≠ 0 then _ else _) = _
    rw [if_pos hr]
  · unfold rowsE at hr ⊢
    split
    · exact .inr rfl
    · split
      · exact .inl rfl
      · rename_i h1 h2
        rw [if_neg h1, if_neg h2] at hr
        exact absurd rfl hr
  · obtain ⟨u', h1, _⟩ := lOpen (keep := []) h.good.lost h.ok
    rw [h.st]
    rw [h.rows] at h1
    exact ⟨_, _, _, h1, h.len⟩
theorem ref_ckp_yes {l : List Op_} {D1 : Dk} {s1 : Js} {m : Nat} {E : Int} {u1 : T3} {p1 : Pl} (h : RefAdd l D1 s1 m E u1 p1) {rows : List Rw} (hr : rowsE rows = 0) : ∃ s2 e, Js.ckp s1 rows = (s2, e) ∧ (e = 0 ∨ e = 7) := by
  rw [h.st]
  rcases ckp_good h.good h.ok rows hr (by rw [h.t]; omega) (by rw [h.n, h.len]; have := h.m1; omega) (-1) [] with ⟨_, h1⟩ | ⟨h0, _⟩ | ⟨u', left', h1, _⟩
  · exact ⟨_, _, h1, .inr rfl⟩
  · exact absurd h0 (by omega)
  · exact ⟨_, _, h1, .inl rfl⟩
end Go.Proofs.YtamglegdgcehaaaGreat
