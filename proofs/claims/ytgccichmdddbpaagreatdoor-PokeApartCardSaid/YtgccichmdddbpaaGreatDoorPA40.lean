/-
  Layer 13, plain: a write changes one row at most; what others read below its stamp is as it was.
-/
import Derived.Test.YtgccichmdddbpaaGreatDoorPA33
import Derived.Test.YtgccichmdddbpaaGreatDoorPA39
set_option linter.unusedVariables false
set_option linter.unusedSimpArgs false
set_option maxRecDepth 100000
namespace Go.Proofs.YtgccichmdddbpaaGreatDoor
open Go.RowKit

/-- A row that the table does not have so. -/
def chgd (r : List Rw) (x : Rw) : Bool := !(rhas r x.key && decide (rval r x.key = x.value))
def cntC (r R : List Rw) : Nat := R.countP (chgd r)
theorem row_same {r : List Rw} (hs : RSor r) {x : Rw} (hx : x ∈ r) : rhas r x.key = true ∧ rval r x.key = x.value := by
  obtain ⟨i, hi, rfl⟩ := List.getElem_of_mem hx
  have hp := rpos_self hs hi
  have hh : rhas r (r[i]'hi).key = true := by
    rw [rhas_iff]
    refine ⟨by rw [hp]; exact hi, ?_⟩
    congr 1
    congr 1
  refine ⟨hh, ?_⟩
  unfold rval
  rw [if_pos hh, hp, List.getElem?_eq_getElem hi]
  rfl
theorem chgd_in {r : List Rw} (hs : RSor r) {x : Rw} (hx : x ∈ r) : chgd r x = false := by
  obtain ⟨a, b⟩ := row_same hs hx
  unfold chgd
  simp [a, b]
theorem cnt_self {r : List Rw} (hs : RSor r) : cntC r r = 0 := List.countP_eq_zero.2 fun x hx => by rw [chgd_in hs hx]; simp
theorem cnt_one {r : List Rw} (hs : RSor r) {K V : ByteArray} (hn : ¬ (rhas r K = true ∧ rval r K = V)) : cntC r (rone r ⟨K, V, false⟩) = 1 ∧ r.length ≤ (rone r ⟨K, V, false⟩).length := by
  have hc : chgd r ⟨K, V⟩ = true := by
    unfold chgd
    cases h : rhas r K with
    | false => rfl
    | true =>
      have : ¬ rval r K = V := fun e => hn ⟨h, e⟩
      simp [this]
  have h1 : (r.take (rpos r K)).countP (chgd r) = 0 := List.countP_eq_zero.2 fun x hx => by rw [chgd_in hs (List.mem_of_mem_take hx)]; simp
  have h2 : (r.drop (rrest r K)).countP (chgd r) = 0 := List.countP_eq_zero.2 fun x hx => by rw [chgd_in hs (List.mem_of_mem_drop hx)]; simp
  constructor
  · unfold cntC rone
    simp only [Bool.false_eq_true, if_false, List.countP_append, List.countP_cons, List.countP_nil, h1, h2, hc, if_true]
  · unfold rone
    have h3 := rpos_le r K
    have h4 : rrest r K ≤ rpos r K + 1 := by unfold rrest; split <;> omega
    simp only [Bool.false_eq_true, if_false, List.length_append, List.length_take, List.length_drop, List.length_cons, List.length_nil]
    omega
theorem rapp_one {r : List Rw} {K V : ByteArray} (hK : K.toList ≠ []) : rapp r [⟨K, V, false⟩] = rone r ⟨K, V, false⟩ := by
  have h : chk [⟨K, V, false⟩] = 0 := by
    unfold chk opBad
    cases h : K.toList with
    | nil => exact absurd h hK
    | cons => simp [h]
  unfold rapp
  rw [if_pos h]
  rfl
/-- What a write lays down is not there yet. -/
theorem pput_new {r : List Rw} {key : ByteArray} {c : Ch} {x : Tx} {m : Int × Int} {dd : Dn} (h : pputC r key c x m = (dd, 0)) {y : It} (hy : dd.o = some y) :
    ¬ (rhas r (bs (ikey (sb key))) = true ∧ rval r (bs (ikey (sb key))) = bs (txI y)) := by
  rintro ⟨-, hv⟩
  rcases (pput_ok h).2 with ⟨y', l, a1, a2, a3, a4, _⟩ | ⟨a1, _⟩
  · rw [hy] at a1
    injection a1 with a1
    subst a1
    have hp : pint r key = some y := by
      unfold pint
      rw [hv, sb_bs]
      exact tkI_tx _ a2
    have hc := chkW_ok (pput_ok h).1
    unfold pputC at h
    rw [if_pos (pput_ok h).1, hp] at h
    unfold putW at h
    simp only at h
    rw [if_neg (fun e => e a3), if_neg (by omega), if_neg (by omega)] at h
    rcases goW_ok hc.2.2.2 (.inr a2) h with ⟨y2, b1, b2, b3, _⟩ | ⟨b1, _⟩
    · rw [hy] at b1
      injection b1 with b1
      subst b1
      have e := congrArg (fun z => z.l.length) b3
      simp [wIt] at e
    · rw [hy] at b1
      cases b1
  · rw [hy] at a1
    cases a1
/-- How many rows turn. -/
theorem pput_rows {r : List Rw} (hs : RSor r) {key : ByteArray} {c : Ch} {x : Tx} {m : Int × Int} {dd : Dn} (h : pputC r key c x m = (dd, 0)) :
    cntC r (rapp r (opsD key dd)) = (opsD key dd).length ∧ r.length ≤ (rapp r (opsD key dd)).length := by
  cases hd : dd.o with
  | none =>
    have e : opsD key dd = [] := by unfold opsD; rw [hd]
    rw [e, rapp_nil]
    exact ⟨cnt_self hs, Nat.le_refl _⟩
  | some y =>
    have e : opsD key dd = [⟨bs (ikey (sb key)), bs (txI y), false⟩] := by unfold opsD; rw [hd]
    rw [e, rapp_one (ikey_ne key)]
    exact cnt_one hs (pput_new h hd)
theorem pput_mine {r : List Rw} {key : ByteArray} {c : Ch} {x : Tx} {m : Int × Int} {dd : Dn} (h : pputC r key c x m = (dd, 0)) {y0 : It} (hy : pint r key = some y0) : y0.id = x.id := by
  have hc := (pput_ok h).1
  unfold pputC at h
  rw [if_pos hc, hy] at h
  unfold putW at h
  simp only at h
  split at h
  · injection h with _ h; cases h
  · rename_i g
    exact Classical.not_not.1 g
theorem rone_filter {r : List Rw} (P : Rw → Bool) (K V : ByteArray) (hP : ∀ x : Rw, x.key = K → P x = false) : (rone r ⟨K, V, false⟩).filter P = r.filter P := by
  have h0 : [(⟨K, V⟩ : Rw)].filter P = [] := by simp [hP ⟨K, V⟩ rfl]
  unfold rone
  simp only [Bool.false_eq_true, if_false, List.filter_append, h0, List.append_nil]
  conv => rhs; rw [← List.take_append_drop (rpos r K) r]
  rw [List.filter_append]
  congr 1
  unfold rrest
  by_cases hh : rhas r K = true
  · rw [if_pos hh]
    obtain ⟨hp, hk⟩ := (rhas_iff r K).1 hh
    rw [List.drop_eq_getElem_cons hp, List.filter_cons, hP _ hk]
    simp
  · rw [if_neg hh]
    rfl
theorem iv_kl (s t : List UInt8) (a b : Int) : kl (bs (ikey s)) (bs (vkey t a b)) = true := by
  unfold kl
  rw [Lib.toList_data, Lib.toList_data]
  rfl
theorem pver_put {r : List Rw} (hs : RSor r) (key V : ByteArray) (t : Int × Int) : pverC (rone r ⟨bs (ikey (sb key)), V, false⟩) key t = pverC r key t := by
  unfold pverC behK
  rw [btw_filter (RSor.one hs _) _ _ (zr_ne _), btw_filter hs _ _ (zr_ne _)]
  congr 1
  exact rone_filter _ _ _ (fun x hx => by rw [hx, iv_kl]; rfl)
/-- What another reads below the write's stamp: as it was, unless the writer's intent was in the way. -/
theorem pget_apart {r : List Rw} (hs : RSor r) {key : ByteArray} {c : Ch} {x z : Tx} {m : Int × Int} {dd : Dn} (h : pputC r key c x m = (dd, 0)) (hid : ¬ z.id = x.id) (htop : lt (topX z) (dd.a, dd.b) = true) (low : Int × Int) :
    ((pgetC r key z low).2 = 120 ∧ (pgetC r key z low).1.it.id = x.id) ∨ pgetC r key z low = pgetC (rapp r (opsD key dd)) key z low := by
  cases hd : dd.o with
  | none =>
    have e : opsD key dd = [] := by unfold opsD; rw [hd]
    rw [e, rapp_nil]
    exact .inr rfl
  | some y =>
    obtain ⟨y', b1, b2, b3, b4, b5, -, -⟩ := pput_int hs h
    have e : opsD key dd = [⟨bs (ikey (sb key)), bs (txI y), false⟩] := by unfold opsD; rw [hd]
    rw [e, rapp_one (ikey_ne key)] at b1
    rw [e, rapp_one (ikey_ne key)]
    unfold pgetC
    rw [pget_chk, pget_chk]
    by_cases hck : chkP (isK key) z low = 0
    · rw [if_pos hck, if_pos hck]
      unfold preadC
      rw [pver_put hs, b1]
      have hR : preadW (some y') (pverC r key (topX z)) key z = newF (pverC r key (topX z)) key z := by
        unfold preadW
        simp only
        rw [if_neg (fun e => hid (by omega)), if_neg (fun e => hid (by omega)), if_neg (fun e => by rw [← b4, ← b5, htop] at e; exact absurd e.2 (by decide))]
      rw [hR]
      cases hy0 : pint r key with
      | none => exact .inr rfl
      | some y0 =>
        have h0 := pput_mine h hy0
        unfold preadW
        simp only
        rw [if_neg (fun e => hid (by omega)), if_neg (fun e => hid (by omega))]
        by_cases hl : lt (topX z) (y0.sw, y0.sl) = false
        · rw [if_pos ⟨fun e => hid (by omega), hl⟩]
          exact .inl ⟨rfl, h0⟩
        · rw [if_neg (fun e => hl e.2)]
          exact .inr rfl
    · rw [if_neg hck, if_neg hck]
      exact .inr rfl
end Go.Proofs.YtgccichmdddbpaaGreatDoor
