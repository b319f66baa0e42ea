/-
  Layer 9: the document's list: Get, Steps, First, Last, Len, Step.
-/
import Derived.Test.YtcpbcoeccplliaaSkRef
set_option linter.unusedVariables false
namespace Go.Proofs.Ytcpbcoeccplliaa
open Go.RowKit

/-- What stands at a key's place. -/
theorem rf_cases (w : World) (b : Nat) (v : Value) (l : List Kv) (key : ByteArray) (h : RfR w b v l) :
    (∃ A c, v = .slice A l.length c ∧ l.length ≤ c ∧ c ≤ 9223372036854775807 ∧ w.cell? ⟨b, 0, none⟩ = some (.slice A l.length c)) ∧
      ((khas l key = true ∧ ∃ x, ∃ hp : kpos l key < l.length, x = l[kpos l key]'hp ∧ (∃ n, x.val = .int .i64 n) ∧ x.key = key ∧ kval (.int .i64 0) l key = x.val ∧ ksteps l key = x.st ∧ ∃ bb o c, v = .slice (some ⟨bb, o, none⟩) l.length c ∧ w.cell? ⟨bb, o + kpos l key * 3, none⟩ = some (.string x.key) ∧ w.cell? ⟨bb, o + kpos l key * 3 + 1, none⟩ = some x.val ∧ w.cell? ⟨bb, o + kpos l key * 3 + 2, none⟩ = some (.int .i64 (x.st : Int))) ∨
        (khas l key = false ∧ kval (.int .i64 0) l key = .int .i64 0 ∧ ksteps l key = 0)) := by
  obtain ⟨A, c, rfl, hat, hnc, hcm⟩ := h.row.form
  refine ⟨⟨A, c, rfl, hnc, hcm, h.obj.cell 0⟩, ?_⟩
  cases hh : khas l key with
  | true =>
    obtain ⟨hp, hk⟩ := (khas_iff _ _).1 hh
    obtain ⟨bb, o, rfl, hc⟩ := hat.2 (by omega)
    obtain ⟨c1, c2, c3⟩ := hc _ hp
    exact .inl ⟨rfl, _, hp, rfl, h.nums _ (List.getElem_mem hp), hk, by rw [kval_eq hp hh], by unfold ksteps; rw [hh, if_pos rfl, stAt_eq hp], bb, o, c, rfl, c1, c2, c3⟩
  | false => exact .inr ⟨rfl, by unfold kval; rw [hh]; rfl, by unfold ksteps; rw [hh]; rfl⟩
set_option maxRecDepth 100000 in
set_option maxHeartbeats 4000000 in
theorem rf_get (w : World) (b : Nat) (v : Value) (l : List Kv) (key : ByteArray) (h : RfR w b v l) : Calls Try.prog 17 #[pt b, .string key] w fun e w' => e = .returned (.tuple #[kval (.int .i64 0) l key, .bool (khas l key)]) ∧ w' = w := by
  have AT := Lib.hid (rf_at w b v l key h)
  have HA := Lib.hid (rf_has w b v l key h)
  obtain ⟨⟨A, c, rfl, hnc, hcm, c0⟩, hx⟩ := rf_cases w b v l key h
  have hpl := kpos_le l key
  rcases hx with ⟨hh, x, hp, hxe, ⟨n, hn⟩, hk, e1, e2, bb, o, c', e3, c1, c2, c3⟩ | ⟨hh, e1, e2⟩
  · injection e3 with e3 _ e4
    subst e3
    rw [hh] at HA ⊢
    rw [e1, hn]
    rw [hn] at c2
    clear h hh hxe hn hk e1 e2 e4
    generalize kpos l key = p at *
    go_enter Try.func17, Try.ntmps17
    go_wp2_with (first
      | (go_at_call 45; refine AT.out.mono ?_; rintro e w2 ⟨rfl, hw⟩; obtain rfl : w = w2 := hw.symm)
      | (go_at_call 46; refine HA.out.mono ?_; rintro e w2 ⟨rfl, hw⟩; obtain rfl : w = w2 := hw.symm))
    go_ret2
    exact ⟨rfl, rfl⟩
  · rw [hh] at HA ⊢
    rw [e1]
    clear h hh e1 e2
    generalize kpos l key = p at *
    go_enter Try.func17, Try.ntmps17
    go_wp2_with (first
      | (go_at_call 45; refine AT.out.mono ?_; rintro e w2 ⟨rfl, hw⟩; obtain rfl : w = w2 := hw.symm)
      | (go_at_call 46; refine HA.out.mono ?_; rintro e w2 ⟨rfl, hw⟩; obtain rfl : w = w2 := hw.symm))
    go_ret2
    exact ⟨rfl, rfl⟩
set_option maxRecDepth 100000 in
set_option maxHeartbeats 4000000 in
theorem rf_steps (w : World) (b : Nat) (v : Value) (l : List Kv) (key : ByteArray) (h : RfR w b v l) : Calls Try.prog 23 #[pt b, .string key] w fun e w' => e = .returned (.int .i64 ((ksteps l key : Nat) : Int)) ∧ w' = w := by
  have AT := Lib.hid (rf_at w b v l key h)
  have HA := Lib.hid (rf_has w b v l key h)
  obtain ⟨⟨A, c, rfl, hnc, hcm, c0⟩, hx⟩ := rf_cases w b v l key h
  have hpl := kpos_le l key
  rcases hx with ⟨hh, x, hp, hxe, ⟨n, hn⟩, hk, e1, e2, bb, o, c', e3, c1, c2, c3⟩ | ⟨hh, e1, e2⟩
  · injection e3 with e3 _ e4
    subst e3
    rw [hh] at HA
    rw [e2]
    clear h hh hxe hn hk e1 e2 e4
    generalize kpos l key = p at *
    go_enter Try.func23, Try.ntmps23
    go_wp2_with (first
      | (go_at_call 45; refine AT.out.mono ?_; rintro e w2 ⟨rfl, hw⟩; obtain rfl : w = w2 := hw.symm)
      | (go_at_call 46; refine HA.out.mono ?_; rintro e w2 ⟨rfl, hw⟩; obtain rfl : w = w2 := hw.symm))
    go_ret
    exact ⟨rfl, rfl⟩
  · rw [hh] at HA
    rw [e2]
    clear h hh e1 e2
    generalize kpos l key = p at *
    go_enter Try.func23, Try.ntmps23
    go_wp2_with (first
      | (go_at_call 45; refine AT.out.mono ?_; rintro e w2 ⟨rfl, hw⟩; obtain rfl : w = w2 := hw.symm)
      | (go_at_call 46; refine HA.out.mono ?_; rintro e w2 ⟨rfl, hw⟩; obtain rfl : w = w2 := hw.symm))
    go_ret
    exact ⟨rfl, rfl⟩
set_option maxRecDepth 100000 in
theorem rf_len (w : World) (b : Nat) (v : Value) (l : List Kv) (h : RfR w b v l) : Calls Try.prog 15 #[pt b] w fun e w' => e = .returned (.int .i64 (l.length : Int)) ∧ w' = w := by
  obtain ⟨A, c, rfl, _, hnc, hcm⟩ := h.row.form
  have c0 : w.cell? ⟨b, 0, none⟩ = some (.slice A l.length c) := h.obj.cell 0
  clear h
  go_enter Try.func15, Try.ntmps15
  go_wp2_with fail
  go_ret
  exact ⟨rfl, rfl⟩
set_option maxRecDepth 100000 in
set_option maxHeartbeats 4000000 in
theorem rf_first (w : World) (b : Nat) (v : Value) (l : List Kv) (key : ByteArray) (h : RfR w b v l) : Calls Try.prog 19 #[pt b, .string key] w fun e w' => e = .returned (firstV l key) ∧ w' = w := by
  have AT := Lib.hid (rf_at w b v l key h)
  obtain ⟨A, c, rfl, hat, hnc, hcm⟩ := h.row.form
  have c0 : w.cell? ⟨b, 0, none⟩ = some (.slice A l.length c) := h.obj.cell 0
  have hpl := kpos_le l key
  by_cases hp : kpos l key < l.length
  · obtain ⟨bb, o, rfl, hc⟩ := hat.2 (by omega)
    have c1 := (hc _ hp).1
    have hv : firstV l key = .tuple #[.string (l[kpos l key]'hp).key, .bool true] := by
      unfold firstV
      rw [keyAt_eq hp, decide_eq_true hp]
    rw [hv]
    have hne : ((kpos l key : Int) == (l.length : Int)) = false := by simp; omega
    clear h hc hat hv
    generalize (l[kpos l key]'hp).key = k at *
    generalize kpos l key = p at *
    go_enter Try.func19, Try.ntmps19
    go_wp2_with (first
      | (go_at_call 45; refine AT.out.mono ?_; rintro e w2 ⟨rfl, hw⟩; obtain rfl : w = w2 := hw.symm))
    go_ret2
    exact ⟨rfl, rfl⟩
  · have hv : firstV l key = .tuple #[.string ⟨#[]⟩, .bool false] := by
      unfold firstV keyAt
      rw [List.getElem?_eq_none (by omega), decide_eq_false hp]
      rfl
    rw [hv]
    have e : kpos l key = l.length := by omega
    rw [e] at AT
    clear h hat hv hp hpl e
    go_enter Try.func19, Try.ntmps19
    go_wp2_with (first
      | (go_at_call 45; refine AT.out.mono ?_; rintro e w2 ⟨rfl, hw⟩; obtain rfl : w = w2 := hw.symm))
    go_ret2
    exact ⟨rfl, rfl⟩
theorem kend_le (l : List Kv) (k : ByteArray) : kend l k ≤ l.length := by
  unfold kend
  split
  · exact Nat.le_refl _
  · exact kpos_le _ _
set_option maxRecDepth 100000 in
set_option maxHeartbeats 4000000 in
theorem rf_last (w : World) (b : Nat) (v : Value) (l : List Kv) (key : ByteArray) (h : RfR w b v l) : Calls Try.prog 21 #[pt b, .string key] w fun e w' => e = .returned (lastV l key) ∧ w' = w := by
  have AT := Lib.hid (rf_at w b v l key h)
  obtain ⟨A, c, rfl, hat, hnc, hcm⟩ := h.row.form
  have c0 : w.cell? ⟨b, 0, none⟩ = some (.slice A l.length c) := h.obj.cell 0
  have hel := kend_le l key
  have hlv : (kend l key = 0 ∧ lastV l key = .tuple #[.string ⟨#[]⟩, .bool false]) ∨ (0 < kend l key ∧ ∃ k bb o, A = some ⟨bb, o, none⟩ ∧ lastV l key = .tuple #[.string k, .bool true] ∧ w.cell? ⟨bb, o + (kend l key - 1) * 3, none⟩ = some (.string k)) := by
    unfold lastV
    rcases Nat.eq_zero_or_pos (kend l key) with e | e
    · exact .inl ⟨e, by rw [if_pos e, e]; rfl⟩
    · obtain ⟨bb, o, e2, hc⟩ := hat.2 (by omega)
      have hp : kend l key - 1 < l.length := by omega
      exact .inr ⟨e, _, bb, o, e2, by rw [if_neg (by omega), keyAt_eq hp, decide_eq_true e], (hc _ hp).1⟩
  by_cases h0 : key.toList = []
  · have h1 : key.toList.isEmpty = true := by rw [h0]; rfl
    have he : kend l key = l.length := by unfold kend; rw [if_pos h0]
    rw [he] at hlv
    clear h hat h0 he hel
    generalize kpos l key = p at *
    rcases hlv with ⟨e, hv⟩ | ⟨e, k, bb, o, rfl, hv, c1⟩
    · rw [hv]
      rw [e] at c0
      clear hv hnc e
      go_enter Try.func21, Try.ntmps21
      go_wp2_with (first
        | (go_at_call 45; refine AT.out.mono ?_; rintro e w2 ⟨rfl, hw⟩; obtain rfl : w = w2 := hw.symm))
      go_ret2
      exact ⟨rfl, rfl⟩
    · rw [hv]
      obtain ⟨m, hm⟩ : ∃ m, l.length = m + 1 := ⟨l.length - 1, by omega⟩
      rw [hm] at c0 c1 hnc
      rw [show m + 1 - 1 = m from rfl] at c1
      clear hv e hm
      have j0 : (((m + 1 : Nat) : Int) == 0) = false := by simp; omega
      go_enter Try.func21, Try.ntmps21
      go_wp2_with (first
        | (go_at_call 45; refine AT.out.mono ?_; rintro e w2 ⟨rfl, hw⟩; obtain rfl : w = w2 := hw.symm))
      go_ret2
      exact ⟨rfl, rfl⟩
  · have h1 : key.toList.isEmpty = false := by simpa using h0
    have he : kend l key = kpos l key := by unfold kend; rw [if_neg h0]
    rw [he] at hlv hel
    clear h hat h0 he
    generalize kpos l key = p at *
    rcases hlv with ⟨e, hv⟩ | ⟨e, k, bb, o, rfl, hv, c1⟩
    · rw [hv]
      subst e
      clear hv
      go_enter Try.func21, Try.ntmps21
      go_wp2_with (first
        | (go_at_call 45; refine AT.out.mono ?_; rintro e w2 ⟨rfl, hw⟩; obtain rfl : w = w2 := hw.symm))
      go_ret2
      exact ⟨rfl, rfl⟩
    · rw [hv]
      obtain ⟨m, rfl⟩ : ∃ m, p = m + 1 := ⟨p - 1, by omega⟩
      rw [show m + 1 - 1 = m from rfl] at c1
      clear hv e
      have j0 : (((m + 1 : Nat) : Int) == 0) = false := by simp; omega
      go_enter Try.func21, Try.ntmps21
      go_wp2_with (first
        | (go_at_call 45; refine AT.out.mono ?_; rintro e w2 ⟨rfl, hw⟩; obtain rfl : w = w2 := hw.symm))
      go_ret2
      exact ⟨rfl, rfl⟩
end Go.Proofs.Ytcpbcoeccplliaa
