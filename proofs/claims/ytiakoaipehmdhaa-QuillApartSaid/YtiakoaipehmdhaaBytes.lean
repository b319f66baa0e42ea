/-
  bytes.Equal, bytes.HasPrefix, bytes.Compare.
-/
import Derived.Test.YtiakoaipehmdhaaMath
import Derived.Lib.BytesEntry
import Derived.Lib.Bytealg
set_option linter.unusedVariables false
namespace Go.Proofs.Ytiakoaipehmdhaa
open Go.RowKit

theorem bytesEqual (A B : Option Addr) (n m c d : Nat) (xs ys : List UInt8) (w : World) (hx : At w A n xs) (hy : At w B m ys) :
    Calls Try.prog 36 #[.slice A n c, .slice B m d] w fun e w' => e = .returned (.bool (xs == ys)) ∧ w = w' := by
  have k1 := hx.conv (P := Try.prog) c 22 5 9 Try.underlying22 Try.underlying5 Try.underlying9
  have k2 := hy.conv (P := Try.prog) d 22 5 9 Try.underlying22 Try.underlying5 Try.underlying9
  go_enter Try.func36, Try.ntmps36
  go_wp2
  go_ret
  exact ⟨rfl, rfl⟩

def hasP (xs ys : List UInt8) : Bool := decide (ys.length ≤ xs.length) && (xs.take ys.length == ys)

theorem At.upto' {w : World} {A : Option Addr} {n : Nat} {xs : List UInt8} (h : At w A n xs) (k : Nat) (hk : k ≤ n) : At w A k (xs.take k) := by
  have h1 := h.cut (l := 0) (k := k) (m := k) (Nat.zero_le _) hk (Nat.le_refl _)
  rw [cutA_zero] at h1
  simpa using h1

theorem bytesHasPrefix (A B : Option Addr) (n m c d : Nat) (xs ys : List UInt8) (w : World) (hx : At w A n xs) (hy : At w B m ys) (hnc : n ≤ c) :
    Calls Try.prog 30 #[.slice A n c, .slice B m d] w fun e w' => e = .returned (.bool (hasP xs ys)) ∧ w = w' := by
  have hxl := hx.1
  have hyl := hy.1
  by_cases h : m ≤ n
  · have HP := Lib.hid (show hasP xs ys = (xs.take m == ys) by unfold hasP; rw [hyl, hxl]; simp [h])
    have hx' := hx.upto' m h
    clear hxl hyl
    go_enter Try.func30, Try.ntmps30
    go_wp2_with fail
    refine (bytesEqual A B m m c d _ ys _ hx' hy).mono ?_
    rintro e w' ⟨rfl, rfl⟩
    rw [← HP.out]
    go_wp2
    go_ret
    exact ⟨rfl, rfl⟩
  · have HP := Lib.hid (show hasP xs ys = false by unfold hasP; rw [hyl, hxl]; simp [h])
    have h' : n < m := by omega
    have hd : decide (m ≤ n) = false := by simp; omega
    clear hxl hyl h
    go_enter Try.func30, Try.ntmps30
    go_wp2
    go_ret
    exact ⟨by rw [HP.out]; rfl, rfl⟩

theorem At.read {P : Program} {w : World} {A : Option Addr} {n : Nat} {xs : List UInt8} (h : At w A n xs) (c : Nat) : (Extern.Bytes.bytesOf (.slice A n c)).run P w = .ok ⟨xs.toArray⟩ w := by
  cases A with
  | none =>
    have hn : n = 0 := by
      rcases Nat.eq_zero_or_pos n with h0 | h0
      · exact h0
      · obtain ⟨b, o, hh, _⟩ := h.2 h0
        cases hh
    subst hn
    obtain rfl : xs = [] := List.eq_nil_of_length_eq_zero h.1
    rfl
  | some a =>
    have hl := Lib.run_loadBytesX (P := P) w (xs.map fun x => (x.toNat : Int)) a .empty (fun j x hj => by
      have hjl : j < xs.length := by
        rcases Nat.lt_or_ge j xs.length with h0 | h0
        · exact h0
        · rw [List.getElem?_eq_none (by simpa using h0)] at hj
          cases hj
      obtain ⟨b, o, e, hc⟩ := h.2 (by have := h.1; omega)
      injection e with e
      subst e
      rw [Go.WideShapes.add_plain, hc j hjl]
      rw [List.getElem?_map, List.getElem?_eq_getElem hjl] at hj
      injection hj with hj
      subst hj
      rfl)
    rw [List.length_map, h.1] at hl
    show (Extern.Bytes.loadBytes a n .empty).run P w = _
    rw [hl]
    congr 1
    apply ByteArray.ext
    simp [Lib.bytesOf]
    simp [Function.comp_def]

theorem run_cmp (A B : Option Addr) (n m c d : Nat) (xs ys : List UInt8) (w : World) (hx : At w A n xs) (hy : At w B m ys) :
    (callFunc 35 #[.slice A n c, .slice B m d]).run Try.prog w = .ok (.value (.int .i64 (Lib.compareBytes xs ys))) w := by
  have h1 := hx.read (P := Try.prog) c
  have h2 := hy.read (P := Try.prog) d
  have h3 := Lib.cmp_eq ⟨xs.toArray⟩ ⟨ys.toArray⟩
  rw [run_callFunc_extern Try.func35 (by kernel_rfl) (by kernel_rfl) (by kernel_rfl) (e := Extern.BytealgCompare.compare) (by kernel_rfl)]
  have h4 : (Extern.BytealgCompare.compare #[.slice A n c, .slice B m d]).run Try.prog w = .ok (.int .i64 (Lib.compareBytes xs ys)) w := by
    change Sem.run Try.prog (do pure (goInt (Extern.BytealgCompare.cmp (← Extern.Bytes.bytesOf (.slice A n c)) (← Extern.Bytes.bytesOf (.slice B m d))))) w = _
    simp only [Sem.run_bind, Sem.run_pure, h1, h2, Result.andThen, h3]
    rfl
  rw [h4]
  rfl
theorem bytesCompare (A B : Option Addr) (n m c d : Nat) (xs ys : List UInt8) (w : World) (hx : At w A n xs) (hy : At w B m ys) :
    Calls Try.prog 28 #[.slice A n c, .slice B m d] w fun e w' => e = .returned (.int .i64 (Lib.compareBytes xs ys)) ∧ w = w' := by
  have h := run_cmp A B n m c d xs ys w hx hy
  go_enter Try.func28, Try.ntmps28
  go_wp2
  go_ret
  exact ⟨rfl, rfl⟩

theorem hasP_refl (xs : List UInt8) : hasP xs xs = true := by simp [hasP]
theorem hasP_split {xs ys : List UInt8} (h : hasP xs ys = true) : ∃ r, xs = ys ++ r := by
  unfold hasP at h
  simp only [Bool.and_eq_true, decide_eq_true_eq, beq_iff_eq] at h
  exact ⟨xs.drop ys.length, by conv => lhs; rw [← List.take_append_drop ys.length xs, h.2]⟩

theorem hasP_enc {n m : Nat} (hn : n ≤ 9007199254740991) (hm : m ≤ 9007199254740991) (hne : n ≠ m) : hasP (enc n) (enc m) = false := by
  cases h : hasP (enc n) (enc m) with
  | false => rfl
  | true =>
    obtain ⟨r, hr⟩ := hasP_split h
    have h1 := tk_enc n [] hn
    rw [List.append_nil, hr, tk_enc m r hm] at h1
    injection h1 with h1
    exact absurd h1.symm hne

theorem val_cons (a : UInt8) (l : List UInt8) : val (a :: l) = a.toNat * 256 ^ l.length + val l := by
  rcases List.eq_nil_or_concat l with rfl | ⟨r, b, rfl⟩
  · simp [val]
  · have ih := val_cons a r
    rw [List.concat_eq_append, ← List.cons_append, val_snoc, val_snoc, ih, List.length_append, List.length_singleton, Nat.pow_succ]
    rw [Nat.add_mul, Nat.mul_assoc]
    omega
termination_by l.length
decreasing_by subst_vars; simp

theorem cmp_val : ∀ (l1 l2 : List UInt8), l1.length = l2.length → Lib.compareBytes l1 l2 = if val l1 < val l2 then -1 else if val l2 < val l1 then 1 else 0
  | [], [], _ => by simp [Lib.compareBytes]
  | [], _ :: _, h => by simp at h
  | _ :: _, [], h => by simp at h
  | a :: l1, b :: l2, h => by
    have hl : l1.length = l2.length := by simpa using h
    have ih := cmp_val l1 l2 hl
    have h1 := val_lt l1
    have h2 := val_lt l2
    rw [hl] at h1
    unfold Lib.compareBytes
    rw [val_cons, val_cons, hl]
    have hP : 0 < 256 ^ l2.length := Nat.pow_pos (by omega)
    generalize 256 ^ l2.length = P at h1 h2 hP
    by_cases hab : a < b
    · rw [if_pos hab]
      have hab' : a.toNat + 1 ≤ b.toNat := hab
      have : (a.toNat + 1) * P ≤ b.toNat * P := Nat.mul_le_mul_right _ hab'
      rw [Nat.add_mul] at this
      rw [if_pos (by omega)]
    · rw [if_neg hab]
      by_cases hba : b < a
      · rw [if_pos hba]
        have hba' : b.toNat + 1 ≤ a.toNat := hba
        have : (b.toNat + 1) * P ≤ a.toNat * P := Nat.mul_le_mul_right _ hba'
        rw [Nat.add_mul] at this
        rw [if_neg (by omega), if_pos (by omega)]
      · rw [if_neg hba, ih]
        have e : a.toNat = b.toNat := by
          have h3 : ¬ a.toNat < b.toNat := hab
          have h4 : ¬ b.toNat < a.toNat := hba
          omega
        rw [e]
        by_cases h5 : val l1 < val l2
        · rw [if_pos h5, if_pos (by omega)]
        · rw [if_neg h5]
          by_cases h6 : val l2 < val l1
          · rw [if_pos h6, if_neg (by omega), if_pos (by omega)]
          · rw [if_neg h6, if_neg (by omega), if_neg (by omega)]

theorem digs_ge (m : Nat) (hm : 0 < m) : 0 < (digs m).length ∧ 256 ^ ((digs m).length - 1) ≤ m := by
  induction m using Nat.strongRecOn with
  | _ m ih =>
    rw [digs_pos m hm, List.length_append, List.length_singleton]
    refine ⟨by omega, ?_⟩
    rw [Nat.add_sub_cancel]
    rcases Nat.eq_zero_or_pos (m / 256) with h0 | h0
    · rw [h0, digs_zero]; simp; omega
    · obtain ⟨h1, h2⟩ := ih (m / 256) (by omega) h0
      have e : 256 ^ (digs (m / 256)).length = 256 * 256 ^ ((digs (m / 256)).length - 1) := by
        rw [← Nat.pow_succ', show ((digs (m / 256)).length - 1).succ = (digs (m / 256)).length from by omega]
      rw [e]
      omega

theorem digs_lt {n m : Nat} (h : (digs n).length < (digs m).length) : n < m := by
  have hm : 0 < m := by
    rcases Nat.eq_zero_or_pos m with h0 | h0
    · subst h0; rw [digs_zero] at h; simp at h
    · exact h0
  have h1 := (digs_ge m hm).2
  have h2 := val_lt (digs n)
  rw [val_digs] at h2
  have h3 : 256 ^ (digs n).length ≤ 256 ^ ((digs m).length - 1) := Nat.pow_le_pow_right (by omega) (by omega)
  omega

theorem cmp_enc {n m : Nat} (hn : n ≤ 9007199254740991) (hm : m ≤ 9007199254740991) : Lib.compareBytes (enc n) (enc m) = if n < m then -1 else if m < n then 1 else 0 := by
  have h1 := digs_len7 n hn
  have h2 := digs_len7 m hm
  have e : ∀ k, k ≤ 7 → (UInt8.ofNat k).toNat = k := fun k hk => by rw [UInt8.toNat_ofNat']; omega
  unfold enc Lib.compareBytes
  have lt_iff : ∀ i j, i ≤ 7 → j ≤ 7 → (UInt8.ofNat i < UInt8.ofNat j ↔ i < j) := fun i j hi hj => by
    rw [UInt8.lt_iff_toNat_lt, e i hi, e j hj]
  by_cases h3 : (digs n).length < (digs m).length
  · rw [if_pos ((lt_iff _ _ h1 h2).2 h3), if_pos (digs_lt h3)]
  · rw [if_neg (fun h => h3 ((lt_iff _ _ h1 h2).1 h))]
    by_cases h4 : (digs m).length < (digs n).length
    · have := digs_lt h4
      rw [if_pos ((lt_iff _ _ h2 h1).2 h4), if_neg (by omega), if_pos this]
    · rw [if_neg (fun h => h4 ((lt_iff _ _ h2 h1).1 h)), cmp_val _ _ (by omega), val_digs, val_digs]

end Go.Proofs.Ytiakoaipehmdhaa
