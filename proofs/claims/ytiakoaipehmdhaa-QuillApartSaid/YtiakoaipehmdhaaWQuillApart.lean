/-
  QuillApart: the walk.
-/
import Derived.Test.YtiakoaipehmdhaaAny
import Derived.Test.YtiakoaipehmdhaaBytes
set_option linter.unusedVariables false
namespace Go.Proofs.Ytiakoaipehmdhaa
open Go.RowKit

theorem hasP_str (s t : ByteArray) (hs : s.size ≤ 9007199254740991) (ht : t.size ≤ 9007199254740991) (hne : s ≠ t) : hasP (enc s.size ++ sb s) (enc t.size ++ sb t) = false := by
  cases h : hasP (enc s.size ++ sb s) (enc t.size ++ sb t) with
  | false => rfl
  | true =>
    obtain ⟨r, hr⟩ := hasP_split h
    have h1 := tk_enc s.size (sb s) hs
    rw [hr, List.append_assoc, tk_enc t.size _ ht] at h1
    injection h1 with h1 h2
    injection h2 with h2
    have l1 := sb_len s
    have l2 := sb_len t
    rw [← h2, List.length_append] at l1
    have : r = [] := List.eq_nil_of_length_eq_zero (by omega)
    rw [this, List.append_nil] at h2
    apply absurd _ hne
    apply ByteArray.ext
    exact (Array.toList_inj.1 h2).symm

set_option maxHeartbeats 1000000 in
theorem quillApart_walk (s t : ByteArray) (w : World) (hs : s.size ≤ 140737488351232) (ht : t.size ≤ 140737488351232) :
    Calls Try.prog 10 #[.string s, .string t] w fun e w' => e = .returned (.bool true) ∧ Below w.heap.size w w' := by
  go_enter Try.func10, Try.ntmps10
  go_wp2_with fail
  refine (works _).mono ?_
  rintro e w1 ⟨rfl, hb⟩
  go_wp2_with fail
  have q1 : (0 : Int) ≤ min (s.size : Int) 5000 := by omega
  have q2 : min (s.size : Int) 5000 ≤ (s.size : Int) := by omega
  have q3 : (0 : Int) ≤ min (t.size : Int) 5000 := by omega
  have q4 : min (t.size : Int) 5000 ≤ (t.size : Int) := by omega
  go_quiet (fail)
  go_wp2_with fail
  have hu := cut5000 s
  have hv := cut5000 t
  generalize s.extract 0 (min (s.size : Int) 5000).toNat = u at hu ⊢
  generalize t.extract 0 (min (t.size : Int) 5000).toNat = v at hv ⊢
  obtain ⟨p, hp⟩ : ∃ q, q = enc u.size ++ sb u := ⟨_, rfl⟩
  obtain ⟨q, hq⟩ : ∃ q, q = enc v.size ++ sb v := ⟨_, rfl⟩
  have H1 := Lib.hid (show sx u 5000 = (p, 0) by unfold sx; rw [if_neg (by omega), if_neg (by omega), hp])
  have H2 := Lib.hid (show sx v 5000 = (q, 0) by unfold sx; rw [if_neg (by omega), if_neg (by omega), hq])
  have HP := Lib.hid hp
  have HQ := Lib.hid hq
  clear hp hq
  refine (str_any u 5000 p 0 _ (by omega) H1.out).mono ?_
  rintro e w2 ⟨A2, m2, c2, rfl, ho2, h21, h22, hb2⟩
  go_wp2_with fail
  refine (str_any v 5000 q 0 _ (by omega) H2.out).mono ?_
  rintro e w3 ⟨A3, m3, c3, rfl, ho3, h31, h32, hb3⟩
  have a2 := (ho2.below hb3).at_
  have a3 := ho3.at_
  have hb' := below_drewN hb nq
  have hB := (hb'.trans (hb2.mono hb'.size)).trans (hb3.mono (by have := hb'.size; have := hb2.size; omega))
  clear ho2 ho3
  go_wp2_with fail
  refine (bytesHasPrefix A2 A3 m2 m3 c2 c3 p q _ a2 a3 h21).mono ?_
  rintro e w4 ⟨rfl, rfl⟩
  by_cases heq : u = v
  · subst heq
    have hpq : p = q := by rw [HP.out, HQ.out]
    rw [hpq, hasP_refl]
    clear hpq
    go_wp2
    go_ret
    exact ⟨rfl, hB⟩
  · have hf := hasP_str u v (by omega) (by omega) heq
    rw [← HP.out, ← HQ.out] at hf
    rw [hf]
    have hl : (u.toList == v.toList) = false := by
      apply beq_eq_false_iff_ne.2
      intro h
      apply heq
      rw [Lib.toList_data, Lib.toList_data] at h
      apply ByteArray.ext
      exact Array.toList_inj.1 h
    clear hf heq
    go_wp2
    go_ret
    exact ⟨rfl, hB⟩
end Go.Proofs.Ytiakoaipehmdhaa
