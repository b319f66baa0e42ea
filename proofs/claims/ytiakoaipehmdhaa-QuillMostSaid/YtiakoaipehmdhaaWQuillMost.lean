/-
  QuillMost: the walk.
-/
import Derived.Test.YtiakoaipehmdhaaAny
set_option linter.unusedVariables false
namespace Go.Proofs.Ytiakoaipehmdhaa
open Go.RowKit

set_option maxHeartbeats 1000000 in
theorem quillMost_walk (s : ByteArray) (most : Int) (w : World) (hs : s.size ≤ 140737488351232) (hm : -9223372036854775808 ≤ most ∧ most ≤ 9223372036854775807) :
    Calls Try.prog 12 #[.string s, .int .i64 most] w fun e w' => e = .returned (.bool true) ∧ Below w.heap.size w w' := by
  go_enter Try.func12, Try.ntmps12
  go_wp2_with fail
  refine (works _).mono ?_
  rintro e w1 ⟨rfl, hb⟩
  go_wp2_with fail
  have hu := cut5000 s
  generalize s.extract 0 (min (s.size : Int) 5000).toNat = u at hu ⊢
  obtain ⟨l, x, h1⟩ : ∃ l x, sx u most = (l, x) := ⟨_, _, rfl⟩
  have H1 := Lib.hid h1
  have H2 := Lib.hid (show sx u 5000 = (enc u.size ++ sb u, 0) by unfold sx; rw [if_neg (by omega), if_neg (by omega)])
  have H3 := Lib.hid (tsx_enc u most [] (by omega))
  have hel := enc_len u.size (by omega)
  obtain ⟨q, hq⟩ : ∃ q, q = enc u.size ++ sb u := ⟨_, rfl⟩
  have hql : q.length ≤ 5010 := by rw [hq, List.length_append, sb_len]; omega
  have HQ := Lib.hid hq
  clear hq h1 hel
  refine (str_any u most l x _ (by omega) H1.out).mono ?_
  rintro e w2 ⟨A2, m2, c2, rfl, ho2, h21, h22, hb2⟩
  go_wp2_with fail
  refine (str_any u 5000 q 0 _ (by omega) (by rw [HQ.out]; exact H2.out)).mono ?_
  rintro e w3 ⟨A3, m3, c3, rfl, ho3, h31, h32, hb3⟩
  have hm3 : m3 ≤ 5010 := by have := ho3.len; omega
  obtain ⟨t, left, y, h4⟩ : ∃ t left y, tsx q most = (t, left, y) := ⟨_, _, _, rfl⟩
  have H4 := Lib.hid h4
  clear h4
  go_wp2_with fail
  refine (takeStr_any A3 m3 c3 most q t left y _ ho3.at_ h31 h32 (by omega) H4.out).mono ?_
  rintro e w4 ⟨A4, m4, c4, rfl, ho4, h41, h42, hb4⟩
  have e1 := hb.size
  have e2 := hb2.size
  have e3 := hb3.size
  have hB : Below w.heap.size w w4 := ((hb.trans (hb2.mono e1)).trans (hb3.mono (by omega))).trans (hb4.mono (by omega))
  have hts := H3.out
  rw [List.append_nil, ← HQ.out] at hts
  rw [H4.out] at hts
  have hsx := H1.out
  unfold sx at hsx
  by_cases hneg : most < 0
  · rw [if_pos hneg] at hts hsx
    cases hts
    cases hsx
    have hm2 : m2 = 0 := by have := ho2.len; simpa using this.symm
    subst hm2
    clear ho2 ho3 ho4
    go_wp2
    go_ret
    exact ⟨rfl, hB⟩
  · rw [if_neg hneg] at hts hsx
    by_cases hlong : most < (u.size : Int)
    · rw [if_pos hlong] at hts hsx
      cases hts
      cases hsx
      have hm2 : m2 = 0 := by have := ho2.len; simpa using this.symm
      subst hm2
      clear ho2 ho3 ho4
      go_wp2
      go_ret
      exact ⟨rfl, hB⟩
    · rw [if_neg hlong] at hts hsx
      have hy : y = 0 := by injection hts with _ hts; injection hts
      have hx : x = 0 := by injection hsx with _ h; exact h.symm
      have hl : l = q := by injection hsx with h _; rw [← h, HQ.out]
      subst hy
      subst hx
      subst hl
      clear hts hsx
      have o2 := (ho2.below hb3).below hb4
      have o3 := ho3.below hb4
      have hm2 : m2 ≤ 5010 := by have := ho2.len; omega
      have esz := hB.size
      clear ho2 ho3 ho4
      go_wp2_with fail
      refine (eqBytes _ _ _ _ _ _ l l _ o2.at_ o3.at_ (by omega)).mono ?_
      rintro e w5 ⟨rfl, j, rfl⟩
      rw [show (l == l) = true by simp]
      go_wp2
      go_ret
      exact ⟨rfl, below_drewN hB j⟩
end Go.Proofs.Ytiakoaipehmdhaa
