/-
  QuillCut: the walk.
-/
import Derived.Test.YtiakoaipehmdhaaAny
set_option linter.unusedVariables false
namespace Go.Proofs.Ytiakoaipehmdhaa
open Go.RowKit

set_option maxHeartbeats 1000000 in
theorem quillCut_walk (n : Int) (s : ByteArray) (at_ : Int) (w : World) (hn : -9223372036854775808 ≤ n ∧ n ≤ 9223372036854775807) (hs : s.size ≤ 140737488351232) (ha : -9223372036854775808 ≤ at_ ∧ at_ ≤ 9223372036854775807) :
    Calls Try.prog 11 #[.int .i64 n, .string s, .int .i64 at_] w fun e w' => e = .returned (.bool true) ∧ Below w.heap.size w w' := by
  obtain ⟨k, hk, hk53⟩ := number_nat n
  have HK := Lib.hid hk
  clear hk
  go_enter Try.func11, Try.ntmps11
  go_wp2_with fail
  refine (works _).mono ?_
  rintro e w1 ⟨rfl, hb⟩
  go_wp2_with fail
  refine (number n _).mono ?_
  rintro e w1' ⟨rfl, rfl⟩
  rw [HK.out]
  have hu := cut5000 s
  generalize s.extract 0 (min (s.size : Int) 5000).toNat = u at hu ⊢
  obtain ⟨l, hl⟩ : ∃ l, l = enc k := ⟨_, rfl⟩
  obtain ⟨q, hq⟩ : ∃ q, q = enc u.size ++ sb u := ⟨_, rfl⟩
  have H2 := Lib.hid (show sx u 5000 = (q, 0) by unfold sx; rw [if_neg (by omega), if_neg (by omega), hq])
  have hl8 : l.length ≤ 8 := by rw [hl]; exact enc_len k hk53
  have hl1 : 0 < l.length := by rw [hl]; exact enc_pos k
  have hq1 : 0 < q.length := by rw [hq, List.length_append]; have := enc_pos u.size; omega
  have hql : q.length ≤ 5010 := by have := enc_len u.size (by omega); rw [hq, List.length_append, sb_len]; omega
  have HL := Lib.hid hl
  have HQ := Lib.hid hq
  clear hl hq
  go_wp2_with fail
  refine (num_any k l _ hk53 HL.out).mono ?_
  rintro e w2 ⟨A2, m2, c2, rfl, ho2, h21, h22, hb2⟩
  go_wp2_with fail
  refine (str_any u 5000 q 0 _ (by omega) H2.out).mono ?_
  rintro e w3 ⟨A3, m3, c3, rfl, ho3, h31, h32, hb3⟩
  have hm2 : 0 < m2 := by rw [← ho2.len]; exact hl1
  have hm2' : m2 ≤ 8 := by rw [← ho2.len]; exact hl8
  have hm3 : 0 < m3 := by rw [← ho3.len]; exact hq1
  have hm3' : m3 ≤ 5010 := by rw [← ho3.len]; exact hql
  have b2 : ((m2 : Int) == 0) = false := by simp; omega
  have b3 : ((m3 : Int) == 0) = false := by simp; omega
  obtain ⟨i, hi, hi2⟩ := bring_nat at_ m2 hm2
  obtain ⟨j, hj, hj2⟩ := bring_nat at_ m3 hm3
  have HI := Lib.hid hi
  have HJ := Lib.hid hj
  have T1 : Hid (tk (l.take i) = (0, [], 3)) := by
    have h1 := ho2.len
    rw [HL.out] at h1 ⊢
    exact tk_cut k i hk53 (by omega)
  have T2 : Hid (tsx (q.take j) 5000 = ([], [], 3)) := by
    have h1 := ho3.len
    rw [HQ.out] at h1 ⊢
    exact tsx_cut u j 5000 (by omega) (by omega) (by omega)
  have a2 := ((ho2.below hb3).at_).upto i (by omega)
  have a3 := ho3.at_.upto j (by omega)
  have hic : (i : Int) ≤ (c2 : Int) := by omega
  have hjc : (j : Int) ≤ (c3 : Int) := by omega
  clear hi hj
  go_wp2_with fail
  refine (bring at_ (m2 : Int) _ (by omega) (by omega)).mono ?_
  rintro e w4 ⟨rfl, rfl⟩
  rw [HI.out]
  go_wp2_with fail
  refine (takeNum_any A2 i c2 _ [] 0 3 _ a2 (by omega) (by omega) (by omega) T1.out).mono ?_
  rintro e w5 ⟨A5, m5, c5, rfl, ho5, h51, h52, hb5⟩
  go_wp2_with fail
  refine (bring at_ (m3 : Int) _ (by omega) (by omega)).mono ?_
  rintro e w6 ⟨rfl, rfl⟩
  rw [HJ.out]
  go_wp2_with fail
  refine (takeStr_any A3 j c3 5000 _ [] [] 3 _ (a3.below' hb5) (by omega) (by omega) (by omega) T2.out).mono ?_
  rintro e w7 ⟨A7, m7, c7, rfl, ho7, h71, h72, hb7⟩
  have e1 := hb.size
  have e2 := hb2.size
  have e3 := hb3.size
  have e5 := hb5.size
  have hB : Below w.heap.size w w7 := (((hb.trans (hb2.mono e1)).trans (hb3.mono (by omega))).trans (hb5.mono (by omega))).trans (hb7.mono (by omega))
  clear ho2 ho3 ho5 ho7
  go_wp2
  go_ret
  exact ⟨rfl, hB⟩
end Go.Proofs.Ytiakoaipehmdhaa
