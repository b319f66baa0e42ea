/-
  QuillBack: the walk.
-/
import Derived.Test.YtiakoaipehmdhaaAny
set_option linter.unusedVariables false
namespace Go.Proofs.Ytiakoaipehmdhaa
open Go.RowKit

theorem sb_str (u : ByteArray) : (⟨(sb u).toArray⟩ : ByteArray) = u := by
  cases u
  simp [sb]

theorem Own.app {w : World} {B : Nat} {v : Value} {xs : List UInt8} {n : Nat} (h : w.ownsRow B 5 1 v n (xs.map bv)) : Own w B v xs := by
  have : xs.length = n := by simpa using h.1
  unfold Own
  rw [this]
  exact h

set_option maxRecDepth 100000 in
set_option maxHeartbeats 2000000 in
theorem quillBack_walk (n : Int) (s : ByteArray) (A : Option Addr) (m c : Nat) (r : List UInt8) (w : World) (hn : -9223372036854775808 ≤ n ∧ n ≤ 9223372036854775807) (hs : s.size ≤ 140737488351232)
    (hx : At w A m r) (hmc : m ≤ c) (hc : c ≤ 140737488351232) (hz : A = none → c = 0) :
    Calls Try.prog 7 #[.int .i64 n, .string s, .slice A m c] w fun e w' => e = .returned (.bool true) ∧ Below w.heap.size w w' := by
  obtain ⟨k, hk, hk53⟩ := number_nat n
  have HK := Lib.hid hk
  have hm := Lib.hid hx.1
  clear hk hz
  go_enter Try.func7, Try.ntmps7
  go_wp2_with fail
  refine (works _).mono ?_
  rintro e w1 ⟨rfl, hb⟩
  go_wp2_with fail
  refine (number n _).mono ?_
  rintro e w1' ⟨rfl, rfl⟩
  rw [HK.out]
  have hu := cut5000 s
  go_wp2_with fail
  generalize s.extract 0 (min (s.size : Int) 5000).toNat = u at hu ⊢
  obtain ⟨l, hl⟩ : ∃ l, l = enc k := ⟨_, rfl⟩
  obtain ⟨q, hq⟩ : ∃ q, q = enc u.size ++ sb u := ⟨_, rfl⟩
  have H2 := Lib.hid (show sx u 5000 = (q, 0) by unfold sx; rw [if_neg (by omega), if_neg (by omega), hq])
  have hl8 : l.length ≤ 8 := by rw [hl]; exact enc_len k hk53
  have hql : q.length ≤ 5010 := by have := enc_len u.size (by omega); rw [hq, List.length_append, sb_len]; omega
  have T1 := Lib.hid (show tk (l ++ (q ++ r)) = (k, q ++ r, 0) by rw [hl]; exact tk_enc k _ hk53)
  have T2 := Lib.hid (show tsx (q ++ r) 5000 = (sb u, r, 0) by
    rw [hq, List.append_assoc, tsx_enc u 5000 r (by omega), if_neg (by omega), if_neg (by omega)])
  have HL := Lib.hid hl
  clear hl hq
  refine (num_any k l _ hk53 HL.out).mono ?_
  rintro e w2 ⟨A2, m2, c2, rfl, ho2, h21, h22, hb2⟩
  go_wp2_with fail
  refine (str_any u 5000 q 0 _ (by omega) H2.out).mono ?_
  rintro e w3 ⟨A3, m3, c3, rfl, ho3, h31, h32, hb3⟩
  have hm2' : m2 ≤ 8 := by rw [← ho2.len]; exact hl8
  have hm3' : m3 ≤ 5010 := by rw [← ho3.len]; exact hql
  have a2 := (ho2.below hb3).at_
  have a3 := ho3.at_
  have hx3 := ((hx.below' hb).below' hb2).below' hb3
  have e1 := hb.size
  have e2 := hb2.size
  have e3 := hb3.size
  have hB3 : Below w.heap.size w w3 := (hb.trans (hb2.mono e1)).trans (hb3.mono (by omega))
  clear ho2 ho3
  go_wp2_with fail
  refine (copyBytes A2 m2 c2 l _ a2 (by omega)).mono ?_
  rintro e w4 ⟨v4, rfl, ho4, hb4⟩
  have a34 := a3.below' hb4
  have hx4 := hx3.below' hb4
  have o4 : w4.ownsRow w3.heap.size 5 1 v4 m2 (l.map bv) := by
    have h1 := a2.1
    have h2 := ho4
    unfold Own at h2
    rw [h1] at h2
    exact h2
  have e4 := hb4.size
  clear ho4
  go_wp2_with (at_builtin; refine wpList_app rfl (.tmp 44) (.tmp 45) 22 rfl w3.heap.size 5 Try.underlying22 info5 v4 m2 l q rfl o4 A3 m3 c3 rfl a34 ?hb5 e4 ?_)
  case hb5 => omega
  intro v5 w5 o5' hg5 _
  have o5 : w5.ownsRow w3.heap.size 5 1 v5 (m2 + m3) ((l ++ q).map bv) := by simpa using o5'
  clear o5'
  have hx5 : At w5 A m r := hx3.below' (hb4.grown hg5 e4 (fun i hi => (o4.lt i hi).1))
  have hb35 : Below w3.heap.size w3 w5 := hb4.grown hg5 e4 (fun i hi => (o4.lt i hi).1)
  have e5 := hb35.size
  clear hg5 o4
  go_wp2_with (at_builtin; refine wpList_app rfl (.tmp 46) (.tmp 47) 22 rfl w3.heap.size 5 Try.underlying22 info5 v5 (m2 + m3) (l ++ q) r rfl o5 A m c rfl hx5 ?hb6 e5 ?_)
  case hb6 => omega
  intro v6 w6 o6' hg6 _
  have o6 : w6.ownsRow w3.heap.size 5 1 v6 (m2 + m3 + m) (((l ++ q) ++ r).map bv) := by simpa using o6'
  clear o6'
  have hb36 : Below w3.heap.size w3 w6 := hb35.grown hg6 e5 (fun i hi => (o5.lt i hi).1)
  have O6 := Own.app o6
  rw [List.append_assoc] at O6
  obtain ⟨A6, c6, rfl, a6, h61, h62, _⟩ := O6.form
  have hl6 : (l ++ (q ++ r)).length ≤ 140737488356300 := by
    have h1 := a2.1
    have h2 := a3.1
    have h3 := hm.out
    simp only [List.length_append]
    omega
  obtain ⟨n6, hn6⟩ : ∃ i, i = (l ++ (q ++ r)).length := ⟨_, rfl⟩
  rw [← hn6] at a6 h61 hl6 ⊢
  have hb6 : Below w.heap.size w w6 := hB3.trans (hb36.mono (by omega))
  have e6 := hb6.size
  have hx6 := hx.below' hb6
  clear hn6 o6 o5 hg6 O6 hx5 hx4 hx3
  go_wp2_with fail
  refine (takeNum_any A6 n6 c6 _ (q ++ r) k 0 _ a6 h61 h62 (by omega) T1.out).mono ?_
  rintro e w7 ⟨A7, m7, c7, rfl, ho7, h71, h72, hb7⟩
  have hm7 : m7 ≤ 140737488356300 := by
    have h1 := ho7.len
    have h2 := a6.1
    simp only [List.length_append] at h1 h2
    omega
  go_wp2_with fail
  refine (takeStr_any A7 m7 c7 5000 (q ++ r) (sb u) r 0 _ ho7.at_ h71 h72 (by omega) T2.out).mono ?_
  rintro e w8 ⟨A8, m8, c8, rfl, ho8, h81, h82, hb8⟩
  have hb78 : Below w.heap.size w w8 := (hb6.trans (hb7.mono e6)).trans (hb8.mono (by have := hb7.size; omega))
  have hx8 := hx.below' hb78
  have hm8 : m8 ≤ 225000000000000 := by
    have h1 := ho8.len
    have h2 := hm.out
    omega
  have a8 := ho8.at_
  have hkk : ((k : Int) == (k : Int)) = true := by simp
  have HS := Lib.hid (sb_str u)
  unfold str_
  rw [HS.out]
  clear ho8 ho7
  go_wp2_with fail
  refine (eqBytes _ _ _ _ _ _ r r _ a8 hx8 (by omega)).mono ?_
  rintro e w9 ⟨rfl, j, rfl⟩
  rw [show (r == r) = true by simp]
  go_wp2
  go_ret
  exact ⟨rfl, below_drewN hb78 j⟩
end Go.Proofs.Ytiakoaipehmdhaa
