/-
  QuillAgain: the walk.
-/
import Derived.Test.YtiakoaipehmdhaaAny
set_option linter.unusedVariables false
namespace Go.Proofs.Ytiakoaipehmdhaa
open Go.RowKit

theorem Own.app' {w : World} {B : Nat} {v : Value} {xs : List UInt8} {n : Nat} (h : w.ownsRow B 5 1 v n (xs.map bv)) : Own w B v xs := by
  have : xs.length = n := by simpa using h.1
  unfold Own
  rw [this]
  exact h

theorem tk_again (b : List UInt8) : (∃ x, tk b = (0, [], x) ∧ (x = 3 ∨ x = 4)) ∨ ∃ v rest, v ≤ 9007199254740991 ∧ b = enc v ++ rest ∧ tk b = (v, rest, 0) := by
  rcases tk_cases b with h | h | ⟨l, rest, hb, hl, hh, hv, h⟩
  · exact .inl ⟨3, h, .inl rfl⟩
  · exact .inl ⟨4, h, .inr rfl⟩
  · refine .inr ⟨val l, rest, hv, ?_, h⟩
    rw [hb]
    unfold enc
    rw [digs_val l hh]
    rfl

def mkS (l : List UInt8) : ByteArray := ⟨l.toArray⟩
theorem mkS_size (l : List UInt8) : (mkS l).size = l.length := by simp [mkS, ByteArray.size]
theorem mkS_sb (l : List UInt8) : sb (mkS l) = l := by simp [mkS, sb]

set_option maxRecDepth 100000 in
set_option maxHeartbeats 2000000 in
theorem quillAgain_walk (A : Option Addr) (n c : Nat) (b : List UInt8) (w : World) (hx : At w A n b) (hnc : n ≤ c) (hc : c ≤ 140737488351232) (hz : A = none → c = 0) :
    Calls Try.prog 8 #[.slice A n c] w fun e w' => e = .returned (.bool true) ∧ Below w.heap.size w w' := by
  have HN := Lib.hid hx.1
  clear hz
  rcases tk_again b with ⟨x, ht, hx34⟩ | ⟨v, rest, hv, hb, ht⟩
  · have HT := Lib.hid ht
    clear ht
    rcases hx34 with rfl | rfl
    all_goals
      go_enter Try.func8, Try.ntmps8
      go_wp2_with fail
      refine (works _).mono ?_
      rintro e w1 ⟨rfl, hb1⟩
      go_wp2_with fail
      refine (takeNum_any A n c b [] 0 _ _ (hx.below' hb1) hnc (by omega) (by omega) HT.out).mono ?_
      rintro e w2 ⟨A2, m2, c2, rfl, ho2, h21, h22, hb2⟩
      have hm2 : m2 = 0 := by have := ho2.len; simpa using this.symm
      subst hm2
      have hB := hb1.trans (hb2.mono hb1.size)
      clear ho2
      go_wp2
      go_ret
      exact ⟨rfl, hB⟩
  · have HT := Lib.hid ht
    have HB := Lib.hid hb
    have hve := enc_len v hv
    have hve1 := enc_pos v
    obtain ⟨l, hl⟩ : ∃ l, l = enc v := ⟨_, rfl⟩
    have HL := Lib.hid hl
    rw [← hl] at hve hve1
    have hbl : l ++ rest = b := by rw [hl, hb]
    have HBL := Lib.hid hbl
    have hlen : l.length + rest.length = n := by have := HN.out; rw [← hbl, List.length_append] at this; exact this
    have hrl : rest.length ≤ n := by omega
    have hsum : l.length + rest.length ≤ 225000000000000 := by omega
    obtain ⟨p, hp⟩ : ∃ p, p = l.length := ⟨_, rfl⟩
    obtain ⟨z, hz⟩ : ∃ z, z = rest.length := ⟨_, rfl⟩
    rw [← hp] at hve hve1 hsum
    rw [← hz] at hrl hsum
    have HP := Lib.hid hp
    have HZ := Lib.hid hz
    have T1 : Hid (tsx b 1099511627776 = if (1099511627776 : Int) < v then ([], [], 5) else if rest.length < v then ([], [], 3) else (rest.take v, rest.drop v, 0)) := by
      show tsx b 1099511627776 = _
      unfold tsx ts
      rw [if_neg (by omega), HT.out]
      simp
    clear hl hbl hb ht hp hz hlen
    go_enter Try.func8, Try.ntmps8
    go_wp2_with fail
    refine (works _).mono ?_
    rintro e w1 ⟨rfl, hb1⟩
    go_wp2_with fail
    refine (takeNum_any A n c b rest v 0 _ (hx.below' hb1) hnc (by omega) (by omega) HT.out).mono ?_
    rintro e w2 ⟨A2, m2, c2, rfl, ho2, h21, h22, hb2⟩
    have hm2 : m2 = z := by rw [HZ.out]; exact ho2.len.symm
    subst hm2
    go_wp2_with fail
    refine (num_any v l _ hv HL.out).mono ?_
    rintro e w3 ⟨A3, m3, c3, rfl, ho3, h31, h32, hb3⟩
    have hm3 : m3 = p := by rw [HP.out]; exact ho3.len.symm
    subst hm3
    have e1 := hb1.size
    have e2 := hb2.size
    have e3 := hb3.size
    have hB3 : Below w.heap.size w w3 := (hb1.trans (hb2.mono e1)).trans (hb3.mono (by omega))
    have a2 := (ho2.below hb3).at_
    have o3 : w3.ownsRow w2.heap.size 5 1 (.slice A3 m3 c3) m3 (l.map bv) := by
      have h2 := ho3
      unfold Own at h2
      rw [← HP.out] at h2
      exact h2
    clear ho3 ho2
    go_wp2_with (at_builtin; refine wpList_appG (by kernel_rfl) (.tmp 46) (.tmp 47) 22 rfl w2.heap.size 5 Try.underlying22 info5 _ m3 l rest rfl o3 A2 m2 c2 rfl a2 ?hb5 e3 ?_)
    case hb5 => exact hsum
    intro v5 w5 o5' hg5 _
    have o5 : w5.ownsRow w2.heap.size 5 1 v5 (m3 + m2) ((l ++ rest).map bv) := by simpa using o5'
    have O5 := Own.app' o5
    rw [HBL.out] at O5
    have hown3 := o3.lt
    have hb5 : Below w.heap.size w w5 := hB3.grown hg5 hB3.size (fun i hi => by have := (hown3 i hi).1; omega)
    obtain ⟨A5, c5, rfl, a5, h51, h52, _⟩ := O5.form
    rw [HN.out] at a5 h51 ⊢
    have hx5 := hx.below' hb5
    have e5 := hb5.size
    clear o5' o5 O5 hg5 o3 hown3 a2
    go_wp2_with fail
    refine (eqBytes _ _ _ _ _ _ b b _ a5 hx5 (by omega)).mono ?_
    rintro e w6 ⟨rfl, j, rfl⟩
    rw [show (b == b) = true by simp]
    have hB6 := below_drewN hb5 j
    have hx6 := hx5.drewN j
    clear a5 hx5 hb1 hb2 hb3 hB3 hb5
    by_cases hbig : (1099511627776 : Int) < v
    · have T2 := T1.out
      rw [if_pos hbig] at T2
      have T3 := Lib.hid T2
      clear T2
      go_wp2_with fail
      refine (takeStr_any A n c 1099511627776 b [] [] 5 _ hx6 hnc (by omega) (by omega) T3.out).mono ?_
      rintro e w7 ⟨A7, m7, c7, rfl, ho7, h71, h72, hb7⟩
      have hB7 := hB6.trans (hb7.mono (by simpa using e5))
      clear ho7
      go_wp2
      go_ret
      exact ⟨rfl, hB7⟩
    · by_cases hsh : rest.length < v
      · have T2 := T1.out
        rw [if_neg hbig, if_pos hsh] at T2
        have T3 := Lib.hid T2
        have hsh' : (m2 : Int) < (v : Int) := by rw [HZ.out]; omega
        clear T2 hsh
        go_wp2_with fail
        refine (takeStr_any A n c 1099511627776 b [] [] 3 _ hx6 hnc (by omega) (by omega) T3.out).mono ?_
        rintro e w7 ⟨A7, m7, c7, rfl, ho7, h71, h72, hb7⟩
        have hB7 := hB6.trans (hb7.mono (by simpa using e5))
        clear ho7
        go_wp2
        go_ret
        exact ⟨rfl, hB7⟩
      · have T2 := T1.out
        rw [if_neg hbig, if_neg hsh] at T2
        obtain ⟨t, ht⟩ : ∃ t, t = rest.take v := ⟨_, rfl⟩
        obtain ⟨d, hd⟩ : ∃ d, d = rest.drop v := ⟨_, rfl⟩
        rw [← ht, ← hd] at T2
        have htd : t ++ d = rest := by rw [ht, hd]; exact List.take_append_drop v rest
        have htl : t.length = v := by rw [ht, List.length_take]; omega
        have hsz : (mkS t).size = v := by rw [mkS_size]; exact htl
        have hall : (enc (mkS t).size ++ sb (mkS t)) ++ d = b := by
          rw [mkS_sb, hsz, List.append_assoc, htd, ← HL.out]
          exact HBL.out
        have T3 := Lib.hid T2
        obtain ⟨g, hg⟩ : ∃ g, g = enc (mkS t).size ++ sb (mkS t) := ⟨_, rfl⟩
        have hglen : g.length + d.length = n := by
          have := HN.out
          rw [← hall, ← hg, List.length_append] at this
          exact this
        rw [← hg] at hall
        have HALL := Lib.hid hall
        obtain ⟨u, hu⟩ : ∃ u, u = mkS t := ⟨_, rfl⟩
        rw [← hu] at hsz hg
        have SX := Lib.hid (show sx u (u.size : Int) = (g, 0) by unfold sx; rw [if_neg (by omega), if_neg (by omega), hg])
        have HU := Lib.hid hu
        have hu40 : u.size ≤ 1099511627776 := by omega
        have huv : ((u.size : Int) == (v : Int)) = true := by simp; omega
        clear T2 hsh ht hd htd htl hall hg hsz hu
        go_wp2_with fail
        refine (takeStr_any A n c 1099511627776 b t d 0 _ hx6 hnc (by omega) (by omega) T3.out).mono ?_
        rintro e w7 ⟨A7, m7, c7, rfl, ho7, h71, h72, hb7⟩
        have hm7 := Lib.hid ho7.len
        have hB7 := hB6.trans (hb7.mono (by simpa using e5))
        have e7 := hB7.size
        rw [show str_ t = .string u from by rw [HU.out]; rfl]
        go_wp2_with fail
        refine (str_any u (u.size : Int) g 0 _ (by omega) SX.out).mono ?_
        rintro e w8 ⟨A8, m8, c8, rfl, ho8, h81, h82, hb8⟩
        have hgm : g.length = m8 := ho8.len
        have hsum2 : m8 + m7 ≤ 225000000000000 := by have := hm7.out; omega
        have hB8 := hB7.trans (hb8.mono e7)
        have e8 := hb8.size
        have o8 : w8.ownsRow w7.heap.size 5 1 (.slice A8 m8 c8) m8 (g.map bv) := by
          have h2 := ho8
          unfold Own at h2
          rw [hgm] at h2
          exact h2
        have a7 := (ho7.below hb8).at_
        clear ho8 ho7 hgm hglen
        go_wp2_with (at_builtin; refine wpList_appG (by kernel_rfl) (.tmp 93) (.tmp 94) 22 rfl w7.heap.size 5 Try.underlying22 info5 _ m8 g d rfl o8 A7 m7 c7 rfl a7 ?hb9 e8 ?_)
        case hb9 => exact hsum2
        intro v9 w9 o9' hg9 _
        have o9 : w9.ownsRow w7.heap.size 5 1 v9 (m8 + m7) ((g ++ d).map bv) := by simpa using o9'
        have O9 := Own.app' o9
        rw [HALL.out] at O9
        have hb9 : Below w.heap.size w w9 := hB8.grown hg9 hB8.size (fun i hi => by have := (o8.lt i hi).1; omega)
        obtain ⟨A9, c9, rfl, a9, h91, h92, _⟩ := O9.form
        rw [HN.out] at a9 h91 ⊢
        have hx9 := hx.below' hb9
        clear o9' o9 O9 hg9 o8 a7
        go_wp2_with fail
        refine (eqBytes _ _ _ _ _ _ b b _ a9 hx9 (by omega)).mono ?_
        rintro e w10 ⟨rfl, j2, rfl⟩
        rw [show (b == b) = true by simp]
        go_wp2
        go_ret
        exact ⟨rfl, below_drewN hb9 j2⟩
end Go.Proofs.Ytiakoaipehmdhaa
