/-
  Layer 4, the code: firstOf, Next.
-/
import Derived.Test.YtamglegdgcehaaaGreatZ16
import Derived.Test.YtamglegdgcehaaaGreatZ05
import Derived.Test.YtamglegdgcehaaaGreatZ21
import Derived.Test.YtamglegdgcehaaaGreatZ02
set_option linter.unusedVariables false
namespace Go.Proofs.YtamglegdgcehaaaGreat
open Go.RowKit

theorem slb_hm (A : Option Addr) (n c : Nat) (kh km : IntKind) (h m : Int) (w : World) (h0 : 0 ≤ h) (h2 : h ≤ m) (h3 : m ≤ c) :
    (Instr.slice 40 (.slice A n c) none (some (.int kh h)) (some (.int km m))).run Tryz.prog w = .ok (.slice A h.toNat m.toNat) w := by
  rw [run_slice_hm w 40 A n c slb_under kh km h m h0 h2 h3, slb_elem, slb_size]
  simp only [Result.andThen, sliced_cutA, cutA_zero, Nat.sub_zero]

theorem firstOf (A : Option Addr) (n c k : Nat) (w : World) (hk : k ≤ c) (z : Int) (hz : z = (k : Int)) :
    Calls Tryz.prog 88 #[.slice A n c, .int .i64 z] w fun e w' => e = .returned (.slice A k k) ∧ w = w' := by
  subst hz
  have h := fun W : World => slb_hm A n c .i64 .i64 (k : Int) (k : Int) W (by omega) (by omega) (by omega)
  rw [Int.toNat_natCast] at h
  go_enter Tryz.func88, Tryz.ntmps88
  go_wp2
  go_ret
  exact ⟨rfl, rfl⟩

set_option maxHeartbeats 2000000 in
theorem next_ok : NextOk := by
  intro A n c xs p size e w hx hnc hc hn2 hn
  obtain ⟨v, rest, x, ht⟩ : ∃ v rest x, tk xs = (v, rest, x) := ⟨_, _, _, rfl⟩
  rw [nx_of ht] at hn
  obtain ⟨r8, ht8, hr8, hrl, hv, hgood⟩ := tk_take8 ht
  have hxl := hx.1
  have h8 := hx.cut (l := 0) (k := min 8 n) (m := c) (by omega) (by omega) (by omega)
  simp only [cutA_zero, Nat.sub_zero, List.drop_zero] at h8
  rw [show xs.take (min 8 n) = xs.take 8 from by rw [← hxl, ← List.take_take, List.take_length]] at h8
  have h8l : (xs.take 8).length = min 8 n := h8.1
  have hmin : (min (8 : Int) (n : Int)) = ((min 8 n : Nat) : Int) := by omega
  obtain ⟨k, hk⟩ : ∃ k, k = min 8 n := ⟨_, rfl⟩
  rw [← hk] at h8 h8l hmin
  have HT := Lib.hid (takeNum A k k (xs.take 8) r8 v x w h8 (Nat.le_refl _) (by omega) (by omega) ht8)
  have HN := Lib.hid hn
  rw [h8l] at hr8 hgood
  have HG := Lib.hid hgood
  generalize xs.take 8 = h8s at *
  have HX := Lib.hid hxl
  have HK := Lib.hid hk
  have HF := Lib.hid (firstOf A n c k w (by omega))
  have hrl' : rest.length ≤ n := by omega
  have hkn : k ≤ n := by omega
  clear hn ht ht8 h8 h8l hgood hxl hk hrl
  by_cases hx0 : x = 0
  · subst hx0
    obtain ⟨hrest, hst, hp1, hp8⟩ := HG.out rfl
    rw [HX.out] at hst hp1 hp8 hrest
    have HR := Lib.hid hrest
    clear HG hrest
    obtain ⟨a, ha⟩ : ∃ a : Nat, n - rest.length = a := ⟨_, rfl⟩
    skip
    all_goals
      go_enter Tryz.func35, Tryz.ntmps35
      go_wp2_with fail
      refine (HF.out _ (by omega)).mono ?_
      rintro e0 w0 ⟨rfl, rfl⟩
      go_wp2_with fail
      refine HT.out.mono ?_
      rintro e1 w1 ⟨r, rfl, hown, hb1⟩
      obtain ⟨A1, c1, rfl, hA1, h11, h12, _⟩ := hown.form
      have hx1 := hx.below' hb1
      clear hown HT HF hA1
      by_cases h5 : 65536 < v
      · have h := HN.out
        rw [if_neg (by simp), if_pos h5] at h
        injection h with h1 h
        injection h with h2 h3
        subst h1 h2 h3
        clear HN
        go_wp2
        go_ret3
        exact ⟨_, rfl, World.ownsRow_nil _ _ _ _, hb1⟩
      · by_cases h3 : rest.length < v + 4
        · have h := HN.out
          rw [if_neg (by simp), if_neg h5, if_pos h3] at h
          injection h with h1 h
          injection h with h2 h3'
          subst h1 h2 h3'
          have hz : (n : Int) < (k : Int) - r8.length + v + 4 := by omega
          clear HN
          go_wp2
          go_ret3
          exact ⟨_, rfl, World.ownsRow_nil _ _ _ _, hb1⟩
        · have hkr : (k : Int) - r8.length = (a : Int) := by omega
          obtain ⟨b, hb⟩ : ∃ b, a + v = b := ⟨_, rfl⟩
          have hbi : (a : Int) + v = (b : Int) := by omega
          have h := HN.out
          rw [HX.out, if_neg (by simp), if_neg h5, if_neg h3, ha, hb] at h
          clear HN
          have hbn : b + 4 ≤ n := by omega
          have hP := hx1.cut (l := a) (k := b) (m := b) (by omega) (by omega) (by omega)
          have hD := hx1.cut (l := b) (k := b + 4) (m := b + 4) (by omega) (by omega) (by omega)
          have hH := hx1.cut (l := 0) (k := b) (m := b) (by omega) (by omega) (by omega)
          simp only [cutA_zero, Nat.sub_zero, List.drop_zero] at hH
          rw [List.drop_take, show b + 4 - b = 4 from by omega] at hD
          have hpay : rest.take v = (xs.take b).drop a := by
            have h9 := HR.out
            rw [ha] at h9
            rw [h9, List.drop_take, ← hb, Nat.add_sub_cancel_left]
          rw [hpay] at h
          have hpl : ((xs.take b).drop a).length = b - a := hP.1
          have k1 : ∀ W : World, (Instr.slice 40 (.slice A n c) (some (.int .i64 (b : Int))) (some (.int .i64 ((b : Int) + 4))) (some (.int .i64 ((b : Int) + 4)))).run Tryz.prog W = .ok (.slice (cutA A (b + 4) b) 4 4) W := fun W => by
            have h0 := slb_lhm A n c .i64 .i64 .i64 (b : Int) ((b : Int) + 4) ((b : Int) + 4) W (by omega) (by omega) (by omega) (by omega)
            rw [show ((b : Int) + 4).toNat = b + 4 from by omega, Int.toNat_natCast, show b + 4 - b = 4 from by omega] at h0
            exact h0
          have k2 : ∀ W : World, (Instr.slice 40 (.slice A n c) (some (.int .i64 (a : Int))) (some (.int .i64 (b : Int))) (some (.int .i64 (b : Int)))).run Tryz.prog W = .ok (.slice (cutA A b a) (b - a) (b - a)) W := fun W => by
            have h0 := slb_lhm A n c .i64 .i64 .i64 (a : Int) (b : Int) (b : Int) W (by omega) (by omega) (by omega) (by omega)
            rw [Int.toNat_natCast, Int.toNat_natCast] at h0
            exact h0
          have F1 := Lib.hid (fun W z hz => firstOf A n c b W (by omega) z hz)
          have S1 := Lib.hid (fun W hh => sumOf A b b (xs.take b) W hh (by omega))
          have HA := Lib.hid hkr
          have hbi0 : a ≤ b := by omega
          have hb9 : b ≤ 200000000000000 := by omega
          have HPL := Lib.hid hpl
          generalize (xs.take b).drop a = t at hP h HPL
          generalize (xs.drop b).take 4 = d at hD h
          generalize be4 (crcOf (xs.take b)) = y at S1 h
          generalize xs.take b = hd at S1 hH
          clear hx1 hpay hx hpl
          have hD0 : At w1.drew (cutA A (b + 4) b) 4 d := hD
          have hH0 : At w1.drew A b hd := hH
          have hP0 : At w1.drew (cutA A b a) (b - a) t := hP
          have hB0 : Below w.heap.size w w1.drew := hb1.drew
          clear hD hH hP
          go_wp2_with fail
          by_cases hq : d = y
          · rw [if_neg (by simpa using hq)] at h
            injection h with h1 h
            injection h with h2 h3'
            subst h1 h2 h3'
            have HB := Lib.hid (show (y == d) = true by simpa using hq.symm)
            clear hq
            go_region_with (first
              | (go_at_call 88; refine (F1.out _ _ rfl).mono ?_; rintro e2 w2 ⟨rfl, rfl⟩)
              | (go_at_call 91; refine (S1.out _ hH0).mono ?_; rintro e3 w3 ⟨v3, rfl, hown3, hb3⟩; obtain ⟨A3, c3, rfl, hA3, _, _, _⟩ := hown3.form; have hD3 := hD0.below' hb3; have hP3 := hP0.below' hb3; have hB3 := hB0.trans (hb3.mono hB0.size); clear hown3 hb3)
              | (go_at_call 90; refine (bytesEqual A3 (cutA A (b + 4) b) _ 4 c3 4 y d _ hA3 hD3).mono ?_; rintro e4 w4 ⟨rfl, rfl⟩; rw [HB.out]))
            all_goals have hs3 := hB3.size
            all_goals have J1 := Lib.hid (joinOne (c1 := b - a) 40 hP3 (by have := HPL.out; omega))
            all_goals go_wp2_with fail
            all_goals (refine J1.out.mono ?_; rintro e5 w5 ⟨v5, rfl, hown5, hb5⟩)
            all_goals go_wp2
            all_goals go_ret3
            all_goals exact ⟨v5, by rw [show ((b + 4 : Nat) : Int) = (b : Int) + 4 from by omega]; rfl, hown5.base hs3, hB3.trans (hb5.mono hs3)⟩
          · rw [if_pos (by simpa using hq)] at h
            injection h with h1 h
            injection h with h2 h3'
            subst h1 h2 h3'
            have HB := Lib.hid (show (y == d) = false by simp; exact fun h => hq h.symm)
            clear hq
            go_region_with (first
              | (go_at_call 88; refine (F1.out _ _ rfl).mono ?_; rintro e2 w2 ⟨rfl, rfl⟩)
              | (go_at_call 91; refine (S1.out _ hH0).mono ?_; rintro e3 w3 ⟨v3, rfl, hown3, hb3⟩; obtain ⟨A3, c3, rfl, hA3, _, _, _⟩ := hown3.form; have hD3 := hD0.below' hb3; have hP3 := hP0.below' hb3; have hB3 := hB0.trans (hb3.mono hB0.size); clear hown3 hb3)
              | (go_at_call 90; refine (bytesEqual A3 (cutA A (b + 4) b) _ 4 c3 4 y d _ hA3 hD3).mono ?_; rintro e4 w4 ⟨rfl, rfl⟩; rw [HB.out]))
            all_goals go_wp2
            all_goals go_ret3
            all_goals exact ⟨_, rfl, World.ownsRow_nil _ _ _ _, hB3⟩
  · have hne : ((x : Int) != 0) = true := by simp; omega
    skip
    all_goals
      go_enter Tryz.func35, Tryz.ntmps35
      go_wp2_with fail
      refine (HF.out _ (by omega)).mono ?_
      rintro e0 w0 ⟨rfl, rfl⟩
      go_wp2_with fail
      refine HT.out.mono ?_
      rintro e1 w1 ⟨r, rfl, hown, hb1⟩
      have h := HN.out
      rw [if_pos hx0] at h
      injection h with h1 h
      injection h with h2 h3
      subst h1 h2 h3
      clear HT HF HN HG
      go_wp2
      go_ret3
      exact ⟨_, rfl, World.ownsRow_nil _ _ _ _, hb1⟩
end Go.Proofs.YtamglegdgcehaaaGreat
