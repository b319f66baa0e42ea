/-
  Layer 11, the document's answers: numbers, stamps, versions as texts.
-/
import Derived.Test.YtchebellejkdnaaDoorZ15
import Derived.Test.YtchebellejkdnaaDoorLSRef
set_option linter.unusedVariables false
set_option linter.unusedSimpArgs false
set_option maxRecDepth 100000
namespace Go.Proofs.YtchebellejkdnaaDoor
open Go.RowKit

/-- Bytes in memory of the call's own, handed back. -/
def BytesP (w : World) (l : List UInt8) (e : Ending) (w' : World) : Prop := ∃ A m c, e = .returned (.slice A m c) ∧ At w' A m l ∧ Below w.heap.size w w'
theorem rnum (n : Int) (w : World) (h0 : 0 ≤ n) (h1 : n ≤ 9007199254740991) : Calls Tryd.prog 50 #[.int .i64 n] w (BytesP w (nbs n)) := by
  obtain ⟨k, rfl⟩ : ∃ k : Nat, n = (k : Int) := ⟨n.toNat, by omega⟩
  rw [num_nat]
  have HC := Lib.hid (refNum k w (by omega))
  go_enter Tryd.func50, Tryd.ntmps50
  go_wp2_with fail
  refine HC.out.mono ?_
  rintro e w1 ⟨v, rfl, ho, hb⟩
  obtain ⟨A, c, rfl, hat, _⟩ := ho.form
  go_wp2
  go_ret
  exact ⟨A, _, c, rfl, hat, hb⟩
theorem rstr (s : ByteArray) (w : World) (h : s.size ≤ 64) : Calls Tryd.prog 51 #[.string s] w (BytesP w (tbs s)) := by
  have HC := Lib.hid (refStr s 64 w (by omega) (by omega))
  go_enter Tryd.func51, Tryd.ntmps51
  go_wp2_with fail
  refine HC.out.mono ?_
  rintro e w1 ⟨v, rfl, ho, hb⟩
  obtain ⟨A, c, rfl, hat, _⟩ := ho.form
  obtain ⟨m, hm⟩ : ∃ m, (enc s.size ++ sb s).length = m := ⟨_, rfl⟩
  rw [hm] at hat ⊢
  go_wp2
  go_ret
  exact ⟨A, _, c, rfl, hat, hb⟩
theorem cv_ {w : World} {A : Option Addr} {n : Nat} {xs : List UInt8} (h : At w A n xs) (c : Nat) : (convert 70 9 (.slice A n c)).run Tryd.prog w = .ok (.string ⟨xs.toArray⟩) w :=
  h.conv c 70 5 9 Tryd.underlying70 (by kernel_rfl) Tryd.underlying9
theorem nb_str (a : Int) (h : a ≤ 9007199254740991) : ∃ s : ByteArray, ⟨(nbs a).toArray⟩ = s ∧ s.size ≤ 8 := ⟨_, rfl, num_len h⟩
theorem rNumber (n : Int) (w : World) : Calls Tryd.prog 25 #[.int .i64 n] w fun e w' => e = ansT (isN n) (nbs n) ∧ Below w.heap.size w w' := by
  by_cases h1 : n < 0
  · rw [show isN n = false from decide_eq_false (by omega)]
    go_enter Tryd.func25, Tryd.ntmps25
    go_wp2
    go_ret2
    exact ⟨rfl, Below.refl _ _⟩
  · by_cases h2 : 9007199254740991 < n
    · rw [show isN n = false from decide_eq_false (by omega)]
      go_enter Tryd.func25, Tryd.ntmps25
      go_wp2
      go_ret2
      exact ⟨rfl, Below.refl _ _⟩
    · rw [show isN n = true from decide_eq_true (by omega)]
      go_enter Tryd.func25, Tryd.ntmps25
      go_wp2_with (go_at_call 50; refine (rnum n _ (by omega) (by omega)).mono ?_; rintro e w1 ⟨A, m, c, rfl, hat, hb⟩; have hcv := cv_ hat c)
      go_ret2
      exact ⟨rfl, hb⟩
set_option maxHeartbeats 1000000 in
theorem rStamp (a b : Int) (w : World) : Calls Tryd.prog 27 #[sv a b] w fun e w' => e = ansT (may a b) (txS a b) ∧ Below w.heap.size w w' := by
  have HC := Lib.hid (refCheck5 a b)
  cases h1 : may a b
  · have hk : ck a b = 9 := by unfold ck; rw [h1]; rfl
    rw [hk] at HC
    go_enter Tryd.func27, Tryd.ntmps27
    go_wp2_with (go_at_call 58; refine (HC.out _).mono ?_; rintro e w1 ⟨rfl, hb1⟩)
    go_ret2
    exact ⟨rfl, (nbl w _).trans (hb1.mono (by simp))⟩
  · have hk : ck a b = 0 := by unfold ck; rw [h1]; rfl
    rw [hk] at HC
    have hm := may_le h1
    obtain ⟨sa, hsa, za⟩ := nb_str a hm.2.1
    obtain ⟨sc, hsc, zc⟩ := nb_str b hm.2.2.2
    have HE := Lib.hid (show (sa ++ sc : ByteArray) = ⟨(txS a b).toArray⟩ by rw [← hsa, ← hsc]; apply ByteArray.ext; simp [txS])
    have HSA := Lib.hid hsa
    have HSC := Lib.hid hsc
    clear hsa hsc
    go_enter Tryd.func27, Tryd.ntmps27
    go_wp2_with (go_at_call 58; refine (HC.out _).mono ?_; rintro e w1 ⟨rfl, hb1⟩
                 have hX : Blk w1 w.heap.size 23 #[.int .i64 a, .int .i64 b] := (Blk.new w _ _).below hb1 (by simp)
                 have hb2 := (nbl w (.cells #[.int .i64 a, .int .i64 b] 23)).trans (hb1.mono (by simp))
                 have x0 := hX.cell 0
                 have x1 := hX.cell 1
                 simp at x0 x1)
    go_region_with (first
      | (go_at_call_of 50 (Value.int .i64 a); refine (rnum a _ hm.1 hm.2.1).mono ?_; rintro e w2 ⟨A1, m1, c1, rfl, hat1, hb3⟩
         have hX2 : Blk w2 w.heap.size 23 #[.int .i64 a, .int .i64 b] := (hb3.block _ hX.lt).trans hX
         have x2 := hX2.cell 0
         have x3 := hX2.cell 1
         simp at x2 x3
         have v1 := cv_ hat1 c1
         rw [HSA.out] at v1
         have f3 : Below w.heap.size w w2 := by first | exact hb2.drew.trans (hb3.mono hb2.size) | exact hb2.trans (hb3.mono hb2.size))
      | (go_at_call_of 50 (Value.int .i64 b); refine (rnum b _ hm.2.2.1 hm.2.2.2).mono ?_; rintro e w3 ⟨A2, m2, c2, rfl, hat2, hb4⟩
         have v2 := cv_ (hat1.below' hb4) c1
         rw [HSA.out] at v2
         have v3 := cv_ hat2 c2
         rw [HSC.out] at v3
         have f4 : Below w.heap.size w w3 := by first | exact f3.trans (hb4.mono f3.size) | exact f3.drew.trans (hb4.mono f3.size)))
    all_goals go_wp2
    all_goals go_ret2
    all_goals exact ⟨by rw [ansT_t, ← HE.out]; rfl, f4⟩
set_option maxHeartbeats 1000000 in
theorem rVersion (s : ByteArray) (d : Bool) (w : World) : Calls Tryd.prog 29 #[.string s, .bool d] w fun e w' => e = ansT (isV s d) (txV s d) ∧ Below w.heap.size w w' := by
  have e1 := empty_iff s
  have e2 := empty_is s
  by_cases h64 : 64 < s.size
  · rw [show isV s d = false from decide_eq_false (by omega)]
    go_enter Tryd.func29, Tryd.ntmps29
    go_wp2
    go_ret2
    exact ⟨rfl, Below.refl _ _⟩
  · cases d
    · by_cases h0 : s.size = 0
      · rw [decide_eq_true h0] at e1 e2
        rw [show isV s false = true from decide_eq_true ⟨by omega, .inr h0⟩]
        go_enter Tryd.func29, Tryd.ntmps29
        go_wp2_with (go_at_call 50; refine (rnum 0 _ (by decide) (by decide)).mono ?_; rintro e w1 ⟨A, m, c, rfl, hat, hb⟩; have hcv := cv_ hat c)
        go_ret2
        exact ⟨by rw [ansT_t]; simp [txV, fbs, nbs], hb⟩
      · rw [decide_eq_false h0] at e1 e2
        rw [show isV s false = false from decide_eq_false (fun h => by rcases h.2 with h | h; cases h; exact h0 h)]
        go_enter Tryd.func29, Tryd.ntmps29
        go_wp2
        go_ret2
        exact ⟨rfl, Below.refl _ _⟩
    · rw [show isV s true = true from decide_eq_true ⟨by omega, .inl rfl⟩]
      obtain ⟨sa, hsa, za⟩ := nb_str 1 (by decide)
      obtain ⟨sc, hsc, zc⟩ : ∃ q : ByteArray, ⟨(tbs s).toArray⟩ = q ∧ q.size ≤ 72 := ⟨_, rfl, str_len (by omega) (Nat.le_refl _)⟩
      have HE := Lib.hid (show (sa ++ sc : ByteArray) = ⟨(txV s true).toArray⟩ by rw [← hsa, ← hsc]; apply ByteArray.ext; simp [txV, fbs, nbs])
      have HSA := Lib.hid hsa
      have HSC := Lib.hid hsc
      clear hsa hsc
      go_enter Tryd.func29, Tryd.ntmps29
      go_wp2_with fail
      go_region_with (first
        | (go_at_call 50; refine (rnum 1 _ (by decide) (by decide)).mono ?_; rintro e w2 ⟨A1, m1, c1, rfl, hat1, hb3⟩
           have v1 := cv_ hat1 c1
           rw [HSA.out] at v1
           have f3 : Below w.heap.size w w2 := by first | exact hb3 | exact (below_drewN (Below.refl w.heap.size w) 1).trans hb3)
        | (go_at_call 51; refine (rstr s _ (by omega)).mono ?_; rintro e w3 ⟨A2, m2, c2, rfl, hat2, hb4⟩
           have v2 := cv_ (hat1.below' hb4) c1
           rw [HSA.out] at v2
           have v3 := cv_ hat2 c2
           rw [HSC.out] at v3
           have f4 : Below w.heap.size w w3 := by first | exact f3.trans (hb4.mono f3.size) | exact f3.drew.trans (hb4.mono f3.size)))
      all_goals go_wp2
      all_goals go_ret2
      all_goals exact ⟨by rw [ansT_t, ← HE.out]; rfl, f4⟩
end Go.Proofs.YtchebellejkdnaaDoor
