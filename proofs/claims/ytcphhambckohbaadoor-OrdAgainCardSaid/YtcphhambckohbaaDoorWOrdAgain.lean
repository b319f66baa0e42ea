/-
  OrdAgain: the walk.
-/
import Derived.Test.YtcphhambckohbaaDoorOMore
set_option linter.unusedVariables false
namespace Go.Proofs.YtcphhambckohbaaDoor
open Go.RowKit

theorem tkey_err : ∀ (k : Nat) (t : List UInt8) (n e : Nat), t.length ≤ k → tkey n t = .error e → e ≠ 0
  | k, [], n, e, _, h => by rw [tkey_nil] at h; injection h with h; omega
  | 0, b :: t, n, e, hk, h => by simp at hk
  | k + 1, b :: t, n, e, hk, h => by
    have step : ∀ (x : UInt8) (u : List UInt8), u.length ≤ k → (if n = 0 then Except.error 5 else (tkey (n - 1) u).map fun p => (x :: p.1, p.2)) = .error e → e ≠ 0 := by
      intro x u hu h
      by_cases hn : n = 0
      · rw [if_pos hn] at h
        injection h with h
        omega
      · rw [if_neg hn] at h
        cases hq : tkey (n - 1) u with
        | ok p => rw [hq] at h; cases h
        | error e' =>
          rw [hq] at h
          injection h with h
          rw [← h]
          exact tkey_err k u (n - 1) e' hu hq
    by_cases hb : b = 0
    · subst hb
      cases t with
      | nil => rw [tkey_zero] at h; injection h with h; omega
      | cons c t =>
        by_cases hc : c = 0
        · subst hc
          rw [tkey_end] at h
          cases h
        · by_cases hc1 : c = 1
          · subst hc1
            rw [tkey_esc] at h
            exact step 0 t (by simp at hk; omega) h
          · rw [tkey_bad n hc hc1] at h
            injection h with h
            omega
    · rw [tkey_byte n hb] at h
      exact step b t (by simp at hk; omega) h

theorem again1 (t : ByteArray) : (tke (tkey 1000 (sb t)) = 0 ∧ keyS (tkt (tkey 1000 (sb t))) ++ tkr (tkey 1000 (sb t)) = t) ∨
    (tke (tkey 1000 (sb t)) ≠ 0 ∧ tkt (tkey 1000 (sb t)) = ⟨#[]⟩ ∧ tkr (tkey 1000 (sb t)) = ⟨#[]⟩) := by
  cases h : tkey 1000 (sb t) with
  | error e =>
    have := tkey_err _ _ _ _ (Nat.le_refl _) h
    exact .inr ⟨by show (e : Int) ≠ 0; omega, rfl, rfl⟩
  | ok p =>
    obtain ⟨s, r⟩ := p
    obtain ⟨h1, h2⟩ := tkey_back _ _ _ _ _ (Nat.le_refl _) h
    refine .inl ⟨rfl, ?_⟩
    show keyS ⟨s.toArray⟩ ++ ⟨r.toArray⟩ = t
    unfold keyS
    rw [if_pos (show (⟨s.toArray⟩ : ByteArray).size ≤ 1000 from h2)]
    apply sb_inj
    rw [ba_app, sb_mk, sb_mk, sb_mk, ← h1]
    simp [okey]

theorem again2 (t : ByteArray) : may (tdA (tdown (sb t))) (tdB (tdown (sb t))) = true ∧ ((tdE (tdown (sb t)) = 0 ∧ (⟨(odown (tdA (tdown (sb t))) (tdB (tdown (sb t)))).toArray⟩ : ByteArray) ++ tdR (tdown (sb t)) = t) ∨
    (tdE (tdown (sb t)) ≠ 0 ∧ tdA (tdown (sb t)) = 0 ∧ tdB (tdown (sb t)) = 0 ∧ tdR (tdown (sb t)) = ⟨#[]⟩)) := by
  cases h : tdown (sb t) with
  | error e =>
    have he : e ≠ 0 := by
      unfold tdown at h
      split at h
      · injection h with h; omega
      · split at h
        · cases h
        · injection h with h; omega
    exact ⟨show may 0 0 = true by decide, .inr ⟨by show (e : Int) ≠ 0; omega, rfl, rfl, rfl⟩⟩
  | ok p =>
    obtain ⟨a, b, r⟩ := p
    obtain ⟨h1, h2⟩ := odown_tdown _ _ _ _ h
    refine ⟨h1, .inl ⟨rfl, ?_⟩⟩
    show (⟨(odown a b).toArray⟩ : ByteArray) ++ ⟨r.toArray⟩ = t
    apply sb_inj
    rw [ba_app, sb_mk, sb_mk, h2]

set_option maxHeartbeats 8000000 in
theorem ordAgain_walk (t : ByteArray) (w : World) (ht : t.size ≤ 140737488351232) (hm : MaxL w) :
    Calls Tryd.prog 6 #[.string t] w fun e w' => e = .returned (.bool true) ∧ Below w.heap.size w w' := by
  have c1 := fun V => take t V (by omega)
  have c2 := fun V => takeDownAny t V (by omega)
  have a1 := again1 t
  obtain ⟨hmay, a2⟩ := again2 t
  unfold TkAns at c1
  generalize tkey 1000 (sb t) = r at c1 a1
  generalize tdown (sb t) = q at c2 a2 hmay
  generalize tkt r = S at c1 a1
  generalize tkr r = L at c1 a1
  generalize tke r = E at c1 a1
  generalize tdA q = X at c2 a2 hmay
  generalize tdB q = Y at c2 a2 hmay
  generalize tdR q = Z at c2 a2
  generalize tdE q = K at c2 a2
  have c3 := fun V hV => lawKey S V hV
  have c4 := fun V => down X Y V hmay
  have hDs : (⟨(odown X Y).toArray⟩ : ByteArray).size = 9 := odown_len X Y
  generalize (⟨(odown X Y).toArray⟩ : ByteArray) = D at c4 a2 hDs
  generalize keyS S = G at c3 a1
  have C1 := Lib.hid c1
  have C2 := Lib.hid c2
  have C3 := Lib.hid c3
  have C4 := Lib.hid c4
  clear c1 c2 c3 c4 hmay
  rcases a1 with ⟨e1, e2⟩ | ⟨e1, e2, e3⟩ <;> rcases a2 with ⟨k1, k2⟩ | ⟨k1, k2, k3, k4⟩
  · subst e1
    have hs1 : G.size + L.size ≤ 140737488351232 := by rw [← ByteArray.size_append, e2]; exact ht
    subst k1
    have hs2 : D.size + Z.size ≤ 140737488351232 := by rw [← ByteArray.size_append, k2]; exact ht
    go_enter Tryd.func6, Tryd.ntmps6
    go_wp2_with fail
    refine (works _ hm).mono ?_
    rintro e w1 ⟨rfl, hb1⟩
    go_wp2_with fail
    refine (C1.out _).mono ?_
    rintro e w2 ⟨rfl, hb2⟩
    have hw2 := hb1.trans (hb2.mono hb1.size)
    clear hb1 hb2
    go_wp2_with fail
    refine (C2.out _).mono ?_
    rintro e w3 ⟨rfl, hb3⟩
    have hw3 := hw2.trans (hb3.mono hw2.size)
    have hm3 := hm.below hw3
    clear hw2 hb3
    go_wp2_with fail
    refine (C3.out _ (hm3.alloc _)).mono ?_
    rintro e w4 ⟨rfl, hb4⟩
    obtain ⟨f0, f1⟩ := box_cell 31 hb4
    have hw4 := (hw3.alloc hw3.size _).trans (hb4.mono (by have := hw3.size; simp; omega))
    clear hb4 hm3
    go_wp2_with fail
    refine (C4.out _).mono ?_
    rintro e w5 ⟨rfl, hb5⟩
    have g0 := (hb5.cell (World.block_lt_of_cell? w4 _ f0)).trans f0
    have g1 := (hb5.cell (World.block_lt_of_cell? w4 _ f1)).trans f1
    have hw5 := hw4.trans (hb5.mono hw4.size)
    clear hb5 f0 f1
    go_wp2
    go_ret
    exact ⟨rfl, hw5⟩
  · subst e1
    have hs1 : G.size + L.size ≤ 140737488351232 := by rw [← ByteArray.size_append, e2]; exact ht
    subst k2
    subst k3
    subst k4
    have hK : (K == 0) = false := by simpa using k1
    clear k1
    go_enter Tryd.func6, Tryd.ntmps6
    go_wp2_with fail
    refine (works _ hm).mono ?_
    rintro e w1 ⟨rfl, hb1⟩
    go_wp2_with fail
    refine (C1.out _).mono ?_
    rintro e w2 ⟨rfl, hb2⟩
    have hw2 := hb1.trans (hb2.mono hb1.size)
    clear hb1 hb2
    go_wp2_with fail
    refine (C2.out _).mono ?_
    rintro e w3 ⟨rfl, hb3⟩
    have hw3 := hw2.trans (hb3.mono hw2.size)
    have hm3 := hm.below hw3
    clear hw2 hb3
    go_wp2_with fail
    refine (C3.out _ (hm3.alloc _)).mono ?_
    rintro e w4 ⟨rfl, hb4⟩
    obtain ⟨f0, f1⟩ := box_cell 31 hb4
    have hw4 := (hw3.alloc hw3.size _).trans (hb4.mono (by have := hw3.size; simp; omega))
    clear hb4 hm3
    go_wp2_with fail
    refine (C4.out _).mono ?_
    rintro e w5 ⟨rfl, hb5⟩
    have g0 := (hb5.cell (World.block_lt_of_cell? w4 _ f0)).trans f0
    have g1 := (hb5.cell (World.block_lt_of_cell? w4 _ f1)).trans f1
    have hw5 := hw4.trans (hb5.mono hw4.size)
    clear hb5 f0 f1
    go_wp2
    go_ret
    exact ⟨rfl, hw5⟩
  · subst e2
    subst e3
    have hE : (E == 0) = false := by simpa using e1
    clear e1
    subst k1
    have hs2 : D.size + Z.size ≤ 140737488351232 := by rw [← ByteArray.size_append, k2]; exact ht
    go_enter Tryd.func6, Tryd.ntmps6
    go_wp2_with fail
    refine (works _ hm).mono ?_
    rintro e w1 ⟨rfl, hb1⟩
    go_wp2_with fail
    refine (C1.out _).mono ?_
    rintro e w2 ⟨rfl, hb2⟩
    have hw2 := hb1.trans (hb2.mono hb1.size)
    clear hb1 hb2
    go_wp2_with fail
    refine (C2.out _).mono ?_
    rintro e w3 ⟨rfl, hb3⟩
    have hw3 := hw2.trans (hb3.mono hw2.size)
    have hm3 := hm.below hw3
    clear hw2 hb3
    go_wp2_with fail
    refine (C4.out _).mono ?_
    rintro e w5 ⟨rfl, hb5⟩
    obtain ⟨g0, g1⟩ := box_cell 31 hb5
    have hw5 := (hw3.alloc hw3.size _).trans (hb5.mono (by have := hw3.size; simp; omega))
    clear hb5 hm3
    go_wp2
    go_ret
    exact ⟨rfl, hw5⟩
  · subst e2
    subst e3
    have hE : (E == 0) = false := by simpa using e1
    clear e1
    subst k2
    subst k3
    subst k4
    have hK : (K == 0) = false := by simpa using k1
    clear k1
    go_enter Tryd.func6, Tryd.ntmps6
    go_wp2_with fail
    refine (works _ hm).mono ?_
    rintro e w1 ⟨rfl, hb1⟩
    go_wp2_with fail
    refine (C1.out _).mono ?_
    rintro e w2 ⟨rfl, hb2⟩
    have hw2 := hb1.trans (hb2.mono hb1.size)
    clear hb1 hb2
    go_wp2_with fail
    refine (C2.out _).mono ?_
    rintro e w3 ⟨rfl, hb3⟩
    have hw3 := hw2.trans (hb3.mono hw2.size)
    have hm3 := hm.below hw3
    clear hw2 hb3
    go_wp2_with fail
    refine (C4.out _).mono ?_
    rintro e w5 ⟨rfl, hb5⟩
    obtain ⟨g0, g1⟩ := box_cell 31 hb5
    have hw5 := (hw3.alloc hw3.size _).trans (hb5.mono (by have := hw3.size; simp; omega))
    clear hb5 hm3
    go_wp2
    go_ret
    exact ⟨rfl, hw5⟩
end Go.Proofs.YtcphhambckohbaaDoor
