/-
  CellBack: the walk.
-/
import Derived.Test.YtchebellejkdnaaGreatDoorZ15
import Derived.Test.YtchebellejkdnaaGreatDoorZ16
import Derived.Test.YtchebellejkdnaaGreatDoorLClSame
set_option linter.unusedVariables false
set_option linter.unusedSimpArgs false
set_option maxRecDepth 100000
namespace Go.Proofs.YtchebellejkdnaaGreatDoor
open Go.RowKit

theorem takeI_b (x : It) (s : ByteArray) (w : World) (h : mayI x = true → sb s = txI x) (hs : s.size ≤ 225000000000000) :
    Calls Tryz.prog 11 #[.string s] w fun e w' => ∃ (z : It) (A : Option Addr) (n c : Nat) (k : Int), e = .returned (.tuple #[itv z (.slice A n c), .int .i64 k]) ∧ ChAt w' A n z.l ∧ n ≤ 9223372036854775807 ∧ (mayI x = true → z = x ∧ k = 0) ∧ Below w.heap.size w w' := by
  refine (takeI_c s w hs).mono ?_
  rintro e w' ⟨h1, hb⟩
  cases hm : mayI x with
  | true =>
    rw [h hm, tkI_tx x hm] at h1
    obtain ⟨A, n, c, rfl, h2, h3, h4, h5⟩ := h1
    exact ⟨x, A, n, c, 0, rfl, h2, by omega, fun _ => ⟨rfl, rfl⟩, hb⟩
  | false =>
    cases ht : tkI (sb s) with
    | none =>
      rw [ht] at h1
      exact ⟨zI, none, 0, 0, 4, h1, ChAt.nil _ _, by omega, fun h => (nomatch h), hb⟩
    | some z =>
      rw [ht] at h1
      obtain ⟨A, n, c, rfl, h2, h3, h4, h5⟩ := h1
      exact ⟨z, A, n, c, 0, rfl, h2, by omega, fun h => (nomatch h), hb⟩
theorem takeR_b (x : Rc) (s : ByteArray) (w : World) (h : mayR x = true → sb s = txR x) (hs : s.size ≤ 225000000000000) :
    Calls Tryz.prog 13 #[.string s] w fun e w' => ∃ (z : Rc) (A : Option Addr) (n c : Nat) (k : Int), e = .returned (.tuple #[rcv z (.slice A n c), .int .i64 k]) ∧ WtAt w' A n z.l ∧ n ≤ 9223372036854775807 ∧ (mayR x = true → z = x ∧ k = 0) ∧ Below w.heap.size w w' := by
  refine (takeR_c s w hs).mono ?_
  rintro e w' ⟨h1, hb⟩
  cases hm : mayR x with
  | true =>
    rw [h hm, tkR_tx x hm] at h1
    obtain ⟨A, n, c, rfl, h2, h3, h4, h5⟩ := h1
    exact ⟨x, A, n, c, 0, rfl, h2, by omega, fun _ => ⟨rfl, rfl⟩, hb⟩
  | false =>
    cases ht : tkR (sb s) with
    | none =>
      rw [ht] at h1
      exact ⟨zR, none, 0, 0, 4, h1, WtAt.nil _ _, by omega, fun h => (nomatch h), hb⟩
    | some z =>
      rw [ht] at h1
      obtain ⟨A, n, c, rfl, h2, h3, h4, h5⟩ := h1
      exact ⟨z, A, n, c, 0, rfl, h2, by omega, fun h => (nomatch h), hb⟩
theorem takeV_b (v s : ByteArray) (w : World) (h : isV v true = true → sb s = txV v true) (hs : s.size ≤ 225000000000000) :
    Calls Tryz.prog 9 #[.string s] w fun e w' => ∃ (z : ByteArray) (d : Bool) (k : Int), e = .returned (.tuple #[.string z, .bool d, .int .i64 k]) ∧ (isV v true = true → z = v ∧ d = true ∧ k = 0) ∧ Below w.heap.size w w' := by
  refine (takeV_c s w hs).mono ?_
  rintro e w' ⟨h1, hb⟩
  cases hm : isV v true with
  | true =>
    rw [h hm, tkV_tx v true hm] at h1
    exact ⟨v, true, 0, h1, fun _ => ⟨rfl, rfl, rfl⟩, hb⟩
  | false =>
    cases ht : tkV (sb s) with
    | none =>
      rw [ht] at h1
      exact ⟨_, _, _, h1, fun h => (nomatch h), hb⟩
    | some z =>
      rw [ht] at h1
      exact ⟨_, _, _, h1, fun h => (nomatch h), hb⟩
/-- What a text is, or that there is none. -/
theorem ansT_two (ok : Bool) (l : List UInt8) (hl : ok = true → l.length ≤ 2048) : ∃ (s : ByteArray) (k : Int), ansT ok l = .returned (.tuple #[.string s, .int .i64 k]) ∧ s.size ≤ 225000000000000 ∧ (ok = true → sb s = l) ∧ ((ok = true ∧ k = 0) ∨ (ok = false ∧ k = 2 ∧ s = ⟨#[]⟩)) := by
  cases ok with
  | true =>
    refine ⟨⟨l.toArray⟩, 0, rfl, ?_, fun _ => rfl, .inl ⟨rfl, rfl⟩⟩
    have := hl rfl
    show l.length ≤ _
    omega
  | false => exact ⟨⟨#[]⟩, 2, rfl, by decide, fun h => (nomatch h), .inr ⟨rfl, rfl, rfl⟩⟩
set_option maxHeartbeats 8000000 in
theorem cellBack_walk (x : It) (A : Option Addr) (n c : Nat) (y : Rc) (A2 : Option Addr) (n2 c2 : Nat) (v : ByteArray) (w : World) (hx : ChAt w A n x.l) (kx : n * 32 ≤ 140737488351232) (hy : WtAt w A2 n2 y.l) (ky : n2 * 24 ≤ 140737488351232) (kv : v.size ≤ 140737488351232) (hm : MaxL w) :
    Calls Tryz.prog 4 #[itv x (.slice A n c), rcv y (.slice A2 n2 c2), .string v] w fun e w' => e = .returned (.bool true) ∧ Below w.heap.size w w' := by
  obtain ⟨sx, ex, t1, t2, t3, t4⟩ := ansT_two (mayI x) (txI x) (fun h => txI_len x h)
  obtain ⟨sy, ey, u1, u2, u3, u4⟩ := ansT_two (mayR y) (txR y) (fun h => txR_len y h)
  obtain ⟨sv', ev, v1, v2, v3, v4⟩ := ansT_two (isV v true) (txV v true) (fun h => txV_len v true h)
  have T1 := Lib.hid t1
  have T3 := Lib.hid t3
  have U1 := Lib.hid u1
  have U3 := Lib.hid u3
  have V1 := Lib.hid v1
  have V3 := Lib.hid v3
  have vle : isV v true = true → v.size ≤ 64 := fun h => (isV_iff.1 h).1
  have vgt : isV v true = false → 64 < v.size := fun h => by
    rcases Nat.lt_or_ge 64 v.size with h2 | h2
    · exact h2
    · rw [isV_iff.2 ⟨h2, .inl rfl⟩] at h; cases h
  have hvv := self_eq v
  have h0 := ((Has.nil (Below.refl w.heap.size w)).newBlk 33 (itc x (.slice A n c))).newBlk 38 (rcc y (.slice A2 n2 c2))
  rw [show (w.alloc (.cells (itc x (.slice A n c)) 33)).heap.size = w.heap.size + 1 by simp] at h0
  obtain ⟨W0, hW0⟩ : ∃ W0, (w.alloc (.cells (itc x (.slice A n c)) 33)).alloc (.cells (rcc y (.slice A2 n2 c2)) 38) = W0 := ⟨_, rfl⟩
  rw [hW0] at h0
  have HW0 := Lib.hid hW0
  have H0 := Lib.hid h0
  have HCX := Lib.hid hx
  have HCY := Lib.hid hy
  have HBX := Lib.hid (h0.blkIn (g := w.heap.size) (t := 33) (cs := itc x (.slice A n c)) (by simp))
  have HBY := Lib.hid (h0.blkIn (g := w.heap.size + 1) (t := 38) (cs := rcc y (.slice A2 n2 c2)) (by simp))
  obtain ⟨mx, hmx⟩ : ∃ mx, mayI x = mx := ⟨_, rfl⟩
  obtain ⟨my, hmy⟩ : ∃ my, mayR y = my := ⟨_, rfl⟩
  obtain ⟨mv, hmv⟩ : ∃ mv, isV v true = mv := ⟨_, rfl⟩
  rw [hmx] at t4
  rw [hmy] at u4
  rw [hmv] at v4 vle vgt
  have HMX := Lib.hid hmx
  have HMY := Lib.hid hmy
  have HMV := Lib.hid hmv
  clear t1 t3 u1 u3 v1 v3 hx hy h0 hmx hmy hmv hW0
  go_enter Tryz.func4, Tryz.ntmps4
  rcases t4 with ⟨rfl, rfl⟩ | ⟨rfl, rfl, rfl⟩
  all_goals rcases u4 with ⟨rfl, rfl⟩ | ⟨rfl, rfl, rfl⟩
  all_goals rcases v4 with ⟨rfl, rfl⟩ | ⟨rfl, rfl, rfl⟩
  all_goals try have vle := vle rfl
  all_goals try have vgt := vgt rfl
  all_goals go_wp2_with (first
    | (go_at_call 18
       rw [HW0.out]
       refine (intent_c x A n c _ (HCX.out.below H0.out.bel) (by omega)).mono ?_; rintro e w1 ⟨he, b1⟩
       rw [T1.out] at he
       subst he
       have H1 := Lib.hid (H0.out.keep b1))
    | (go_at_call 11
       refine (takeI_b x _ _ T3.out t2).mono ?_; rintro e w2 ⟨z, Az, nz, cz, kz, rfl, hatz, hnz, hz, b2⟩
       have h2 := (H1.out.keep b2).newBlk 33 (itc z (.slice Az nz cz))
       have HZ := Lib.hid (hatz.below (nbl w2 (.cells (itc z (.slice Az nz cz)) 33)))
       have ka := h2.blkIn (g := w.heap.size + 1) (t := 38) (cs := rcc y (.slice A2 n2 c2)) (by simp)
       have a0 := ka.cell 0
       have a1 := ka.cell 1
       have a2 := ka.cell 2
       have a3 := ka.cell 3
       have a4 := ka.cell 4
       have a5 := ka.cell 5
       have a6 := ka.cell 6
       have a7 := ka.cell 7
       have a8 := ka.cell 8
       have a9 := ka.cell 9
       simp at a0 a1 a2 a3 a4 a5 a6 a7 a8 a9
       have H2 := Lib.hid h2
       clear h2 ka hatz)
    | (go_at_call 19
       refine (record_c y A2 n2 c2 _ (HCY.out.below H2.out.bel) (by omega)).mono ?_; rintro e w3 ⟨he, b3⟩
       rw [U1.out] at he
       subst he
       have H3 := Lib.hid (H2.out.keep b3)
       clear a0 a1 a2 a3 a4 a5 a6 a7 a8 a9)
    | (go_at_call 13
       refine (takeR_b y _ _ U3.out u2).mono ?_; rintro e w4 ⟨s, As, ns, cs, ks, rfl, hats, hns, hs, b4⟩
       have h4 := (H3.out.keep b4).newBlk 38 (rcc s (.slice As ns cs))
       have HS := Lib.hid (hats.below (nbl w4 (.cells (rcc s (.slice As ns cs)) 38)))
       have HZ2 := Lib.hid ((HZ.out.below b3).below (b4.trans ((nbl w4 (.cells (rcc s (.slice As ns cs)) 38)).mono b4.size)))
       have H4 := Lib.hid h4
       clear h4 hats)
    | (go_at_call 20
       refine (version_c v true _).mono ?_; rintro e w5 ⟨he, b5⟩
       rw [V1.out] at he
       subst he
       have H5 := Lib.hid (H4.out.keep b5))
    | (go_at_call 9
       refine (takeV_b v _ _ V3.out v2).mono ?_; rintro e w6 ⟨vz, vd, vk, rfl, hvz, b6⟩
       have h6 := H5.out.keep b6
       have HZ3 := Lib.hid ((HZ2.out.below b5).below b6)
       have HS3 := Lib.hid ((HS.out.below b5).below b6)
       have kb := h6.blkIn (g := w.heap.size) (t := 33) (cs := itc x (.slice A n c)) (by simp)
       have kc := h6.blkIn (g := w2.heap.size) (t := 33) (cs := itc z (.slice Az nz cz)) (by simp)
       have kd := h6.blkIn (g := w.heap.size + 1) (t := 38) (cs := rcc y (.slice A2 n2 c2)) (by simp)
       have ke := h6.blkIn (g := w4.heap.size) (t := 38) (cs := rcc s (.slice As ns cs)) (by simp)
       have xb0 := kb.cell 0
       have xb1 := kb.cell 1
       have xb2 := kb.cell 2
       have xb3 := kb.cell 3
       have xb4 := kb.cell 4
       have xb5 := kb.cell 5
       have xb6 := kb.cell 6
       have xb7 := kb.cell 7
       have xb8 := kb.cell 8
       have xc0 := kc.cell 0
       have xc1 := kc.cell 1
       have xc2 := kc.cell 2
       have xc3 := kc.cell 3
       have xc4 := kc.cell 4
       have xc5 := kc.cell 5
       have xc6 := kc.cell 6
       have xc7 := kc.cell 7
       have xc8 := kc.cell 8
       have xd0 := kd.cell 0
       have xd1 := kd.cell 1
       have xd2 := kd.cell 2
       have xd3 := kd.cell 3
       have xd4 := kd.cell 4
       have xd5 := kd.cell 5
       have xd6 := kd.cell 6
       have xd7 := kd.cell 7
       have xd8 := kd.cell 8
       have xd9 := kd.cell 9
       have xe0 := ke.cell 0
       have xe1 := ke.cell 1
       have xe2 := ke.cell 2
       have xe3 := ke.cell 3
       have xe4 := ke.cell 4
       have xe5 := ke.cell 5
       have xe6 := ke.cell 6
       have xe7 := ke.cell 7
       have xe8 := ke.cell 8
       have xe9 := ke.cell 9
       simp at xb0 xb1 xb2 xb3 xb4 xb5 xb6 xb7 xb8 xc0 xc1 xc2 xc3 xc4 xc5 xc6 xc7 xc8 xd0 xd1 xd2 xd3 xd4 xd5 xd6 xd7 xd8 xd9 xe0 xe1 xe2 xe3 xe4 xe5 xe6 xe7 xe8 xe9
       have H6 := Lib.hid h6
       have j1 := fun h => (hz (HMX.out.trans h)).1
       have j2 := fun h => (hz (HMX.out.trans h)).2
       have j3 := fun h => (hs (HMY.out.trans h)).1
       have j4 := fun h => (hs (HMY.out.trans h)).2
       have j5 := fun h => (hvz (HMV.out.trans h)).1
       have j6 := fun h => (hvz (HMV.out.trans h)).2.1
       have j7 := fun h => (hvz (HMV.out.trans h)).2.2
       simp at j1 j2 j3 j4 j5 j6 j7
       subst_vars
       have HKD := Lib.hid kd
       have HKE := Lib.hid ke
       clear h6 kb kc kd ke)
    | (go_at_call 15
       refine (rSame_refl _ Az A nz n cz c _ HZ3.out (HCX.out.below H6.out.bel) hnz).mono ?_; rintro e w7 ⟨rfl, b7⟩
       have h7 := H6.out.keep b7
       have HS4 := Lib.hid (HS3.out.below b7)
       have kd7 := HKD.out.below b7 HKD.out.lt
       have ke7 := HKE.out.below b7 HKE.out.lt
       have yd0 := kd7.cell 0
       have yd1 := kd7.cell 1
       have yd2 := kd7.cell 2
       have yd3 := kd7.cell 3
       have yd4 := kd7.cell 4
       have yd5 := kd7.cell 5
       have yd6 := kd7.cell 6
       have yd7 := kd7.cell 7
       have yd8 := kd7.cell 8
       have yd9 := kd7.cell 9
       have ye0 := ke7.cell 0
       have ye1 := ke7.cell 1
       have ye2 := ke7.cell 2
       have ye3 := ke7.cell 3
       have ye4 := ke7.cell 4
       have ye5 := ke7.cell 5
       have ye6 := ke7.cell 6
       have ye7 := ke7.cell 7
       have ye8 := ke7.cell 8
       have ye9 := ke7.cell 9
       simp at yd0 yd1 yd2 yd3 yd4 yd5 yd6 yd7 yd8 yd9 ye0 ye1 ye2 ye3 ye4 ye5 ye6 ye7 ye8 ye9
       have H7 := Lib.hid h7
       clear h7 kd7 ke7)
    | (go_at_call 16; first
       | (refine (rSameR_refl _ As A2 ns n2 cs c2 _ HS4.out (HCY.out.below H7.out.bel) hns).mono ?_; rintro e w8 ⟨rfl, b8⟩; have H8 := Lib.hid (H7.out.keep b8))
       | (refine (rSameR_refl _ As A2 ns n2 cs c2 _ HS3.out (HCY.out.below H6.out.bel) hns).mono ?_; rintro e w8 ⟨rfl, b8⟩; have H8 := Lib.hid (H6.out.keep b8)))
    | (go_at_call 17; first
       | (refine (awake_c _ (hm.below H8.out.bel)).mono ?_; rintro e w9 ⟨rfl, b9⟩; have F9 := H8.out.bel.trans (b9.mono H8.out.bel.size))
       | (refine (awake_c _ (hm.below H7.out.bel)).mono ?_; rintro e w9 ⟨rfl, b9⟩; have F9 := H7.out.bel.trans (b9.mono H7.out.bel.size))
       | (refine (awake_c _ (hm.below H6.out.bel)).mono ?_; rintro e w9 ⟨rfl, b9⟩; have F9 := H6.out.bel.trans (b9.mono H6.out.bel.size))))
  all_goals go_ret
  all_goals exact ⟨rfl, F9⟩
end Go.Proofs.YtchebellejkdnaaGreatDoor
