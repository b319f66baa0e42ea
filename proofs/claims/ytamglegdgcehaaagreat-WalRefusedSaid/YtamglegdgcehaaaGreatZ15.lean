/-
  Layer 4, the document's answer: sum, Frame, Next.
-/
import Derived.Test.YtamglegdgcehaaaGreatZ05
import Derived.Test.YtamglegdgcehaaaGreatZ14
import Derived.Test.YtamglegdgcehaaaGreatZ01
import Derived.Test.YtamglegdgcehaaaGreatZ02
import Derived.StillTailTactics
set_option linter.unusedVariables false
namespace Go.Proofs.YtamglegdgcehaaaGreat
open Go.RowKit

theorem own_be4 (s : BitVec 32) (w : World) {B : Nat} (hB : B ≤ w.heap.size) :
    Own (w.alloc (.cells #[.int .u8 (N s / 16777216), .int .u8 (N s / 65536 % 256), .int .u8 (N s / 256 % 256), .int .u8 (N s % 256)] 5)) B (.slice (some ⟨w.heap.size, 0, none⟩) 4 4) (be4 s) := by
  have h := World.ownsRow_lit (base := B) (e := 5) (size := 1) w #[.int .u8 (N s / 16777216), .int .u8 (N s / 65536 % 256), .int .u8 (N s / 256 % 256), .int .u8 (N s % 256)] 4 hB (by decide) rfl
  have e : (be4 s).map bv = [.int .u8 (N s / 16777216), .int .u8 (N s / 65536 % 256), .int .u8 (N s / 256 % 256), .int .u8 (N s % 256)] := by
    have := s.isLt
    unfold be4 bv N
    simp only [List.map_cons, List.map_nil, UInt8.toNat_ofNat']
    rw [Nat.mod_eq_of_lt (show s.toNat / 16777216 < 2 ^ 8 from by omega)]
    simp
  unfold Own
  rw [e]
  exact h

set_option maxHeartbeats 400000 in
theorem refSum (A : Option Addr) (n c : Nat) (xs : List UInt8) (w : World) (hx : At w A n xs) (hn : n ≤ 9223372036854775807) :
    Calls Tryz.prog 173 #[.slice A n c] w fun e w' => ∃ v, e = .returned v ∧ Own w' w.heap.size v (be4 (crcOf xs)) ∧ Below w.heap.size w w' := by
  have ho := own_be4 (crcOf xs) w (Nat.le_refl _)
  have hb := N_bounds (crcOf xs)
  have C := refOf A n c xs w hx hn
  generalize be4 (crcOf xs) = y at ho
  generalize N (crcOf xs) = m at ho hb C
  have HO := Lib.hid ho
  have HC := Lib.hid C
  clear ho C
  go_enter Tryz.func173, Tryz.ntmps173
  go_wp2_with fail
  refine HC.out.mono ?_
  rintro e w1 ⟨rfl, rfl⟩
  go_wp2
  go_ret
  exact ⟨_, rfl, HO.out, (Below.refl _ _).alloc (Nat.le_refl _) _⟩

set_option maxHeartbeats 800000 in
theorem refFrame (A : Option Addr) (n c : Nat) (xs : List UInt8) (w : World) (hx : At w A n xs) (hnc : n ≤ c) (hc : c ≤ 9223372036854775807) (hn2 : n ≤ 200000000000000) :
    Calls Tryz.prog 155 #[.slice A n c] w fun x W' => ∃ v, x = .returned (.tuple #[v, .int .i64 (if 65536 < n then 5 else 0)]) ∧ Own W' w.heap.size v (if 65536 < n then [] else fr xs) ∧ Below w.heap.size w W' := by
  by_cases h : 65536 < n
  · rw [if_pos h, if_pos h]
    go_enter Tryz.func155, Tryz.ntmps155
    go_wp2
    go_ret2
    exact ⟨_, rfl, World.ownsRow_nil _ _ _ _, Below.refl _ _⟩
  · rw [if_neg h, if_neg h]
    have hxl := hx.1
    have henc := enc_len n (by omega)
    go_enter Tryz.func155, Tryz.ntmps155
    go_wp2_with fail
    refine (refNum n _ (by omega)).mono ?_
    rintro e w1 ⟨v1, rfl, hown1, hb1⟩
    have hx1 := hx.below' hb1
    have hfr : fr xs = enc n ++ xs ++ be4 (crcOf (enc n ++ xs)) := by unfold fr; rw [hxl]
    generalize enc n = en at hown1 henc hfr
    have HFR := Lib.hid hfr
    clear hfr
    go_wp2_with (at_builtin; refine wpList_app rfl _ _ 40 rfl w.heap.size 5 Tryz.underlying40 info5 v1 en.length en xs rfl hown1 A n c rfl hx1 (by omega) hb1.size ?_; intro v2 w2 hown2 hg2 hat2)
    have ho2 : Own w2 w.heap.size v2 (en ++ xs) := by
      unfold Own
      rw [List.length_append, hxl]
      simpa using hown2
    have hb2 : Below w.heap.size w w2 := hb1.grown hg2 hb1.size (fun j hj => by have := World.ownsRow.lt hown1 j hj; omega)
    obtain ⟨A2, c2, rfl, hA2, h21, h22, _⟩ := ho2.form
    have hl2 : (en ++ xs).length ≤ 70000 := by rw [List.length_append]; omega
    generalize en ++ xs = q at ho2 hA2 h21 hl2 HFR
    clear hown1 hown2 hat2 hg2 hb1 hx1
    go_wp2_with fail
    refine (refSum A2 q.length c2 q _ hA2 (by omega)).mono ?_
    rintro e w3 ⟨v3, rfl, hown3, hb3⟩
    have ho3 := ho2.below hb3
    obtain ⟨A3, c3, rfl, hA3, _, _, _⟩ := hown3.form
    rw [be4_len] at hA3 ⊢
    have hb3' : Below w.heap.size w w3 := hb2.trans (hb3.mono hb2.size)
    have hyl := be4_len (crcOf q)
    generalize be4 (crcOf q) = y at hA3 HFR hyl
    clear hown3 hA2 ho2 hb3 hb2
    go_wp2_with (at_builtin; refine wpList_app rfl _ _ 40 rfl w.heap.size 5 Tryz.underlying40 info5 (.slice A2 q.length c2) q.length q y rfl ho3 A3 4 c3 rfl hA3 (by omega) hb3'.size ?_; intro v4 w4 hown4 hg4 hat4)
    have ho4 : Own w4 w.heap.size v4 (q ++ y) := by
      unfold Own
      rw [List.length_append, hyl]
      simpa using hown4
    have hb4 : Below w.heap.size w w4 := hb3'.grown hg4 hb3'.size (fun j hj => by have := World.ownsRow.lt ho3 j hj; omega)
    go_wp2
    go_ret2
    exact ⟨_, rfl, by rw [HFR.out]; exact ho4, hb4⟩

/-- What Next tells, part by part. -/
theorem nx_of {b rest : List UInt8} {v x : Nat} (ht : tk b = (v, rest, x)) :
    nx b = if x ≠ 0 then ([], 0, x) else if 65536 < v then ([], 0, 5) else if rest.length < v + 4 then ([], 0, 3)
      else if (b.drop (b.length - rest.length + v)).take 4 ≠ be4 (crcOf (b.take (b.length - rest.length + v))) then ([], 0, 40) else (rest.take v, b.length - rest.length + v + 4, 0) := by
  unfold nx
  rw [ht]
theorem tk_rest_le {b rest : List UInt8} {v x : Nat} (ht : tk b = (v, rest, x)) : rest.length ≤ b.length := by
  rcases tk_cases b with h | h | ⟨l, r, hb, _, _, _, h⟩
  · rw [h] at ht
    injection ht with _ e
    injection e with e _
    rw [← e]; simp
  · rw [h] at ht
    injection ht with _ e
    injection e with e _
    rw [← e]; simp
  · rw [h] at ht
    injection ht with _ e
    injection e with e _
    rw [← e, hb]; simp; omega

set_option maxHeartbeats 2000000 in
theorem refNext (A : Option Addr) (n c : Nat) (xs p : List UInt8) (size e : Nat) (w : World) (hx : At w A n xs) (hnc : n ≤ c) (hc : c ≤ 9223372036854775807) (hn2 : n ≤ 200000000000000) (hn : nx xs = (p, size, e)) :
    Calls Tryz.prog 147 #[.slice A n c] w fun x W' => ∃ v, x = .returned (.tuple #[v, .int .i64 size, .int .i64 e]) ∧ Own W' w.heap.size v p ∧ Below w.heap.size w W' := by
  obtain ⟨v, rest, x, ht⟩ : ∃ v rest x, tk xs = (v, rest, x) := ⟨_, _, _, rfl⟩
  rw [nx_of ht] at hn
  have hrl := tk_rest_le ht
  have hxl := hx.1
  have hv : v ≤ 9007199254740991 := by
    rcases tk_cases xs with h | h | ⟨l, r, hb, _, _, h3, h⟩
    · rw [h] at ht; injection ht with h0 _; omega
    · rw [h] at ht; injection ht with h0 _; omega
    · rw [h] at ht; injection ht with h0 _; omega
  have HT := refTakeNum A n c xs w hx hnc (by omega) (by omega)
  unfold TkPost at HT
  rw [ht] at HT
  have HTK := Lib.hid HT
  have HN := Lib.hid hn
  clear HT ht hn
  by_cases hx0 : x = 0
  · subst hx0
    rw [hxl] at HN hrl
    go_enter Tryz.func147, Tryz.ntmps147
    go_wp2_with fail
    refine HTK.out.mono ?_
    rintro e1 w1 ⟨r, rfl, hown, hb1⟩
    obtain ⟨A1, c1, rfl, hA1, h11, h12, _⟩ := hown.form
    have hx1 := hx.below' hb1
    clear hown HTK
    by_cases h5 : 65536 < v
    · have h := HN.out
      rw [if_neg (by simp), if_pos h5] at h
      injection h with h1 h
      injection h with h2 h3
      subst h1 h2 h3
      clear HN
      go_wp2
      go_ret3
      exact ⟨_, rfl, World.ownsRow_nil _ _ _ _, hb1⟩
    · by_cases h3 : rest.length < v + 4
      · have h := HN.out
        rw [if_neg (by simp), if_neg h5, if_pos h3] at h
        injection h with h1 h
        injection h with h2 h3
        subst h1 h2 h3
        clear HN
        go_wp2
        go_ret3
        exact ⟨_, rfl, World.ownsRow_nil _ _ _ _, hb1⟩
      · obtain ⟨a, ha⟩ : ∃ a : Nat, (n : Int) - rest.length + v = (a : Int) := ⟨n - rest.length + v, by omega⟩
        have h := HN.out
        rw [if_neg (by simp), if_neg h5, if_neg h3, show n - rest.length + v = a from by omega] at h
        clear HN
        have hT := hA1.cut (l := 0) (k := v) (m := c1) (by omega) (by omega) (by omega)
        have hD := hx1.cut (l := a) (k := a + 4) (m := c) (by omega) (by omega) (by omega)
        have hH := hx1.cut (l := 0) (k := a) (m := c) (by omega) (by omega) (by omega)
        simp only [cutA_zero, Nat.sub_zero, List.drop_zero] at hT hH
        rw [List.drop_take, show a + 4 - a = 4 from by omega] at hD
        obtain ⟨bb, oo, rfl, _⟩ := hx1.at_ (by omega)
        have hcut : cutA (some ⟨bb, oo, none⟩) c a = some ⟨bb, oo + a, none⟩ := by
          unfold cutA
          rw [if_neg (by omega), Option.map_some, Nat.mul_one, Go.WideShapes.add_plain]
        rw [hcut] at hD
        clear hcut
        have k2 : ∀ W : World, (Instr.slice 40 (.slice (some ⟨bb, oo, none⟩) n c) none (some (.int .i64 (a : Int))) none).run Tryz.prog W = .ok (.slice (some ⟨bb, oo, none⟩) a c) W := fun W => by
          simpa using slb_h (some ⟨bb, oo, none⟩) n c .i64 (a : Int) W (by omega) (by omega)
        have k3 : ∀ W : World, (Instr.slice 40 (.slice A1 rest.length c1) none (some (.int .i64 (v : Int))) none).run Tryz.prog W = .ok (.slice A1 v c1) W := fun W => by
          simpa using slb_h A1 rest.length c1 .i64 (v : Int) W (by omega) (by omega)
        have C1 := Lib.hid (fun W hh => refSum (some ⟨bb, oo, none⟩) a c (xs.take a) W hh (by omega))
        have hTl : (rest.take v).length = v := by rw [List.length_take]; omega
        have HTL := Lib.hid hTl
        have HA := Lib.hid ha
        have hab : a + 4 ≤ n := by omega
        have hlr : rest.length ≤ 225000000000000 := by omega
        generalize rest.take v = t at hT h HTL
        generalize (xs.drop a).take 4 = d at hD h
        generalize be4 (crcOf (xs.take a)) = y at C1 h
        generalize xs.take a = hd at C1 hH
        generalize rest.length = L at *
        clear hA1 hx1 hTl ha hx
        have hD0 : At w1.drew (some ⟨bb, oo + a, none⟩) 4 d := hD
        have hH0 : At w1.drew (some ⟨bb, oo, none⟩) a hd := hH
        have hT0 : At w1.drew A1 v t := hT
        have hb0 : Below w.heap.size w w1.drew := hb1.drew
        clear hD hH hT
        go_wp2_with fail
        rw [HA.out]
        have q0 : IntKind.i64.wrap ((a : Int) + 4) = (a : Int) + 4 := by rw [IntKind.wrap_i64]; omega
        have q1 : (0 : Int) ≤ (a : Int) + 4 := by omega
        have q2 : (a : Int) + 4 ≤ (c : Int) := by omega
        have q3 : a ≤ ((a : Int) + 4).toNat := by omega
        have q4 : ¬ c = a := by omega
        have q5 : ((a : Int) + 4).toNat - a = 4 := by omega
        by_cases hq : d = y
        · rw [if_neg (by simpa using hq)] at h
          injection h with h1 h
          injection h with h2 h3
          subst h1 h2 h3
          have HB := Lib.hid (show (d == y) = true by simpa using hq)
          clear hq
          go_region_with (first
            | (go_at_call 173; refine (C1.out _ ?_).mono ?_; exact hH0; rintro e2 w2 ⟨v2, rfl, hown2, hb2⟩; obtain ⟨A2, c2, rfl, hA2, _, _, _⟩ := hown2.form; have hD2 := hD0.below' hb2; have hT2 := hT0.below' hb2; have hF2 := hb0.trans (hb2.mono hb0.size); clear hown2 hb2)
            | (go_at_call 109; refine (eqBytes (some ⟨bb, oo + a, none⟩) A2 4 _ (c - a) c2 d y _ hD2 hA2 (by omega)).mono ?_; rintro e3 w3 ⟨rfl, j, rfl⟩; rw [HB.out]))
          all_goals go_wp2_with fail
          all_goals (refine (copyBytes A1 v c1 t _ (hT2.drewN j) (by omega)).mono ?_; rintro e4 w4 ⟨v4, rfl, hown4, hb4⟩)
          all_goals have hs4 := hF2.size
          all_goals go_wp2
          all_goals go_ret3
          all_goals exact ⟨v4, by rw [show ((a + 4 : Nat) : Int) = (a : Int) + 4 from by omega]; rfl, hown4.base (by simpa using hs4), (below_drewN hF2 j).trans (hb4.mono (by simpa using hs4))⟩
        · rw [if_pos (by simpa using hq)] at h
          injection h with h1 h
          injection h with h2 h3
          subst h1 h2 h3
          have HB := Lib.hid (show (d == y) = false by simpa using hq)
          clear hq
          go_region_with (first
            | (go_at_call 173; refine (C1.out _ ?_).mono ?_; exact hH0; rintro e2 w2 ⟨v2, rfl, hown2, hb2⟩; obtain ⟨A2, c2, rfl, hA2, _, _, _⟩ := hown2.form; have hD2 := hD0.below' hb2; have hT2 := hT0.below' hb2; have hF2 := hb0.trans (hb2.mono hb0.size); clear hown2 hb2)
            | (go_at_call 109; refine (eqBytes (some ⟨bb, oo + a, none⟩) A2 4 _ (c - a) c2 d y _ hD2 hA2 (by omega)).mono ?_; rintro e3 w3 ⟨rfl, j, rfl⟩; rw [HB.out]))
          all_goals go_wp2
          all_goals go_ret3
          all_goals exact ⟨_, rfl, World.ownsRow_nil _ _ _ _, below_drewN hF2 j⟩
  · have hne : ((x : Int) != 0) = true := by simp; omega
    go_enter Tryz.func147, Tryz.ntmps147
    go_wp2_with fail
    refine HTK.out.mono ?_
    rintro e1 w1 ⟨r, rfl, hown, hb1⟩
    have h := HN.out
    rw [if_pos hx0] at h
    injection h with h1 h
    injection h with h2 h3
    subst h1 h2 h3
    go_wp2
    go_ret3
    exact ⟨_, rfl, World.ownsRow_nil _ _ _ _, hb1⟩
end Go.Proofs.YtamglegdgcehaaaGreat
