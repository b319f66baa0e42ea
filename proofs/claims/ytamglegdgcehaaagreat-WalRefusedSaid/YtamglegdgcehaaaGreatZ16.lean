/-
  Layer 4, the code: sumOf, Frame.
-/
import Derived.Test.YtamglegdgcehaaaGreatZ12
import Derived.Test.YtamglegdgcehaaaGreatZ15
import Derived.Test.YtamglegdgcehaaaGreatZ14
import Derived.Test.YtamglegdgcehaaaGreatZ01
import Derived.Test.YtamglegdgcehaaaGreatZ02
set_option linter.unusedVariables false
namespace Go.Proofs.YtamglegdgcehaaaGreat
open Go.RowKit

theorem joinTwo {w : World} {A1 A2 : Option Addr} {n1 n2 c1 c2 : Nat} {l1 l2 : List UInt8} (t : TypeId) (h1 : At w A1 n1 l1) (h2 : At w A2 n2 l2) (hn : l1.length + l2.length ≤ 225000000000000) :
    Calls Tryz.prog 92 #[.slice (some ⟨w.heap.size, 0, none⟩) 2 2] (w.alloc (.cells #[.slice A1 n1 c1, .slice A2 n2 c2] t)) fun e w' => ∃ v, e = .returned v ∧ Own w' w.heap.size v (l1 ++ l2) ∧ Below w.heap.size w w' := by
  refine (join _ 2 2 [l1, l2] _ (lists_two t h1 h2) (by omega) (by simpa using hn)).mono ?_
  rintro e w2 ⟨v, rfl, hown, hb⟩
  have hfl : [l1, l2].flatten = l1 ++ l2 := by simp
  rw [hfl] at hown
  exact ⟨v, rfl, hown.base (by simp), ((Below.refl _ w).alloc (Nat.le_refl _) _).trans (hb.mono (by simp))⟩
theorem joinOne {w : World} {A1 : Option Addr} {n1 c1 : Nat} {l1 : List UInt8} (t : TypeId) (h1 : At w A1 n1 l1) (hn : l1.length ≤ 225000000000000) :
    Calls Tryz.prog 92 #[.slice (some ⟨w.heap.size, 0, none⟩) 1 1] (w.alloc (.cells #[.slice A1 n1 c1] t)) fun e w' => ∃ v, e = .returned v ∧ Own w' w.heap.size v l1 ∧ Below w.heap.size w w' := by
  refine (join _ 1 1 [l1] _ (lists_one t h1) (by omega) (by simpa using hn)).mono ?_
  rintro e w2 ⟨v, rfl, hown, hb⟩
  have hfl : [l1].flatten = l1 := by simp
  rw [hfl] at hown
  exact ⟨v, rfl, hown.base (by simp), ((Below.refl _ w).alloc (Nat.le_refl _) _).trans (hb.mono (by simp))⟩

set_option maxHeartbeats 400000 in
theorem sumOf (A : Option Addr) (n c : Nat) (xs : List UInt8) (w : World) (hx : At w A n xs) (hn : n ≤ 9223372036854775807) :
    Calls Tryz.prog 91 #[.slice A n c] w fun e w' => ∃ v, e = .returned v ∧ Own w' w.heap.size v (be4 (crcOf xs)) ∧ Below w.heap.size w w' := by
  have hb := N_bounds (crcOf xs)
  have C := of_ A n c xs w hx hn
  have ho := fun (w1 : World) (h : w.heap.size ≤ w1.heap.size) => own_be4 (crcOf xs) w1 h
  generalize be4 (crcOf xs) = y at ho
  generalize N (crcOf xs) = m at ho hb C
  have HO := Lib.hid ho
  have HC := Lib.hid C
  clear ho C
  go_enter Tryz.func91, Tryz.ntmps91
  go_wp2_with fail
  refine HC.out.mono ?_
  rintro e w1 ⟨rfl, hb1⟩
  have h1 := HO.out w1 hb1.size
  have h2 := hb1.alloc hb1.size (.cells #[.int .u8 (m / 16777216), .int .u8 (m / 65536 % 256), .int .u8 (m / 256 % 256), .int .u8 (m % 256)] 5)
  go_wp2
  go_ret
  exact ⟨_, rfl, h1, h2⟩

set_option maxHeartbeats 800000 in
theorem frame_ok : FrameOk := by
  intro A n c xs w hx hnc hc hn2
  by_cases h : 65536 < n
  · rw [if_pos h, if_pos h]
    go_enter Tryz.func69, Tryz.ntmps69
    go_wp2
    go_ret2
    exact ⟨_, rfl, World.ownsRow_nil _ _ _ _, Below.refl _ _⟩
  · rw [if_neg h, if_neg h]
    have hxl := hx.1
    have henc := enc_len n (by omega)
    go_enter Tryz.func69, Tryz.ntmps69
    go_wp2_with fail
    refine (num n _ (by omega)).mono ?_
    rintro e w1 ⟨v1, rfl, hown1, hb1⟩
    have hx1 := hx.below' hb1
    have hfr : fr xs = enc n ++ xs ++ be4 (crcOf (enc n ++ xs)) := by unfold fr; rw [hxl]
    generalize enc n = en at hown1 henc hfr
    obtain ⟨A1, c1, rfl, hat1, _, _, _⟩ := hown1.form
    have HFR := Lib.hid hfr
    have J1 := Lib.hid (joinTwo (c1 := c1) (c2 := c) 40 hat1 hx1 (by omega))
    have hl2 : (en ++ xs).length ≤ 70000 := by rw [List.length_append]; omega
    generalize en.length = m1 at *
    clear hfr hown1 hat1
    go_wp2_with fail
    refine J1.out.mono ?_
    rintro e w2 ⟨v2, rfl, hown2, hb2⟩
    have hb2' := hb1.trans (hb2.mono hb1.size)
    obtain ⟨A2, c2, rfl, hA2, h21, h22, _⟩ := hown2.form
    clear J1
    generalize en ++ xs = q at hA2 h21 hl2 HFR hown2
    clear hown2 hb2 hb1 hx1
    go_wp2_with fail
    refine (sumOf A2 q.length c2 q _ hA2 (by omega)).mono ?_
    rintro e w3 ⟨v3, rfl, hown3, hb3⟩
    have hA3 := hA2.below' hb3
    have hb3' : Below w.heap.size w w3 := hb2'.trans (hb3.mono hb2'.size)
    obtain ⟨A3, c3, rfl, hA4, _, _, _⟩ := hown3.form
    have J2 := Lib.hid (joinTwo (c1 := c2) (c2 := c3) 40 hA3 hA4 (by rw [be4_len]; omega))
    rw [be4_len] at J2 ⊢
    generalize q.length = m2 at *
    clear hown3 hA4 hA3 hA2 hb3 hb2'
    go_wp2_with fail
    refine J2.out.mono ?_
    rintro e w4 ⟨v4, rfl, hown4, hb4⟩
    have hb4' := hb3'.trans (hb4.mono hb3'.size)
    have ho4 : Own w4 w.heap.size v4 (fr xs) := by rw [HFR.out]; exact hown4.base hb3'.size
    clear hown4 hb4 J2 HFR
    go_wp2
    go_ret2
    exact ⟨_, rfl, ho4, hb4'⟩
end Go.Proofs.YtamglegdgcehaaaGreat
