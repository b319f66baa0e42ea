/-
  CrcPieces: the walk.
-/
import Derived.Test.YtjhhecaamojkjaaCWorks
import Derived.Deep.Cut
import Derived.Deep.CutRange
set_option linter.unusedVariables false
namespace Go.Proofs.Ytjhhecaamojkjaa
open Go.RowKit

set_option maxHeartbeats 2000000 in
theorem crcPieces_walk (A : Option Addr) (n c : Nat) (xs : List UInt8) (B : Option Addr) (m d : Nat) (ys : List UInt8) (s : BitVec 32) (w : World) (hx : At w A n xs) (hnc : n ≤ c) (hk : c ≤ 140737488351232) (hz : A = none → c = 0)
    (hy : At w B m ys) (hmd : m ≤ d) (hk' : d ≤ 140737488351232) (hz' : B = none → d = 0) :
    Calls Try.prog 5 #[.slice A n c, .slice B m d, .int .u32 (N s)] w fun e w' => e = .returned (.bool true) ∧ Below w.heap.size w w' := by
  obtain ⟨p, hp⟩ : ∃ p : Nat, p = min n 4000 := ⟨_, rfl⟩
  obtain ⟨q, hq⟩ : ∃ q : Nat, q = min m 4000 := ⟨_, rfl⟩
  go_enter Try.func5, Try.ntmps5
  go_wp2_with fail
  refine (works _).mono ?_
  rintro e w1 ⟨rfl, hb1⟩
  go_upto_region 3 with fail
  go_cut [0, 1] from 10 to 19 (fun u v wx => u = .slice A p c ∧ v = .slice B q d ∧ Hid (Below w1.heap.size w1 wx))
  case first =>
    have b1 : (0 : Int) ≤ min (n : Int) 4000 := by omega
    have b2 : min (n : Int) 4000 ≤ c := by omega
    have b3 : (0 : Int) ≤ min (m : Int) 4000 := by omega
    have b4 : min (m : Int) 4000 ≤ d := by omega
    have e1 : (min (n : Int) 4000).toNat = p := by omega
    have e2 : (min (m : Int) 4000).toNat = q := by omega
    have E1 := Lib.hid e1
    have E2 := Lib.hid e2
    clear hp hq e1 e2
    go_quiet (fail)
    all_goals go_wp2
    all_goals go_meet
    all_goals exact ⟨by rw [← E1.out], by rw [← E2.out], below_drewN (Below.refl _ _) _⟩
  case rest =>
    obtain ⟨rfl, rfl, hbc⟩ := hcut
    have hA := ((hx.below' hb1).below' hbc.out).cut (l := 0) (k := p) (m := c) (by omega) (by omega) (by omega)
    have hB := ((hy.below' hb1).below' hbc.out).cut (l := 0) (k := q) (m := d) (by omega) (by omega) (by omega)
    simp only [cutA_zero, Nat.sub_zero, List.drop_zero] at hA hB
    have hF : Below w.heap.size w wc := hb1.trans (hbc.out.mono hb1.size)
    have hp4 : p ≤ 4000 := by omega
    have hq4 : q ≤ 4000 := by omega
    have hpc : p ≤ c := by omega
    have hqd : q ≤ d := by omega
    generalize xs.take p = X1 at hA
    generalize ys.take q = X2 at hB
    clear hx hy hb1 hbc hp hq
    go_wp2_with fail
    refine (copyBytes A p c X1 _ hA (by omega)).mono ?_
    rintro e w2 ⟨v, rfl, hown, hb2⟩
    have hX1 := hA.1
    rw [← hX1] at hp4
    have hB2 := hB.below' hb2
    have hF2 : Below w.heap.size w w2 := hF.trans (hb2.mono hF.size)
    have hbs := hb2.size
    go_wp2_with (at_builtin; refine wpList_app rfl _ _ 22 rfl wc.heap.size 5 Try.underlying22 info5 v X1.length X1 X2 rfl hown B q d rfl hB2 ?hb hbs ?_)
    case hb => omega
    intro v3 w3 hown3 hg3 hat3
    have hB3 : Below wc.heap.size wc w3 := hb2.grown hg3 (by omega) (fun j hj => by have := World.ownsRow.lt hown j hj; omega)
    have hO3 : Own w3 wc.heap.size v3 (X1 ++ X2) := by
      unfold Own
      rw [List.map_append, List.length_append, hX1, hB.1]
      exact hown3
    obtain ⟨A3, c3, rfl, hC3, hc31, hc32, _⟩ := hO3.form
    have hl3 : (X1 ++ X2).length = p + q := by rw [List.length_append, hX1, hB.1]
    have hA3 := hA.below' hB3
    have hB3' := hB.below' hB3
    have hF3 : Below w.heap.size w w3 := hF.trans (hB3.mono hF.size)
    rw [hX1] at hp4
    generalize hX3 : X1 ++ X2 = X3 at hC3 hO3 hl3
    have f1 : crcAdd (crcOf X1) X2 = crcOf X3 := by rw [← hX3]; exact crcAdd_app _ _ _
    have f2 : crcAdd (crcAdd s X1) X2 = crcAdd s X3 := by rw [← hX3]; exact crcAdd_app _ _ _
    have f3 : N (crcAdd s []) = N s := by rw [crcAdd_nil]
    have C1 := fun W h => of_ A p c X1 W h (by omega)
    have C2 := fun W h => add (crcOf X1) B q d X2 W h (by omega)
    have C3 := fun W h => of_ A3 X3.length c3 X3 W h (by omega)
    have C4 := fun W h => add s A p c X1 W h (by omega)
    have C5 := fun W h => add (crcAdd s X1) B q d X2 W h (by omega)
    have C6 := fun W h => add s A3 X3.length c3 X3 W h (by omega)
    have C7 := fun W => add s none 0 0 [] W (At.nil _ _) (by omega)
    rw [f1] at C2
    rw [f2] at C5
    rw [f3] at C7
    generalize N (crcOf X3) = r1 at C2 C3
    generalize N (crcAdd s X3) = r2 at C5 C6
    generalize N (crcOf X1) = r3 at C1 C2
    generalize N (crcAdd s X1) = r4 at C4 C5
    generalize N s = r5 at *
    have D1 := Lib.hid C1
    have D2 := Lib.hid C2
    have D3 := Lib.hid C3
    have D4 := Lib.hid C4
    have D5 := Lib.hid C5
    have D6 := Lib.hid C6
    have D7 := Lib.hid C7
    clear C1 C2 C3 C4 C5 C6 C7 f1 f2 f3 hl3 hX3 hO3 hown3 hg3 hat3 hB3 hown hb2 hF2 hbs hB2 hA hB hF hX1
    go_wp2_with fail
    refine (D1.out _ hA3).mono ?_
    rintro e w4 ⟨rfl, hb4⟩
    have hA4 := hA3.below' hb4
    have hB4 := hB3'.below' hb4
    have hC4 := hC3.below' hb4
    have hF4 := hF3.trans (hb4.mono hF3.size)
    clear hb4 hA3 hB3' hC3 hF3
    go_wp2_with fail
    refine (D2.out _ hB4).mono ?_
    rintro e w5 ⟨rfl, hb5⟩
    have hA5 := hA4.below' hb5
    have hB5 := hB4.below' hb5
    have hC5 := hC4.below' hb5
    have hF5 := hF4.trans (hb5.mono hF4.size)
    clear hb5 hA4 hB4 hC4 hF4
    go_wp2_with fail
    refine (D3.out _ hC5).mono ?_
    rintro e w6 ⟨rfl, hb6⟩
    have hA6 := hA5.below' hb6
    have hB6 := hB5.below' hb6
    have hC6 := hC5.below' hb6
    have hF6 := hF5.trans (hb6.mono hF5.size)
    clear hb6 hA5 hB5 hC5 hF5
    go_wp2_with fail
    refine (D4.out _ hA6).mono ?_
    rintro e w7 ⟨rfl, hb7⟩
    have hB7 := hB6.below' hb7
    have hC7 := hC6.below' hb7
    have hF7 := hF6.trans (hb7.mono hF6.size)
    clear hb7 hA6 hB6 hC6 hF6
    go_wp2_with fail
    refine (D5.out _ hB7).mono ?_
    rintro e w8 ⟨rfl, hb8⟩
    have hC8 := hC7.below' hb8
    have hF8 := hF7.trans (hb8.mono hF7.size)
    clear hb8 hB7 hC7 hF7
    go_wp2_with fail
    refine (D6.out _ hC8).mono ?_
    rintro e w9 ⟨rfl, hb9⟩
    have hF9 := hF8.trans (hb9.mono hF8.size)
    clear hb9 hC8 hF8
    go_wp2_with fail
    refine (D7.out _).mono ?_
    rintro e w10 ⟨rfl, hb10⟩
    have hF10 := hF9.trans (hb10.mono hF9.size)
    go_wp2
    go_ret
    exact ⟨rfl, hF10⟩
end Go.Proofs.Ytjhhecaamojkjaa
