/-
  CrcXor: the walk.
-/
import Derived.Test.YtjhhecaamojkjaaCWorks
import Derived.Deep.Cut
import Derived.Deep.CutRange
set_option linter.unusedVariables false
namespace Go.Proofs.Ytjhhecaamojkjaa
open Go.RowKit

theorem xorL_snoc : ∀ (p q : List UInt8) (a b : UInt8), p.length = q.length → xorL (p ++ [a]) (q ++ [b]) = xorL p q ++ [a ^^^ b]
  | [], [], a, b, _ => rfl
  | [], _ :: _, a, b, h => by simp at h
  | _ :: _, [], a, b, h => by simp at h
  | x :: p, y :: q, a, b, h => by
    rw [List.cons_append, List.cons_append, xorL, xorL, xorL_snoc p q a b (by simpa using h), List.cons_append]
theorem xorL_take_len (xs ys : List UInt8) (k : Nat) (hx : k ≤ xs.length) (hy : k ≤ ys.length) : (xorL (xs.take k) (ys.take k)).length = k := by
  rw [xorL_len _ _ (by simp; omega), List.length_take]
  omega
theorem xor_step (xs ys : List UInt8) (n k : Nat) (hn : k < n) (hx : k < xs.length) (hy : k < ys.length) :
    (xorL (xs.take k) (ys.take k) ++ List.replicate (n - k) 0).set k (xs[k] ^^^ ys[k]) = xorL (xs.take (k + 1)) (ys.take (k + 1)) ++ List.replicate (n - (k + 1)) 0 := by
  have hl := xorL_take_len xs ys k (by omega) (by omega)
  rw [List.take_succ_eq_append_getElem hx, List.take_succ_eq_append_getElem hy, xorL_snoc _ _ _ _ (by simp; omega), List.set_append_right _ _ (by omega), hl, Nat.sub_self,
    show n - k = (n - (k + 1)) + 1 from by omega, List.replicate_succ, List.set_cons_zero, List.append_assoc]
  rfl

theorem bv_xor (a b : UInt8) : Go.bits .xor .u8 (a.toNat : Int) (b.toNat : Int) = ((a.toNat ^^^ b.toNat : Nat) : Int) := by
  rw [u8_xor_nat _ _ a.toNat_lt b.toNat_lt]

set_option maxHeartbeats 2000000 in
theorem crcXor_walk (A : Option Addr) (n c : Nat) (xs : List UInt8) (B : Option Addr) (m d : Nat) (ys : List UInt8) (w : World) (hx : At w A n xs) (hnc : n ≤ c) (hk : c ≤ 140737488351232) (hz : A = none → c = 0)
    (hy : At w B m ys) (hmd : m ≤ d) (hk' : d ≤ 140737488351232) (hz' : B = none → d = 0) :
    Calls Try.prog 7 #[.slice A n c, .slice B m d] w fun e w' => e = .returned (.bool true) ∧ Below w.heap.size w w' := by
  obtain ⟨q, hq⟩ : ∃ q : Nat, min (min (n : Int) m) 4000 = (q : Int) := ⟨(min (min (n : Int) m) 4000).toNat, by omega⟩
  have hqn : q ≤ n := by omega
  have hqm : q ≤ m := by omega
  have hq4 : q ≤ 4000 := by omega
  obtain ⟨M, hM1, hM2⟩ := make_z q (by omega)
  go_enter Try.func7, Try.ntmps7
  go_wp2_with fail
  refine (works _).mono ?_
  rintro e w1 ⟨rfl, hb1⟩
  go_upto_region 3 with fail
  go_cut [5] from 10 to 14 (fun v wx => v = .int .i64 (q : Int) ∧ wx = w1)
  case first =>
    clear hM1 hM2
    go_wp2
    all_goals go_meet
    all_goals (refine ⟨congrArg (Value.int IntKind.i64) ?_, rfl⟩; repeat' split at *; all_goals omega)
  case rest =>
    obtain ⟨rfl, rfl⟩ := hcut
    have hO := hM2 wc wc.heap.size (Nat.le_refl _)
    have hA := hx.below' hb1
    have hB := hy.below' hb1
    have hxl := hx.1
    have hyl := hy.1
    have HXL := Lib.hid hxl
    have HYL := Lib.hid hyl
    have HM2 := Lib.hid hM2
    clear hM2 hq hx hy hxl hyl
    go_wp2_with fail
    go_loopw [7] (fun i wr => ∃ k : Nat, k ≤ q ∧ i = .int .i64 k ∧ Hid (Own wr wc.heap.size (.slice (some ⟨wc.heap.size, 0, none⟩) q q) (xorL (xs.take k) (ys.take k) ++ List.replicate (q - k) 0)) ∧ Hid (Below wc.heap.size wc wr)) (fun i _ => q - (intOf i).toNat)
    case atStart => exact ⟨0, by omega, rfl, Lib.hid (by simpa [xorL] using hO), (Below.refl _ _).alloc (Nat.le_refl _) _⟩
    case round =>
      obtain ⟨k, hkq, rfl, hOw, hbw⟩ := hrel
      clear hO
      by_cases hlt : k < q
      · obtain ⟨ba, oa, rfl, ha⟩ := (hA.below' hbw.out).at_ (by omega)
        obtain ⟨bb, ob, rfl, hb⟩ := (hB.below' hbw.out).at_ (by omega)
        have hkx : k < xs.length := by rw [HXL.out]; omega
        have hky : k < ys.length := by rw [HYL.out]; omega
        have a1 := ha k hkx
        have b1 := hb k hky
        obtain ⟨z, x1⟩ : ∃ z, wr.cell? ⟨wc.heap.size, k, none⟩ = some z := ⟨_, hOw.out.cell k hlt⟩
        have x2 := hOw.out.free k
        have hst := xor_step xs ys q k hlt hkx hky
        have hO1 := hOw.out.set k (xs[k] ^^^ ys[k])
        rw [hst] at hO1
        have hX := bv_xor xs[k] ys[k]
        have hS1 := fun u : Value => hbw.out.setCell (p := ⟨wc.heap.size, k, none⟩) (Nat.le_refl _) u
        generalize xs[k] = u at a1 hX hO1
        generalize ys[k] = v at b1 hX hO1
        simp only [bv, UInt8.toNat_xor] at hO1
        have HO1 := Lib.hid hO1
        have HS1 := Lib.hid hS1
        clear ha hb hst hO1 hS1 hOw hbw hA hB hM1
        go_wp2_with fail
        go_region
        all_goals go_wp2
        all_goals go_roundw
        case rel => exact ⟨k + 1, by omega, by go_num, HO1.out, (HS1.out _).drew⟩
        case measure => simp [intOf]; omega
      · obtain rfl : k = q := by omega
        have hZ := hOw.out
        have HN := Lib.hid (xorL_take_len xs ys k (by rw [HXL.out]; omega) (by rw [HYL.out]; omega))
        rw [Nat.sub_self, List.replicate_zero, List.append_nil] at hZ
        have hzA := hZ.at_
        have haA := (hA.below' hbw.out).cut (l := 0) (k := k) (m := c) (by omega) (by omega) (by omega)
        have haB := (hB.below' hbw.out).cut (l := 0) (k := k) (m := d) (by omega) (by omega) (by omega)
        simp only [cutA_zero, Nat.sub_zero, List.drop_zero] at haA haB
        have k1 : ∀ W : World, (Instr.slice 22 (.slice A n c) none (some (.int .i64 (k : Int))) none).run Try.prog W = .ok (.slice A k c) W := fun W => by simpa using slb_h A n c .i64 k W (by omega) (by omega)
        have k2 : ∀ W : World, (Instr.slice 22 (.slice B m d) none (some (.int .i64 (k : Int))) none).run Try.prog W = .ok (.slice B k d) W := fun W => by simpa using slb_h B m d .i64 k W (by omega) (by omega)
        have hxo := crcOf_xor (xs.take k) (ys.take k) (by rw [List.length_take, List.length_take, HXL.out, HYL.out]; omega)
        rw [HN.out] at hxo
        have C1 := fun c (A : Option Addr) W h => of_ A k c (xs.take k) W h (by omega)
        have C2 := fun c (A : Option Addr) W h => of_ A k c (ys.take k) W h (by omega)
        have C3 := fun c (A : Option Addr) W h => of_ A k c (xorL (xs.take k) (ys.take k)) W h (by omega)
        have C4 := fun c (A : Option Addr) W h => of_ A k c (List.replicate k 0) W h (by omega)
        have E1 := N_xor (crcOf (xs.take k)) (crcOf (ys.take k))
        have E2 := N_xor (crcOf (xorL (xs.take k) (ys.take k))) (crcOf (List.replicate k 0))
        rw [hxo] at E1
        generalize crcOf (xorL (xs.take k) (ys.take k)) ^^^ crcOf (List.replicate k 0) = r at E1 E2
        generalize N r = r' at E1 E2
        generalize N (crcOf (xs.take k)) = r1 at C1 E1
        generalize N (crcOf (ys.take k)) = r2 at C2 E1
        generalize N (crcOf (xorL (xs.take k) (ys.take k))) = r3 at C3 E2
        generalize N (crcOf (List.replicate k 0)) = r4 at C4 E2
        have MK := Lib.hid (fun W : World => (HM2.out W _ (Nat.le_refl _)).at_)
        have hA0 : At wr.drew A k (xs.take k) := haA
        have hB0 : At wr.drew B k (ys.take k) := haB
        have hZ0 : At wr.drew (some ⟨wc.heap.size, 0, none⟩) k (xorL (xs.take k) (ys.take k)) := hzA
        generalize xorL (xs.take k) (ys.take k) = X3 at C3 hZ0
        generalize xs.take k = X1 at C1 hA0
        generalize ys.take k = X2 at C2 hB0
        have hF0 : Below w.heap.size w wr.drew := (hb1.trans (hbw.out.mono hb1.size)).drew
        have D1 := Lib.hid C1
        have D2 := Lib.hid C2
        have D3 := Lib.hid C3
        have D4 := Lib.hid C4
        clear C1 C2 C3 C4 hxo hZ hOw HN hA hB HXL HYL haA haB hzA HM2 hlt
        clear hqn hqm hkq hb1 hbw
        go_wp2_with fail
        go_region_with (first
          | (go_at_call_of 12 (Value.slice A k c); refine (D1.out _ _ _ ?_).mono ?_; (first | exact hA0 | exact hA0.alloc _); rintro e w5 ⟨rfl, hb5⟩
             have hB5 : At w5 B k X2 := by first | exact hB0.below' hb5 | exact (hB0.alloc _).below' hb5
             have hZ5 : At w5 (some ⟨wc.heap.size, 0, none⟩) k X3 := by first | exact hZ0.below' hb5 | exact (hZ0.alloc _).below' hb5
             have hF5 : Below w.heap.size w w5 := by first | exact hF0.trans (hb5.mono hF0.size) | exact (hF0.alloc hF0.size _).trans (hb5.mono (hF0.alloc hF0.size _).size)
             first | have hR := (show At (wr.alloc (.cells M 5)).drew (some ⟨wr.heap.size, 0, none⟩) k (List.replicate k 0) from MK.out wr).below' hb5 | skip
             clear hb5)
          | (go_at_call_of 12 (Value.slice B k d); refine (D2.out _ _ _ ?_).mono ?_; (first | exact hB5 | exact hB5.alloc _); rintro e w6 ⟨rfl, hb6⟩
             have hZ6 : At w6 (some ⟨wc.heap.size, 0, none⟩) k X3 := by first | exact hZ5.below' hb6 | exact (hZ5.alloc _).below' hb6
             have hF6 : Below w.heap.size w w6 := by first | exact hF5.trans (hb6.mono hF5.size) | exact (hF5.alloc hF5.size _).trans (hb6.mono (hF5.alloc hF5.size _).size)
             first | have hR := hR.below' hb6 | have hR := (MK.out w5).below' hb6 | skip
             clear hb6)
          | (go_at_call_of 12 (Value.slice (some ⟨wc.heap.size, 0, none⟩) k k); refine (D3.out _ _ _ ?_).mono ?_; (first | exact hZ6 | exact hZ6.alloc _); rintro e w7 ⟨rfl, hb7⟩
             have hF7 : Below w.heap.size w w7 := by first | exact hF6.trans (hb7.mono hF6.size) | exact (hF6.alloc hF6.size _).trans (hb7.mono (hF6.alloc hF6.size _).size)
             first | have hR := hR.below' hb7 | have hR := (MK.out w6).below' hb7 | skip
             clear hb7)
          | (go_at_call 12; refine (D4.out _ _ _ ?_).mono ?_; (first | exact hR | exact MK.out w7); rintro e w8 ⟨rfl, hb8⟩
             have hF8 : Below w.heap.size w w8 := by first | exact hF7.trans (hb8.mono hF7.size) | exact (hF7.alloc hF7.size _).trans (hb8.mono (hF7.alloc hF7.size _).size)
             clear hb8))
        all_goals go_wp2
        all_goals go_ret
        all_goals exact ⟨rfl, hF8⟩
end Go.Proofs.Ytjhhecaamojkjaa
