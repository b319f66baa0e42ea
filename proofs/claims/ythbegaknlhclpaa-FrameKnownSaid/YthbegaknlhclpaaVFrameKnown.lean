/-
  FrameKnown: the walk, over what the code's functions promise.
-/
import Derived.Test.YthbegaknlhclpaaFOut
import Derived.Test.YthbegaknlhclpaaFWorks
import Derived.Test.YthbegaknlhclpaaFRef
import Derived.Test.YthbegaknlhclpaaFull
import Derived.Test.YthbegaknlhclpaaFSame
set_option linter.unusedVariables false
namespace Go.Proofs.Ythbegaknlhclpaa
open Go.RowKit

theorem enc_len4 : (enc 65536).length = 4 := by
  have e : ∀ m, 0 < m → digs m = digs (m / 256) ++ [UInt8.ofNat m] := digs_pos
  unfold enc
  rw [e 65536 (by omega), e (65536 / 256) (by omega), e (65536 / 256 / 256) (by omega), show 65536 / 256 / 256 / 256 = 0 from rfl, digs_zero]
  rfl
theorem fr_zs (zs : List UInt8) (h : zs.length = 65536) : (fr zs).length = 65544 := by
  rw [fr_len, h, enc_len4]
theorem nx_zs (zs : List UInt8) (h : zs.length = 65536) : nx (fr zs) = (zs, 65544, 0) := by
  have := nx_fr zs [] (by omega)
  rwa [List.append_nil, fr_zs zs h] at this
theorem nx_zs' (zs : List UInt8) (h : zs.length = 65536) : nx ((fr zs).take 65543) = ([], 0, 3) := nx_cut zs 65543 (by omega) (by rw [fr_zs zs h]; omega)
theorem nx_3101 : nx [3, 1, 0, 1, 0, 0, 0, 0] = ([], 0, 5) := by decide +kernel
theorem nx_nil : nx [] = ([], 0, 3) := rfl
theorem nx_10 : nx [1, 0, 0, 0, 0, 0] = ([], 0, 4) := by decide +kernel
theorem fr_nil_len : (fr []).length = 5 := by
  rw [fr_len]
  have : (enc ([] : List UInt8).length).length = 1 := by simp [enc, digs_zero]
  rw [this]
  rfl
theorem nx_none : nx (fr []) = ([], 5, 0) := by
  have := nx_fr [] [] (by simp)
  rwa [List.append_nil, fr_nil_len] at this
theorem alls_two : (alls (fr [] ++ fr [] ++ [0, 0])).length = 2 := by
  have h := alls_recs [[], []] [0, 0] (by simp)
  have e : ((([[], []] : List (List UInt8)).map fr).flatten ++ [0, 0]) = fr [] ++ fr [] ++ [0, 0] := by simp
  rw [e] at h
  have hn : nx [0, 0] = ([], 0, 3) := by decide +kernel
  rw [h, alls_no hn (by omega)]
  rfl
theorem alls_none : alls [] = [] := alls_no nx_nil (by omega)

theorem at_3101 (W : World) (g : Nat) (hg : g = W.heap.size) : At (W.alloc (.cells #[.int .u8 3, .int .u8 1, .int .u8 0, .int .u8 1, .int .u8 0, .int .u8 0, .int .u8 0, .int .u8 0] 5)) (some ⟨g, 0, none⟩) 8 [3, 1, 0, 1, 0, 0, 0, 0] := at_list' 5 [3, 1, 0, 1, 0, 0, 0, 0] W g hg
theorem at_10 (W : World) (g : Nat) (hg : g = W.heap.size) : At (W.alloc (.cells #[.int .u8 1, .int .u8 0, .int .u8 0, .int .u8 0, .int .u8 0, .int .u8 0] 5)) (some ⟨g, 0, none⟩) 6 [1, 0, 0, 0, 0, 0] := at_list' 5 [1, 0, 0, 0, 0, 0] W g hg
theorem at_0 (W : World) (g : Nat) (hg : g = W.heap.size) : At (W.alloc (.cells #[.int .u8 0] 5)) (some ⟨g, 0, none⟩) 1 [0] := at_list' 5 [0] W g hg
theorem at_00 (W : World) (g : Nat) (hg : g = W.heap.size) : At (W.alloc (.cells #[.int .u8 0, .int .u8 0] 5)) (some ⟨g, 0, none⟩) 2 [0, 0] := at_list' 5 [0, 0] W g hg

theorem own_len {W : World} {B n : Nat} {v : Value} {xs : List UInt8} (h : W.ownsRow B 5 1 v n (xs.map bv)) (hn : xs.length = n) : Own W B v xs := by
  subst hn
  exact h

set_option maxRecDepth 100000 in
set_option maxHeartbeats 4000000 in
theorem frameKnown_w (hF : FrameOk) (hN : NextOk) (hall : AllOk) (w : World) :
    Calls Try.prog 11 #[] w fun e w' => e = .returned (.bool true) ∧ Below w.heap.size w w' := by
  have HW := Lib.hid (works hF hN)
  obtain ⟨M, hmk0, hz⟩ := make_z 65536 (by omega)
  have hmk : ∀ W : World, (Instr.makeSlice 22 (.int .i64 65536) (.int .i64 65536)).run Try.prog W = .ok (.slice (some ⟨W.heap.size, 0, none⟩) 65536 65536) (W.alloc (.cells M 5)) := hmk0
  clear hmk0
  obtain ⟨zs, hzs⟩ : ∃ zs : List UInt8, zs = List.replicate 65536 0 := ⟨_, rfl⟩
  have hzl : zs.length = 65536 := by rw [hzs, List.length_replicate]
  rw [← hzs] at hz
  have HZ := Lib.hid hz
  clear hz hzs
  have hfl := fr_zs zs hzl
  have F1 := Lib.hid (fun A V (h : At V A 65536 zs) => (hF A 65536 65536 zs V h (by omega) (by omega) (by omega)))
  have F2 := Lib.hid (fun A c V (h : At V A 65537 (zs ++ [0])) (h1 : 65537 ≤ c) (h2 : c ≤ 9223372036854775807) => hF A 65537 c (zs ++ [0]) V h h1 h2 (by omega))
  have N1 := Lib.hid (fun A c V (h : At V A 65544 (fr zs)) (h1 : 65544 ≤ c) (h2 : c ≤ 9223372036854775807) => hN A 65544 c (fr zs) zs 65544 0 V h h1 h2 (by omega) (nx_zs zs hzl))
  have N2 := Lib.hid (fun A c V (h : At V A 65543 ((fr zs).take 65543)) (h1 : 65543 ≤ c) (h2 : c ≤ 9223372036854775807) => hN A 65543 c _ [] 0 3 V h h1 h2 (by omega) (nx_zs' zs hzl))
  have N3 := Lib.hid (fun A c V (h : At V A 8 [3, 1, 0, 1, 0, 0, 0, 0]) (h1 : 8 ≤ c) (h2 : c ≤ 9223372036854775807) => hN A 8 c _ [] 0 5 V h h1 h2 (by omega) nx_3101)
  have N4 := Lib.hid (fun A c V (h2 : c ≤ 9223372036854775807) => hN A 0 c [] [] 0 3 V (At.nil _ _) (Nat.zero_le _) h2 (by omega) nx_nil)
  have N5 := Lib.hid (fun A c V (h : At V A 6 [1, 0, 0, 0, 0, 0]) (h1 : 6 ≤ c) (h2 : c ≤ 9223372036854775807) => hN A 6 c _ [] 0 4 V h h1 h2 (by omega) nx_10)
  have F3 := Lib.hid (fun V => hF none 0 0 [] V (At.nil _ _) (by omega) (by omega) (by omega))
  have N6 := Lib.hid (fun A c V (h : At V A 5 (fr [])) (h1 : 5 ≤ c) (h2 : c ≤ 9223372036854775807) => hN A 5 c _ [] 5 0 V h h1 h2 (by omega) nx_none)
  have A1 := Lib.hid (fun A c V (h : At V A 12 (fr [] ++ fr [] ++ [0, 0])) (h1 : 12 ≤ c) (h2 : c ≤ 9223372036854775807) => out_all hall A 12 c _ V h h1 h2 (by omega) (by rw [alls_two]; omega))
  have A2 := Lib.hid (fun V => out_all hall none 0 0 [] V (At.nil _ _) (by omega) (by omega) (by omega) (by rw [alls_none]; simp))
  have T2 := Lib.hid alls_two
  have hnl := fr_nil_len
  clear hF hN hall
  generalize fr zs = fz at *
  generalize fr [] = fn at *
  have HFL := Lib.hid hfl
  have HZL := Lib.hid hzl
  have HNL := Lib.hid hnl
  clear hfl hzl hnl
  go_enter Try.func11, Try.ntmps11
  have hZ0 := HZ.out w w.heap.size (Nat.le_refl _)
  have hB0 : Below w.heap.size w (w.alloc (.cells M 5)) := (Below.refl _ _).alloc (Nat.le_refl _) _
  go_wp2_with fail
  refine (F1.out _ _ hZ0.at_).mono ?_
  rintro e1 w1 ⟨v1, rfl, hown1, hb1⟩
  rw [if_neg (by omega)] at hown1 ⊢
  have hZ1 := hZ0.below hb1
  have hB1 := hB0.trans (hb1.mono hB0.size)
  obtain ⟨A1', c1, rfl, hA1, h11, h12, _⟩ := hown1.form
  rw [HFL.out] at hA1 h11 hown1 ⊢
  clear hZ0 hB0 hb1
  have hs1 := hB1.size
  have hgz : w.heap.size < w1.heap.size := by
    obtain ⟨_, e, _, h⟩ := hZ1.some_ (by omega)
    injection e with e
    injection e with e
    omega
  go_wp2_with (at_builtin; refine wpList_app_full rfl _ _ 22 rfl 5 Try.underlying22 info5 (some ⟨w.heap.size, 0, none⟩) 65536 zs [0] rfl (hZ1.at_.alloc _) (fun h => by cases h) ⟨w1.heap.size, 0, none⟩ 1 1 rfl (at_0 _ _ (by first | rfl | simp)) (by omega) (by omega) ?_; intro v2 w2 hown2 hg2)
  have hb2 : Below w1.heap.size w1 w2 := ((Below.refl _ w1).alloc (Nat.le_refl _) _).grown hg2 (by simp) (fun j hj => by cases hj)
  have hl2 : (zs ++ [0]).length = 65537 := by rw [List.length_append, HZL.out]; rfl
  have hown2' : Own w2 (w1.alloc (.cells #[.int .u8 0] 5)).heap.size v2 (zs ++ [0]) := by
    unfold Own
    rw [hl2]
    exact hown2
  obtain ⟨A2', c2, rfl, hA2, h21, h22, _⟩ := hown2'.form
  rw [hl2] at hA2 h21 ⊢
  clear hl2
  have hZ2 := hZ1.at_.below' hb2
  have hA3 := hA1.below' hb2
  have hB2 := hB1.trans (hb2.mono hs1)
  clear hown2 hg2 hown2' hZ1 hown1 hA1 hb2 hB1
  refine (F2.out _ _ _ hA2 h21 h22).mono ?_
  rintro e3 w3 ⟨v3, rfl, hown3, hb3⟩
  rw [if_pos (by omega)]
  have hZ3 := hZ2.below' hb3
  have hA4 := hA3.below' hb3
  have hB3 := hB2.trans (hb3.mono hB2.size)
  clear hown3 hZ2 hA3 hA2 hB2 hb3
  go_wp2_with fail
  refine (N1.out _ _ _ hA4 h11 h12).mono ?_
  rintro e4 w4 ⟨v4, rfl, hown4, hb4⟩
  have hZ4 := hZ3.below' hb4
  have hA5 := hA4.below' hb4
  have hB4 := hB3.trans (hb4.mono hB3.size)
  obtain ⟨A4', c4, rfl, hP4, _, _, _⟩ := hown4.form
  rw [HZL.out] at hP4 ⊢
  clear hown4 hb4 hZ3 hA4 hB3
  have hcut := hA5.cut (l := 0) (k := 65543) (m := c1) (by omega) (by omega) (by omega)
  simp only [cutA_zero, Nat.sub_zero, List.drop_zero] at hcut
  have k1 : ∀ W : World, (Instr.slice 22 (.slice A1' 65544 c1) none (some (.int .i64 65543)) none).run Try.prog W = .ok (.slice A1' 65543 c1) W := fun W => by
    simpa using slb_h A1' 65544 c1 .i64 65543 W (by omega) (by omega)
  go_wp2_with fail
  refine (N2.out _ _ _ hcut (by omega) h12).mono ?_
  rintro e5 w5 ⟨v5, rfl, hown5, hb5⟩
  have hZ5 := hZ4.below' hb5
  have hP5 := hP4.below' hb5
  have hB5 := hB4.trans (hb5.mono hB4.size)
  clear hown5 hb5 hZ4 hP4 hB4 hA5 hcut k1
  go_wp2_with fail
  refine (N3.out _ _ _ (at_3101 _ _ (by first | rfl | simp)) (by omega) (by omega)).mono ?_
  rintro e6 w6 ⟨v6, rfl, hown6, hb6⟩
  have hb6' := ((Below.refl w5.heap.size w5).alloc (Nat.le_refl _) (.cells #[.int .u8 3, .int .u8 1, .int .u8 0, .int .u8 1, .int .u8 0, .int .u8 0, .int .u8 0, .int .u8 0] 5)).trans (hb6.mono (by simp))
  have hZ6 := hZ5.below' hb6'
  have hP6 := hP5.below' hb6'
  have hB6 := hB5.trans (hb6'.mono hB5.size)
  clear hown6 hb6 hb6' hZ5 hP5 hB5
  go_wp2_with fail
  refine (N4.out _ _ _ (by omega)).mono ?_
  rintro e7 w7 ⟨v7, rfl, hown7, hb7⟩
  have hZ7 := hZ6.below' hb7
  have hP7 := hP6.below' hb7
  have hB7 := hB6.trans (hb7.mono hB6.size)
  clear hown7 hb7 hZ6 hP6 hB6
  go_wp2_with fail
  refine (N5.out _ _ _ (at_10 _ _ (by first | rfl | simp)) (by omega) (by omega)).mono ?_
  rintro e8 w8 ⟨v8, rfl, hown8, hb8⟩
  have hb8' := ((Below.refl w7.heap.size w7).alloc (Nat.le_refl _) (.cells #[.int .u8 1, .int .u8 0, .int .u8 0, .int .u8 0, .int .u8 0, .int .u8 0] 5)).trans (hb8.mono (by simp))
  have hZ8 := hZ7.below' hb8'
  have hP8 := hP7.below' hb8'
  have hB8 := hB7.trans (hb8'.mono hB7.size)
  clear hown8 hb8 hb8' hZ7 hP7 hB7
  go_wp2_with fail
  refine (F3.out _).mono ?_
  rintro e9 w9 ⟨v9, rfl, hown9, hb9⟩
  rw [if_neg (by omega)] at hown9 ⊢
  have hZ9 := hZ8.below' hb9
  have hP9 := hP8.below' hb9
  have hB9 := hB8.trans (hb9.mono hB8.size)
  obtain ⟨A9, c9, rfl, hN9, h91, h92, _⟩ := hown9.form
  rw [HNL.out] at hN9 h91 ⊢
  clear hown9 hb9 hZ8 hP8 hB8
  go_wp2_with fail
  refine (N6.out _ _ _ hN9 h91 h92).mono ?_
  rintro e10 w10 ⟨v10, rfl, hown10, hb10⟩
  have hZ10 := hZ9.below' hb10
  have hP10 := hP9.below' hb10
  have hN10 := hN9.below' hb10
  have hB10 := hB9.trans (hb10.mono hB9.size)
  obtain ⟨A10, c10, hv10, _, _, _, _⟩ := hown10.form
  replace hv10 : v10 = .slice A10 0 c10 := hv10
  subst hv10
  clear hown10 hb10 hZ9 hP9 hB9 hN9
  go_wp2_with fail
  refine (copyBytes A9 5 c9 _ _ hN10 (by omega)).mono ?_
  rintro e11 w11 ⟨v11, rfl, hown11, hb11⟩
  have hN11 := hN10.below' hb11
  have hZ10' := hZ10
  have hP10' := hP10
  have hB10' := hB10
  have hrow11 : w11.ownsRow w10.heap.size 5 1 v11 5 (fn.map bv) := by
    have := hown11
    unfold Own at this
    rw [HNL.out] at this
    exact this
  have hs11 := hb11.size
  clear hown11 hZ10 hP10 hN10 hB10
  have hl12 : (fn ++ fn ++ [0, 0]).length = 12 := by rw [List.length_append, List.length_append, HNL.out]; rfl
  go_wp2_with (first
    | (at_builtin; refine wpList_app rfl _ _ 22 rfl w10.heap.size 5 Try.underlying22 info5 v11 5 fn fn rfl hrow11 A9 5 c9 rfl hN11 (by omega) hs11 ?_; intro v12 w12 hown12 hg12 hat12; have hb12 : Below w10.heap.size w11 w12 := (Below.refl _ _).grown hg12 hs11 (fun j hj => (World.ownsRow.lt hrow11 j hj).1); have hs12 : w10.heap.size ≤ w12.heap.size := Nat.le_trans hs11 hb12.size)
    | (at_builtin; refine wpList_app rfl _ _ 22 rfl w10.heap.size 5 Try.underlying22 info5 v12 (5 + 5) (fn ++ fn) [0, 0] rfl (World.ownsRow.alloc hown12 _) _ 2 2 rfl (at_00 _ _ (by first | rfl | simp)) (by omega) (by simp; omega) ?_; intro v13 w13 hown13 hg13 hat13; have ho13 : Own w13 w10.heap.size v13 (fn ++ fn ++ [0, 0]) := own_len hown13 hl12; have hb13 : Below w10.heap.size w11 w13 := (hb12.alloc hs12 _).grown hg13 (by simp; omega) (fun j hj => (World.ownsRow.lt hown12 j hj).1); obtain ⟨A13, c13, rfl, hT13, h131, h132, _⟩ := ho13.form; rw [hl12] at hT13 h131 ⊢))
  have hb13' := hb11.trans hb13
  have hZ13 := hZ10'.below' hb13'
  have hP13 := hP10'.below' hb13'
  have hB13 := hB10'.trans (hb13'.mono hB10'.size)
  clear hown12 hown13 hg12 hg13 hat12 hat13 ho13 hb12 hb13 hb11 hb13' hrow11 hN11 hs11 hs12 hZ10' hP10' hB10'
  refine (HW.out _).mono ?_
  rintro e14 w14 ⟨rfl, hb14⟩
  have hZ14 := hZ13.below' hb14
  have hP14 := hP13.below' hb14
  have hT14 := hT13.below' hb14
  have hB14 := hB13.trans (hb14.mono hB13.size)
  have hq : (zs == zs) = true := beq_self_eq_true _
  clear hZ13 hP13 hT13 hB13 hb14
  go_wp2_with fail
  refine (eqBytes A4' (some ⟨w.heap.size, 0, none⟩) 65536 65536 c4 65536 zs zs _ hP14 hZ14 (by omega)).mono ?_
  rintro e15 w15 ⟨rfl, j15, rfl⟩
  rw [hq]
  have hT15 := hT14.drewN j15
  have hB15 := below_drewN hB14 j15
  generalize w14.drewN j15 = w15 at hT15 hB15 ⊢
  clear hZ14 hP14 hT14 hB14
  go_wp2_with fail
  refine (A1.out _ _ _ hT15 h131 h132).mono ?_
  rintro e16 w16 ⟨v16, ps16, rfl, hps16, hO16, _, hb16⟩
  have hB16 := hB15.trans (hb16.mono hB15.size)
  have hl16 : ps16.length = 2 := by
    have := congrArg List.length hps16
    rw [T2.out, List.length_map] at this
    exact this
  rw [hl16] at hO16
  obtain ⟨g16, cap16, rfl⟩ := ownsRow_succ hO16
  clear hO16 hps16 hb16 hT15 hB15
  go_wp2_with fail
  refine (A2.out _).mono ?_
  rintro e17 w17 ⟨v17, ps17, rfl, hps17, hO17, hOo17, hb17⟩
  have hB17 := hB16.trans (hb17.mono hB16.size)
  rw [alls_none] at hps17
  obtain rfl : ps17 = [] := by simpa using hps17
  obtain ⟨A17, c17, rfl, _⟩ := lists_row hO17 (fun x hx' => (hOo17 x hx').reads)
  clear hO17 hOo17 hb17 hB16
  go_wp2
  go_ret
  exact ⟨rfl, hB17⟩
end Go.Proofs.Ythbegaknlhclpaa
