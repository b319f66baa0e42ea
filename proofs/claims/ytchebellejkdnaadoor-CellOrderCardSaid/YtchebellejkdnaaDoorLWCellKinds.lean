/-
  CellKinds: the walk.
-/
import Derived.Test.YtchebellejkdnaaDoorZ16
import Derived.Test.YtchebellejkdnaaDoorZ17
import Derived.Test.YtchebellejkdnaaDoorLClIds
set_option linter.unusedVariables false
set_option linter.unusedSimpArgs false
set_option maxRecDepth 100000
namespace Go.Proofs.YtchebellejkdnaaDoor
open Go.RowKit

theorem short_c (s : ByteArray) (hs : s.size ≤ 140737488351232) : ∃ k : ByteArray, isK k = true ∧ ∀ w : World, Calls Tryd.prog 34 #[.string s] w fun e w' => e = .returned (.string k) ∧ w = w' := by
  obtain ⟨p, hp⟩ : ∃ p : ByteArray, (⟨#[107]⟩ ++ s : ByteArray) = p := ⟨_, rfl⟩
  have hps : p.size = s.size + 1 := by rw [← hp, ByteArray.size_append]; show 1 + s.size = _; omega
  refine ⟨p.extract 0 (min ((s.size : Int) + 1) 32).toNat, ?_, fun w => ?_⟩
  · refine isK_iff.2 ?_
    rw [ByteArray.size_extract]
    omega
  · have q1 : (0 : Int) ≤ min ((s.size : Int) + 1) 32 := by omega
    have q2 : min ((s.size : Int) + 1) 32 ≤ (p.size : Int) := by omega
    have q3 : (⟨#[107]⟩ : ByteArray).size = 1 := rfl
    go_enter Tryd.func34, Tryd.ntmps34
    go_wp2
    go_ret
    exact ⟨rfl, rfl⟩
set_option maxHeartbeats 2000000 in
theorem bring_c (a b : Int) (w : World) :
    Calls Tryd.prog 35 #[sv a b] w fun e w' => e = .returned (sv (a % 1099511627777) (b % 1048576)) ∧ Below w.heap.size w w' := by
  go_enter Tryd.func35, Tryd.ntmps35
  go_wp2_with fail
  go_region_held3 (fun w' => w'.cell? ⟨w.heap.size, 0, none⟩ = some (.int .i64 a) ∧ w'.cell? ⟨w.heap.size, 1, none⟩ = some (.int .i64 b)) (first | assumption | go_keep)
    (first
      | (go_at_call_of 38 (Value.int .i64 1099511627777); refine (bring a 1099511627777 _ (by decide) (by decide)).mono ?_; rintro e w2 ⟨rfl, rfl⟩)
      | (go_at_call_of 38 (Value.int .i64 1048576); refine (bring b 1048576 _ (by decide) (by decide)).mono ?_; rintro e w2 ⟨rfl, rfl⟩))
  all_goals go_wp2
  all_goals go_returns
  all_goals exact ⟨rfl, (((Below.refl _ _).alloc (Nat.le_refl _) _).alloc (by simp) _).drew⟩
/-- Two stamps in blocks, and what is older stays. -/
abbrev S4 (w : World) (g1 g2 : Nat) (p o a b : Int) (V : World) : Prop :=
  V.cell? ⟨g1, 0, none⟩ = some (.int .i64 p) ∧ V.cell? ⟨g1, 1, none⟩ = some (.int .i64 o) ∧ V.cell? ⟨g2, 0, none⟩ = some (.int .i64 a) ∧ V.cell? ⟨g2, 1, none⟩ = some (.int .i64 b) ∧ Below w.heap.size w V
theorem S4.bel {w V : World} {g1 g2 : Nat} {p o a b : Int} (h : S4 w g1 g2 p o a b V) : Below w.heap.size w V := h.2.2.2.2
theorem S4.keep {w V V' : World} {g1 g2 : Nat} {p o a b : Int} (h : S4 w g1 g2 p o a b V) (hb : Below V.heap.size V V') : S4 w g1 g2 p o a b V' :=
  ⟨kept_below hb _ _ h.1, kept_below hb _ _ h.2.1, kept_below hb _ _ h.2.2.1, kept_below hb _ _ h.2.2.2.1, h.2.2.2.2.trans (hb.mono h.2.2.2.2.size)⟩
theorem S4.call {w V : World} {g1 g2 : Nat} {p o a b : Int} {f : FuncId} {args : Array Value} {v : Value} (h : S4 w g1 g2 p o a b V) (hc : Calls Tryd.prog f args V fun e V' => e = .returned v ∧ Below V.heap.size V V') :
    Calls Tryd.prog f args V fun e V' => e = .returned v ∧ S4 w g1 g2 p o a b V' := hc.mono fun _ _ hh => ⟨hh.1, h.keep hh.2⟩
theorem self_eq2 (s : ByteArray) : (s.toList == s.toList) = true := by simp
/-- The text of a key that begins with a mark. -/
theorem markK_two (m : UInt8) (k : ByteArray) (b : List UInt8) (h : isK k = true) : ∃ s : ByteArray, markK [m] k b = .returned (.tuple #[.string s, .int .i64 0]) ∧ sb s = m :: (okey (sb k) ++ b) ∧ s.size ≤ 67 + b.length := by
  refine ⟨⟨([m] ++ okey (sb k) ++ b).toArray⟩, ?_, rfl, ?_⟩
  · unfold markK
    rw [h, if_pos rfl]
    rfl
  · show ([m] ++ okey (sb k) ++ b).length ≤ _
    have := okey_len k (isK_iff.1 h).2
    simp only [List.length_append, List.length_singleton]
    omega
theorem less_mark {s t : ByteArray} {a b : UInt8} {l m : List UInt8} (hs : sb s = a :: l) (ht : sb t = b :: m) (h : a < b) : Op.bytesLess s.toList t.toList = true := by
  rw [Lib.toList_data, Lib.toList_data]
  show Op.bytesLess (sb s) (sb t) = true
  rw [hs, ht]
  simp [Op.bytesLess, h]
set_option maxHeartbeats 1500000 in
theorem cellKinds_walk (s : ByteArray) (id a b : Int) (w : World) (k0 : s.size ≤ 140737488351232) (i1 : -9223372036854775808 ≤ id ∧ id ≤ 9223372036854775807) (ia : -9223372036854775808 ≤ a ∧ a ≤ 9223372036854775807) (ib : -9223372036854775808 ≤ b ∧ b ≤ 9223372036854775807) (hm : MaxL w) :
    Calls Tryd.prog 8 #[.string s, .int .i64 id, sv a b] w fun e w' => e = .returned (.bool true) ∧ Below w.heap.size w w' := by
  obtain ⟨k, hk, hsh⟩ := short_c s k0
  have hma := may_of a b
  obtain ⟨n, hn, hnl⟩ := number_nat id
  have hn1 : id % 9007199254740991 + 1 = 1 + id % 9007199254740991 := by omega
  obtain ⟨q, hq, hq1, hq2⟩ : ∃ q : Nat, (1 : Int) + id % 9007199254740991 = (q : Int) ∧ 1 ≤ q ∧ q ≤ 9007199254740991 := by
    have h1 := Int.emod_nonneg id (b := 9007199254740991) (by omega)
    have h2 := Int.emod_lt_of_pos id (b := 9007199254740991) (by omega)
    exact ⟨(1 + id % 9007199254740991).toNat, by omega, by omega, by omega⟩
  obtain ⟨p, o, hp, ho⟩ : ∃ p o : Int, a % 1099511627777 = p ∧ b % 1048576 = o := ⟨_, _, rfl, rfl⟩
  rw [hp, ho] at hma
  have HBR := Lib.hid (fun V => bring_c a b V)
  simp only [hp, ho] at HBR
  obtain ⟨vv, v1, v2, v3⟩ := markK_two 118 k (odown p o) hk
  obtain ⟨ii, i1', i2, i3⟩ := markK_two 105 k [] hk
  obtain ⟨tt, t1, t2, t3⟩ := markK_two 116 k (wide 8 q) hk
  rw [odown_len] at v3
  rw [wide_len] at t3
  obtain ⟨u, hu1, hu6, hu⟩ : ∃ u : Nat, 1 ≤ u ∧ u ≤ 6 ∧ u = 1 + q % 6 := ⟨1 + q % 6, by omega, by omega, rfl⟩
  have hu' : (1 : Int) + (q : Int) % 6 = (u : Int) := by omega
  clear hu
  obtain ⟨th, hth⟩ : ∃ th : ByteArray, ⟨[103, UInt8.ofNat u].toArray⟩ = th := ⟨_, rfl⟩
  have eth : str2 [103, UInt8.ofNat u] 0 = .returned (.tuple #[.string th, .int .i64 0]) := by rw [← hth]; rfl
  have sth : sb th = 103 :: [UInt8.ofNat u] := by rw [← hth]
  have L1 : Op.bytesLess (⟨#[98]⟩ : ByteArray).toList th.toList = true := less_mark (a := 98) (l := []) rfl sth (by decide)
  have L0 : Op.bytesLess [98] th.toList = true := by
    have h := L1
    rw [show (⟨#[98]⟩ : ByteArray).toList = [98] by rw [Lib.toList_data]] at h
    exact h
  have L2 := less_mark sth i2 (by decide)
  have L3 := less_mark i2 t2 (by decide)
  have L4 := less_mark t2 v2 (by decide)
  have R1 := Lib.hid (show rk 118 (sb vv) = some (sb k, odown p o) by rw [v2]; exact rk_hit 118 k _ hk)
  have R2 := Lib.hid (show rk 105 (sb ii) = some (sb k, []) by rw [i2]; exact rk_hit 105 k [] hk)
  have R3 := Lib.hid (show rk 116 (sb tt) = some (sb k, wide 8 q) by rw [t2]; exact rk_hit 116 k _ hk)
  have R4 := Lib.hid (show rk 118 (sb ii) = none by rw [i2]; exact rk_miss _ _ _ (by decide))
  have R5 := Lib.hid (show rk 105 (sb tt) = none by rw [t2]; exact rk_miss _ _ _ (by decide))
  have R6 := Lib.hid (show rk 116 (sb vv) = none by rw [v2]; exact rk_miss _ _ _ (by decide))
  have V1 := Lib.hid v1
  have I1 := Lib.hid i1'
  have T1 := Lib.hid t1
  have ETH := Lib.hid eth
  have zv : vv.size ≤ 150000000000000 := by omega
  have zi : ii.size ≤ 150000000000000 := by simp at i3; omega
  have zt : tt.size ≤ 150000000000000 := by omega
  have hkk := self_eq2 k
  have g0 := nbl w (.cells #[.int .i64 a, .int .i64 b] 23)
  have HX := Lib.hid (Blk.new w 23 #[.int .i64 a, .int .i64 b])
  clear hn hnl hn1 hp ho v1 v2 i1' i2 t1 t2 eth sth hth v3 i3 t3
  go_enter Tryd.func8, Tryd.ntmps8
  go_wp2_with (first
    | (go_at_call 34; with_reducible refine (hsh _).mono ?_; rintro e w1 ⟨rfl, rfl⟩)
    | (go_at_call 38; with_reducible refine (bring id 9007199254740991 _ (by decide) (by decide)).mono ?_; rintro e w2 ⟨rfl, rfl⟩
       have x0 := HX.out.cell 0
       have x1 := HX.out.cell 1
       simp at x0 x1)
    | (go_at_call 35; with_reducible refine (HBR.out _).mono ?_; rintro e w3 ⟨rfl, b3⟩; have g3 := g0.trans (b3.mono g0.size); have X3 := Lib.hid (HX.out.below b3 (by simp)))
    | (go_at_call 36; with_reducible refine (versionKey_c k p o _ (hm.below g3) hma).mono ?_; rintro e w4 ⟨he, b4⟩; rw [V1.out] at he; subst he; have g4 := g3.trans (b4.mono g3.size); have X4 := Lib.hid (X3.out.below b4 X3.out.lt))
    | (go_at_call 37; with_reducible refine (intentKey_c k _ (hm.below g4)).mono ?_; rintro e w5 ⟨he, b5⟩; rw [I1.out] at he; subst he; have g5 := g4.trans (b5.mono g4.size); have X5 := Lib.hid (X4.out.below b5 X4.out.lt))
    | (go_at_call 39; with_reducible refine (recordKey_c k q _ (hm.below g5) hq1 hq2).mono ?_; rintro e w6 ⟨he, b6⟩; rw [T1.out] at he; subst he; have g6 := g5.trans (b6.mono g5.size); have X6 := Lib.hid (X5.out.below b6 X5.out.lt))
    | (go_at_call 40; with_reducible refine (threshold_c u hu1 hu6 _).mono ?_; rintro e w7 ⟨he, b7⟩; rw [ETH.out] at he; subst he; have g7 := g6.trans (b7.mono g6.size); have X7 := Lib.hid (X6.out.below b7 X6.out.lt))
    | (go_at_call 41; with_reducible refine (bound_c _).mono ?_; rintro e w10 ⟨rfl, rfl⟩)
    | (go_at_call 42; with_reducible refine (readVersion_c vv _ zv _ p o hma R1.out).mono ?_; rintro e w8 ⟨he, b8⟩; rw [show (⟨(sb k).toArray⟩ : ByteArray) = k from mk_tb k] at he; subst he
       have g8 := (g7.trans (b8.mono g7.size))
       have g8' := g8.alloc g8.size (.cells #[.int .i64 p, .int .i64 o] 23)
       have HB := Lib.hid (Blk.new w8 23 #[.int .i64 p, .int .i64 o])
       have x8 := X7.out.below b8 X7.out.lt
       have X8 := Lib.hid (x8.below (nbl w8 (.cells #[.int .i64 p, .int .i64 o] 23)) x8.lt))
    | (go_at_call 43; with_reducible refine (readIntent_c ii _ zi _ R2.out).mono ?_; rintro e w9 ⟨he, b9⟩; rw [show str2 (sb k) 0 = .returned (.tuple #[.string ⟨(sb k).toArray⟩, .int .i64 0]) from rfl, show (⟨(sb k).toArray⟩ : ByteArray) = k from mk_tb k] at he; subst he
       have g9 := g8'.trans (b9.mono g8'.size)
       have K9 := Lib.hid (HB.out.below b9 HB.out.lt)
       have X9 := Lib.hid (X8.out.below b9 X8.out.lt))
    | (go_at_call 44; with_reducible refine (readRecord_c tt _ zt _ q hq1 hq2 R3.out).mono ?_; rintro e w11 ⟨he, b11⟩; rw [show (⟨(sb k).toArray⟩ : ByteArray) = k from mk_tb k] at he; subst he
       have g11 := g9.trans (b11.mono g9.size)
       have K11 := Lib.hid (K9.out.below b11 K9.out.lt)
       have X11 := Lib.hid (X9.out.below b11 X9.out.lt))
    | (go_at_call 42; with_reducible refine (readVersion_no ii _ zi R4.out).mono ?_; rintro e w12 ⟨rfl, b12⟩
       have g12' := g11.trans (b12.mono g11.size)
       have g12 := g12'.alloc g12'.size (.cells #[.int .i64 0, .int .i64 0] 23)
       have k12 := K11.out.below b12 K11.out.lt
       have K12 := Lib.hid (k12.below (nbl w12 (.cells #[.int .i64 0, .int .i64 0] 23)) k12.lt)
       have x12 := X11.out.below b12 X11.out.lt
       have X12 := Lib.hid (x12.below (nbl w12 (.cells #[.int .i64 0, .int .i64 0] 23)) x12.lt))
    | (go_at_call 43; with_reducible refine (readIntent_no tt _ zt R5.out).mono ?_; rintro e w13 ⟨he, b13⟩; rw [show str2 [] 4 = .returned (.tuple #[.string ⟨#[]⟩, .int .i64 4]) from rfl] at he; subst he
       have g13 := g12.trans (b13.mono g12.size)
       have K13 := Lib.hid (K12.out.below b13 K12.out.lt)
       have X13 := Lib.hid (X12.out.below b13 X12.out.lt))
    | (go_at_call 44; with_reducible refine (readRecord_no vv _ zv R6.out).mono ?_; rintro e w14 ⟨rfl, b14⟩
       have g14 := g13.trans (b14.mono g13.size)
       have k14 := K13.out.below b14 K13.out.lt
       have c0 := k14.cell 0
       have c1 := k14.cell 1
       simp at c0 c1
       have x14 := X13.out.below b14 X13.out.lt
       have y0 := x14.cell 0
       have y1 := x14.cell 1
       simp at y0 y1
       have K14 := Lib.hid k14
       clear k14 x14))
  have hS0 : S4 w w8.heap.size w.heap.size p o a b w14 := ⟨c0, c1, y0, y1, g14⟩
  have hSd : S4 w w8.heap.size w.heap.size p o a b w14.drew := ⟨c0, c1, y0, y1, g14.drew⟩
  clear c0 c1 y0 y1
  go_region_held3 (fun V => V.cell? ⟨w8.heap.size, 0, none⟩ = some (.int .i64 p) ∧ V.cell? ⟨w8.heap.size, 1, none⟩ = some (.int .i64 o) ∧ V.cell? ⟨w.heap.size, 0, none⟩ = some (.int .i64 a) ∧ V.cell? ⟨w.heap.size, 1, none⟩ = some (.int .i64 b) ∧ Below w.heap.size w V)
    (first | assumption | exact hS0 | exact hSd)
    (first
      | (go_at_call 35; refine (S4.call (by first | assumption | exact hS0 | exact hSd) (HBR.out _)).mono ?_; rintro e w15 ⟨rfl, hS15⟩)
      | (go_at_call 16; refine (S4.call (by assumption) (awake_c _ (hm.below (S4.bel (by assumption))))).mono ?_; rintro e w16 ⟨rfl, hS16⟩))
  all_goals first
    | (go_wp2; go_ret; exact ⟨rfl, S4.bel hS16⟩)
    | (go_ret; exact ⟨rfl, S4.bel hS16⟩)
end Go.Proofs.YtchebellejkdnaaDoor
