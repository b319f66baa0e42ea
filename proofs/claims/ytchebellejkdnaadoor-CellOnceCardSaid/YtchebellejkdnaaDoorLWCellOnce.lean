/-
  CellOnce: the walk.
-/
import Derived.Test.YtchebellejkdnaaDoorZ16
import Derived.Test.YtchebellejkdnaaDoorZ17
set_option linter.unusedVariables false
set_option linter.unusedSimpArgs false
set_option maxRecDepth 100000
namespace Go.Proofs.YtchebellejkdnaaDoor
open Go.RowKit

theorem takeI_u (t : ByteArray) (w : World) (ht : t.size ≤ 225000000000000) :
    Calls Tryd.prog 30 #[.string t] w fun e w' => ∃ (y : It) (A : Option Addr) (n c : Nat) (k : Int) (b : Bool), e = .returned (.tuple #[itv y (.slice A n c), .int .i64 k]) ∧ ChAt w' A n y.l ∧ n ≤ 9223372036854775807 ∧ (∀ p, A = some p → p.block < w'.heap.size) ∧ (k == 0) = b ∧ (b = true → mayI y = true ∧ txI y = sb t) ∧ Below w.heap.size w w' := by
  refine (takeI_c t w ht).mono ?_
  rintro e w' ⟨h, hb⟩
  cases ht : tkI (sb t) with
  | none =>
    rw [ht] at h
    exact ⟨zI, none, 0, 0, 4, false, h, ChAt.nil _ _, by omega, fun p hp => (nomatch hp), rfl, fun h => (nomatch h), hb⟩
  | some x =>
    rw [ht] at h
    obtain ⟨A, n, c, rfl, h1, h2, h3, h4⟩ := h
    obtain ⟨m1, m2⟩ := tkI_back ht
    exact ⟨x, A, n, c, 0, true, rfl, h1, by omega, h4, rfl, fun _ => ⟨m1, m2.symm⟩, hb⟩
theorem takeR_u (t : ByteArray) (w : World) (ht : t.size ≤ 225000000000000) :
    Calls Tryd.prog 31 #[.string t] w fun e w' => ∃ (y : Rc) (A : Option Addr) (n c : Nat) (k : Int) (b : Bool), e = .returned (.tuple #[rcv y (.slice A n c), .int .i64 k]) ∧ WtAt w' A n y.l ∧ n ≤ 9223372036854775807 ∧ (∀ p, A = some p → p.block < w'.heap.size) ∧ (k == 0) = b ∧ (b = true → mayR y = true ∧ txR y = sb t) ∧ Below w.heap.size w w' := by
  refine (takeR_c t w ht).mono ?_
  rintro e w' ⟨h, hb⟩
  cases ht : tkR (sb t) with
  | none =>
    rw [ht] at h
    exact ⟨zR, none, 0, 0, 4, false, h, WtAt.nil _ _, by omega, fun p hp => (nomatch hp), rfl, fun h => (nomatch h), hb⟩
  | some x =>
    rw [ht] at h
    obtain ⟨A, n, c, rfl, h1, h2, h3, h4⟩ := h
    obtain ⟨m1, m2⟩ := tkR_back ht
    exact ⟨x, A, n, c, 0, true, rfl, h1, by omega, h4, rfl, fun _ => ⟨m1, m2.symm⟩, hb⟩
theorem takeV_u (t : ByteArray) (w : World) (ht : t.size ≤ 225000000000000) :
    Calls Tryd.prog 32 #[.string t] w fun e w' => ∃ (s : ByteArray) (d : Bool) (k : Int) (b : Bool), e = .returned (.tuple #[.string s, .bool d, .int .i64 k]) ∧ (k == 0) = b ∧ (b = true → isV s d = true ∧ txV s d = sb t) ∧ Below w.heap.size w w' := by
  refine (takeV_c t w ht).mono ?_
  rintro e w' ⟨h, hb⟩
  cases ht : tkV (sb t) with
  | none =>
    rw [ht] at h
    exact ⟨⟨#[]⟩, false, 4, false, h, rfl, fun h => (nomatch h), hb⟩
  | some x =>
    rw [ht] at h
    obtain ⟨m1, m2⟩ := tkV_back (s := x.1) (v := x.2) ht
    exact ⟨x.1, x.2, 0, true, h, rfl, fun _ => ⟨m1, m2.symm⟩, hb⟩
theorem takeS_u (t : ByteArray) (w : World) (ht : t.size ≤ 225000000000000) :
    Calls Tryd.prog 33 #[.string t] w fun e w' => ∃ (p q k : Int) (b : Bool), e = .returned (.tuple #[sv p q, .int .i64 k]) ∧ (k == 0) = b ∧ (b = true → may p q = true ∧ txS p q = sb t) ∧ Below w.heap.size w w' := by
  refine (takeS_c t w ht).mono ?_
  rintro e w' ⟨h, hb⟩
  cases ht : tkS (sb t) with
  | none =>
    rw [ht] at h
    exact ⟨0, 0, 4, false, h, rfl, fun h => (nomatch h), hb⟩
  | some x =>
    rw [ht] at h
    obtain ⟨m1, m2⟩ := tkS_back (a := x.1) (b := x.2) ht
    exact ⟨x.1, x.2, 0, true, h, rfl, fun _ => ⟨m1, m2.symm⟩, hb⟩
theorem ansT_sb {ok : Bool} {l : List UInt8} {t : ByteArray} (h1 : ok = true) (h2 : l = sb t) : ansT ok l = .returned (.tuple #[.string t, .int .i64 0]) := by
  subst h1 h2
  rw [ansT_t, mk_tb]
set_option maxHeartbeats 2000000 in
theorem cellOnce_walk (t : ByteArray) (w : World) (k0 : t.size ≤ 140737488351232) (hm : MaxL w) :
    Calls Tryd.prog 6 #[.string t] w fun e w' => e = .returned (.bool true) ∧ Below w.heap.size w w' := by
  have kt : t.size ≤ 225000000000000 := by omega
  go_enter Tryd.func6, Tryd.ntmps6
  go_wp2_with (first
    | (go_at_call 30; refine (takeI_u t w kt).mono ?_; rintro e w1 ⟨⟨y0, y1, y2, y3, y4, y5, y6, y7, yl⟩, A, n, c, k, b, rfl, hat, hn, hav, hkb, hk, b1⟩
       have c1 := b1.alloc b1.size (.cells (itc ⟨y0, y1, y2, y3, y4, y5, y6, y7, yl⟩ (.slice A n c)) 26)
       have HAT := Lib.hid (hat.below (nbl w1 (.cells (itc ⟨y0, y1, y2, y3, y4, y5, y6, y7, yl⟩ (.slice A n c)) 26)))
       have HK := Lib.hid hk
       have C1 := Lib.hid c1
       clear hat hk b1 c1)
    | (go_at_call 10; refine (intent_c ⟨y0, y1, y2, y3, y4, y5, y6, y7, yl⟩ A n c _ HAT.out (fun p hp => by have := hav p hp; simp; omega) hn).mono ?_; rintro e v1 ⟨he, bb⟩
       obtain ⟨q1, q2⟩ := HK.out (by assumption)
       rw [ansT_sb q1 q2] at he
       subst he
       have D1 := Lib.hid (C1.out.trans (bb.mono C1.out.size))
       clear bb q1 q2)
    | (go_at_call 31; refine (takeR_u t _ kt).mono ?_; rintro e w2 ⟨⟨r0, r1, r2, r3, r4, r5, r6, r7, r8, rl⟩, A2, n2, c2, k2, b2, rfl, hat2, hn2, hav2, hkb2, hk2, bl2⟩
       have f2 : Below w.heap.size w w2 := by first | exact D1.out.trans (bl2.mono D1.out.size) | exact C1.out.trans (bl2.mono C1.out.size)
       have HAT2 := Lib.hid (hat2.below (nbl w2 (.cells (rcc ⟨r0, r1, r2, r3, r4, r5, r6, r7, r8, rl⟩ (.slice A2 n2 c2)) 37)))
       have HK2 := Lib.hid hk2
       have C2 := Lib.hid (f2.alloc f2.size (.cells (rcc ⟨r0, r1, r2, r3, r4, r5, r6, r7, r8, rl⟩ (.slice A2 n2 c2)) 37))
       clear hat2 hk2 bl2 f2)
    | (go_at_call 18; refine (record_c ⟨r0, r1, r2, r3, r4, r5, r6, r7, r8, rl⟩ A2 n2 c2 _ HAT2.out (fun p hp => by have := hav2 p hp; simp; omega) hn2).mono ?_; rintro e v2 ⟨he, bb⟩
       obtain ⟨q1, q2⟩ := HK2.out (by assumption)
       rw [ansT_sb q1 q2] at he
       subst he
       have D2 := Lib.hid (C2.out.trans (bb.mono C2.out.size))
       clear bb q1 q2)
    | (go_at_call 32; refine (takeV_u t _ kt).mono ?_; rintro e w3 ⟨s3, d3, k3, b3, rfl, hkb3, hk3, bl3⟩
       have C3 := Lib.hid (show Below w.heap.size w w3 by first | exact D2.out.trans (bl3.mono D2.out.size) | exact C2.out.trans (bl3.mono C2.out.size))
       have HK3 := Lib.hid hk3
       clear hk3 bl3)
    | (go_at_call 28; refine (version_c s3 d3 _).mono ?_; rintro e v3 ⟨he, bb⟩
       obtain ⟨q1, q2⟩ := HK3.out (by assumption)
       rw [ansT_sb q1 q2] at he
       subst he
       have D3 := Lib.hid (C3.out.trans (bb.mono C3.out.size))
       clear bb q1 q2)
    | (go_at_call 33; refine (takeS_u t _ kt).mono ?_; rintro e w4 ⟨p4, q4, k4, b4, rfl, hkb4, hk4, bl4⟩
       have f4 : Below w.heap.size w w4 := by first | exact D3.out.trans (bl4.mono D3.out.size) | exact C3.out.trans (bl4.mono C3.out.size)
       have HK4 := Lib.hid hk4
       have C4 := Lib.hid (f4.alloc f4.size (.cells #[.int .i64 p4, .int .i64 q4] 23))
       clear hk4 bl4 f4)
    | (go_at_call 26; refine (stamp_c p4 q4 _).mono ?_; rintro e v4 ⟨he, bb⟩
       obtain ⟨q1, q2⟩ := HK4.out (by assumption)
       rw [ansT_sb q1 q2] at he
       subst he
       have D4 := Lib.hid (C4.out.trans (bb.mono C4.out.size))
       clear bb q1 q2)
    | (go_at_call 16
       first
       | (refine (awake_c _ (hm.below D4.out)).mono ?_; rintro e w5 ⟨rfl, bl5⟩; have F5 := D4.out.trans (bl5.mono D4.out.size))
       | (refine (awake_c _ (hm.below C4.out)).mono ?_; rintro e w5 ⟨rfl, bl5⟩; have F5 := C4.out.trans (bl5.mono C4.out.size))))
  all_goals go_ret
  all_goals exact ⟨rfl, F5⟩
end Go.Proofs.YtchebellejkdnaaDoor
