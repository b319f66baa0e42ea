/-
  Layer 11: the document's MayRecord.
-/
import Derived.Test.YthimheckmpepdaaGreatDoorKU29
import Derived.Test.YthimheckmpepdaaGreatDoorKU11
import Derived.Test.YthimheckmpepdaaGreatDoorKU08
set_option linter.unusedVariables false
set_option linter.unusedSimpArgs false
set_option maxRecDepth 100000
namespace Go.Proofs.YthimheckmpepdaaGreatDoor
open Go.RowKit

theorem slt_nil (k : ByteArray) (h : 1 ≤ k.size) : slt ⟨#[]⟩ k = true := by
  unfold slt
  rw [Lib.toList_data, Lib.toList_data]
  have : (sb k).length = k.size := sb_len k
  show Op.bytesLess [] (sb k) = true
  cases hk : sb k with
  | nil => rw [hk] at this; simp at this; omega
  | cons a t => rfl
/-- The key that the next one must be above. -/
def pvW (l : List Wt) (j : Nat) (a : ByteArray) : Prop := (j = 0 → a = ⟨#[]⟩) ∧ ∀ m (hm : m < l.length), j = m + 1 → a = (l[m]'hm).k
set_option maxHeartbeats 4000000 in
theorem rMayR_c (x : Rc) (b : Bool) (h : mayR x = b) (A : Option Addr) (n c : Nat) (w : World) (hx : WtAt w A n x.l) (hn : n ≤ 9223372036854775807) :
    Calls Tryz.prog 71 #[rcv x (.slice A n c)] w fun e w' => e = .returned (.bool b) ∧ Below w.heap.size w w' := by
  obtain ⟨id, ep, st, pr, an, sw, sl, bw, bl, l⟩ := x
  simp only at hx
  unfold mayR at h
  simp only at h
  have hl := hx.1
  have g0 := nbl w (.cells (rcc ⟨id, ep, st, pr, an, sw, sl, bw, bl, l⟩ (.slice A n c)) 64)
  have HX := Lib.hid (Blk.new w 64 (rcc ⟨id, ep, st, pr, an, sw, sl, bw, bl, l⟩ (.slice A n c)))
  have HL := Lib.hid (hx.below g0)
  have HD := Lib.hid (fun V => rHead_c id ep pr an _ rfl V)
  have HS := Lib.hid (fun V => refCheck5 sw sl V)
  have HT := Lib.hid (fun V => refCheck5 bw bl V)
  cases h1 : hdr id ep pr an
  · rw [h1] at h HD
    simp at h
    subst h
    go_enter Tryz.func71, Tryz.ntmps71
    go_wp2_with (go_at_call 136; refine (HD.out _).mono ?_; rintro e w1 ⟨rfl, rfl⟩)
    go_ret
    exact ⟨rfl, g0⟩
  · rw [h1] at h HD
    cases h2 : may sw sl
    · rw [h2] at h
      simp at h
      subst h
      rw [show ck sw sl = 9 by unfold ck; rw [h2]; rfl] at HS
      go_enter Tryz.func71, Tryz.ntmps71
      go_wp2_with (first
          | (go_at_call 136; refine (HD.out _).mono ?_; rintro e w1 ⟨rfl, rfl⟩)
          | (go_at_call_of 137 (Value.agg #[.int .i64 sw, .int .i64 sl]); refine (HS.out _).mono ?_; rintro e w1 ⟨rfl, b1⟩; have X1 := Lib.hid (HX.out.below b1 (by simp)); have g1 := g0.trans (b1.mono g0.size); have y2 := X1.out.cell 2; have y7 := X1.out.cell 7; have y8 := X1.out.cell 8; have y9 := X1.out.cell 9; simp at y2 y7 y8 y9))
      go_ret
      exact ⟨rfl, g1⟩
    rw [h2] at h
    rw [show ck sw sl = 0 by unfold ck; rw [h2]; rfl] at HS
    cases h3 : may bw bl
    · rw [h3] at h
      simp at h
      subst h
      rw [show ck bw bl = 9 by unfold ck; rw [h3]; rfl] at HT
      go_enter Tryz.func71, Tryz.ntmps71
      go_wp2_with (first
          | (go_at_call 136; refine (HD.out _).mono ?_; rintro e w1 ⟨rfl, rfl⟩)
          | (go_at_call_of 137 (Value.agg #[.int .i64 sw, .int .i64 sl]); refine (HS.out _).mono ?_; rintro e w1 ⟨rfl, b1⟩; have X1 := Lib.hid (HX.out.below b1 (by simp)); have g1 := g0.trans (b1.mono g0.size); have y2 := X1.out.cell 2; have y7 := X1.out.cell 7; have y8 := X1.out.cell 8; have y9 := X1.out.cell 9; simp at y2 y7 y8 y9)
          | (go_at_call_of 137 (Value.agg #[.int .i64 bw, .int .i64 bl]); refine (HT.out _).mono ?_; rintro e w2 ⟨rfl, b2⟩; have X2 := Lib.hid (X1.out.below b2 X1.out.lt); have g2 := g1.trans (b2.mono g1.size); have z2 := X2.out.cell 2; have z9 := X2.out.cell 9; simp at z2 z9))
      go_ret
      exact ⟨rfl, g2⟩
    rw [h3] at h
    rw [show ck bw bl = 0 by unfold ck; rw [h3]; rfl] at HT
    by_cases c1 : 1 ≤ st
    case neg =>
      have hF : b = false := by
        rw [← h]
        rw [show isS st = false from decide_eq_false (by omega)]; simp
      subst hF
      clear h
      go_enter Tryz.func71, Tryz.ntmps71
      go_wp2_with (first
        | (go_at_call 136; refine (HD.out _).mono ?_; rintro e w1 ⟨rfl, rfl⟩)
        | (go_at_call_of 137 (Value.agg #[.int .i64 sw, .int .i64 sl]); refine (HS.out _).mono ?_; rintro e w1 ⟨rfl, b1⟩; have X1 := Lib.hid (HX.out.below b1 (by simp)); have g1 := g0.trans (b1.mono g0.size); have y2 := X1.out.cell 2; have y7 := X1.out.cell 7; have y8 := X1.out.cell 8; have y9 := X1.out.cell 9; simp at y2 y7 y8 y9)
        | (go_at_call_of 137 (Value.agg #[.int .i64 bw, .int .i64 bl]); refine (HT.out _).mono ?_; rintro e w2 ⟨rfl, b2⟩; have X2 := Lib.hid (X1.out.below b2 X1.out.lt); have g2 := g1.trans (b2.mono g1.size); have z2 := X2.out.cell 2; have z9 := X2.out.cell 9; simp at z2 z9))
      go_ret
      exact ⟨rfl, g2⟩
    by_cases c2 : st ≤ 4
    case neg =>
      have hF : b = false := by
        rw [← h]
        rw [show isS st = false from decide_eq_false (by omega)]; simp
      subst hF
      clear h
      go_enter Tryz.func71, Tryz.ntmps71
      go_wp2_with (first
        | (go_at_call 136; refine (HD.out _).mono ?_; rintro e w1 ⟨rfl, rfl⟩)
        | (go_at_call_of 137 (Value.agg #[.int .i64 sw, .int .i64 sl]); refine (HS.out _).mono ?_; rintro e w1 ⟨rfl, b1⟩; have X1 := Lib.hid (HX.out.below b1 (by simp)); have g1 := g0.trans (b1.mono g0.size); have y2 := X1.out.cell 2; have y7 := X1.out.cell 7; have y8 := X1.out.cell 8; have y9 := X1.out.cell 9; simp at y2 y7 y8 y9)
        | (go_at_call_of 137 (Value.agg #[.int .i64 bw, .int .i64 bl]); refine (HT.out _).mono ?_; rintro e w2 ⟨rfl, b2⟩; have X2 := Lib.hid (X1.out.below b2 X1.out.lt); have g2 := g1.trans (b2.mono g1.size); have z2 := X2.out.cell 2; have z9 := X2.out.cell 9; simp at z2 z9))
      go_ret
      exact ⟨rfl, g2⟩
    by_cases c3 : n ≤ 32
    case neg =>
      have hA : areW st l = false := by
        unfold areW
        split
        · rw [decide_eq_false (by omega)]; rfl
        · exact decide_eq_false (by omega)
      have hF : b = false := by
        rw [← h, hA]; simp
      subst hF
      clear h
      go_enter Tryz.func71, Tryz.ntmps71
      go_wp2_with (first
        | (go_at_call 136; refine (HD.out _).mono ?_; rintro e w1 ⟨rfl, rfl⟩)
        | (go_at_call_of 137 (Value.agg #[.int .i64 sw, .int .i64 sl]); refine (HS.out _).mono ?_; rintro e w1 ⟨rfl, b1⟩; have X1 := Lib.hid (HX.out.below b1 (by simp)); have g1 := g0.trans (b1.mono g0.size); have y2 := X1.out.cell 2; have y7 := X1.out.cell 7; have y8 := X1.out.cell 8; have y9 := X1.out.cell 9; simp at y2 y7 y8 y9)
        | (go_at_call_of 137 (Value.agg #[.int .i64 bw, .int .i64 bl]); refine (HT.out _).mono ?_; rintro e w2 ⟨rfl, b2⟩; have X2 := Lib.hid (X1.out.below b2 X1.out.lt); have g2 := g1.trans (b2.mono g1.size); have z2 := X2.out.cell 2; have z9 := X2.out.cell 9; simp at z2 z9))
      go_ret
      exact ⟨rfl, g2⟩
    have hlen : areW st l = b := by
      rw [show isS st = true from isS_iff.2 ⟨c1, c2⟩] at h
      simpa using h
    clear h
    unfold areW at hlen
    by_cases c4 : st = 2
    case neg =>
      rw [if_neg c4] at hlen
      have c6 : (st == 2) = false := by simpa using c4
      have c7 : (st != 2) = true := by simpa using c4
      by_cases c5 : n = 0
      · subst c5
        have hT : b = true := by rw [← hlen]; exact decide_eq_true hl
        subst hT
        clear hlen
        go_enter Tryz.func71, Tryz.ntmps71
        go_wp2_with (first
          | (go_at_call 136; refine (HD.out _).mono ?_; rintro e w1 ⟨rfl, rfl⟩)
          | (go_at_call_of 137 (Value.agg #[.int .i64 sw, .int .i64 sl]); refine (HS.out _).mono ?_; rintro e w1 ⟨rfl, b1⟩; have X1 := Lib.hid (HX.out.below b1 (by simp)); have g1 := g0.trans (b1.mono g0.size); have y2 := X1.out.cell 2; have y7 := X1.out.cell 7; have y8 := X1.out.cell 8; have y9 := X1.out.cell 9; simp at y2 y7 y8 y9)
          | (go_at_call_of 137 (Value.agg #[.int .i64 bw, .int .i64 bl]); refine (HT.out _).mono ?_; rintro e w2 ⟨rfl, b2⟩; have X2 := Lib.hid (X1.out.below b2 X1.out.lt); have g2 := g1.trans (b2.mono g1.size); have z2 := X2.out.cell 2; have z9 := X2.out.cell 9; simp at z2 z9))
        go_loopw [3] (fun i wr => i = .int .i64 0 ∧ Hid (Below w2.heap.size w2 wr)) (fun i _ => 0)
        case atStart => exact ⟨rfl, Lib.hid (Below.refl _ _)⟩
        case round =>
          obtain ⟨rfl, HBW⟩ := hrel
          have x8 := kept_below HBW.out _ _ z9
          go_wp2
          go_ret
          exact ⟨rfl, g2.trans (HBW.out.mono g2.size)⟩
      · have hF : b = false := by rw [← hlen]; exact decide_eq_false (by omega)
        subst hF
        clear hlen
        have n0 : (0 : Int) < (n : Int) := by omega
        have n1 : decide ((0 : Int) < (n : Int)) = true := decide_eq_true n0
        have n2 : decide ((n : Int) > 0) = true := decide_eq_true n0
        have n3 : 0 < n := by omega
        go_enter Tryz.func71, Tryz.ntmps71
        go_wp2_with (first
          | (go_at_call 136; refine (HD.out _).mono ?_; rintro e w1 ⟨rfl, rfl⟩)
          | (go_at_call_of 137 (Value.agg #[.int .i64 sw, .int .i64 sl]); refine (HS.out _).mono ?_; rintro e w1 ⟨rfl, b1⟩; have X1 := Lib.hid (HX.out.below b1 (by simp)); have g1 := g0.trans (b1.mono g0.size); have y2 := X1.out.cell 2; have y7 := X1.out.cell 7; have y8 := X1.out.cell 8; have y9 := X1.out.cell 9; simp at y2 y7 y8 y9)
          | (go_at_call_of 137 (Value.agg #[.int .i64 bw, .int .i64 bl]); refine (HT.out _).mono ?_; rintro e w2 ⟨rfl, b2⟩; have X2 := Lib.hid (X1.out.below b2 X1.out.lt); have g2 := g1.trans (b2.mono g1.size); have z2 := X2.out.cell 2; have z9 := X2.out.cell 9; simp at z2 z9))
        go_ret
        exact ⟨rfl, g2⟩
    subst c4
    rw [if_pos rfl, decide_eq_true (by omega)] at hlen
    simp at hlen
    have HH := Lib.hid (show ∃ a : ByteArray, riseW a (l.drop 0) = b ∧ pvW l 0 a from ⟨_, hlen, fun _ => rfl, fun m hm e => by omega⟩)
    have HLn := Lib.hid hl
    clear hlen hl hx
    go_enter Tryz.func71, Tryz.ntmps71
    go_wp2_with (first
      | (go_at_call 136; refine (HD.out _).mono ?_; rintro e w1 ⟨rfl, rfl⟩)
      | (go_at_call_of 137 (Value.agg #[.int .i64 sw, .int .i64 sl]); refine (HS.out _).mono ?_; rintro e w1 ⟨rfl, b1⟩; have X1 := Lib.hid (HX.out.below b1 (by simp)); have g1 := g0.trans (b1.mono g0.size); have y2 := X1.out.cell 2; have y7 := X1.out.cell 7; have y8 := X1.out.cell 8; have y9 := X1.out.cell 9; simp at y2 y7 y8 y9)
      | (go_at_call_of 137 (Value.agg #[.int .i64 bw, .int .i64 bl]); refine (HT.out _).mono ?_; rintro e w2 ⟨rfl, b2⟩; have X2 := Lib.hid (X1.out.below b2 X1.out.lt); have g2 := g1.trans (b2.mono g1.size); have z2 := X2.out.cell 2; have z9 := X2.out.cell 9; simp at z2 z9))
    have HL2 := Lib.hid (HL.out.below (b1.trans (b2.mono b1.size)))
    have G2 := Lib.hid g2
    clear HX HL HD HS HT b1 b2 g0 g1 g2 X1 X2 y2 y7 y8 y9 z2
    go_loopw [3] (fun i wr => ∃ (j : Nat), j ≤ n ∧ i = .int .i64 j ∧ Hid (∃ a : ByteArray, riseW a (l.drop j) = b ∧ pvW l j a) ∧ Hid (Below w2.heap.size w2 wr)) (fun i _ => n - (intOf i).toNat)
    case atStart => exact ⟨0, Nat.zero_le _, rfl, HH, Lib.hid (Below.refl _ _)⟩
    case round =>
      obtain ⟨j, hj, rfl, HR, HBW⟩ := hrel
      have x8 := kept_below HBW.out _ _ z9
      by_cases hlt : j < n
      · rcases j with _ | m
        · skip
          have hjl : 0 < l.length := by rw [HLn.out]; exact hlt
          obtain ⟨B, o, rfl, hc⟩ := HL2.out.2 (by omega)
          have p := hc 0 hjl
          obtain ⟨a, hr, hpr⟩ := HR.out
          rw [List.drop_eq_getElem_cons hjl] at hr
          obtain ⟨cc, hcc⟩ : ∃ cc, l[0]'hjl = cc := ⟨_, rfl⟩
          rw [hcc] at p hr
          obtain ⟨k, q⟩ := cc
          obtain ⟨p0, p1⟩ := p
          have P0 := kept_below HBW.out _ _ p0
          have P1 := kept_below HBW.out _ _ p1
          have W0 := Blk.new wr 201 #[.string k, .int .i64 q]
          have o0 := W0.cell 0
          have o1 := W0.cell 1
          have o8 := kept_below (nbl wr (.cells #[.string k, .int .i64 q] 201)) _ _ x8
          have HN := Lib.hid (HBW.out.alloc HBW.out.size (.cells #[.string k, .int .i64 q] 201))
          simp at o0 o1
          have HA0 := Lib.hid (hpr.1 rfl)
          clear hpr
          simp only [Nat.zero_mul, Nat.add_zero] at P0 P1
          have HO : Hid (riseW a (⟨k, q⟩ :: l.drop (0 + 1)) = b) := Lib.hid hr
          have HNO : Hid (∀ (hk : okWt a ⟨k, q⟩ = false), b = false) := Lib.hid fun hk => by
            have := HO.out
            rw [riseW, hk] at this
            simpa using this.symm
          have HFIN : Hid (∀ (hk : okWt a ⟨k, q⟩ = true), riseW k (l.drop (0 + 1)) = b) := Lib.hid fun hk => by
            have := HO.out
            rw [riseW, hk] at this
            simpa using this
          have HC := Lib.hid (refCheck k)
          have HI := Lib.hid (fun V => rIsId_c q _ rfl V)
          have HCC := Lib.hid hcc
          clear hr W0 hcc p0 p1
          by_cases d1 : 1 ≤ k.size ∧ k.size ≤ 32
          case neg =>
            rw [if_neg d1] at HC
            have hF := HNO.out (by unfold okWt; rw [show isK k = false from decide_eq_false d1]; simp)
            subst hF
            go_wp2_with fail
            go_quiet (first
            | (go_at_call 70; exact Calls.quiet_of_same ((HC.out _).mono (fun _ _ hh => ⟨hh.1, hh.2.symm⟩)))
            | (go_at_call 138; exact Calls.quiet_of_same ((HI.out _).mono (fun _ _ hh => ⟨hh.1, hh.2.symm⟩))))
            all_goals (try go_wp2_with fail)
            all_goals go_ret
            all_goals exact ⟨rfl, below_drewN (G2.out.trans (HN.out.mono G2.out.size)) _⟩
          rw [if_pos d1] at HC
          cases d2 : isI q
          case false =>
            rw [d2] at HI
            have hF := HNO.out (by unfold okWt; rw [d2]; simp)
            subst hF
            go_wp2_with fail
            go_quiet (first
            | (go_at_call 70; exact Calls.quiet_of_same ((HC.out _).mono (fun _ _ hh => ⟨hh.1, hh.2.symm⟩)))
            | (go_at_call 138; exact Calls.quiet_of_same ((HI.out _).mono (fun _ _ hh => ⟨hh.1, hh.2.symm⟩))))
            all_goals (try go_wp2_with fail)
            all_goals go_ret
            all_goals exact ⟨rfl, below_drewN (G2.out.trans (HN.out.mono G2.out.size)) _⟩
          rw [d2] at HI
          have hT := HFIN.out (by unfold okWt; rw [d2, show isK k = true from isK_iff.2 d1, HA0.out, slt_nil k (by omega)]; rfl)
          have HT := Lib.hid (show ∃ a : ByteArray, riseW a (l.drop 1) = b ∧ pvW l 1 a from ⟨k, hT, fun e => by omega, fun m hm e => by obtain rfl : m = 0 := (by omega); exact (congrArg Wt.k HCC.out).symm⟩)
          clear hT
          clear HO HNO HFIN
          go_wp2_with fail
          go_quiet (first
            | (go_at_call 70; exact Calls.quiet_of_same ((HC.out _).mono (fun _ _ hh => ⟨hh.1, hh.2.symm⟩)))
            | (go_at_call 138; exact Calls.quiet_of_same ((HI.out _).mono (fun _ _ hh => ⟨hh.1, hh.2.symm⟩))))
          all_goals (try go_wp2_with fail)
          all_goals go_roundw
          all_goals try (case rel => exact ⟨1, by omega, by go_num, HT, Lib.hid (below_drewN HN.out _)⟩)
          all_goals (simp [intOf]; omega)
        · skip
          have hjl : (m + 1) < l.length := by rw [HLn.out]; exact hlt
          obtain ⟨B, o, rfl, hc⟩ := HL2.out.2 (by omega)
          have p := hc (m + 1) hjl
          have pm := hc m (by omega)
          obtain ⟨a, hr, hpr⟩ := HR.out
          rw [List.drop_eq_getElem_cons hjl] at hr
          obtain ⟨cc, hcc⟩ : ∃ cc, l[(m + 1)]'hjl = cc := ⟨_, rfl⟩
          rw [hcc] at p hr
          obtain ⟨k, q⟩ := cc
          obtain ⟨p0, p1⟩ := p
          have P0 := kept_below HBW.out _ _ p0
          have P1 := kept_below HBW.out _ _ p1
          have W0 := Blk.new wr 201 #[.string k, .int .i64 q]
          have o0 := W0.cell 0
          have o1 := W0.cell 1
          have o8 := kept_below (nbl wr (.cells #[.string k, .int .i64 q] 201)) _ _ x8
          have HN := Lib.hid (HBW.out.alloc HBW.out.size (.cells #[.string k, .int .i64 q] 201))
          simp at o0 o1
          obtain rfl := hpr.2 m (by omega) rfl
          have mw : IntKind.i64.wrap (((m + 1 : Nat) : Int) - 1) = (m : Int) := by rw [show ((m + 1 : Nat) : Int) - 1 = (m : Int) by omega]; exact IntWalk.i64_in _ (by omega)
          have mw2 : IntKind.i64.wrap ((m : Int) + 1 - 1) = (m : Int) := by rw [show (m : Int) + 1 - 1 = (m : Int) by omega]; exact IntWalk.i64_in _ (by omega)
          have mw3 : IntKind.i64.wrap (m : Int) = (m : Int) := IntWalk.i64_in _ (by omega)
          have mz : (0 : Int) ≤ (m : Int) := by omega
          have mg2 : (0 : Int) < (m : Int) + 1 := by omega
          have mn : (m : Int) < (n : Int) := by omega
          have mg : (0 : Int) < ((m + 1 : Nat) : Int) := by omega
          obtain ⟨a, ha⟩ : ∃ a, (l[m]'(by omega)).k = a := ⟨_, rfl⟩
          have R0 := kept_below HBW.out _ _ pm.1
          rw [ha] at R0 hr
          have R1 := kept_below (nbl wr (.cells #[.string k, .int .i64 q] 201)) _ _ R0
          clear pm ha hpr
          have HO : Hid (riseW a (⟨k, q⟩ :: l.drop ((m + 1) + 1)) = b) := Lib.hid hr
          have HNO : Hid (∀ (hk : okWt a ⟨k, q⟩ = false), b = false) := Lib.hid fun hk => by
            have := HO.out
            rw [riseW, hk] at this
            simpa using this.symm
          have HFIN : Hid (∀ (hk : okWt a ⟨k, q⟩ = true), riseW k (l.drop ((m + 1) + 1)) = b) := Lib.hid fun hk => by
            have := HO.out
            rw [riseW, hk] at this
            simpa using this
          have HC := Lib.hid (refCheck k)
          have HI := Lib.hid (fun V => rIsId_c q _ rfl V)
          have HCC := Lib.hid hcc
          clear hr W0 hcc p0 p1
          by_cases d1 : 1 ≤ k.size ∧ k.size ≤ 32
          case neg =>
            rw [if_neg d1] at HC
            have hF := HNO.out (by unfold okWt; rw [show isK k = false from decide_eq_false d1]; simp)
            subst hF
            go_wp2_with fail
            go_quiet (first
            | (go_at_call 70; exact Calls.quiet_of_same ((HC.out _).mono (fun _ _ hh => ⟨hh.1, hh.2.symm⟩)))
            | (go_at_call 138; exact Calls.quiet_of_same ((HI.out _).mono (fun _ _ hh => ⟨hh.1, hh.2.symm⟩))))
            all_goals (try go_wp2_with fail)
            all_goals go_ret
            all_goals exact ⟨rfl, below_drewN (G2.out.trans (HN.out.mono G2.out.size)) _⟩
          rw [if_pos d1] at HC
          cases d2 : isI q
          case false =>
            rw [d2] at HI
            have hF := HNO.out (by unfold okWt; rw [d2]; simp)
            subst hF
            go_wp2_with fail
            go_quiet (first
            | (go_at_call 70; exact Calls.quiet_of_same ((HC.out _).mono (fun _ _ hh => ⟨hh.1, hh.2.symm⟩)))
            | (go_at_call 138; exact Calls.quiet_of_same ((HI.out _).mono (fun _ _ hh => ⟨hh.1, hh.2.symm⟩))))
            all_goals (try go_wp2_with fail)
            all_goals go_ret
            all_goals exact ⟨rfl, below_drewN (G2.out.trans (HN.out.mono G2.out.size)) _⟩
          rw [d2] at HI
          rcases ord3 k a _ rfl with ⟨_, L1, E1⟩ | ⟨_, he⟩ | ⟨_, L1, E1⟩
          · have hF := HNO.out (by unfold okWt; rw [show slt a k = false by rw [← slt_gt, L1]; rfl]; simp)
            subst hF
            go_wp2_with fail
            go_quiet (first
            | (go_at_call 70; exact Calls.quiet_of_same ((HC.out _).mono (fun _ _ hh => ⟨hh.1, hh.2.symm⟩)))
            | (go_at_call 138; exact Calls.quiet_of_same ((HI.out _).mono (fun _ _ hh => ⟨hh.1, hh.2.symm⟩))))
            all_goals (try go_wp2_with fail)
            all_goals go_ret
            all_goals exact ⟨rfl, below_drewN (G2.out.trans (HN.out.mono G2.out.size)) _⟩
          · subst he
            have L1 := less_self k
            have E1 := self_eq2 k
            have hF := HNO.out (by unfold okWt; rw [show slt k k = false from L1]; simp)
            subst hF
            go_wp2_with fail
            go_quiet (first
            | (go_at_call 70; exact Calls.quiet_of_same ((HC.out _).mono (fun _ _ hh => ⟨hh.1, hh.2.symm⟩)))
            | (go_at_call 138; exact Calls.quiet_of_same ((HI.out _).mono (fun _ _ hh => ⟨hh.1, hh.2.symm⟩))))
            all_goals (try go_wp2_with fail)
            all_goals go_ret
            all_goals exact ⟨rfl, below_drewN (G2.out.trans (HN.out.mono G2.out.size)) _⟩
          · have hT := HFIN.out (by unfold okWt; rw [d2, show isK k = true from isK_iff.2 d1, show slt a k = true by rw [← slt_gt, L1, E1]; rfl]; rfl)
            have HT := Lib.hid (show ∃ a : ByteArray, riseW a (l.drop (m + 1 + 1)) = b ∧ pvW l (m + 1 + 1) a from ⟨k, hT, fun e => by omega, fun m' hm e => by obtain rfl : m' = m + 1 := (by omega); exact (congrArg Wt.k HCC.out).symm⟩)
            clear hT
            clear HO HNO HFIN
            go_wp2_with fail
            go_quiet (first
            | (go_at_call 70; exact Calls.quiet_of_same ((HC.out _).mono (fun _ _ hh => ⟨hh.1, hh.2.symm⟩)))
            | (go_at_call 138; exact Calls.quiet_of_same ((HI.out _).mono (fun _ _ hh => ⟨hh.1, hh.2.symm⟩))))
            all_goals (try go_wp2_with fail)
            all_goals go_roundw
            all_goals try (case rel => exact ⟨m + 1 + 1, by omega, by go_num, HT, Lib.hid (below_drewN HN.out _)⟩)
            all_goals (simp [intOf]; omega)
      · have hT : b = true := by
          obtain ⟨a, hr, -⟩ := HR.out
          rw [List.drop_eq_nil_of_le (by have := HLn.out; omega)] at hr
          exact hr.symm
        subst hT
        go_wp2
        go_ret
        exact ⟨rfl, G2.out.trans (HBW.out.mono G2.out.size)⟩
end Go.Proofs.YthimheckmpepdaaGreatDoor
