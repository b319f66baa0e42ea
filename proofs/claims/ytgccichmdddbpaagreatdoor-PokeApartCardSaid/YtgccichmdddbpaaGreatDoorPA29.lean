/-
  Layer 11: the document's head, MayIntent.
  Layer 11, the document's answers: numbers, stamps, versions as texts.
  Layer 11, the document's answers: Intent as a text.
  Layer 11: are two lists of changes, of writes, the same? (slices.Equal; the document's SameWrites.)
  Layer 11, the document's answers: its taker: numbers, texts, stamps, flags, one behind the other.
  Layer 11, the document's answers: TakeNumber, TakeStamp, TakeVersion; the code's TakeNumber.
-/
import Derived.Test.YtgccichmdddbpaaGreatDoorPA26
import Derived.Test.YtgccichmdddbpaaGreatDoorPA24
import Derived.Test.YtgccichmdddbpaaGreatDoorPA21
import Derived.Deep.RegionHeld3
import Derived.Test.YtgccichmdddbpaaGreatDoorPA25
import Derived.BigQuiet
import Derived.Deep.QuietTactic
import Derived.Test.YtgccichmdddbpaaGreatDoorPA27
import Derived.Test.YtgccichmdddbpaaGreatDoorPA18
set_option linter.unusedVariables false
set_option linter.unusedSimpArgs false
set_option maxRecDepth 100000
namespace Go.Proofs.YtgccichmdddbpaaGreatDoor
open Go.RowKit

theorem rIsId_c (n : Int) (b : Bool) (h : isI n = b) (w : World) : Calls Tryz.prog 197 #[.int .i64 n] w fun e w' => e = .returned (.bool b) ∧ w = w' := by
  subst h
  go_enter Tryz.func197, Tryz.ntmps197
  go_wp2
  all_goals go_ret
  all_goals refine ⟨congrArg (fun v => Ending.returned (Value.bool v)) ?_, rfl⟩
  all_goals unfold isI
  all_goals first | exact (decide_eq_true (by omega)).symm | exact (decide_eq_false (by omega)).symm | exact decide_eq_decide.2 (by omega)
theorem rHead_c (id ep pr : Int) (an : ByteArray) (b : Bool) (h : hdr id ep pr an = b) (w : World) : Calls Tryz.prog 159 #[.int .i64 id, .int .i64 ep, .int .i64 pr, .string an] w fun e w' => e = .returned (.bool b) ∧ w = w' := by
  subst h
  have HC := Lib.hid (refCheck an)
  cases h1 : isI id
  all_goals by_cases h4 : 1 ≤ an.size ∧ an.size ≤ 32
  all_goals (first | rw [if_pos h4] at HC | rw [if_neg h4] at HC)
  all_goals (first | have k4 : isK an = true := isK_iff.2 h4 | have k4 : isK an = false := decide_eq_false h4)
  all_goals by_cases h2 : 0 ≤ ep
  all_goals by_cases h3 : ep ≤ 9007199254740991
  all_goals by_cases h5 : 1 ≤ pr
  all_goals by_cases h6 : pr ≤ 1000
  all_goals go_enter Tryz.func159, Tryz.ntmps159
  all_goals go_wp2_with (first
    | (go_at_call 197; refine (rIsId_c _ _ h1 _).mono ?_; rintro e w1 ⟨rfl, rfl⟩)
    | (go_at_call 47; refine (HC.out _).mono ?_; rintro e w1 ⟨rfl, rfl⟩))
  all_goals go_ret
  all_goals refine ⟨congrArg (fun v => Ending.returned (Value.bool v)) ?_, rfl⟩
  all_goals unfold hdr
  all_goals rw [h1, k4]
  all_goals first
    | (simp; done)
    | (rw [show isN ep = true from decide_eq_true (by omega), show isP pr = true from decide_eq_true (by omega)]; rfl)
    | (rw [show isN ep = false from decide_eq_false (by omega)]; simp; done)
    | (rw [show isP pr = false from decide_eq_false (by omega)]; simp; done)
set_option maxHeartbeats 4000000 in
theorem rMayI_c (x : It) (b : Bool) (h : mayI x = b) (A : Option Addr) (n c : Nat) (w : World) (hx : ChAt w A n x.l) (hn : n ≤ 9223372036854775807) :
    Calls Tryz.prog 103 #[itv x (.slice A n c)] w fun e w' => e = .returned (.bool b) ∧ Below w.heap.size w w' := by
  obtain ⟨id, ep, pr, an, sw, sl, bw, bl, l⟩ := x
  simp only at hx
  unfold mayI at h
  simp only at h
  have hl := hx.1
  have g0 := nbl w (.cells (itc ⟨id, ep, pr, an, sw, sl, bw, bl, l⟩ (.slice A n c)) 38)
  have HX := Lib.hid (Blk.new w 38 (itc ⟨id, ep, pr, an, sw, sl, bw, bl, l⟩ (.slice A n c)))
  have HL := Lib.hid (hx.below g0)
  have HD := Lib.hid (fun V => rHead_c id ep pr an _ rfl V)
  have HS := Lib.hid (fun V => refCheck5 sw sl V)
  have HT := Lib.hid (fun V => refCheck5 bw bl V)
  cases h1 : hdr id ep pr an
  · rw [h1] at h HD
    simp at h
    subst h
    go_enter Tryz.func103, Tryz.ntmps103
    go_wp2_with (go_at_call 159; refine (HD.out _).mono ?_; rintro e w1 ⟨rfl, rfl⟩)
    go_ret
    exact ⟨rfl, g0⟩
  · rw [h1] at h HD
    cases h2 : may sw sl
    · rw [h2] at h
      simp at h
      subst h
      rw [show ck sw sl = 9 by unfold ck; rw [h2]; rfl] at HS
      go_enter Tryz.func103, Tryz.ntmps103
      go_wp2_with (first
          | (go_at_call 159; refine (HD.out _).mono ?_; rintro e w1 ⟨rfl, rfl⟩)
          | (go_at_call_of 50 (Value.agg #[.int .i64 sw, .int .i64 sl]); refine (HS.out _).mono ?_; rintro e w1 ⟨rfl, b1⟩; have X1 := Lib.hid (HX.out.below b1 (by simp)); have g1 := g0.trans (b1.mono g0.size); have y6 := X1.out.cell 6; have y7 := X1.out.cell 7; have y8 := X1.out.cell 8; simp at y6 y7 y8))
      go_ret
      exact ⟨rfl, g1⟩
    rw [h2] at h
    rw [show ck sw sl = 0 by unfold ck; rw [h2]; rfl] at HS
    cases h3 : may bw bl
    · rw [h3] at h
      simp at h
      subst h
      rw [show ck bw bl = 9 by unfold ck; rw [h3]; rfl] at HT
      go_enter Tryz.func103, Tryz.ntmps103
      go_wp2_with (first
          | (go_at_call 159; refine (HD.out _).mono ?_; rintro e w1 ⟨rfl, rfl⟩)
          | (go_at_call_of 50 (Value.agg #[.int .i64 sw, .int .i64 sl]); refine (HS.out _).mono ?_; rintro e w1 ⟨rfl, b1⟩; have X1 := Lib.hid (HX.out.below b1 (by simp)); have g1 := g0.trans (b1.mono g0.size); have y6 := X1.out.cell 6; have y7 := X1.out.cell 7; have y8 := X1.out.cell 8; simp at y6 y7 y8)
          | (go_at_call_of 50 (Value.agg #[.int .i64 bw, .int .i64 bl]); refine (HT.out _).mono ?_; rintro e w2 ⟨rfl, b2⟩; have X2 := Lib.hid (X1.out.below b2 X1.out.lt); have g2 := g1.trans (b2.mono g1.size); have z8 := X2.out.cell 8; simp at z8))
      go_ret
      exact ⟨rfl, g2⟩
    rw [h3] at h
    rw [show ck bw bl = 0 by unfold ck; rw [h3]; rfl] at HT
    by_cases h4 : 1 ≤ n
    case neg =>
      rw [decide_eq_false (by omega)] at h
      simp at h
      subst h
      obtain rfl : n = 0 := by omega
      go_enter Tryz.func103, Tryz.ntmps103
      go_wp2_with (first
          | (go_at_call 159; refine (HD.out _).mono ?_; rintro e w1 ⟨rfl, rfl⟩)
          | (go_at_call_of 50 (Value.agg #[.int .i64 sw, .int .i64 sl]); refine (HS.out _).mono ?_; rintro e w1 ⟨rfl, b1⟩; have X1 := Lib.hid (HX.out.below b1 (by simp)); have g1 := g0.trans (b1.mono g0.size); have y6 := X1.out.cell 6; have y7 := X1.out.cell 7; have y8 := X1.out.cell 8; simp at y6 y7 y8)
          | (go_at_call_of 50 (Value.agg #[.int .i64 bw, .int .i64 bl]); refine (HT.out _).mono ?_; rintro e w2 ⟨rfl, b2⟩; have X2 := Lib.hid (X1.out.below b2 X1.out.lt); have g2 := g1.trans (b2.mono g1.size); have z8 := X2.out.cell 8; simp at z8))
      go_ret
      exact ⟨rfl, g2⟩
    by_cases h5 : n ≤ 16
    case neg =>
      rw [decide_eq_false (by omega)] at h
      simp at h
      subst h
      go_enter Tryz.func103, Tryz.ntmps103
      go_wp2_with (first
          | (go_at_call 159; refine (HD.out _).mono ?_; rintro e w1 ⟨rfl, rfl⟩)
          | (go_at_call_of 50 (Value.agg #[.int .i64 sw, .int .i64 sl]); refine (HS.out _).mono ?_; rintro e w1 ⟨rfl, b1⟩; have X1 := Lib.hid (HX.out.below b1 (by simp)); have g1 := g0.trans (b1.mono g0.size); have y6 := X1.out.cell 6; have y7 := X1.out.cell 7; have y8 := X1.out.cell 8; simp at y6 y7 y8)
          | (go_at_call_of 50 (Value.agg #[.int .i64 bw, .int .i64 bl]); refine (HT.out _).mono ?_; rintro e w2 ⟨rfl, b2⟩; have X2 := Lib.hid (X1.out.below b2 X1.out.lt); have g2 := g1.trans (b2.mono g1.size); have z8 := X2.out.cell 8; simp at z8))
      go_ret
      exact ⟨rfl, g2⟩
    rw [decide_eq_true (by omega)] at h
    simp at h
    have HH := Lib.hid h
    have HLn := Lib.hid hl
    clear h hl hx
    go_enter Tryz.func103, Tryz.ntmps103
    go_wp2_with (first
      | (go_at_call 159; refine (HD.out _).mono ?_; rintro e w1 ⟨rfl, rfl⟩)
      | (go_at_call_of 50 (Value.agg #[.int .i64 sw, .int .i64 sl]); refine (HS.out _).mono ?_; rintro e w1 ⟨rfl, b1⟩; have X1 := Lib.hid (HX.out.below b1 (by simp)); have g1 := g0.trans (b1.mono g0.size); have y6 := X1.out.cell 6; have y7 := X1.out.cell 7; have y8 := X1.out.cell 8; simp at y6 y7 y8)
      | (go_at_call_of 50 (Value.agg #[.int .i64 bw, .int .i64 bl]); refine (HT.out _).mono ?_; rintro e w2 ⟨rfl, b2⟩; have X2 := Lib.hid (X1.out.below b2 X1.out.lt); have g2 := g1.trans (b2.mono g1.size); have z8 := X2.out.cell 8; simp at z8))
    have HL2 := Lib.hid (HL.out.below (b1.trans (b2.mono b1.size)))
    have G2 := Lib.hid g2
    clear HX HL HD HS HT b1 b2 g0 g1 g2 X1 X2 y6 y7 y8
    go_loopw [3, 4] (fun la i wr => ∃ (j : Nat) (a : Int), j ≤ n ∧ la = .int .i64 a ∧ i = .int .i64 j ∧ 0 ≤ a ∧ a ≤ 9007199254740991 ∧ Hid (rise a (l.drop j) = b) ∧ Hid (Below w2.heap.size w2 wr)) (fun _ i _ => n - (intOf i).toNat)
    case atStart => exact ⟨0, 0, Nat.zero_le _, rfl, rfl, by omega, by omega, HH, Lib.hid (Below.refl _ _)⟩
    case round =>
      obtain ⟨j, a, hj, rfl, rfl, ha, ha2, HR, HBW⟩ := hrel
      have x8 := kept_below HBW.out _ _ z8
      by_cases hlt : j < n
      · have hjl : j < l.length := by rw [HLn.out]; exact hlt
        obtain ⟨B, o, rfl, hc⟩ := HL2.out.2 (by omega)
        have p := hc j hjl
        have hr := HR.out
        rw [List.drop_eq_getElem_cons hjl] at hr
        obtain ⟨cc, hcc⟩ : ∃ cc, l[j]'hjl = cc := ⟨_, rfl⟩
        rw [hcc] at p hr
        obtain ⟨q, s, d⟩ := cc
        obtain ⟨p0, p1, p2⟩ := p
        have P0 := kept_below HBW.out _ _ p0
        have P1 := kept_below HBW.out _ _ p1
        have P2 := kept_below HBW.out _ _ p2
        have W0 := Blk.new wr 24 #[.int .i64 q, .string s, .bool d]
        have o0 := W0.cell 0
        have o1 := W0.cell 1
        have o2 := W0.cell 2
        have o8 := kept_below (nbl wr (.cells #[.int .i64 q, .string s, .bool d] 24)) _ _ x8
        have HN := Lib.hid (HBW.out.alloc HBW.out.size (.cells #[.int .i64 q, .string s, .bool d] 24))
        simp at o0 o1 o2
        have e1 := empty_iff s
        have e2 := empty_is s
        have HO : Hid (rise a (⟨q, s, d⟩ :: l.drop (j + 1)) = b) := Lib.hid hr
        have hno : ∀ (hk : okCh a ⟨q, s, d⟩ = false), b = false := fun hk => by
          have := HO.out
          rw [rise, hk] at this
          simpa using this.symm
        have HNO := Lib.hid hno
        clear hc hcc hr W0 hno p0 p1 p2
        have fin : ∀ (hk : okCh a ⟨q, s, d⟩ = true), rise q (l.drop (j + 1)) = b := fun hk => by
          have := HO.out
          rw [rise, hk] at this
          simpa using this
        have HFIN := Lib.hid fin
        clear fin
        by_cases c1 : a < q
        case neg =>
          have hF := HNO.out (by unfold okCh; rw [decide_eq_false c1]; rfl)
          subst hF
          go_wp2
          go_ret
          exact ⟨rfl, G2.out.trans (HN.out.mono G2.out.size)⟩
        by_cases c2 : q ≤ 9007199254740991
        case neg =>
          have hF := HNO.out (by unfold okCh; rw [show isI q = false from decide_eq_false (by omega)]; simp)
          subst hF
          go_wp2
          go_ret
          exact ⟨rfl, G2.out.trans (HN.out.mono G2.out.size)⟩
        by_cases c3 : s.size ≤ 64
        case neg =>
          have hF := HNO.out (by unfold okCh; rw [show isV s (!d) = false from decide_eq_false (by omega)]; simp)
          subst hF
          go_wp2
          go_ret
          exact ⟨rfl, G2.out.trans (HN.out.mono G2.out.size)⟩
        by_cases c4 : s.size = 0
        · rw [decide_eq_true c4] at e1 e2
          have hT := HFIN.out (by unfold okCh; rw [decide_eq_true c1, show isI q = true from isI_iff.2 (by omega), show isV s (!d) = true from isV_iff.2 ⟨c3, Or.inr c4⟩]; rfl)
          have HT := Lib.hid hT
          clear hT HO
          cases d
          all_goals go_wp2
          all_goals go_roundw
          all_goals try (case rel => exact ⟨j + 1, q, by omega, rfl, by go_num, by omega, by omega, HT, HN⟩)
          all_goals (simp [intOf]; omega)
        · rw [decide_eq_false c4] at e1 e2
          cases d
          · have hT := HFIN.out (by unfold okCh; rw [decide_eq_true c1, show isI q = true from isI_iff.2 (by omega), show isV s (!false) = true from isV_iff.2 ⟨c3, Or.inl rfl⟩]; rfl)
            have HT := Lib.hid hT
            clear hT HO
            go_wp2
            go_roundw
            case rel => exact ⟨j + 1, q, by omega, rfl, by go_num, by omega, by omega, HT, HN⟩
            case measure => simp [intOf]; omega
          · have hF := HNO.out (by unfold okCh; rw [show isV s (!true) = false from decide_eq_false (fun hh => hh.2.elim (fun h => by simp at h) c4)]; simp)
            subst hF
            go_wp2
            go_ret
            exact ⟨rfl, G2.out.trans (HN.out.mono G2.out.size)⟩
      · have hT : b = true := by
          have := HR.out
          rw [List.drop_eq_nil_of_le (by have := HLn.out; omega)] at this
          exact this.symm
        subst hT
        go_wp2
        go_ret
        exact ⟨rfl, G2.out.trans (HBW.out.mono G2.out.size)⟩
end Go.Proofs.YtgccichmdddbpaaGreatDoor
set_option linter.unusedVariables false
set_option linter.unusedSimpArgs false
set_option maxRecDepth 100000
namespace Go.Proofs.YtgccichmdddbpaaGreatDoor
open Go.RowKit

/-- Bytes in memory of the call's own, handed back. -/
def BytesP (w : World) (l : List UInt8) (e : Ending) (w' : World) : Prop := ∃ A m c, e = .returned (.slice A m c) ∧ At w' A m l ∧ Below w.heap.size w w'
theorem rnum (n : Int) (w : World) (h0 : 0 ≤ n) (h1 : n ≤ 9007199254740991) : Calls Tryz.prog 104 #[.int .i64 n] w (BytesP w (nbs n)) := by
  obtain ⟨k, rfl⟩ : ∃ k : Nat, n = (k : Int) := ⟨n.toNat, by omega⟩
  rw [num_nat]
  have HC := Lib.hid (refNum k w (by omega))
  go_enter Tryz.func104, Tryz.ntmps104
  go_wp2_with fail
  refine HC.out.mono ?_
  rintro e w1 ⟨v, rfl, ho, hb⟩
  obtain ⟨A, c, rfl, hat, _⟩ := ho.form
  go_wp2
  go_ret
  exact ⟨A, _, c, rfl, hat, hb⟩
theorem rstr (s : ByteArray) (w : World) (h : s.size ≤ 64) : Calls Tryz.prog 105 #[.string s] w (BytesP w (tbs s)) := by
  have HC := Lib.hid (refStr s 64 w (by omega) (by omega))
  go_enter Tryz.func105, Tryz.ntmps105
  go_wp2_with fail
  refine HC.out.mono ?_
  rintro e w1 ⟨v, rfl, ho, hb⟩
  obtain ⟨A, c, rfl, hat, _⟩ := ho.form
  obtain ⟨m, hm⟩ : ∃ m, (enc s.size ++ sb s).length = m := ⟨_, rfl⟩
  rw [hm] at hat ⊢
  go_wp2
  go_ret
  exact ⟨A, _, c, rfl, hat, hb⟩
theorem cv_ {w : World} {A : Option Addr} {n : Nat} {xs : List UInt8} (h : At w A n xs) (c : Nat) : (convert 164 9 (.slice A n c)).run Tryz.prog w = .ok (.string ⟨xs.toArray⟩) w :=
  h.conv c 164 5 9 Tryz.underlying164 (by kernel_rfl) Tryz.underlying9
theorem nb_str (a : Int) (h : a ≤ 9007199254740991) : ∃ s : ByteArray, ⟨(nbs a).toArray⟩ = s ∧ s.size ≤ 8 := ⟨_, rfl, num_len h⟩
set_option maxHeartbeats 1000000 in
theorem rVersion (s : ByteArray) (d : Bool) (w : World) : Calls Tryz.prog 85 #[.string s, .bool d] w fun e w' => e = ansT (isV s d) (txV s d) ∧ Below w.heap.size w w' := by
  have e1 := empty_iff s
  have e2 := empty_is s
  by_cases h64 : 64 < s.size
  · rw [show isV s d = false from decide_eq_false (by omega)]
    go_enter Tryz.func85, Tryz.ntmps85
    go_wp2
    go_ret2
    exact ⟨rfl, Below.refl _ _⟩
  · cases d
    · by_cases h0 : s.size = 0
      · rw [decide_eq_true h0] at e1 e2
        rw [show isV s false = true from decide_eq_true ⟨by omega, .inr h0⟩]
        go_enter Tryz.func85, Tryz.ntmps85
        go_wp2_with (go_at_call 104; refine (rnum 0 _ (by decide) (by decide)).mono ?_; rintro e w1 ⟨A, m, c, rfl, hat, hb⟩; have hcv := cv_ hat c)
        go_ret2
        exact ⟨by rw [ansT_t]; simp [txV, fbs, nbs], hb⟩
      · rw [decide_eq_false h0] at e1 e2
        rw [show isV s false = false from decide_eq_false (fun h => by rcases h.2 with h | h; cases h; exact h0 h)]
        go_enter Tryz.func85, Tryz.ntmps85
        go_wp2
        go_ret2
        exact ⟨rfl, Below.refl _ _⟩
    · rw [show isV s true = true from decide_eq_true ⟨by omega, .inl rfl⟩]
      obtain ⟨sa, hsa, za⟩ := nb_str 1 (by decide)
      obtain ⟨sc, hsc, zc⟩ : ∃ q : ByteArray, ⟨(tbs s).toArray⟩ = q ∧ q.size ≤ 72 := ⟨_, rfl, str_len (by omega) (Nat.le_refl _)⟩
      have HE := Lib.hid (show (sa ++ sc : ByteArray) = ⟨(txV s true).toArray⟩ by rw [← hsa, ← hsc]; apply ByteArray.ext; simp [txV, fbs, nbs])
      have HSA := Lib.hid hsa
      have HSC := Lib.hid hsc
      clear hsa hsc
      go_enter Tryz.func85, Tryz.ntmps85
      go_wp2_with fail
      go_region_with (first
        | (go_at_call 104; refine (rnum 1 _ (by decide) (by decide)).mono ?_; rintro e w2 ⟨A1, m1, c1, rfl, hat1, hb3⟩
           have v1 := cv_ hat1 c1
           rw [HSA.out] at v1
           have f3 : Below w.heap.size w w2 := by first | exact hb3 | exact (below_drewN (Below.refl w.heap.size w) 1).trans hb3)
        | (go_at_call 105; refine (rstr s _ (by omega)).mono ?_; rintro e w3 ⟨A2, m2, c2, rfl, hat2, hb4⟩
           have v2 := cv_ (hat1.below' hb4) c1
           rw [HSA.out] at v2
           have v3 := cv_ hat2 c2
           rw [HSC.out] at v3
           have f4 : Below w.heap.size w w3 := by first | exact f3.trans (hb4.mono f3.size) | exact f3.drew.trans (hb4.mono f3.size)))
      all_goals go_wp2
      all_goals go_ret2
      all_goals exact ⟨by rw [ansT_t, ← HE.out]; rfl, f4⟩
end Go.Proofs.YtgccichmdddbpaaGreatDoor
set_option linter.unusedVariables false
set_option linter.unusedSimpArgs false
set_option maxRecDepth 100000
namespace Go.Proofs.YtgccichmdddbpaaGreatDoor
open Go.RowKit

section
variable {P : Program} {ops : Array Oper} {Q : Exit → Act → World → Prop} {md : Region.Mode} {S S' : World → Prop}
theorem wpAnyH_imp (hS : ∀ V, S' V → S V) : ∀ {fuel : Nat} {listed : Array Bool} {a : Act} {w : World}, wpAnyH P md ops Q S' fuel listed a w → wpAnyH P md ops Q S fuel listed a w
  | 0, _, _, _, h => h
  | fuel + 1, _, _, _, h => ⟨h.1, fun i hi => wpOp_mono (fun a' w' h' => ⟨hS _ h'.1, wpAnyH_imp hS h'.2⟩) (h.2 i hi)⟩
end
theorem below_dr (W : World) : Below W.heap.size W W.drew := ⟨rfl, rfl, rfl, Nat.le_refl _, fun _ _ => rfl⟩
theorem tx_str (l : List UInt8) (N : Nat) (h : l.length ≤ N) : ∃ s : ByteArray, (⟨l.toArray⟩ : ByteArray) = s ∧ sb s = l ∧ s.size ≤ N := ⟨_, rfl, rfl, h⟩
theorem cat_str (a b : ByteArray) (N M : Nat) (ha : a.size ≤ N) (hb : b.size ≤ M) : ∃ s : ByteArray, a ++ b = s ∧ sb s = sb a ++ sb b ∧ s.size ≤ N + M := ⟨_, rfl, by simp [sb], by rw [ByteArray.size_append]; omega⟩
set_option maxHeartbeats 1000000 in
theorem rstamps (a b : Int) (w : World) (h1 : may a b = true) : Calls Tryz.prog 106 #[sv a b] w fun e w' => e = .returned (.string ⟨(txS a b).toArray⟩) ∧ Below w.heap.size w w' := by
  have hm := may_le h1
  obtain ⟨sa, hsa, za⟩ := nb_str a hm.2.1
  obtain ⟨sc, hsc, zc⟩ := nb_str b hm.2.2.2
  have HE := Lib.hid (show (sa ++ sc : ByteArray) = ⟨(txS a b).toArray⟩ by rw [← hsa, ← hsc]; apply ByteArray.ext; simp [txS])
  have HSA := Lib.hid hsa
  have HSC := Lib.hid hsc
  clear hsa hsc
  have hX := Blk.new w 26 #[.int .i64 a, .int .i64 b]
  have hb2 := nbl w (.cells #[.int .i64 a, .int .i64 b] 26)
  have x0 := hX.cell 0
  have x1 := hX.cell 1
  simp at x0 x1
  go_enter Tryz.func106, Tryz.ntmps106
  go_wp2_with fail
  go_region_with (first
    | (go_at_call_of 104 (Value.int .i64 a); refine (rnum a _ hm.1 hm.2.1).mono ?_; rintro e w2 ⟨A1, m1, c1, rfl, hat1, hb3⟩
       have hX2 : Blk w2 w.heap.size 26 #[.int .i64 a, .int .i64 b] := (hb3.block _ hX.lt).trans hX
       have x2 := hX2.cell 0
       have x3 := hX2.cell 1
       simp at x2 x3
       have v1 := cv_ hat1 c1
       rw [HSA.out] at v1
       have f3 : Below w.heap.size w w2 := by first | exact hb2.drew.trans (hb3.mono hb2.size) | exact hb2.trans (hb3.mono hb2.size))
    | (go_at_call_of 104 (Value.int .i64 b); refine (rnum b _ hm.2.2.1 hm.2.2.2).mono ?_; rintro e w3 ⟨A2, m2, c2, rfl, hat2, hb4⟩
       have v2 := cv_ (hat1.below' hb4) c1
       rw [HSA.out] at v2
       have v3 := cv_ hat2 c2
       rw [HSC.out] at v3
       have f4 : Below w.heap.size w w3 := by first | exact f3.trans (hb4.mono f3.size) | exact f3.drew.trans (hb4.mono f3.size)))
  all_goals (try go_wp2)
  all_goals go_ret
  all_goals exact ⟨by rw [← HE.out]; rfl, f4⟩

set_option maxHeartbeats 8000000 in
theorem rIntent_c (x : It) (A : Option Addr) (n c : Nat) (w : World) (hx : ChAt w A n x.l) (hn : n ≤ 9223372036854775807) :
    Calls Tryz.prog 55 #[itv x (.slice A n c)] w fun e w' => e = ansT (mayI x) (txI x) ∧ Below w.heap.size w w' := by
  obtain ⟨id, ep, pr, an, sw, sl, bw, bl, l⟩ := x
  have g0 := nbl w (.cells (itc ⟨id, ep, pr, an, sw, sl, bw, bl, l⟩ (.slice A n c)) 38)
  have hX := Blk.new w 38 (itc ⟨id, ep, pr, an, sw, sl, bw, bl, l⟩ (.slice A n c))
  have HM := Lib.hid (rMayI_c ⟨id, ep, pr, an, sw, sl, bw, bl, l⟩ _ rfl A n c _ (hx.below g0) hn)
  have HX := Lib.hid hX
  have HL0 := Lib.hid (hx.below g0)
  have hlen : l.length = n := hx.1
  cases hmy : mayI ⟨id, ep, pr, an, sw, sl, bw, bl, l⟩
  · rw [hmy] at HM
    clear hmy hX hx hlen
    go_enter Tryz.func55, Tryz.ntmps55
    go_wp2_with (go_at_call 103; refine HM.out.mono ?_; rintro e w1 ⟨rfl, b1⟩)
    go_ret2
    exact ⟨rfl, bst g0 b1⟩
  rw [hmy] at HM
  simp only [mayI, hdr, Bool.and_eq_true] at hmy
  obtain ⟨⟨⟨⟨⟨⟨⟨h1, h2⟩, h3⟩, h4⟩, h5⟩, h6⟩, h7⟩, h8⟩ := hmy
  have h7 := of_decide_eq_true h7
  have HALL := Lib.hid (rise_all h8)
  have i1 := isI_iff.1 h1
  have i2 := isN_iff.1 h2
  have i3 := isP_iff.1 h3
  have i4 := isK_iff.1 h4
  have i5 := may_le h5
  have i6 := may_le h6
  have i7 : (0 : Int) ≤ (n : Int) ∧ (n : Int) ≤ 9007199254740991 := by omega
  have M5 := Lib.hid h5
  have M6 := Lib.hid h6
  obtain ⟨p1, hp1, sp1, z1⟩ := tx_str (nbs id) 8 (num_len (by omega))
  have HP1 := Lib.hid hp1
  obtain ⟨p2, hp2, sp2, z2⟩ := tx_str (nbs ep) 8 (num_len (by omega))
  have HP2 := Lib.hid hp2
  obtain ⟨p3, hp3, sp3, z3⟩ := tx_str (nbs pr) 8 (num_len (by omega))
  have HP3 := Lib.hid hp3
  obtain ⟨p4, hp4, sp4, z4⟩ := tx_str (tbs an) 40 (str_len i4.2 (by omega))
  have HP4 := Lib.hid hp4
  obtain ⟨p5, hp5, sp5, z5⟩ := tx_str (txS sw sl) 16 (by have u := num_len (n := sw) (by omega); have v := num_len (n := sl) (by omega); unfold txS; rw [List.length_append]; omega)
  have HP5 := Lib.hid hp5
  obtain ⟨p6, hp6, sp6, z6⟩ := tx_str (txS bw bl) 16 (by have u := num_len (n := bw) (by omega); have v := num_len (n := bl) (by omega); unfold txS; rw [List.length_append]; omega)
  have HP6 := Lib.hid hp6
  obtain ⟨p7, hp7, sp7, z7⟩ := tx_str (nbs (n : Int)) 8 (num_len (by omega))
  have HP7 := Lib.hid hp7
  obtain ⟨q2, hq2, sq2, y2⟩ := cat_str p1 p2 8 8 z1 z2
  have HQ2 := Lib.hid hq2
  obtain ⟨q3, hq3, sq3, y3⟩ := cat_str q2 p3 16 8 y2 z3
  have HQ3 := Lib.hid hq3
  obtain ⟨q4, hq4, sq4, y4⟩ := cat_str q3 p4 24 40 y3 z4
  have HQ4 := Lib.hid hq4
  obtain ⟨q5, hq5, sq5, y5⟩ := cat_str q4 p5 64 16 y4 z5
  have HQ5 := Lib.hid hq5
  obtain ⟨q6, hq6, sq6, y6⟩ := cat_str q5 p6 80 16 y5 z6
  have HQ6 := Lib.hid hq6
  obtain ⟨q7, hq7, sq7, y7⟩ := cat_str q6 p7 96 8 y6 z7
  have HQ7 := Lib.hid hq7
  have HSQ := Lib.hid (show sb q7 = (nbs id) ++ (nbs ep) ++ (nbs pr) ++ (tbs an) ++ (txS sw sl) ++ (txS bw bl) ++ (nbs (n : Int)) by rw [sq7, sp7, sq6, sp6, sq5, sp5, sq4, sp4, sq3, sp3, sq2, sp2, sp1])
  have hmix : Tryz.prog.follows .mixedOrders = true := by kernel_rfl
  clear hX hx h1 h2 h3 h4 h5 h6 h8 hp1 sp1 hp2 sp2 hp3 sp3 hp4 sp4 hp5 sp5 hp6 sp6 hp7 sp7 hq2 sq2 hq3 sq3 hq4 sq4 hq5 sq5 hq6 sq6 hq7 sq7
  go_enter Tryz.func55, Tryz.ntmps55
  go_wp2_with (go_at_call 103; refine HM.out.mono ?_; rintro e w1 ⟨rfl, b1⟩)
  have HX1 := Lib.hid (HX.out.below b1 HX.out.lt)
  have HL1 := Lib.hid (HL0.out.below b1)
  have g1 := bst g0 b1
  have LC := Lib.hid (fun (V : World) (hb : Below w1.heap.size w1 V) => (show V.cell? ⟨w.heap.size, 0, none⟩ = some (.int .i64 id) ∧ V.cell? ⟨w.heap.size, 1, none⟩ = some (.int .i64 ep) ∧ V.cell? ⟨w.heap.size, 2, none⟩ = some (.int .i64 pr) ∧ V.cell? ⟨w.heap.size, 3, none⟩ = some (.string an) ∧ V.cell? ⟨w.heap.size, 4, none⟩ = some (.int .i64 sw) ∧ V.cell? ⟨w.heap.size, 5, none⟩ = some (.int .i64 sl) ∧ V.cell? ⟨w.heap.size, 6, none⟩ = some (.int .i64 bw) ∧ V.cell? ⟨w.heap.size, 7, none⟩ = some (.int .i64 bl) ∧ V.cell? ⟨w.heap.size, 8, none⟩ = some (.slice A n c) from by
    have k := HX1.out.below hb HX1.out.lt
    exact ⟨k.cell 0, k.cell 1, k.cell 2, k.cell 3, k.cell 4, k.cell 5, k.cell 6, k.cell 7, k.cell 8⟩))
  clear HX HL0 g0 b1 HM
  refine wp_region_held_drew (S := fun V => Below (w1).heap.size (w1) V) hmix (below_dr _) (fun hS => ?_)
  simp only [List.size_toArray, List.length_cons, List.length_nil, Nat.reduceAdd, Array.replicate_succ, Array.replicate_zero]
  refine wpAnyH_take (i := 0) (oi := ⟨some 10, Op.fieldAddr 38 (Operand.tmp 1) 0, 0, "ref.go:233", #[], none⟩) (v := ?v0a) rfl (by kernel_rfl) (by kernel_rfl) (by kernel_rfl) (fun _ _ _ h => h) (Or.inl ⟨by rfl, ?hy0a⟩) (by assumption) ?rest0a
  case hy0a => (intro V hSw; (try dsimp only at hSw); go_simp; all_goals (with_reducible rfl))
  try simp only [Act.put, List.setIfInBounds_toArray, List.set_cons_zero, List.set_cons_succ]
  refine wpAnyH_take (i := 1) (oi := ⟨some 11, Op.load 3 (Operand.tmp 10), 3, "ref.go:233", #[⟨0, .data⟩], none⟩) (v := ?v1a) rfl (by kernel_rfl) (by kernel_rfl) (by kernel_rfl) (fun _ _ _ h => h) (Or.inl ⟨by rfl, ?hy1a⟩) (by assumption) ?rest1a
  case hy1a => (intro V hSw; (try dsimp only at hSw); obtain ⟨c0, c1, c2, c3, c4, c5, c6, c7, c8⟩ := LC.out V hSw; go_simp; all_goals (with_reducible rfl))
  try simp only [Act.put, List.setIfInBounds_toArray, List.set_cons_zero, List.set_cons_succ]
  refine wpAnyH_take (i := 4) (oi := ⟨some 14, Op.fieldAddr 38 (Operand.tmp 1) 1, 0, "ref.go:233", #[], none⟩) (v := ?v4a) rfl (by kernel_rfl) (by kernel_rfl) (by kernel_rfl) (fun _ _ _ h => h) (Or.inl ⟨by rfl, ?hy4a⟩) (by assumption) ?rest4a
  case hy4a => (intro V hSw; (try dsimp only at hSw); go_simp; all_goals (with_reducible rfl))
  try simp only [Act.put, List.setIfInBounds_toArray, List.set_cons_zero, List.set_cons_succ]
  refine wpAnyH_take (i := 5) (oi := ⟨some 15, Op.load 3 (Operand.tmp 14), 3, "ref.go:233", #[⟨4, .data⟩], none⟩) (v := ?v5a) rfl (by kernel_rfl) (by kernel_rfl) (by kernel_rfl) (fun _ _ _ h => h) (Or.inl ⟨by rfl, ?hy5a⟩) (by assumption) ?rest5a
  case hy5a => (intro V hSw; (try dsimp only at hSw); obtain ⟨c0, c1, c2, c3, c4, c5, c6, c7, c8⟩ := LC.out V hSw; go_simp; all_goals (with_reducible rfl))
  try simp only [Act.put, List.setIfInBounds_toArray, List.set_cons_zero, List.set_cons_succ]
  refine wpAnyH_take (i := 9) (oi := ⟨some 19, Op.fieldAddr 38 (Operand.tmp 1) 2, 0, "ref.go:233", #[], none⟩) (v := ?v9a) rfl (by kernel_rfl) (by kernel_rfl) (by kernel_rfl) (fun _ _ _ h => h) (Or.inl ⟨by rfl, ?hy9a⟩) (by assumption) ?rest9a
  case hy9a => (intro V hSw; (try dsimp only at hSw); go_simp; all_goals (with_reducible rfl))
  try simp only [Act.put, List.setIfInBounds_toArray, List.set_cons_zero, List.set_cons_succ]
  refine wpAnyH_take (i := 10) (oi := ⟨some 20, Op.load 3 (Operand.tmp 19), 3, "ref.go:233", #[⟨9, .data⟩], none⟩) (v := ?v10a) rfl (by kernel_rfl) (by kernel_rfl) (by kernel_rfl) (fun _ _ _ h => h) (Or.inl ⟨by rfl, ?hy10a⟩) (by assumption) ?rest10a
  case hy10a => (intro V hSw; (try dsimp only at hSw); obtain ⟨c0, c1, c2, c3, c4, c5, c6, c7, c8⟩ := LC.out V hSw; go_simp; all_goals (with_reducible rfl))
  try simp only [Act.put, List.setIfInBounds_toArray, List.set_cons_zero, List.set_cons_succ]
  refine wpAnyH_take (i := 14) (oi := ⟨some 24, Op.fieldAddr 38 (Operand.tmp 1) 3, 0, "ref.go:233", #[], none⟩) (v := ?v14a) rfl (by kernel_rfl) (by kernel_rfl) (by kernel_rfl) (fun _ _ _ h => h) (Or.inl ⟨by rfl, ?hy14a⟩) (by assumption) ?rest14a
  case hy14a => (intro V hSw; (try dsimp only at hSw); go_simp; all_goals (with_reducible rfl))
  try simp only [Act.put, List.setIfInBounds_toArray, List.set_cons_zero, List.set_cons_succ]
  refine wpAnyH_take (i := 15) (oi := ⟨some 25, Op.load 9 (Operand.tmp 24), 9, "ref.go:233", #[⟨14, .data⟩], none⟩) (v := ?v15a) rfl (by kernel_rfl) (by kernel_rfl) (by kernel_rfl) (fun _ _ _ h => h) (Or.inl ⟨by rfl, ?hy15a⟩) (by assumption) ?rest15a
  case hy15a => (intro V hSw; (try dsimp only at hSw); obtain ⟨c0, c1, c2, c3, c4, c5, c6, c7, c8⟩ := LC.out V hSw; go_simp; all_goals (with_reducible rfl))
  try simp only [Act.put, List.setIfInBounds_toArray, List.set_cons_zero, List.set_cons_succ]
  refine wpAnyH_take (i := 19) (oi := ⟨some 29, Op.fieldAddr 38 (Operand.tmp 1) 4, 0, "ref.go:233", #[], none⟩) (v := ?v19a) rfl (by kernel_rfl) (by kernel_rfl) (by kernel_rfl) (fun _ _ _ h => h) (Or.inl ⟨by rfl, ?hy19a⟩) (by assumption) ?rest19a
  case hy19a => (intro V hSw; (try dsimp only at hSw); go_simp; all_goals (with_reducible rfl))
  try simp only [Act.put, List.setIfInBounds_toArray, List.set_cons_zero, List.set_cons_succ]
  refine wpAnyH_take (i := 20) (oi := ⟨some 30, Op.load 26 (Operand.tmp 29), 26, "ref.go:233", #[⟨19, .data⟩], none⟩) (v := ?v20a) rfl (by kernel_rfl) (by kernel_rfl) (by kernel_rfl) (fun _ _ _ h => h) (Or.inl ⟨by rfl, ?hy20a⟩) (by assumption) ?rest20a
  case hy20a => (intro V hSw; (try dsimp only at hSw); obtain ⟨c0, c1, c2, c3, c4, c5, c6, c7, c8⟩ := LC.out V hSw; go_simp; all_goals (with_reducible rfl))
  try simp only [Act.put, List.setIfInBounds_toArray, List.set_cons_zero, List.set_cons_succ]
  refine wpAnyH_take (i := 23) (oi := ⟨some 33, Op.fieldAddr 38 (Operand.tmp 1) 5, 0, "ref.go:233", #[], none⟩) (v := ?v23a) rfl (by kernel_rfl) (by kernel_rfl) (by kernel_rfl) (fun _ _ _ h => h) (Or.inl ⟨by rfl, ?hy23a⟩) (by assumption) ?rest23a
  case hy23a => (intro V hSw; (try dsimp only at hSw); go_simp; all_goals (with_reducible rfl))
  try simp only [Act.put, List.setIfInBounds_toArray, List.set_cons_zero, List.set_cons_succ]
  refine wpAnyH_take (i := 24) (oi := ⟨some 34, Op.load 26 (Operand.tmp 33), 26, "ref.go:233", #[⟨23, .data⟩], none⟩) (v := ?v24a) rfl (by kernel_rfl) (by kernel_rfl) (by kernel_rfl) (fun _ _ _ h => h) (Or.inl ⟨by rfl, ?hy24a⟩) (by assumption) ?rest24a
  case hy24a => (intro V hSw; (try dsimp only at hSw); obtain ⟨c0, c1, c2, c3, c4, c5, c6, c7, c8⟩ := LC.out V hSw; go_simp; all_goals (with_reducible rfl))
  try simp only [Act.put, List.setIfInBounds_toArray, List.set_cons_zero, List.set_cons_succ]
  refine wpAnyH_take (i := 27) (oi := ⟨some 37, Op.fieldAddr 38 (Operand.tmp 1) 6, 0, "ref.go:233", #[], none⟩) (v := ?v27a) rfl (by kernel_rfl) (by kernel_rfl) (by kernel_rfl) (fun _ _ _ h => h) (Or.inl ⟨by rfl, ?hy27a⟩) (by assumption) ?rest27a
  case hy27a => (intro V hSw; (try dsimp only at hSw); go_simp; all_goals (with_reducible rfl))
  try simp only [Act.put, List.setIfInBounds_toArray, List.set_cons_zero, List.set_cons_succ]
  refine wpAnyH_take (i := 28) (oi := ⟨some 38, Op.load 36 (Operand.tmp 37), 36, "ref.go:233", #[⟨27, .data⟩], none⟩) (v := ?v28a) rfl (by kernel_rfl) (by kernel_rfl) (by kernel_rfl) (fun _ _ _ h => h) (Or.inl ⟨by rfl, ?hy28a⟩) (by assumption) ?rest28a
  case hy28a => (intro V hSw; (try dsimp only at hSw); obtain ⟨c0, c1, c2, c3, c4, c5, c6, c7, c8⟩ := LC.out V hSw; go_simp; all_goals (with_reducible rfl))
  try simp only [Act.put, List.setIfInBounds_toArray, List.set_cons_zero, List.set_cons_succ]
  refine wpAnyH_take (i := 29) (oi := ⟨some 39, Op.call { callee := Callee.builtin Builtin.len, args := #[Operand.tmp 38], argTypes := #[36] }, 3, "ref.go:233", #[⟨28, .data⟩], none⟩) (v := ?v29a) rfl (by kernel_rfl) (by kernel_rfl) (by kernel_rfl) (fun _ _ _ h => h) (Or.inl ⟨by rfl, ?hy29a⟩) (by assumption) ?rest29a
  case hy29a => (intro V hSw; (try dsimp only at hSw); go_simp; all_goals (with_reducible rfl))
  try simp only [Act.put, List.setIfInBounds_toArray, List.set_cons_zero, List.set_cons_succ]
  refine wpAnyH_ready (rs := [2]) (by kernel_rfl) (by simp) ?_
  refine AllReadyH.cons (o := ⟨some 12, Op.call { callee := Callee.value (Operand.func 104), args := #[Operand.tmp 11], argTypes := #[3] }, 164, "ref.go:233", #[⟨1, .data⟩], none⟩) rfl (fun K hK => ?_) AllReadyH.nil
  go_simp
  refine (rnum id _ (by omega) (by omega)).mono ?_
  rintro e v1 ⟨A1, m1, cc1, rfl, hat1, hb1⟩
  refine hK.out _ _ (bst (below_dr w1) hb1) (fun _ => ?_)
  clear hK K
  clear hS
  refine wpAnyH_imp (S' := fun V => Below v1.heap.size v1 V) (fun V h => bst (bst (below_dr w1) hb1) h) ?_
  have hS : Below v1.heap.size v1 v1 := Below.refl _ _
  try simp only [Act.put, List.setIfInBounds_toArray, List.set_cons_zero, List.set_cons_succ]
  have HAT1 := Lib.hid hat1
  clear hat1
  have HB1 := Lib.hid (bst (below_dr w1) hb1)
  refine wpAnyH_take (i := 3) (oi := ⟨some 13, Op.convert 164 9 (Operand.tmp 12), 9, "ref.go:233", #[⟨2, .data⟩], none⟩) (v := ?v3a) rfl (by kernel_rfl) (by kernel_rfl) (by kernel_rfl) (fun _ _ _ h => h) (Or.inl ⟨by rfl, ?hy3a⟩) (by assumption) ?rest3a
  case hy3a => (intro V hSw; (try dsimp only at hSw); have kc := cv_ (HAT1.out.below' hSw) cc1; rw [HP1.out] at kc; go_simp; all_goals (with_reducible rfl))
  try simp only [Act.put, List.setIfInBounds_toArray, List.set_cons_zero, List.set_cons_succ]
  refine wpAnyH_ready (rs := [6]) (by kernel_rfl) (by simp) ?_
  refine AllReadyH.cons (o := ⟨some 16, Op.call { callee := Callee.value (Operand.func 104), args := #[Operand.tmp 15], argTypes := #[3] }, 164, "ref.go:233", #[⟨5, .data⟩, ⟨2, .chain⟩], none⟩) rfl (fun K hK => ?_) AllReadyH.nil
  go_simp
  refine (rnum ep _ (by omega) (by omega)).mono ?_
  rintro e v2 ⟨A2, m2, cc2, rfl, hat2, hb2⟩
  refine hK.out _ _ hb2 (fun _ => ?_)
  clear hK K
  clear hS
  refine wpAnyH_imp (S' := fun V => Below v2.heap.size v2 V) (fun V h => bst hb2 h) ?_
  have hS : Below v2.heap.size v2 v2 := Below.refl _ _
  try simp only [Act.put, List.setIfInBounds_toArray, List.set_cons_zero, List.set_cons_succ]
  have HAT2 := Lib.hid hat2
  clear hat2
  have HB2 := Lib.hid hb2
  refine wpAnyH_take (i := 7) (oi := ⟨some 17, Op.convert 164 9 (Operand.tmp 16), 9, "ref.go:233", #[⟨6, .data⟩], none⟩) (v := ?v7a) rfl (by kernel_rfl) (by kernel_rfl) (by kernel_rfl) (fun _ _ _ h => h) (Or.inl ⟨by rfl, ?hy7a⟩) (by assumption) ?rest7a
  case hy7a => (intro V hSw; (try dsimp only at hSw); have kc := cv_ (HAT2.out.below' hSw) cc2; rw [HP2.out] at kc; go_simp; all_goals (with_reducible rfl))
  try simp only [Act.put, List.setIfInBounds_toArray, List.set_cons_zero, List.set_cons_succ]
  refine wpAnyH_take (i := 8) (oi := ⟨some 18, Op.binOp BinOp.add 9 (Operand.tmp 13) (Operand.tmp 17) 9, 9, "ref.go:233", #[⟨3, .data⟩, ⟨7, .data⟩], none⟩) (v := .string q2) rfl (by kernel_rfl) (by kernel_rfl) (by kernel_rfl) (fun _ _ _ h => h) (Or.inl ⟨by rfl, ?hy8a⟩) (by assumption) ?rest8a
  case hy8a => (intro V hSw; (try dsimp only at hSw); have ke := HQ2.out; have kz : ¬ 9223372036854775807 < p1.size + p2.size := (by omega); go_simp; all_goals (with_reducible rfl))
  try simp only [Act.put, List.setIfInBounds_toArray, List.set_cons_zero, List.set_cons_succ]
  refine wpAnyH_ready (rs := [11]) (by kernel_rfl) (by simp) ?_
  refine AllReadyH.cons (o := ⟨some 21, Op.call { callee := Callee.value (Operand.func 104), args := #[Operand.tmp 20], argTypes := #[3] }, 164, "ref.go:233", #[⟨10, .data⟩, ⟨6, .chain⟩], none⟩) rfl (fun K hK => ?_) AllReadyH.nil
  go_simp
  refine (rnum pr _ (by omega) (by omega)).mono ?_
  rintro e v3 ⟨A3, m3, cc3, rfl, hat3, hb3⟩
  refine hK.out _ _ hb3 (fun _ => ?_)
  clear hK K
  clear hS
  refine wpAnyH_imp (S' := fun V => Below v3.heap.size v3 V) (fun V h => bst hb3 h) ?_
  have hS : Below v3.heap.size v3 v3 := Below.refl _ _
  try simp only [Act.put, List.setIfInBounds_toArray, List.set_cons_zero, List.set_cons_succ]
  have HAT3 := Lib.hid hat3
  clear hat3
  have HB3 := Lib.hid hb3
  refine wpAnyH_take (i := 12) (oi := ⟨some 22, Op.convert 164 9 (Operand.tmp 21), 9, "ref.go:233", #[⟨11, .data⟩], none⟩) (v := ?v12a) rfl (by kernel_rfl) (by kernel_rfl) (by kernel_rfl) (fun _ _ _ h => h) (Or.inl ⟨by rfl, ?hy12a⟩) (by assumption) ?rest12a
  case hy12a => (intro V hSw; (try dsimp only at hSw); have kc := cv_ (HAT3.out.below' hSw) cc3; rw [HP3.out] at kc; go_simp; all_goals (with_reducible rfl))
  try simp only [Act.put, List.setIfInBounds_toArray, List.set_cons_zero, List.set_cons_succ]
  refine wpAnyH_take (i := 13) (oi := ⟨some 23, Op.binOp BinOp.add 9 (Operand.tmp 18) (Operand.tmp 22) 9, 9, "ref.go:233", #[⟨8, .data⟩, ⟨12, .data⟩], none⟩) (v := .string q3) rfl (by kernel_rfl) (by kernel_rfl) (by kernel_rfl) (fun _ _ _ h => h) (Or.inl ⟨by rfl, ?hy13a⟩) (by assumption) ?rest13a
  case hy13a => (intro V hSw; (try dsimp only at hSw); have ke := HQ3.out; have kz : ¬ 9223372036854775807 < q2.size + p3.size := (by omega); go_simp; all_goals (with_reducible rfl))
  try simp only [Act.put, List.setIfInBounds_toArray, List.set_cons_zero, List.set_cons_succ]
  refine wpAnyH_ready (rs := [16]) (by kernel_rfl) (by simp) ?_
  refine AllReadyH.cons (o := ⟨some 26, Op.call { callee := Callee.value (Operand.func 105), args := #[Operand.tmp 25], argTypes := #[9] }, 164, "ref.go:233", #[⟨15, .data⟩, ⟨11, .chain⟩], none⟩) rfl (fun K hK => ?_) AllReadyH.nil
  go_simp
  refine (rstr an _ (by omega)).mono ?_
  rintro e v4 ⟨A4, m4, cc4, rfl, hat4, hb4⟩
  refine hK.out _ _ hb4 (fun _ => ?_)
  clear hK K
  clear hS
  refine wpAnyH_imp (S' := fun V => Below v4.heap.size v4 V) (fun V h => bst hb4 h) ?_
  have hS : Below v4.heap.size v4 v4 := Below.refl _ _
  try simp only [Act.put, List.setIfInBounds_toArray, List.set_cons_zero, List.set_cons_succ]
  have HAT4 := Lib.hid hat4
  clear hat4
  have HB4 := Lib.hid hb4
  refine wpAnyH_take (i := 17) (oi := ⟨some 27, Op.convert 164 9 (Operand.tmp 26), 9, "ref.go:233", #[⟨16, .data⟩], none⟩) (v := ?v17a) rfl (by kernel_rfl) (by kernel_rfl) (by kernel_rfl) (fun _ _ _ h => h) (Or.inl ⟨by rfl, ?hy17a⟩) (by assumption) ?rest17a
  case hy17a => (intro V hSw; (try dsimp only at hSw); have kc := cv_ (HAT4.out.below' hSw) cc4; rw [HP4.out] at kc; go_simp; all_goals (with_reducible rfl))
  try simp only [Act.put, List.setIfInBounds_toArray, List.set_cons_zero, List.set_cons_succ]
  refine wpAnyH_take (i := 18) (oi := ⟨some 28, Op.binOp BinOp.add 9 (Operand.tmp 23) (Operand.tmp 27) 9, 9, "ref.go:233", #[⟨13, .data⟩, ⟨17, .data⟩], none⟩) (v := .string q4) rfl (by kernel_rfl) (by kernel_rfl) (by kernel_rfl) (fun _ _ _ h => h) (Or.inl ⟨by rfl, ?hy18a⟩) (by assumption) ?rest18a
  case hy18a => (intro V hSw; (try dsimp only at hSw); have ke := HQ4.out; have kz : ¬ 9223372036854775807 < q3.size + p4.size := (by omega); go_simp; all_goals (with_reducible rfl))
  try simp only [Act.put, List.setIfInBounds_toArray, List.set_cons_zero, List.set_cons_succ]
  refine wpAnyH_ready (rs := [21]) (by kernel_rfl) (by simp) ?_
  refine AllReadyH.cons (o := ⟨some 31, Op.call { callee := Callee.value (Operand.func 106), args := #[Operand.tmp 30], argTypes := #[26] }, 9, "ref.go:233", #[⟨20, .data⟩, ⟨16, .chain⟩], none⟩) rfl (fun K hK => ?_) AllReadyH.nil
  go_simp
  refine (rstamps sw sl _ M5.out).mono ?_
  rintro e v5 ⟨rfl, hb5⟩
  rw [HP5.out]
  refine hK.out _ _ hb5 (fun _ => ?_)
  clear hK K
  clear hS
  refine wpAnyH_imp (S' := fun V => Below v5.heap.size v5 V) (fun V h => bst hb5 h) ?_
  have hS : Below v5.heap.size v5 v5 := Below.refl _ _
  try simp only [Act.put, List.setIfInBounds_toArray, List.set_cons_zero, List.set_cons_succ]
  have HB5 := Lib.hid hb5
  refine wpAnyH_take (i := 22) (oi := ⟨some 32, Op.binOp BinOp.add 9 (Operand.tmp 28) (Operand.tmp 31) 9, 9, "ref.go:233", #[⟨18, .data⟩, ⟨21, .data⟩], none⟩) (v := .string q5) rfl (by kernel_rfl) (by kernel_rfl) (by kernel_rfl) (fun _ _ _ h => h) (Or.inl ⟨by rfl, ?hy22a⟩) (by assumption) ?rest22a
  case hy22a => (intro V hSw; (try dsimp only at hSw); have ke := HQ5.out; have kz : ¬ 9223372036854775807 < q4.size + p5.size := (by omega); go_simp; all_goals (with_reducible rfl))
  try simp only [Act.put, List.setIfInBounds_toArray, List.set_cons_zero, List.set_cons_succ]
  refine wpAnyH_ready (rs := [25]) (by kernel_rfl) (by simp) ?_
  refine AllReadyH.cons (o := ⟨some 35, Op.call { callee := Callee.value (Operand.func 106), args := #[Operand.tmp 34], argTypes := #[26] }, 9, "ref.go:233", #[⟨24, .data⟩, ⟨21, .chain⟩], none⟩) rfl (fun K hK => ?_) AllReadyH.nil
  go_simp
  refine (rstamps bw bl _ M6.out).mono ?_
  rintro e v6 ⟨rfl, hb6⟩
  rw [HP6.out]
  refine hK.out _ _ hb6 (fun _ => ?_)
  clear hK K
  clear hS
  refine wpAnyH_imp (S' := fun V => Below v6.heap.size v6 V) (fun V h => bst hb6 h) ?_
  have hS : Below v6.heap.size v6 v6 := Below.refl _ _
  try simp only [Act.put, List.setIfInBounds_toArray, List.set_cons_zero, List.set_cons_succ]
  have HB6 := Lib.hid hb6
  refine wpAnyH_take (i := 26) (oi := ⟨some 36, Op.binOp BinOp.add 9 (Operand.tmp 32) (Operand.tmp 35) 9, 9, "ref.go:233", #[⟨22, .data⟩, ⟨25, .data⟩], none⟩) (v := .string q6) rfl (by kernel_rfl) (by kernel_rfl) (by kernel_rfl) (fun _ _ _ h => h) (Or.inl ⟨by rfl, ?hy26a⟩) (by assumption) ?rest26a
  case hy26a => (intro V hSw; (try dsimp only at hSw); have ke := HQ6.out; have kz : ¬ 9223372036854775807 < q5.size + p6.size := (by omega); go_simp; all_goals (with_reducible rfl))
  try simp only [Act.put, List.setIfInBounds_toArray, List.set_cons_zero, List.set_cons_succ]
  refine wpAnyH_ready (rs := [30]) (by kernel_rfl) (by simp) ?_
  refine AllReadyH.cons (o := ⟨some 40, Op.call { callee := Callee.value (Operand.func 104), args := #[Operand.tmp 39], argTypes := #[3] }, 164, "ref.go:233", #[⟨29, .data⟩, ⟨25, .chain⟩], none⟩) rfl (fun K hK => ?_) AllReadyH.nil
  go_simp
  refine (rnum (n : Int) _ (by omega) (by omega)).mono ?_
  rintro e v7 ⟨A7, m7, cc7, rfl, hat7, hb7⟩
  refine hK.out _ _ hb7 (fun _ => ?_)
  clear hK K
  clear hS
  refine wpAnyH_imp (S' := fun V => Below v7.heap.size v7 V) (fun V h => bst hb7 h) ?_
  have hS : Below v7.heap.size v7 v7 := Below.refl _ _
  try simp only [Act.put, List.setIfInBounds_toArray, List.set_cons_zero, List.set_cons_succ]
  have HAT7 := Lib.hid hat7
  clear hat7
  have HB7 := Lib.hid hb7
  refine wpAnyH_take (i := 31) (oi := ⟨some 41, Op.convert 164 9 (Operand.tmp 40), 9, "ref.go:233", #[⟨30, .data⟩], none⟩) (v := ?v31a) rfl (by kernel_rfl) (by kernel_rfl) (by kernel_rfl) (fun _ _ _ h => h) (Or.inl ⟨by rfl, ?hy31a⟩) (by assumption) ?rest31a
  case hy31a => (intro V hSw; (try dsimp only at hSw); have kc := cv_ (HAT7.out.below' hSw) cc7; rw [HP7.out] at kc; go_simp; all_goals (with_reducible rfl))
  try simp only [Act.put, List.setIfInBounds_toArray, List.set_cons_zero, List.set_cons_succ]
  refine wpAnyH_take (i := 32) (oi := ⟨some 42, Op.binOp BinOp.add 9 (Operand.tmp 36) (Operand.tmp 41) 9, 9, "ref.go:233", #[⟨26, .data⟩, ⟨31, .data⟩], none⟩) (v := .string q7) rfl (by kernel_rfl) (by kernel_rfl) (by kernel_rfl) (fun _ _ _ h => h) (Or.inl ⟨by rfl, ?hy32a⟩) (by assumption) ?rest32a
  case hy32a => (intro V hSw; (try dsimp only at hSw); have ke := HQ7.out; have kz : ¬ 9223372036854775807 < q6.size + p7.size := (by omega); go_simp; all_goals (with_reducible rfl))
  try simp only [Act.put, List.setIfInBounds_toArray, List.set_cons_zero, List.set_cons_succ]
  refine wpAnyH_take (i := 33) (oi := ⟨some 4, Op.assign (Operand.tmp 42), 9, "ref.go:233", #[⟨32, .data⟩, ⟨30, .chain⟩, ⟨0, .phase⟩, ⟨1, .phase⟩, ⟨2, .phase⟩, ⟨3, .phase⟩, ⟨4, .phase⟩, ⟨5, .phase⟩, ⟨6, .phase⟩, ⟨7, .phase⟩, ⟨8, .phase⟩, ⟨9, .phase⟩, ⟨10, .phase⟩, ⟨11, .phase⟩, ⟨12, .phase⟩, ⟨13, .phase⟩, ⟨14, .phase⟩, ⟨15, .phase⟩, ⟨16, .phase⟩, ⟨17, .phase⟩, ⟨18, .phase⟩, ⟨19, .phase⟩, ⟨20, .phase⟩, ⟨21, .phase⟩, ⟨22, .phase⟩, ⟨23, .phase⟩, ⟨24, .phase⟩, ⟨25, .phase⟩, ⟨26, .phase⟩, ⟨27, .phase⟩, ⟨28, .phase⟩, ⟨29, .phase⟩, ⟨30, .phase⟩, ⟨31, .phase⟩, ⟨32, .phase⟩], none⟩) (v := ?v33a) rfl (by kernel_rfl) (by kernel_rfl) (by kernel_rfl) (fun _ _ _ h => h) (Or.inl ⟨by rfl, ?hy33a⟩) (by assumption) ?rest33a
  case hy33a => (intro V hSw; (try dsimp only at hSw); go_simp; all_goals (with_reducible rfl))
  try simp only [Act.put, List.setIfInBounds_toArray, List.set_cons_zero, List.set_cons_succ]
  refine wpAnyH_done (by kernel_rfl) ?_ _
  have HBE := Lib.hid (show Below w1.heap.size w1 v7 from (bst (bst (bst (bst (bst (bst HB1.out HB2.out) HB3.out) HB4.out) HB5.out) HB6.out) HB7.out))
  have HLE := Lib.hid (HL1.out.below HBE.out)
  have GE := Lib.hid (bst g1 HBE.out)
  have LC2 := Lib.hid (fun (V : World) (hb : Below v7.heap.size v7 V) => (LC.out V (bst HBE.out hb)))
  clear hS hb1 HB1 hb2 HB2 hb3 HB3 hb4 HB4 hb5 HB5 hb6 HB6 hb7 HB7 HAT1 HAT2 HAT3 HAT4 HAT7 LC HX1 HL1 g1 HBE
  go_wp2_with fail
  go_loopw [4, 5, 6] (fun s i dd wr => ∃ (j : Nat) (q : ByteArray), j ≤ n ∧ s = .string q ∧ i = .int .i64 j ∧ q.size ≤ 104 + 120 * j ∧ Hid (sb q = sb q7 ++ (l.take j).flatMap txC) ∧ Hid (Below v7.heap.size v7 wr)) (fun _ i _ _ => n - (intOf i).toNat)
  case atStart => exact ⟨0, q7, Nat.zero_le _, rfl, rfl, by omega, by show sb q7 = _; simp, Lib.hid (Below.refl _ _)⟩
  case round =>
    obtain ⟨j, q, hj, rfl, rfl, hq, HS, HB⟩ := hrel
    obtain ⟨c0, c1, c2, c3, c4, c5, c6, c7, c8⟩ := LC2.out wr HB.out
    by_cases hlt : j < n
    case neg =>
      have hjn : j = n := by omega
      have HF := Lib.hid (show ansT true (txI ⟨id, ep, pr, an, sw, sl, bw, bl, l⟩) = .returned (.tuple #[.string q, .int .i64 0]) from by
        rw [ansT_t]
        have e : txI ⟨id, ep, pr, an, sw, sl, bw, bl, l⟩ = sb q := by
          rw [HS.out, HSQ.out, List.take_of_length_le (by omega)]
          unfold txI
          simp [txS, hlen, List.append_assoc]
        rw [e, mk_tb])
      clear HS
      go_wp2
      go_ret2
      rw [HF.out]
      exact ⟨rfl, bst GE.out HB.out⟩
    have hjl : j < l.length := by rw [hlen]; exact hlt
    obtain ⟨B, o, rfl, hc⟩ := HLE.out.2 (by omega)
    have p := hc j hjl
    have hall := HALL.out _ (List.getElem_mem hjl)
    obtain ⟨cch, hcch⟩ : ∃ cch, l[j]'hjl = cch := ⟨_, rfl⟩
    rw [hcch] at p hall
    have HTK := Lib.hid (show l.take (j + 1) = l.take j ++ [cch] by rw [List.take_succ_eq_append_getElem hjl, hcch])
    obtain ⟨qs, sv', d⟩ := cch
    obtain ⟨p0, p1, p2⟩ := p
    simp only at hall
    have jz : (0 : Int) ≤ (j : Int) := by omega
    have jn : (j : Int) < (n : Int) := by omega
    have LC3 := Lib.hid (fun (V : World) (hb : Below wr.heap.size wr V) => (show V.cell? ⟨w.heap.size, 8, none⟩ = some (.slice (some ⟨B, o, none⟩) n c) ∧ V.cell? ⟨B, o + j * 3, none⟩ = some (.int .i64 qs) ∧ V.cell? ⟨B, o + j * 3 + 1, none⟩ = some (.string sv') ∧ V.cell? ⟨B, o + j * 3 + 2, none⟩ = some (.bool d) from by
      have k := LC2.out V (bst HB.out hb)
      have hbv := bst HB.out hb
      exact ⟨k.2.2.2.2.2.2.2.2, kept_below hbv _ _ p0, kept_below hbv _ _ p1, kept_below hbv _ _ p2⟩))
    obtain ⟨e8, e0, e1, e2⟩ := LC3.out wr (Below.refl _ _)
    obtain ⟨t1, ht1, st1, zt1⟩ := tx_str (nbs qs) 8 (num_len (by omega))
    have HT1 := Lib.hid ht1
    obtain ⟨t2, ht2, st2, zt2⟩ := tx_str (fbs d) 8 (fl_len d)
    have HT2 := Lib.hid ht2
    obtain ⟨t3, ht3, st3, zt3⟩ := tx_str (tbs sv') 72 (str_len (m := 64) (by omega) (by omega))
    have HT3 := Lib.hid ht3
    obtain ⟨r1, hr1, sr1, yr1⟩ := cat_str q t1 (104 + 120 * j + 0) 8 (by omega) zt1
    have HR1 := Lib.hid hr1
    obtain ⟨r2, hr2, sr2, yr2⟩ := cat_str r1 t2 (104 + 120 * j + 8) 8 yr1 zt2
    have HR2 := Lib.hid hr2
    obtain ⟨r3, hr3, sr3, yr3⟩ := cat_str r2 t3 (104 + 120 * j + 16) 72 yr2 zt3
    have HR3 := Lib.hid hr3
    have HSR := Lib.hid (show sb r3 = sb q7 ++ (l.take (j + 1)).flatMap txC by
      rw [sr3, st3, sr2, st2, sr1, st1, HS.out, HTK.out, List.flatMap_append]
      simp [txC, List.append_assoc])
    have hrz : r3.size ≤ 104 + 120 * (j + 1) := by omega
    clear hcch HS ht1 st1 ht2 st2 ht3 st3 hr1 sr1 hr2 sr2 hr3 sr3
    cases d
    · skip
      go_wp2_with fail
      refine wp_region_held_drew (S := fun V => Below (wr).heap.size (wr) V) hmix (below_dr _) (fun hS => ?_)
      simp only [List.size_toArray, List.length_cons, List.length_nil, Nat.reduceAdd, Array.replicate_succ, Array.replicate_zero]
      refine wpAnyH_take (i := 0) (oi := ⟨some 56, Op.move (Operand.tmp 4), 9, "ref.go:239", #[], none⟩) (v := ?v0b) rfl (by kernel_rfl) (by kernel_rfl) (by kernel_rfl) (fun _ _ _ h => h) (Or.inl ⟨by rfl, ?hy0b⟩) (by assumption) ?rest0b
      case hy0b => (intro V hSw; (try dsimp only at hSw); go_simp; all_goals (with_reducible rfl))
      try simp only [Act.put, List.setIfInBounds_toArray, List.set_cons_zero, List.set_cons_succ]
      refine wpAnyH_take (i := 1) (oi := ⟨some 57, Op.fieldAddr 38 (Operand.tmp 1) 6, 0, "ref.go:239", #[], none⟩) (v := ?v1b) rfl (by kernel_rfl) (by kernel_rfl) (by kernel_rfl) (fun _ _ _ h => h) (Or.inl ⟨by rfl, ?hy1b⟩) (by assumption) ?rest1b
      case hy1b => (intro V hSw; (try dsimp only at hSw); go_simp; all_goals (with_reducible rfl))
      try simp only [Act.put, List.setIfInBounds_toArray, List.set_cons_zero, List.set_cons_succ]
      refine wpAnyH_take (i := 2) (oi := ⟨some 58, Op.load 36 (Operand.tmp 57), 36, "ref.go:239", #[⟨1, .data⟩], none⟩) (v := ?v2b) rfl (by kernel_rfl) (by kernel_rfl) (by kernel_rfl) (fun _ _ _ h => h) (Or.inl ⟨by rfl, ?hy2b⟩) (by assumption) ?rest2b
      case hy2b => (intro V hSw; (try dsimp only at hSw); obtain ⟨c8, x0, x1, x2⟩ := LC3.out V hSw; go_simp; all_goals (with_reducible rfl))
      try simp only [Act.put, List.setIfInBounds_toArray, List.set_cons_zero, List.set_cons_succ]
      refine wpAnyH_take (i := 3) (oi := ⟨some 59, Op.move (Operand.tmp 5), 3, "ref.go:239", #[], none⟩) (v := ?v3b) rfl (by kernel_rfl) (by kernel_rfl) (by kernel_rfl) (fun _ _ _ h => h) (Or.inl ⟨by rfl, ?hy3b⟩) (by assumption) ?rest3b
      case hy3b => (intro V hSw; (try dsimp only at hSw); go_simp; all_goals (with_reducible rfl))
      try simp only [Act.put, List.setIfInBounds_toArray, List.set_cons_zero, List.set_cons_succ]
      refine wpAnyH_take (i := 4) (oi := ⟨some 60, Op.indexAddr 36 (Operand.tmp 58) (Operand.tmp 59), 0, "ref.go:239", #[⟨2, .data⟩, ⟨3, .data⟩], none⟩) (v := ?v4b) rfl (by kernel_rfl) (by kernel_rfl) (by kernel_rfl) (fun _ _ _ h => h) (Or.inl ⟨by rfl, ?hy4b⟩) (by assumption) ?rest4b
      case hy4b => (intro V hSw; (try dsimp only at hSw); go_simp; all_goals (with_reducible rfl))
      try simp only [Act.put, List.setIfInBounds_toArray, List.set_cons_zero, List.set_cons_succ]
      refine wpAnyH_take (i := 5) (oi := ⟨some 61, Op.fieldAddr 24 (Operand.tmp 60) 0, 0, "ref.go:239", #[⟨4, .data⟩], none⟩) (v := ?v5b) rfl (by kernel_rfl) (by kernel_rfl) (by kernel_rfl) (fun _ _ _ h => h) (Or.inl ⟨by rfl, ?hy5b⟩) (by assumption) ?rest5b
      case hy5b => (intro V hSw; (try dsimp only at hSw); go_simp; all_goals (with_reducible rfl))
      try simp only [Act.put, List.setIfInBounds_toArray, List.set_cons_zero, List.set_cons_succ]
      refine wpAnyH_take (i := 6) (oi := ⟨some 62, Op.load 3 (Operand.tmp 61), 3, "ref.go:239", #[⟨5, .data⟩], none⟩) (v := ?v6b) rfl (by kernel_rfl) (by kernel_rfl) (by kernel_rfl) (fun _ _ _ h => h) (Or.inl ⟨by rfl, ?hy6b⟩) (by assumption) ?rest6b
      case hy6b => (intro V hSw; (try dsimp only at hSw); obtain ⟨c8, x0, x1, x2⟩ := LC3.out V hSw; go_simp; all_goals (with_reducible rfl))
      try simp only [Act.put, List.setIfInBounds_toArray, List.set_cons_zero, List.set_cons_succ]
      refine wpAnyH_take (i := 10) (oi := ⟨some 66, Op.move (Operand.tmp 6), 3, "ref.go:239", #[], none⟩) (v := ?v10b) rfl (by kernel_rfl) (by kernel_rfl) (by kernel_rfl) (fun _ _ _ h => h) (Or.inl ⟨by rfl, ?hy10b⟩) (by assumption) ?rest10b
      case hy10b => (intro V hSw; (try dsimp only at hSw); go_simp; all_goals (with_reducible rfl))
      try simp only [Act.put, List.setIfInBounds_toArray, List.set_cons_zero, List.set_cons_succ]
      refine wpAnyH_take (i := 14) (oi := ⟨some 70, Op.fieldAddr 38 (Operand.tmp 1) 6, 0, "ref.go:239", #[], none⟩) (v := ?v14b) rfl (by kernel_rfl) (by kernel_rfl) (by kernel_rfl) (fun _ _ _ h => h) (Or.inl ⟨by rfl, ?hy14b⟩) (by assumption) ?rest14b
      case hy14b => (intro V hSw; (try dsimp only at hSw); go_simp; all_goals (with_reducible rfl))
      try simp only [Act.put, List.setIfInBounds_toArray, List.set_cons_zero, List.set_cons_succ]
      refine wpAnyH_take (i := 15) (oi := ⟨some 71, Op.load 36 (Operand.tmp 70), 36, "ref.go:239", #[⟨14, .data⟩], none⟩) (v := ?v15b) rfl (by kernel_rfl) (by kernel_rfl) (by kernel_rfl) (fun _ _ _ h => h) (Or.inl ⟨by rfl, ?hy15b⟩) (by assumption) ?rest15b
      case hy15b => (intro V hSw; (try dsimp only at hSw); obtain ⟨c8, x0, x1, x2⟩ := LC3.out V hSw; go_simp; all_goals (with_reducible rfl))
      try simp only [Act.put, List.setIfInBounds_toArray, List.set_cons_zero, List.set_cons_succ]
      refine wpAnyH_take (i := 16) (oi := ⟨some 72, Op.move (Operand.tmp 5), 3, "ref.go:239", #[], none⟩) (v := ?v16b) rfl (by kernel_rfl) (by kernel_rfl) (by kernel_rfl) (fun _ _ _ h => h) (Or.inl ⟨by rfl, ?hy16b⟩) (by assumption) ?rest16b
      case hy16b => (intro V hSw; (try dsimp only at hSw); go_simp; all_goals (with_reducible rfl))
      try simp only [Act.put, List.setIfInBounds_toArray, List.set_cons_zero, List.set_cons_succ]
      refine wpAnyH_take (i := 17) (oi := ⟨some 73, Op.indexAddr 36 (Operand.tmp 71) (Operand.tmp 72), 0, "ref.go:239", #[⟨15, .data⟩, ⟨16, .data⟩], none⟩) (v := ?v17b) rfl (by kernel_rfl) (by kernel_rfl) (by kernel_rfl) (fun _ _ _ h => h) (Or.inl ⟨by rfl, ?hy17b⟩) (by assumption) ?rest17b
      case hy17b => (intro V hSw; (try dsimp only at hSw); go_simp; all_goals (with_reducible rfl))
      try simp only [Act.put, List.setIfInBounds_toArray, List.set_cons_zero, List.set_cons_succ]
      refine wpAnyH_take (i := 18) (oi := ⟨some 74, Op.fieldAddr 24 (Operand.tmp 73) 1, 0, "ref.go:239", #[⟨17, .data⟩], none⟩) (v := ?v18b) rfl (by kernel_rfl) (by kernel_rfl) (by kernel_rfl) (fun _ _ _ h => h) (Or.inl ⟨by rfl, ?hy18b⟩) (by assumption) ?rest18b
      case hy18b => (intro V hSw; (try dsimp only at hSw); go_simp; all_goals (with_reducible rfl))
      try simp only [Act.put, List.setIfInBounds_toArray, List.set_cons_zero, List.set_cons_succ]
      refine wpAnyH_take (i := 19) (oi := ⟨some 75, Op.load 9 (Operand.tmp 74), 9, "ref.go:239", #[⟨18, .data⟩], none⟩) (v := ?v19b) rfl (by kernel_rfl) (by kernel_rfl) (by kernel_rfl) (fun _ _ _ h => h) (Or.inl ⟨by rfl, ?hy19b⟩) (by assumption) ?rest19b
      case hy19b => (intro V hSw; (try dsimp only at hSw); obtain ⟨c8, x0, x1, x2⟩ := LC3.out V hSw; go_simp; all_goals (with_reducible rfl))
      try simp only [Act.put, List.setIfInBounds_toArray, List.set_cons_zero, List.set_cons_succ]
      refine wpAnyH_ready (rs := [7]) (by kernel_rfl) (by simp) ?_
      refine AllReadyH.cons (o := ⟨some 63, Op.call { callee := Callee.value (Operand.func 104), args := #[Operand.tmp 62], argTypes := #[3] }, 164, "ref.go:239", #[⟨6, .data⟩], none⟩) rfl (fun K hK => ?_) AllReadyH.nil
      go_simp
      refine (rnum qs _ (by omega) (by omega)).mono ?_
      rintro e u1 ⟨B1, m1, uc1, rfl, hw1, hu1⟩
      refine hK.out _ _ (bst (below_dr wr) hu1) (fun _ => ?_)
      clear hK K
      clear hS
      refine wpAnyH_imp (S' := fun V => Below u1.heap.size u1 V) (fun V h => bst (bst (below_dr wr) hu1) h) ?_
      have hS : Below u1.heap.size u1 u1 := Below.refl _ _
      try simp only [Act.put, List.setIfInBounds_toArray, List.set_cons_zero, List.set_cons_succ]
      have HU1 := Lib.hid hw1
      clear hw1
      have HV1 := Lib.hid (bst (below_dr wr) hu1)
      refine wpAnyH_take (i := 8) (oi := ⟨some 64, Op.convert 164 9 (Operand.tmp 63), 9, "ref.go:239", #[⟨7, .data⟩], none⟩) (v := ?v8b) rfl (by kernel_rfl) (by kernel_rfl) (by kernel_rfl) (fun _ _ _ h => h) (Or.inl ⟨by rfl, ?hy8b⟩) (by assumption) ?rest8b
      case hy8b => (intro V hSw; (try dsimp only at hSw); have kc := cv_ (HU1.out.below' hSw) uc1; rw [HT1.out] at kc; go_simp; all_goals (with_reducible rfl))
      try simp only [Act.put, List.setIfInBounds_toArray, List.set_cons_zero, List.set_cons_succ]
      refine wpAnyH_take (i := 9) (oi := ⟨some 65, Op.binOp BinOp.add 9 (Operand.tmp 56) (Operand.tmp 64) 9, 9, "ref.go:239", #[⟨0, .data⟩, ⟨8, .data⟩], none⟩) (v := .string r1) rfl (by kernel_rfl) (by kernel_rfl) (by kernel_rfl) (fun _ _ _ h => h) (Or.inl ⟨by rfl, ?hy9b⟩) (by assumption) ?rest9b
      case hy9b => (intro V hSw; (try dsimp only at hSw); have ke := HR1.out; have kz : ¬ 9223372036854775807 < q.size + t1.size := (by omega); go_simp; all_goals (with_reducible rfl))
      try simp only [Act.put, List.setIfInBounds_toArray, List.set_cons_zero, List.set_cons_succ]
      refine wpAnyH_ready (rs := [11]) (by kernel_rfl) (by simp) ?_
      refine AllReadyH.cons (o := ⟨some 67, Op.call { callee := Callee.value (Operand.func 104), args := #[Operand.tmp 66], argTypes := #[3] }, 164, "ref.go:239", #[⟨10, .data⟩, ⟨7, .chain⟩], none⟩) rfl (fun K hK => ?_) AllReadyH.nil
      go_simp
      refine (rnum 0 _ (by decide) (by decide)).mono ?_
      rintro e u2 ⟨B2, m2, uc2, rfl, hw2, hu2⟩
      refine hK.out _ _ hu2 (fun _ => ?_)
      clear hK K
      clear hS
      refine wpAnyH_imp (S' := fun V => Below u2.heap.size u2 V) (fun V h => bst hu2 h) ?_
      have hS : Below u2.heap.size u2 u2 := Below.refl _ _
      try simp only [Act.put, List.setIfInBounds_toArray, List.set_cons_zero, List.set_cons_succ]
      have HU2 := Lib.hid (show At u2 B2 m2 (fbs false) from hw2)
      clear hw2
      have HV2 := Lib.hid hu2
      refine wpAnyH_take (i := 12) (oi := ⟨some 68, Op.convert 164 9 (Operand.tmp 67), 9, "ref.go:239", #[⟨11, .data⟩], none⟩) (v := ?v12b) rfl (by kernel_rfl) (by kernel_rfl) (by kernel_rfl) (fun _ _ _ h => h) (Or.inl ⟨by rfl, ?hy12b⟩) (by assumption) ?rest12b
      case hy12b => (intro V hSw; (try dsimp only at hSw); have kc := cv_ (HU2.out.below' hSw) uc2; rw [HT2.out] at kc; go_simp; all_goals (with_reducible rfl))
      try simp only [Act.put, List.setIfInBounds_toArray, List.set_cons_zero, List.set_cons_succ]
      refine wpAnyH_take (i := 13) (oi := ⟨some 69, Op.binOp BinOp.add 9 (Operand.tmp 65) (Operand.tmp 68) 9, 9, "ref.go:239", #[⟨9, .data⟩, ⟨12, .data⟩], none⟩) (v := .string r2) rfl (by kernel_rfl) (by kernel_rfl) (by kernel_rfl) (fun _ _ _ h => h) (Or.inl ⟨by rfl, ?hy13b⟩) (by assumption) ?rest13b
      case hy13b => (intro V hSw; (try dsimp only at hSw); have ke := HR2.out; have kz : ¬ 9223372036854775807 < r1.size + t2.size := (by omega); go_simp; all_goals (with_reducible rfl))
      try simp only [Act.put, List.setIfInBounds_toArray, List.set_cons_zero, List.set_cons_succ]
      refine wpAnyH_ready (rs := [20]) (by kernel_rfl) (by simp) ?_
      refine AllReadyH.cons (o := ⟨some 76, Op.call { callee := Callee.value (Operand.func 105), args := #[Operand.tmp 75], argTypes := #[9] }, 164, "ref.go:239", #[⟨19, .data⟩, ⟨11, .chain⟩], none⟩) rfl (fun K hK => ?_) AllReadyH.nil
      go_simp
      refine (rstr sv' _ (by omega)).mono ?_
      rintro e u3 ⟨B3, m3, uc3, rfl, hw3, hu3⟩
      refine hK.out _ _ hu3 (fun _ => ?_)
      clear hK K
      clear hS
      refine wpAnyH_imp (S' := fun V => Below u3.heap.size u3 V) (fun V h => bst hu3 h) ?_
      have hS : Below u3.heap.size u3 u3 := Below.refl _ _
      try simp only [Act.put, List.setIfInBounds_toArray, List.set_cons_zero, List.set_cons_succ]
      have HU3 := Lib.hid hw3
      clear hw3
      have HV3 := Lib.hid hu3
      refine wpAnyH_take (i := 21) (oi := ⟨some 77, Op.convert 164 9 (Operand.tmp 76), 9, "ref.go:239", #[⟨20, .data⟩], none⟩) (v := ?v21b) rfl (by kernel_rfl) (by kernel_rfl) (by kernel_rfl) (fun _ _ _ h => h) (Or.inl ⟨by rfl, ?hy21b⟩) (by assumption) ?rest21b
      case hy21b => (intro V hSw; (try dsimp only at hSw); have kc := cv_ (HU3.out.below' hSw) uc3; rw [HT3.out] at kc; go_simp; all_goals (with_reducible rfl))
      try simp only [Act.put, List.setIfInBounds_toArray, List.set_cons_zero, List.set_cons_succ]
      refine wpAnyH_take (i := 22) (oi := ⟨some 78, Op.binOp BinOp.add 9 (Operand.tmp 69) (Operand.tmp 77) 9, 9, "ref.go:239", #[⟨13, .data⟩, ⟨21, .data⟩], none⟩) (v := .string r3) rfl (by kernel_rfl) (by kernel_rfl) (by kernel_rfl) (fun _ _ _ h => h) (Or.inl ⟨by rfl, ?hy22b⟩) (by assumption) ?rest22b
      case hy22b => (intro V hSw; (try dsimp only at hSw); have ke := HR3.out; have kz : ¬ 9223372036854775807 < r2.size + t3.size := (by omega); go_simp; all_goals (with_reducible rfl))
      try simp only [Act.put, List.setIfInBounds_toArray, List.set_cons_zero, List.set_cons_succ]
      refine wpAnyH_take (i := 23) (oi := ⟨some 4, Op.assign (Operand.tmp 78), 9, "ref.go:239", #[⟨22, .data⟩, ⟨20, .chain⟩, ⟨0, .phase⟩, ⟨1, .phase⟩, ⟨2, .phase⟩, ⟨3, .phase⟩, ⟨4, .phase⟩, ⟨5, .phase⟩, ⟨6, .phase⟩, ⟨7, .phase⟩, ⟨8, .phase⟩, ⟨9, .phase⟩, ⟨10, .phase⟩, ⟨11, .phase⟩, ⟨12, .phase⟩, ⟨13, .phase⟩, ⟨14, .phase⟩, ⟨15, .phase⟩, ⟨16, .phase⟩, ⟨17, .phase⟩, ⟨18, .phase⟩, ⟨19, .phase⟩, ⟨20, .phase⟩, ⟨21, .phase⟩, ⟨22, .phase⟩], none⟩) (v := ?v23b) rfl (by kernel_rfl) (by kernel_rfl) (by kernel_rfl) (fun _ _ _ h => h) (Or.inl ⟨by rfl, ?hy23b⟩) (by assumption) ?rest23b
      case hy23b => (intro V hSw; (try dsimp only at hSw); go_simp; all_goals (with_reducible rfl))
      try simp only [Act.put, List.setIfInBounds_toArray, List.set_cons_zero, List.set_cons_succ]
      refine wpAnyH_done (by kernel_rfl) ?_ _
      have HZ := Lib.hid (bst HB.out (bst (bst HV1.out HV2.out) HV3.out))
      clear hS hu1 HV1 HU1 hu2 HV2 HU2 hu3 HV3 HU3
      (try go_wp2_with fail)
      go_roundw
      case rel => exact ⟨j + 1, r3, by omega, rfl, by go_num, hrz, HSR.out, HZ⟩
      case measure => simp [intOf]; omega
    · skip
      go_wp2_with fail
      refine wp_region_held_drew (S := fun V => Below (wr).heap.size (wr) V) hmix (below_dr _) (fun hS => ?_)
      simp only [List.size_toArray, List.length_cons, List.length_nil, Nat.reduceAdd, Array.replicate_succ, Array.replicate_zero]
      refine wpAnyH_take (i := 0) (oi := ⟨some 56, Op.move (Operand.tmp 4), 9, "ref.go:239", #[], none⟩) (v := ?v0c) rfl (by kernel_rfl) (by kernel_rfl) (by kernel_rfl) (fun _ _ _ h => h) (Or.inl ⟨by rfl, ?hy0c⟩) (by assumption) ?rest0c
      case hy0c => (intro V hSw; (try dsimp only at hSw); go_simp; all_goals (with_reducible rfl))
      try simp only [Act.put, List.setIfInBounds_toArray, List.set_cons_zero, List.set_cons_succ]
      refine wpAnyH_take (i := 1) (oi := ⟨some 57, Op.fieldAddr 38 (Operand.tmp 1) 6, 0, "ref.go:239", #[], none⟩) (v := ?v1c) rfl (by kernel_rfl) (by kernel_rfl) (by kernel_rfl) (fun _ _ _ h => h) (Or.inl ⟨by rfl, ?hy1c⟩) (by assumption) ?rest1c
      case hy1c => (intro V hSw; (try dsimp only at hSw); go_simp; all_goals (with_reducible rfl))
      try simp only [Act.put, List.setIfInBounds_toArray, List.set_cons_zero, List.set_cons_succ]
      refine wpAnyH_take (i := 2) (oi := ⟨some 58, Op.load 36 (Operand.tmp 57), 36, "ref.go:239", #[⟨1, .data⟩], none⟩) (v := ?v2c) rfl (by kernel_rfl) (by kernel_rfl) (by kernel_rfl) (fun _ _ _ h => h) (Or.inl ⟨by rfl, ?hy2c⟩) (by assumption) ?rest2c
      case hy2c => (intro V hSw; (try dsimp only at hSw); obtain ⟨c8, x0, x1, x2⟩ := LC3.out V hSw; go_simp; all_goals (with_reducible rfl))
      try simp only [Act.put, List.setIfInBounds_toArray, List.set_cons_zero, List.set_cons_succ]
      refine wpAnyH_take (i := 3) (oi := ⟨some 59, Op.move (Operand.tmp 5), 3, "ref.go:239", #[], none⟩) (v := ?v3c) rfl (by kernel_rfl) (by kernel_rfl) (by kernel_rfl) (fun _ _ _ h => h) (Or.inl ⟨by rfl, ?hy3c⟩) (by assumption) ?rest3c
      case hy3c => (intro V hSw; (try dsimp only at hSw); go_simp; all_goals (with_reducible rfl))
      try simp only [Act.put, List.setIfInBounds_toArray, List.set_cons_zero, List.set_cons_succ]
      refine wpAnyH_take (i := 4) (oi := ⟨some 60, Op.indexAddr 36 (Operand.tmp 58) (Operand.tmp 59), 0, "ref.go:239", #[⟨2, .data⟩, ⟨3, .data⟩], none⟩) (v := ?v4c) rfl (by kernel_rfl) (by kernel_rfl) (by kernel_rfl) (fun _ _ _ h => h) (Or.inl ⟨by rfl, ?hy4c⟩) (by assumption) ?rest4c
      case hy4c => (intro V hSw; (try dsimp only at hSw); go_simp; all_goals (with_reducible rfl))
      try simp only [Act.put, List.setIfInBounds_toArray, List.set_cons_zero, List.set_cons_succ]
      refine wpAnyH_take (i := 5) (oi := ⟨some 61, Op.fieldAddr 24 (Operand.tmp 60) 0, 0, "ref.go:239", #[⟨4, .data⟩], none⟩) (v := ?v5c) rfl (by kernel_rfl) (by kernel_rfl) (by kernel_rfl) (fun _ _ _ h => h) (Or.inl ⟨by rfl, ?hy5c⟩) (by assumption) ?rest5c
      case hy5c => (intro V hSw; (try dsimp only at hSw); go_simp; all_goals (with_reducible rfl))
      try simp only [Act.put, List.setIfInBounds_toArray, List.set_cons_zero, List.set_cons_succ]
      refine wpAnyH_take (i := 6) (oi := ⟨some 62, Op.load 3 (Operand.tmp 61), 3, "ref.go:239", #[⟨5, .data⟩], none⟩) (v := ?v6c) rfl (by kernel_rfl) (by kernel_rfl) (by kernel_rfl) (fun _ _ _ h => h) (Or.inl ⟨by rfl, ?hy6c⟩) (by assumption) ?rest6c
      case hy6c => (intro V hSw; (try dsimp only at hSw); obtain ⟨c8, x0, x1, x2⟩ := LC3.out V hSw; go_simp; all_goals (with_reducible rfl))
      try simp only [Act.put, List.setIfInBounds_toArray, List.set_cons_zero, List.set_cons_succ]
      refine wpAnyH_take (i := 10) (oi := ⟨some 66, Op.move (Operand.tmp 6), 3, "ref.go:239", #[], none⟩) (v := ?v10c) rfl (by kernel_rfl) (by kernel_rfl) (by kernel_rfl) (fun _ _ _ h => h) (Or.inl ⟨by rfl, ?hy10c⟩) (by assumption) ?rest10c
      case hy10c => (intro V hSw; (try dsimp only at hSw); go_simp; all_goals (with_reducible rfl))
      try simp only [Act.put, List.setIfInBounds_toArray, List.set_cons_zero, List.set_cons_succ]
      refine wpAnyH_take (i := 14) (oi := ⟨some 70, Op.fieldAddr 38 (Operand.tmp 1) 6, 0, "ref.go:239", #[], none⟩) (v := ?v14c) rfl (by kernel_rfl) (by kernel_rfl) (by kernel_rfl) (fun _ _ _ h => h) (Or.inl ⟨by rfl, ?hy14c⟩) (by assumption) ?rest14c
      case hy14c => (intro V hSw; (try dsimp only at hSw); go_simp; all_goals (with_reducible rfl))
      try simp only [Act.put, List.setIfInBounds_toArray, List.set_cons_zero, List.set_cons_succ]
      refine wpAnyH_take (i := 15) (oi := ⟨some 71, Op.load 36 (Operand.tmp 70), 36, "ref.go:239", #[⟨14, .data⟩], none⟩) (v := ?v15c) rfl (by kernel_rfl) (by kernel_rfl) (by kernel_rfl) (fun _ _ _ h => h) (Or.inl ⟨by rfl, ?hy15c⟩) (by assumption) ?rest15c
      case hy15c => (intro V hSw; (try dsimp only at hSw); obtain ⟨c8, x0, x1, x2⟩ := LC3.out V hSw; go_simp; all_goals (with_reducible rfl))
      try simp only [Act.put, List.setIfInBounds_toArray, List.set_cons_zero, List.set_cons_succ]
      refine wpAnyH_take (i := 16) (oi := ⟨some 72, Op.move (Operand.tmp 5), 3, "ref.go:239", #[], none⟩) (v := ?v16c) rfl (by kernel_rfl) (by kernel_rfl) (by kernel_rfl) (fun _ _ _ h => h) (Or.inl ⟨by rfl, ?hy16c⟩) (by assumption) ?rest16c
      case hy16c => (intro V hSw; (try dsimp only at hSw); go_simp; all_goals (with_reducible rfl))
      try simp only [Act.put, List.setIfInBounds_toArray, List.set_cons_zero, List.set_cons_succ]
      refine wpAnyH_take (i := 17) (oi := ⟨some 73, Op.indexAddr 36 (Operand.tmp 71) (Operand.tmp 72), 0, "ref.go:239", #[⟨15, .data⟩, ⟨16, .data⟩], none⟩) (v := ?v17c) rfl (by kernel_rfl) (by kernel_rfl) (by kernel_rfl) (fun _ _ _ h => h) (Or.inl ⟨by rfl, ?hy17c⟩) (by assumption) ?rest17c
      case hy17c => (intro V hSw; (try dsimp only at hSw); go_simp; all_goals (with_reducible rfl))
      try simp only [Act.put, List.setIfInBounds_toArray, List.set_cons_zero, List.set_cons_succ]
      refine wpAnyH_take (i := 18) (oi := ⟨some 74, Op.fieldAddr 24 (Operand.tmp 73) 1, 0, "ref.go:239", #[⟨17, .data⟩], none⟩) (v := ?v18c) rfl (by kernel_rfl) (by kernel_rfl) (by kernel_rfl) (fun _ _ _ h => h) (Or.inl ⟨by rfl, ?hy18c⟩) (by assumption) ?rest18c
      case hy18c => (intro V hSw; (try dsimp only at hSw); go_simp; all_goals (with_reducible rfl))
      try simp only [Act.put, List.setIfInBounds_toArray, List.set_cons_zero, List.set_cons_succ]
      refine wpAnyH_take (i := 19) (oi := ⟨some 75, Op.load 9 (Operand.tmp 74), 9, "ref.go:239", #[⟨18, .data⟩], none⟩) (v := ?v19c) rfl (by kernel_rfl) (by kernel_rfl) (by kernel_rfl) (fun _ _ _ h => h) (Or.inl ⟨by rfl, ?hy19c⟩) (by assumption) ?rest19c
      case hy19c => (intro V hSw; (try dsimp only at hSw); obtain ⟨c8, x0, x1, x2⟩ := LC3.out V hSw; go_simp; all_goals (with_reducible rfl))
      try simp only [Act.put, List.setIfInBounds_toArray, List.set_cons_zero, List.set_cons_succ]
      refine wpAnyH_ready (rs := [7]) (by kernel_rfl) (by simp) ?_
      refine AllReadyH.cons (o := ⟨some 63, Op.call { callee := Callee.value (Operand.func 104), args := #[Operand.tmp 62], argTypes := #[3] }, 164, "ref.go:239", #[⟨6, .data⟩], none⟩) rfl (fun K hK => ?_) AllReadyH.nil
      go_simp
      refine (rnum qs _ (by omega) (by omega)).mono ?_
      rintro e u1 ⟨B1, m1, uc1, rfl, hw1, hu1⟩
      refine hK.out _ _ (bst (below_dr wr) hu1) (fun _ => ?_)
      clear hK K
      clear hS
      refine wpAnyH_imp (S' := fun V => Below u1.heap.size u1 V) (fun V h => bst (bst (below_dr wr) hu1) h) ?_
      have hS : Below u1.heap.size u1 u1 := Below.refl _ _
      try simp only [Act.put, List.setIfInBounds_toArray, List.set_cons_zero, List.set_cons_succ]
      have HU1 := Lib.hid hw1
      clear hw1
      have HV1 := Lib.hid (bst (below_dr wr) hu1)
      refine wpAnyH_take (i := 8) (oi := ⟨some 64, Op.convert 164 9 (Operand.tmp 63), 9, "ref.go:239", #[⟨7, .data⟩], none⟩) (v := ?v8c) rfl (by kernel_rfl) (by kernel_rfl) (by kernel_rfl) (fun _ _ _ h => h) (Or.inl ⟨by rfl, ?hy8c⟩) (by assumption) ?rest8c
      case hy8c => (intro V hSw; (try dsimp only at hSw); have kc := cv_ (HU1.out.below' hSw) uc1; rw [HT1.out] at kc; go_simp; all_goals (with_reducible rfl))
      try simp only [Act.put, List.setIfInBounds_toArray, List.set_cons_zero, List.set_cons_succ]
      refine wpAnyH_take (i := 9) (oi := ⟨some 65, Op.binOp BinOp.add 9 (Operand.tmp 56) (Operand.tmp 64) 9, 9, "ref.go:239", #[⟨0, .data⟩, ⟨8, .data⟩], none⟩) (v := .string r1) rfl (by kernel_rfl) (by kernel_rfl) (by kernel_rfl) (fun _ _ _ h => h) (Or.inl ⟨by rfl, ?hy9c⟩) (by assumption) ?rest9c
      case hy9c => (intro V hSw; (try dsimp only at hSw); have ke := HR1.out; have kz : ¬ 9223372036854775807 < q.size + t1.size := (by omega); go_simp; all_goals (with_reducible rfl))
      try simp only [Act.put, List.setIfInBounds_toArray, List.set_cons_zero, List.set_cons_succ]
      refine wpAnyH_ready (rs := [11]) (by kernel_rfl) (by simp) ?_
      refine AllReadyH.cons (o := ⟨some 67, Op.call { callee := Callee.value (Operand.func 104), args := #[Operand.tmp 66], argTypes := #[3] }, 164, "ref.go:239", #[⟨10, .data⟩, ⟨7, .chain⟩], none⟩) rfl (fun K hK => ?_) AllReadyH.nil
      go_simp
      refine (rnum 1 _ (by decide) (by decide)).mono ?_
      rintro e u2 ⟨B2, m2, uc2, rfl, hw2, hu2⟩
      refine hK.out _ _ hu2 (fun _ => ?_)
      clear hK K
      clear hS
      refine wpAnyH_imp (S' := fun V => Below u2.heap.size u2 V) (fun V h => bst hu2 h) ?_
      have hS : Below u2.heap.size u2 u2 := Below.refl _ _
      try simp only [Act.put, List.setIfInBounds_toArray, List.set_cons_zero, List.set_cons_succ]
      have HU2 := Lib.hid (show At u2 B2 m2 (fbs true) from hw2)
      clear hw2
      have HV2 := Lib.hid hu2
      refine wpAnyH_take (i := 12) (oi := ⟨some 68, Op.convert 164 9 (Operand.tmp 67), 9, "ref.go:239", #[⟨11, .data⟩], none⟩) (v := ?v12c) rfl (by kernel_rfl) (by kernel_rfl) (by kernel_rfl) (fun _ _ _ h => h) (Or.inl ⟨by rfl, ?hy12c⟩) (by assumption) ?rest12c
      case hy12c => (intro V hSw; (try dsimp only at hSw); have kc := cv_ (HU2.out.below' hSw) uc2; rw [HT2.out] at kc; go_simp; all_goals (with_reducible rfl))
      try simp only [Act.put, List.setIfInBounds_toArray, List.set_cons_zero, List.set_cons_succ]
      refine wpAnyH_take (i := 13) (oi := ⟨some 69, Op.binOp BinOp.add 9 (Operand.tmp 65) (Operand.tmp 68) 9, 9, "ref.go:239", #[⟨9, .data⟩, ⟨12, .data⟩], none⟩) (v := .string r2) rfl (by kernel_rfl) (by kernel_rfl) (by kernel_rfl) (fun _ _ _ h => h) (Or.inl ⟨by rfl, ?hy13c⟩) (by assumption) ?rest13c
      case hy13c => (intro V hSw; (try dsimp only at hSw); have ke := HR2.out; have kz : ¬ 9223372036854775807 < r1.size + t2.size := (by omega); go_simp; all_goals (with_reducible rfl))
      try simp only [Act.put, List.setIfInBounds_toArray, List.set_cons_zero, List.set_cons_succ]
      refine wpAnyH_ready (rs := [20]) (by kernel_rfl) (by simp) ?_
      refine AllReadyH.cons (o := ⟨some 76, Op.call { callee := Callee.value (Operand.func 105), args := #[Operand.tmp 75], argTypes := #[9] }, 164, "ref.go:239", #[⟨19, .data⟩, ⟨11, .chain⟩], none⟩) rfl (fun K hK => ?_) AllReadyH.nil
      go_simp
      refine (rstr sv' _ (by omega)).mono ?_
      rintro e u3 ⟨B3, m3, uc3, rfl, hw3, hu3⟩
      refine hK.out _ _ hu3 (fun _ => ?_)
      clear hK K
      clear hS
      refine wpAnyH_imp (S' := fun V => Below u3.heap.size u3 V) (fun V h => bst hu3 h) ?_
      have hS : Below u3.heap.size u3 u3 := Below.refl _ _
      try simp only [Act.put, List.setIfInBounds_toArray, List.set_cons_zero, List.set_cons_succ]
      have HU3 := Lib.hid hw3
      clear hw3
      have HV3 := Lib.hid hu3
      refine wpAnyH_take (i := 21) (oi := ⟨some 77, Op.convert 164 9 (Operand.tmp 76), 9, "ref.go:239", #[⟨20, .data⟩], none⟩) (v := ?v21c) rfl (by kernel_rfl) (by kernel_rfl) (by kernel_rfl) (fun _ _ _ h => h) (Or.inl ⟨by rfl, ?hy21c⟩) (by assumption) ?rest21c
      case hy21c => (intro V hSw; (try dsimp only at hSw); have kc := cv_ (HU3.out.below' hSw) uc3; rw [HT3.out] at kc; go_simp; all_goals (with_reducible rfl))
      try simp only [Act.put, List.setIfInBounds_toArray, List.set_cons_zero, List.set_cons_succ]
      refine wpAnyH_take (i := 22) (oi := ⟨some 78, Op.binOp BinOp.add 9 (Operand.tmp 69) (Operand.tmp 77) 9, 9, "ref.go:239", #[⟨13, .data⟩, ⟨21, .data⟩], none⟩) (v := .string r3) rfl (by kernel_rfl) (by kernel_rfl) (by kernel_rfl) (fun _ _ _ h => h) (Or.inl ⟨by rfl, ?hy22c⟩) (by assumption) ?rest22c
      case hy22c => (intro V hSw; (try dsimp only at hSw); have ke := HR3.out; have kz : ¬ 9223372036854775807 < r2.size + t3.size := (by omega); go_simp; all_goals (with_reducible rfl))
      try simp only [Act.put, List.setIfInBounds_toArray, List.set_cons_zero, List.set_cons_succ]
      refine wpAnyH_take (i := 23) (oi := ⟨some 4, Op.assign (Operand.tmp 78), 9, "ref.go:239", #[⟨22, .data⟩, ⟨20, .chain⟩, ⟨0, .phase⟩, ⟨1, .phase⟩, ⟨2, .phase⟩, ⟨3, .phase⟩, ⟨4, .phase⟩, ⟨5, .phase⟩, ⟨6, .phase⟩, ⟨7, .phase⟩, ⟨8, .phase⟩, ⟨9, .phase⟩, ⟨10, .phase⟩, ⟨11, .phase⟩, ⟨12, .phase⟩, ⟨13, .phase⟩, ⟨14, .phase⟩, ⟨15, .phase⟩, ⟨16, .phase⟩, ⟨17, .phase⟩, ⟨18, .phase⟩, ⟨19, .phase⟩, ⟨20, .phase⟩, ⟨21, .phase⟩, ⟨22, .phase⟩], none⟩) (v := ?v23c) rfl (by kernel_rfl) (by kernel_rfl) (by kernel_rfl) (fun _ _ _ h => h) (Or.inl ⟨by rfl, ?hy23c⟩) (by assumption) ?rest23c
      case hy23c => (intro V hSw; (try dsimp only at hSw); go_simp; all_goals (with_reducible rfl))
      try simp only [Act.put, List.setIfInBounds_toArray, List.set_cons_zero, List.set_cons_succ]
      refine wpAnyH_done (by kernel_rfl) ?_ _
      have HZ := Lib.hid (bst HB.out (bst (bst HV1.out HV2.out) HV3.out))
      clear hS hu1 HV1 HU1 hu2 HV2 HU2 hu3 HV3 HU3
      (try go_wp2_with fail)
      go_roundw
      case rel => exact ⟨j + 1, r3, by omega, rfl, by go_num, hrz, HSR.out, HZ⟩
      case measure => simp [intOf]; omega
end Go.Proofs.YtgccichmdddbpaaGreatDoor
set_option linter.unusedVariables false
set_option linter.unusedSimpArgs false
set_option maxRecDepth 100000
namespace Go.Proofs.YtgccichmdddbpaaGreatDoor
open Go.RowKit

theorem text_ne {s t : ByteArray} (h : s ≠ t) : (s.toList == t.toList) = false := by
  cases hh : (s.toList == t.toList) with
  | false => rfl
  | true =>
    refine absurd ?_ h
    rw [Lib.toList_data, Lib.toList_data] at hh
    exact tb_inj (by simpa using hh)
theorem text_eq (s : ByteArray) : (s.toList == s.toList) = true := by simp



end Go.Proofs.YtgccichmdddbpaaGreatDoor
set_option linter.unusedVariables false
set_option linter.unusedSimpArgs false
set_option maxRecDepth 100000
namespace Go.Proofs.YtgccichmdddbpaaGreatDoor
open Go.RowKit

section
variable {w V : World} {T : List As} {g : Nat} {s : Rst}
end
end Go.Proofs.YtgccichmdddbpaaGreatDoor
set_option linter.unusedVariables false
set_option linter.unusedSimpArgs false
set_option maxRecDepth 100000
namespace Go.Proofs.YtgccichmdddbpaaGreatDoor
open Go.RowKit

end Go.Proofs.YtgccichmdddbpaaGreatDoor
