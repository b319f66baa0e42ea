/-
  Layer 11, the code: what may be: numbers, keys, values; the functions that look at one change, one write, one stamp.
  Layer 11: the document's head, MayIntent.
  Layer 11: what each looks through, by a function that is handed in: slices.IndexFunc, ContainsFunc, each; areStamps, areChanges, areWrites.
  Layer 11, the code's pen: numbers and texts, one behind the other.
-/
import Derived.Test.YtiafmbfeigcinaaDoorZ11
import Derived.Test.YtiafmbfeigcinaaDoorZ10
import Derived.Test.YtiafmbfeigcinaaDoorZ12
import Derived.Test.YtiafmbfeigcinaaDoorZ07
import Derived.Maps.AppendAt
set_option linter.unusedVariables false
set_option linter.unusedSimpArgs false
set_option maxRecDepth 100000
namespace Go.Proofs.YtiafmbfeigcinaaDoor
open Go.RowKit

theorem isId_c (n : Int) (b : Bool) (h : isI n = b) (w : World) : Calls Tryd.prog 51 #[.int .i64 n] w fun e w' => e = .returned (.bool b) ∧ w = w' := by
  subst h
  go_enter Tryd.func51, Tryd.ntmps51
  go_wp2
  all_goals go_ret
  all_goals refine ⟨congrArg (fun v => Ending.returned (Value.bool v)) ?_, rfl⟩
  all_goals unfold isI
  all_goals first | exact (decide_eq_true (by omega)).symm | exact (decide_eq_false (by omega)).symm | exact decide_eq_decide.2 (by omega)
theorem isNumber_c (n : Int) (b : Bool) (h : isN n = b) (w : World) : Calls Tryd.prog 52 #[.int .i64 n] w fun e w' => e = .returned (.bool b) ∧ w = w' := by
  subst h
  go_enter Tryd.func52, Tryd.ntmps52
  go_wp2
  all_goals go_ret
  all_goals refine ⟨congrArg (fun v => Ending.returned (Value.bool v)) ?_, rfl⟩
  all_goals unfold isN
  all_goals first | exact (decide_eq_true (by omega)).symm | exact (decide_eq_false (by omega)).symm | exact decide_eq_decide.2 (by omega)
theorem isStatus_c (n : Int) (b : Bool) (h : isS n = b) (w : World) : Calls Tryd.prog 41 #[.int .i64 n] w fun e w' => e = .returned (.bool b) ∧ w = w' := by
  subst h
  go_enter Tryd.func41, Tryd.ntmps41
  go_wp2
  all_goals go_ret
  all_goals refine ⟨congrArg (fun v => Ending.returned (Value.bool v)) ?_, rfl⟩
  all_goals unfold isS
  all_goals first | exact (decide_eq_true (by omega)).symm | exact (decide_eq_false (by omega)).symm | exact decide_eq_decide.2 (by omega)
theorem isKey_c (s : ByteArray) (b : Bool) (h : isK s = b) (w : World) : Calls Tryd.prog 53 #[.string s] w fun e w' => e = .returned (.bool b) ∧ w = w' := by
  have hb : ((if 1 ≤ s.size ∧ s.size ≤ 32 then 0 else 2 : Int) == 0) = b := by
    subst h
    unfold isK
    by_cases h1 : 1 ≤ s.size ∧ s.size ≤ 32
    · rw [if_pos h1, decide_eq_true h1]; rfl
    · rw [if_neg h1, decide_eq_false h1]; rfl
  have HC := Lib.hid (check s)
  generalize (if 1 ≤ s.size ∧ s.size ≤ 32 then 0 else 2 : Int) = x at hb HC
  have HB := Lib.hid hb
  clear hb h
  go_enter Tryd.func53, Tryd.ntmps53
  go_wp2_with fail
  refine (HC.out _).mono ?_
  rintro e w1 ⟨rfl, rfl⟩
  go_wp2
  go_ret
  exact ⟨congrArg (fun b => Ending.returned (Value.bool b)) HB.out, rfl⟩
theorem empty_iff (s : ByteArray) : (s.toList == ([] : List UInt8)) = decide (s.size = 0) := by
  rw [Lib.toList_data, ← sb_len]
  show (sb s == []) = _
  generalize sb s = l
  cases l <;> rfl
theorem empty_is (s : ByteArray) : s.toList.isEmpty = decide (s.size = 0) := by
  rw [Lib.toList_data, ← sb_len]
  show (sb s).isEmpty = _
  generalize sb s = l
  cases l <;> rfl
theorem isValue_c (s : ByteArray) (d : Bool) (b : Bool) (h : isV s d = b) (w : World) : Calls Tryd.prog 59 #[.string s, .bool d] w fun e w' => e = .returned (.bool b) ∧ w = w' := by
  subst h
  have h1 := empty_iff s
  have h2 := empty_is s
  by_cases h0 : s.size = 0
  · rw [decide_eq_true h0] at h1 h2
    cases d
    all_goals go_enter Tryd.func59, Tryd.ntmps59
    all_goals go_wp2
    all_goals go_ret
    all_goals refine ⟨congrArg (fun v => Ending.returned (Value.bool v)) ?_, rfl⟩
    all_goals unfold isV
    all_goals simp [h0, h1, h2]
  · rw [decide_eq_false h0] at h1 h2
    cases d
    all_goals go_enter Tryd.func59, Tryd.ntmps59
    all_goals go_wp2
    all_goals go_ret
    all_goals refine ⟨congrArg (fun v => Ending.returned (Value.bool v)) ?_, rfl⟩
    all_goals unfold isV
    all_goals first | (simp [h0, h1, h2]; done) | (simp [h0, h1, h2]; omega)
theorem argUnless_c (b : Bool) (w : World) : Calls Tryd.prog 28 #[.bool b] w fun e w' => e = .returned (.int .i64 (if b then 0 else 2)) ∧ w = w' := by
  cases b
  all_goals go_enter Tryd.func28, Tryd.ntmps28
  all_goals go_wp2
  all_goals go_ret
  all_goals exact ⟨rfl, rfl⟩
theorem isOwner_c (id ep pr : Int) (an : ByteArray) (b : Bool) (h : hdr id ep pr an = b) (w : World) : Calls Tryd.prog 29 #[.int .i64 id, .int .i64 ep, .int .i64 pr, .string an] w fun e w' => e = .returned (.bool b) ∧ w = w' := by
  subst h
  cases h1 : isI id
  all_goals cases h2 : isN ep
  all_goals cases h4 : isK an
  all_goals go_enter Tryd.func29, Tryd.ntmps29
  all_goals go_wp2_with (first
    | (go_at_call 51; refine (isId_c _ _ h1 _).mono ?_; rintro e w1 ⟨rfl, rfl⟩)
    | (go_at_call 52; refine (isNumber_c _ _ h2 _).mono ?_; rintro e w1 ⟨rfl, rfl⟩)
    | (go_at_call 53; refine (isKey_c _ _ h4 _).mono ?_; rintro e w1 ⟨rfl, rfl⟩))
  all_goals go_ret
  all_goals refine ⟨congrArg (fun v => Ending.returned (Value.bool v)) ?_, rfl⟩
  all_goals unfold hdr
  all_goals rw [h1, h2, h4]
  all_goals first
    | (simp; done)
    | (rw [show isP pr = true from decide_eq_true (by omega)]; rfl)
    | (rw [show isP pr = false from decide_eq_false (by omega)]; rfl)
    | (unfold isP; simp; omega)

/-! ### one change, one write, one stamp -/
theorem stampOne (p : Int × Int) (b : Bool) (h : mayP p = b) (w : World) : Calls Tryd.prog 55 #[sv p.1 p.2] w fun e w' => e = .returned (.bool b) ∧ Below w.heap.size w w' := by
  have hb : (ck p.1 p.2 == 0) = b := by
    subst h
    unfold ck mayP
    cases may p.1 p.2 <;> rfl
  have HC := Lib.hid (check_ok p.1 p.2)
  generalize ck p.1 p.2 = x at hb HC
  have HB := Lib.hid hb
  obtain ⟨a, c⟩ := p
  clear hb h
  go_enter Tryd.func55, Tryd.ntmps55
  go_wp2_with fail
  refine (HC.out _).mono ?_
  rintro e w1 ⟨rfl, hb1⟩
  have hb2 := (nbl w (.cells #[.int .i64 a, .int .i64 c] 23)).trans (hb1.mono (by simp))
  go_wp2
  go_ret
  exact ⟨congrArg (fun b => Ending.returned (Value.bool b)) HB.out, hb2⟩
set_option maxHeartbeats 4000000 in
theorem changeOne (ga : Nat) (a : Int) (c : Ch) (b : Bool) (h : okCh a c = b) (w : World) (hg : Blk w ga 3 #[.int .i64 a]) :
    Calls Tryd.prog 58 #[chv c, pt ga] w fun e w' => e = .returned (.bool b) ∧ Blk w' ga 3 #[.int .i64 c.q] ∧ Grow (fun k => k = ga) w w' := by
  subst h
  obtain ⟨q, s, d⟩ := c
  have hne : ga ≠ w.heap.size := by have := hg.lt; omega
  have hX := Blk.new w 50 #[.int .i64 q, .string s, .bool d]
  have hG : Blk (w.alloc (.cells #[.int .i64 q, .string s, .bool d] 50)) ga 3 #[.int .i64 a] := hg.below (nbl w _) hg.lt
  have hR : Grow (fun k => k = ga) w ((w.alloc (.cells #[.int .i64 q, .string s, .bool d] 50)).setCell ⟨ga, 0, none⟩ (.int .i64 q)) := (Grow.of_below (F := fun k => k = ga) (nbl w _)).set (p := ⟨ga, 0, none⟩) (.inl rfl) _
  have hS := hG.set_ 0 (.int .i64 q)
  have hY : Blk ((w.alloc (.cells #[.int .i64 q, .string s, .bool d] 50)).setCell ⟨ga, 0, none⟩ (.int .i64 q)) w.heap.size 50 #[.int .i64 q, .string s, .bool d] := by
    unfold Blk at *
    simp only [World.setCell, Array.getElem?_modify]
    rw [if_neg hne]
    exact hX
  have g0 := hG.cell 0
  have gz := hG.frozen 0
  have x0 := hX.cell 0
  have y0 := hY.cell 0
  have y1 := hY.cell 1
  have y2 := hY.cell 2
  simp at g0 x0 y0 y1 y2
  have HS := Lib.hid hS
  have HR := Lib.hid hR
  clear hX hG hS hY hR hg
  cases h1 : isI q
  all_goals cases h2 : isV s (!d)
  all_goals by_cases hlt : a < q
  all_goals go_enter Tryd.func58, Tryd.ntmps58
  all_goals go_wp2_with (first
    | (go_at_call 51; refine (isId_c _ _ h1 _).mono ?_; rintro e w1 ⟨rfl, rfl⟩)
    | (go_at_call 59; refine (isValue_c _ _ _ h2 _).mono ?_; rintro e w1 ⟨rfl, rfl⟩))
  all_goals go_ret
  all_goals refine ⟨congrArg (fun v => Ending.returned (Value.bool v)) ?_, HS.out, HR.out⟩
  all_goals unfold okCh
  all_goals simp only [h1, h2]
  all_goals first | (rw [decide_eq_true hlt]; rfl) | (rw [decide_eq_false (by omega)]; rfl)
theorem slt_gt (a s : ByteArray) : (!(Op.bytesLess s.toList a.toList || s.toList == a.toList)) = slt a s := by
  rw [kbeq]
  show (!(kl s a || decide (s = a))) = kl a s
  by_cases h : s = a
  · subst h
    rw [kl_irr, decide_eq_true rfl]; rfl
  · rw [decide_eq_false h]
    cases h1 : kl s a with
    | true => rw [kl_asym h1]; rfl
    | false =>
      cases h2 : kl a s with
      | true => rfl
      | false => exact absurd (kl_total h1 h2) h
set_option maxHeartbeats 4000000 in
theorem writeOne (ga : Nat) (a : ByteArray) (c : Wt) (b : Bool) (h : okWt a c = b) (w : World) (hg : Blk w ga 9 #[.string a]) :
    Calls Tryd.prog 67 #[wtv c, pt ga] w fun e w' => e = .returned (.bool b) ∧ Blk w' ga 9 #[.string c.k] ∧ Grow (fun k => k = ga) w w' := by
  subst h
  obtain ⟨s, q⟩ := c
  have hne : ga ≠ w.heap.size := by have := hg.lt; omega
  have hX := Blk.new w 68 #[.string s, .int .i64 q]
  have hG : Blk (w.alloc (.cells #[.string s, .int .i64 q] 68)) ga 9 #[.string a] := hg.below (nbl w _) hg.lt
  have hR : Grow (fun k => k = ga) w ((w.alloc (.cells #[.string s, .int .i64 q] 68)).setCell ⟨ga, 0, none⟩ (.string s)) := (Grow.of_below (F := fun k => k = ga) (nbl w _)).set (p := ⟨ga, 0, none⟩) (.inl rfl) _
  have hS := hG.set_ 0 (.string s)
  have hY : Blk ((w.alloc (.cells #[.string s, .int .i64 q] 68)).setCell ⟨ga, 0, none⟩ (.string s)) w.heap.size 68 #[.string s, .int .i64 q] := by
    unfold Blk at *
    simp only [World.setCell, Array.getElem?_modify]
    rw [if_neg hne]
    exact hX
  have g0 := hG.cell 0
  have gz := hG.frozen 0
  have x0 := hX.cell 0
  have y0 := hY.cell 0
  have y1 := hY.cell 1
  simp at g0 x0 y0 y1
  have HS := Lib.hid hS
  have HR := Lib.hid hR
  clear hX hG hS hY hR hg
  have hl0 := slt_gt a s
  cases h1 : isI q
  all_goals cases h2 : isK s
  all_goals cases hlt : slt a s
  all_goals rw [hlt] at hl0
  all_goals generalize hx1 : Op.bytesLess s.toList a.toList = x1 at hl0
  all_goals generalize hx2 : (s.toList == a.toList) = x2 at hl0
  all_goals have hx3 : (x1 || x2) = !(!(x1 || x2)) := by simp
  all_goals rw [hl0] at hx3
  all_goals clear hl0
  all_goals go_enter Tryd.func67, Tryd.ntmps67
  all_goals go_wp2_with (first
    | (go_at_call 51; refine (isId_c _ _ h1 _).mono ?_; rintro e w1 ⟨rfl, rfl⟩)
    | (go_at_call 53; refine (isKey_c _ _ h2 _).mono ?_; rintro e w1 ⟨rfl, rfl⟩))
  all_goals go_ret
  all_goals refine ⟨congrArg (fun v => Ending.returned (Value.bool v)) ?_, HS.out, HR.out⟩
  all_goals unfold okWt
  all_goals simp only [h1, h2, hlt]
  all_goals rfl
end Go.Proofs.YtiafmbfeigcinaaDoor
set_option linter.unusedVariables false
set_option linter.unusedSimpArgs false
set_option maxRecDepth 100000
namespace Go.Proofs.YtiafmbfeigcinaaDoor
open Go.RowKit

theorem rIsId_c (n : Int) (b : Bool) (h : isI n = b) (w : World) : Calls Tryd.prog 44 #[.int .i64 n] w fun e w' => e = .returned (.bool b) ∧ w = w' := by
  subst h
  go_enter Tryd.func44, Tryd.ntmps44
  go_wp2
  all_goals go_ret
  all_goals refine ⟨congrArg (fun v => Ending.returned (Value.bool v)) ?_, rfl⟩
  all_goals unfold isI
  all_goals first | exact (decide_eq_true (by omega)).symm | exact (decide_eq_false (by omega)).symm | exact decide_eq_decide.2 (by omega)
theorem rHead_c (id ep pr : Int) (an : ByteArray) (b : Bool) (h : hdr id ep pr an = b) (w : World) : Calls Tryd.prog 32 #[.int .i64 id, .int .i64 ep, .int .i64 pr, .string an] w fun e w' => e = .returned (.bool b) ∧ w = w' := by
  subst h
  have HC := Lib.hid (refCheck an)
  cases h1 : isI id
  all_goals by_cases h4 : 1 ≤ an.size ∧ an.size ≤ 32
  all_goals (first | rw [if_pos h4] at HC | rw [if_neg h4] at HC)
  all_goals (first | have k4 : isK an = true := isK_iff.2 h4 | have k4 : isK an = false := decide_eq_false h4)
  all_goals by_cases h2 : 0 ≤ ep
  all_goals by_cases h3 : ep ≤ 9007199254740991
  all_goals by_cases h5 : 1 ≤ pr
  all_goals by_cases h6 : pr ≤ 1000
  all_goals go_enter Tryd.func32, Tryd.ntmps32
  all_goals go_wp2_with (first
    | (go_at_call 44; refine (rIsId_c _ _ h1 _).mono ?_; rintro e w1 ⟨rfl, rfl⟩)
    | (go_at_call 43; refine (HC.out _).mono ?_; rintro e w1 ⟨rfl, rfl⟩))
  all_goals go_ret
  all_goals refine ⟨congrArg (fun v => Ending.returned (Value.bool v)) ?_, rfl⟩
  all_goals unfold hdr
  all_goals rw [h1, k4]
  all_goals first
    | (simp; done)
    | (rw [show isN ep = true from decide_eq_true (by omega), show isP pr = true from decide_eq_true (by omega)]; rfl)
    | (rw [show isN ep = false from decide_eq_false (by omega)]; simp; done)
    | (rw [show isP pr = false from decide_eq_false (by omega)]; simp; done)
set_option maxHeartbeats 4000000 in
theorem rMayI_c (x : It) (b : Bool) (h : mayI x = b) (A : Option Addr) (n c : Nat) (w : World) (hx : ChAt w A n x.l) (hn : n ≤ 9223372036854775807) :
    Calls Tryd.prog 9 #[itv x (.slice A n c)] w fun e w' => e = .returned (.bool b) ∧ Below w.heap.size w w' := by
  obtain ⟨id, ep, pr, an, sw, sl, bw, bl, l⟩ := x
  simp only at hx
  unfold mayI at h
  simp only at h
  have hl := hx.1
  have g0 := nbl w (.cells (itc ⟨id, ep, pr, an, sw, sl, bw, bl, l⟩ (.slice A n c)) 26)
  have HX := Lib.hid (Blk.new w 26 (itc ⟨id, ep, pr, an, sw, sl, bw, bl, l⟩ (.slice A n c)))
  have HL := Lib.hid (hx.below g0)
  have HD := Lib.hid (fun V => rHead_c id ep pr an _ rfl V)
  have HS := Lib.hid (fun V => refCheck5 sw sl V)
  have HT := Lib.hid (fun V => refCheck5 bw bl V)
  cases h1 : hdr id ep pr an
  · rw [h1] at h HD
    simp at h
    subst h
    go_enter Tryd.func9, Tryd.ntmps9
    go_wp2_with (go_at_call 32; refine (HD.out _).mono ?_; rintro e w1 ⟨rfl, rfl⟩)
    go_ret
    exact ⟨rfl, g0⟩
  · rw [h1] at h HD
    cases h2 : may sw sl
    · rw [h2] at h
      simp at h
      subst h
      rw [show ck sw sl = 9 by unfold ck; rw [h2]; rfl] at HS
      go_enter Tryd.func9, Tryd.ntmps9
      go_wp2_with (first
          | (go_at_call 32; refine (HD.out _).mono ?_; rintro e w1 ⟨rfl, rfl⟩)
          | (go_at_call_of 33 (Value.agg #[.int .i64 sw, .int .i64 sl]); refine (HS.out _).mono ?_; rintro e w1 ⟨rfl, b1⟩; have X1 := Lib.hid (HX.out.below b1 (by simp)); have g1 := g0.trans (b1.mono g0.size); have y6 := X1.out.cell 6; have y7 := X1.out.cell 7; have y8 := X1.out.cell 8; simp at y6 y7 y8))
      go_ret
      exact ⟨rfl, g1⟩
    rw [h2] at h
    rw [show ck sw sl = 0 by unfold ck; rw [h2]; rfl] at HS
    cases h3 : may bw bl
    · rw [h3] at h
      simp at h
      subst h
      rw [show ck bw bl = 9 by unfold ck; rw [h3]; rfl] at HT
      go_enter Tryd.func9, Tryd.ntmps9
      go_wp2_with (first
          | (go_at_call 32; refine (HD.out _).mono ?_; rintro e w1 ⟨rfl, rfl⟩)
          | (go_at_call_of 33 (Value.agg #[.int .i64 sw, .int .i64 sl]); refine (HS.out _).mono ?_; rintro e w1 ⟨rfl, b1⟩; have X1 := Lib.hid (HX.out.below b1 (by simp)); have g1 := g0.trans (b1.mono g0.size); have y6 := X1.out.cell 6; have y7 := X1.out.cell 7; have y8 := X1.out.cell 8; simp at y6 y7 y8)
          | (go_at_call_of 33 (Value.agg #[.int .i64 bw, .int .i64 bl]); refine (HT.out _).mono ?_; rintro e w2 ⟨rfl, b2⟩; have X2 := Lib.hid (X1.out.below b2 X1.out.lt); have g2 := g1.trans (b2.mono g1.size); have z8 := X2.out.cell 8; simp at z8))
      go_ret
      exact ⟨rfl, g2⟩
    rw [h3] at h
    rw [show ck bw bl = 0 by unfold ck; rw [h3]; rfl] at HT
    by_cases h4 : 1 ≤ n
    case neg =>
      rw [decide_eq_false (by omega)] at h
      simp at h
      subst h
      obtain rfl : n = 0 := by omega
      go_enter Tryd.func9, Tryd.ntmps9
      go_wp2_with (first
          | (go_at_call 32; refine (HD.out _).mono ?_; rintro e w1 ⟨rfl, rfl⟩)
          | (go_at_call_of 33 (Value.agg #[.int .i64 sw, .int .i64 sl]); refine (HS.out _).mono ?_; rintro e w1 ⟨rfl, b1⟩; have X1 := Lib.hid (HX.out.below b1 (by simp)); have g1 := g0.trans (b1.mono g0.size); have y6 := X1.out.cell 6; have y7 := X1.out.cell 7; have y8 := X1.out.cell 8; simp at y6 y7 y8)
          | (go_at_call_of 33 (Value.agg #[.int .i64 bw, .int .i64 bl]); refine (HT.out _).mono ?_; rintro e w2 ⟨rfl, b2⟩; have X2 := Lib.hid (X1.out.below b2 X1.out.lt); have g2 := g1.trans (b2.mono g1.size); have z8 := X2.out.cell 8; simp at z8))
      go_ret
      exact ⟨rfl, g2⟩
    by_cases h5 : n ≤ 16
    case neg =>
      rw [decide_eq_false (by omega)] at h
      simp at h
      subst h
      go_enter Tryd.func9, Tryd.ntmps9
      go_wp2_with (first
          | (go_at_call 32; refine (HD.out _).mono ?_; rintro e w1 ⟨rfl, rfl⟩)
          | (go_at_call_of 33 (Value.agg #[.int .i64 sw, .int .i64 sl]); refine (HS.out _).mono ?_; rintro e w1 ⟨rfl, b1⟩; have X1 := Lib.hid (HX.out.below b1 (by simp)); have g1 := g0.trans (b1.mono g0.size); have y6 := X1.out.cell 6; have y7 := X1.out.cell 7; have y8 := X1.out.cell 8; simp at y6 y7 y8)
          | (go_at_call_of 33 (Value.agg #[.int .i64 bw, .int .i64 bl]); refine (HT.out _).mono ?_; rintro e w2 ⟨rfl, b2⟩; have X2 := Lib.hid (X1.out.below b2 X1.out.lt); have g2 := g1.trans (b2.mono g1.size); have z8 := X2.out.cell 8; simp at z8))
      go_ret
      exact ⟨rfl, g2⟩
    rw [decide_eq_true (by omega)] at h
    simp at h
    have HH := Lib.hid h
    have HLn := Lib.hid hl
    clear h hl hx
    go_enter Tryd.func9, Tryd.ntmps9
    go_wp2_with (first
      | (go_at_call 32; refine (HD.out _).mono ?_; rintro e w1 ⟨rfl, rfl⟩)
      | (go_at_call_of 33 (Value.agg #[.int .i64 sw, .int .i64 sl]); refine (HS.out _).mono ?_; rintro e w1 ⟨rfl, b1⟩; have X1 := Lib.hid (HX.out.below b1 (by simp)); have g1 := g0.trans (b1.mono g0.size); have y6 := X1.out.cell 6; have y7 := X1.out.cell 7; have y8 := X1.out.cell 8; simp at y6 y7 y8)
      | (go_at_call_of 33 (Value.agg #[.int .i64 bw, .int .i64 bl]); refine (HT.out _).mono ?_; rintro e w2 ⟨rfl, b2⟩; have X2 := Lib.hid (X1.out.below b2 X1.out.lt); have g2 := g1.trans (b2.mono g1.size); have z8 := X2.out.cell 8; simp at z8))
    have HL2 := Lib.hid (HL.out.below (b1.trans (b2.mono b1.size)))
    have G2 := Lib.hid g2
    clear HX HL HD HS HT b1 b2 g0 g1 g2 X1 X2 y6 y7 y8
    go_loopw [3, 4] (fun la i wr => ∃ (j : Nat) (a : Int), j ≤ n ∧ la = .int .i64 a ∧ i = .int .i64 j ∧ 0 ≤ a ∧ a ≤ 9007199254740991 ∧ Hid (rise a (l.drop j) = b) ∧ Hid (Below w2.heap.size w2 wr)) (fun _ i _ => n - (intOf i).toNat)
    case atStart => exact ⟨0, 0, Nat.zero_le _, rfl, rfl, by omega, by omega, HH, Lib.hid (Below.refl _ _)⟩
    case round =>
      obtain ⟨j, a, hj, rfl, rfl, ha, ha2, HR, HBW⟩ := hrel
      have x8 := kept_below HBW.out _ _ z8
      by_cases hlt : j < n
      · have hjl : j < l.length := by rw [HLn.out]; exact hlt
        obtain ⟨B, o, rfl, hc⟩ := HL2.out.2 (by omega)
        have p := hc j hjl
        have hr := HR.out
        rw [List.drop_eq_getElem_cons hjl] at hr
        obtain ⟨cc, hcc⟩ : ∃ cc, l[j]'hjl = cc := ⟨_, rfl⟩
        rw [hcc] at p hr
        obtain ⟨q, s, d⟩ := cc
        obtain ⟨p0, p1, p2⟩ := p
        have P0 := kept_below HBW.out _ _ p0
        have P1 := kept_below HBW.out _ _ p1
        have P2 := kept_below HBW.out _ _ p2
        have W0 := Blk.new wr 50 #[.int .i64 q, .string s, .bool d]
        have o0 := W0.cell 0
        have o1 := W0.cell 1
        have o2 := W0.cell 2
        have o8 := kept_below (nbl wr (.cells #[.int .i64 q, .string s, .bool d] 50)) _ _ x8
        have HN := Lib.hid (HBW.out.alloc HBW.out.size (.cells #[.int .i64 q, .string s, .bool d] 50))
        simp at o0 o1 o2
        have e1 := empty_iff s
        have e2 := empty_is s
        have HO : Hid (rise a (⟨q, s, d⟩ :: l.drop (j + 1)) = b) := Lib.hid hr
        have hno : ∀ (hk : okCh a ⟨q, s, d⟩ = false), b = false := fun hk => by
          have := HO.out
          rw [rise, hk] at this
          simpa using this.symm
        have HNO := Lib.hid hno
        clear hc hcc hr W0 hno p0 p1 p2
        have fin : ∀ (hk : okCh a ⟨q, s, d⟩ = true), rise q (l.drop (j + 1)) = b := fun hk => by
          have := HO.out
          rw [rise, hk] at this
          simpa using this
        have HFIN := Lib.hid fin
        clear fin
        by_cases c1 : a < q
        case neg =>
          have hF := HNO.out (by unfold okCh; rw [decide_eq_false c1]; rfl)
          subst hF
          go_wp2
          go_ret
          exact ⟨rfl, G2.out.trans (HN.out.mono G2.out.size)⟩
        by_cases c2 : q ≤ 9007199254740991
        case neg =>
          have hF := HNO.out (by unfold okCh; rw [show isI q = false from decide_eq_false (by omega)]; simp)
          subst hF
          go_wp2
          go_ret
          exact ⟨rfl, G2.out.trans (HN.out.mono G2.out.size)⟩
        by_cases c3 : s.size ≤ 64
        case neg =>
          have hF := HNO.out (by unfold okCh; rw [show isV s (!d) = false from decide_eq_false (by omega)]; simp)
          subst hF
          go_wp2
          go_ret
          exact ⟨rfl, G2.out.trans (HN.out.mono G2.out.size)⟩
        by_cases c4 : s.size = 0
        · rw [decide_eq_true c4] at e1 e2
          have hT := HFIN.out (by unfold okCh; rw [decide_eq_true c1, show isI q = true from isI_iff.2 (by omega), show isV s (!d) = true from isV_iff.2 ⟨c3, Or.inr c4⟩]; rfl)
          have HT := Lib.hid hT
          clear hT HO
          cases d
          all_goals go_wp2
          all_goals go_roundw
          all_goals try (case rel => exact ⟨j + 1, q, by omega, rfl, by go_num, by omega, by omega, HT, HN⟩)
          all_goals (simp [intOf]; omega)
        · rw [decide_eq_false c4] at e1 e2
          cases d
          · have hT := HFIN.out (by unfold okCh; rw [decide_eq_true c1, show isI q = true from isI_iff.2 (by omega), show isV s (!false) = true from isV_iff.2 ⟨c3, Or.inl rfl⟩]; rfl)
            have HT := Lib.hid hT
            clear hT HO
            go_wp2
            go_roundw
            case rel => exact ⟨j + 1, q, by omega, rfl, by go_num, by omega, by omega, HT, HN⟩
            case measure => simp [intOf]; omega
          · have hF := HNO.out (by unfold okCh; rw [show isV s (!true) = false from decide_eq_false (fun hh => hh.2.elim (fun h => by simp at h) c4)]; simp)
            subst hF
            go_wp2
            go_ret
            exact ⟨rfl, G2.out.trans (HN.out.mono G2.out.size)⟩
      · have hT : b = true := by
          have := HR.out
          rw [List.drop_eq_nil_of_le (by have := HLn.out; omega)] at this
          exact this.symm
        subst hT
        go_wp2
        go_ret
        exact ⟨rfl, G2.out.trans (HBW.out.mono G2.out.size)⟩
end Go.Proofs.YtiafmbfeigcinaaDoor
set_option linter.unusedVariables false
set_option maxRecDepth 100000
namespace Go.Proofs.YtiafmbfeigcinaaDoor
open Go.RowKit


set_option maxHeartbeats 4000000 in
theorem idxS {S : Type} (ok : S → Int × Int → Bool) (nx : S → Int × Int → S) (gf : Nat) (J : S → World → Prop) (A : Option Addr) (n c : Nat) (l : List (Int × Int)) (hn : n ≤ 9223372036854775807)
    (hat : ∀ s W, J s W → Stamps W A n l)
    (step : ∀ s (c : Int × Int) W, J s W → Calls Tryd.prog 72 #[(sv c.1 c.2), pt gf] W fun e w' => e = .returned (.bool (!(ok s c))) ∧ J (nx s c) w')
    (s : S) (w : World) (hJ : J s w) :
    Calls Tryd.prog 83 #[.slice A n c, .func (.func 72) #[] #[pt gf]] w fun e w' => ∃ k : Int, e = .returned (.int .i64 k) ∧ decide (0 ≤ k) = !(scan ok nx s l) ∧ ∃ s', J s' w' := by
  have ST := Lib.hid step
  have HF := Lib.hid hat
  clear step hat
  go_enter Tryd.func83, Tryd.ntmps83
  go_wp2
  go_loopw [8] (fun i wr => ∃ (k : Nat) (s' : S), k ≤ n ∧ i = .int .i64 k ∧ Hid (scan ok nx s' (l.drop k) = scan ok nx s l) ∧ J s' wr) (fun i _ => n - (intOf i).toNat)
  case atStart => exact ⟨0, s, Nat.zero_le _, rfl, rfl, hJ⟩
  case round =>
    obtain ⟨k, s', hk, rfl, hrun, hRep⟩ := hrel
    have hfa := HF.out s' wr hRep
    have hlen := hfa.1
    by_cases hlt : k < n
    · have hkl : k < l.length := by omega
      obtain ⟨b, o, rfl, hc⟩ := hfa.2 (by omega)
      obtain ⟨h1, h2⟩ := hc k hkl
      have hs := ST.out s' (l[k]'hkl) wr hRep
      have hd : l.drop k = (l[k]'hkl) :: l.drop (k + 1) := List.drop_eq_getElem_cons hkl
      have hrun' := hrun.out
      rw [hd] at hrun'
      generalize (l[k]'hkl) = x at *
      clear hc hfa HF ST hd hrun
      cases hok : ok s' x with
      | true =>
        have HR := Lib.hid (show scan ok nx (nx s' x) (l.drop (k + 1)) = scan ok nx s l by rw [← hrun', scan, hok, Bool.true_and])
        rw [hok] at hs
        clear hrun' hok
        go_wp2_with fail
        refine hs.mono ?_
        rintro e w2 ⟨rfl, h2⟩
        go_wp2
        go_roundw
        case rel => exact ⟨k + 1, _, by omega, by go_num, HR, h2⟩
        case measure => simp [intOf]; omega
      | false =>
        have HR := Lib.hid (show scan ok nx s l = false by rw [← hrun', scan, hok, Bool.false_and])
        rw [hok] at hs
        clear hrun' hok
        go_wp2_with fail
        refine hs.mono ?_
        rintro e w2 ⟨rfl, h2⟩
        go_wp2
        go_ret
        exact ⟨k, rfl, by rw [HR.out]; exact decide_eq_true (by omega), _, h2⟩
    · have HR := Lib.hid (show scan ok nx s l = true by rw [← hrun.out, List.drop_of_length_le (by omega), scan])
      clear hrun HF ST hfa
      go_wp2
      go_ret
      exact ⟨-1, rfl, by rw [HR.out]; rfl, _, hRep⟩
theorem conS {S : Type} (ok : S → Int × Int → Bool) (nx : S → Int × Int → S) (gf : Nat) (J : S → World → Prop) (A : Option Addr) (n c : Nat) (l : List (Int × Int)) (hn : n ≤ 9223372036854775807)
    (hat : ∀ s W, J s W → Stamps W A n l)
    (step : ∀ s (c : Int × Int) W, J s W → Calls Tryd.prog 72 #[(sv c.1 c.2), pt gf] W fun e w' => e = .returned (.bool (!(ok s c))) ∧ J (nx s c) w')
    (s : S) (w : World) (hJ : J s w) :
    Calls Tryd.prog 71 #[.slice A n c, .func (.func 72) #[] #[pt gf]] w fun e w' => e = .returned (.bool (!(scan ok nx s l))) ∧ ∃ s', J s' w' := by
  have HI := Lib.hid (idxS ok nx gf J A n c l hn hat step s w hJ)
  clear step hat hJ
  go_enter Tryd.func71, Tryd.ntmps71
  go_wp2_with fail
  refine HI.out.mono ?_
  rintro e w1 ⟨k, rfl, hk, h1⟩
  have HK := Lib.hid hk
  clear hk
  go_wp2
  go_ret
  exact ⟨congrArg (fun b => Ending.returned (Value.bool b)) HK.out, h1⟩

set_option maxHeartbeats 4000000 in
theorem idxC {S : Type} (ok : S → Ch → Bool) (nx : S → Ch → S) (gf : Nat) (J : S → World → Prop) (A : Option Addr) (n c : Nat) (l : List (Ch)) (hn : n ≤ 9223372036854775807)
    (hat : ∀ s W, J s W → ChAt W A n l)
    (step : ∀ s (c : Ch) W, J s W → Calls Tryd.prog 74 #[(chv c), pt gf] W fun e w' => e = .returned (.bool (!(ok s c))) ∧ J (nx s c) w')
    (s : S) (w : World) (hJ : J s w) :
    Calls Tryd.prog 84 #[.slice A n c, .func (.func 74) #[] #[pt gf]] w fun e w' => ∃ k : Int, e = .returned (.int .i64 k) ∧ decide (0 ≤ k) = !(scan ok nx s l) ∧ ∃ s', J s' w' := by
  have ST := Lib.hid step
  have HF := Lib.hid hat
  clear step hat
  go_enter Tryd.func84, Tryd.ntmps84
  go_wp2
  go_loopw [8] (fun i wr => ∃ (k : Nat) (s' : S), k ≤ n ∧ i = .int .i64 k ∧ Hid (scan ok nx s' (l.drop k) = scan ok nx s l) ∧ J s' wr) (fun i _ => n - (intOf i).toNat)
  case atStart => exact ⟨0, s, Nat.zero_le _, rfl, rfl, hJ⟩
  case round =>
    obtain ⟨k, s', hk, rfl, hrun, hRep⟩ := hrel
    have hfa := HF.out s' wr hRep
    have hlen := hfa.1
    by_cases hlt : k < n
    · have hkl : k < l.length := by omega
      obtain ⟨b, o, rfl, hc⟩ := hfa.2 (by omega)
      obtain ⟨h1, h2, h3⟩ := hc k hkl
      have hs := ST.out s' (l[k]'hkl) wr hRep
      have hd : l.drop k = (l[k]'hkl) :: l.drop (k + 1) := List.drop_eq_getElem_cons hkl
      have hrun' := hrun.out
      rw [hd] at hrun'
      generalize (l[k]'hkl) = x at *
      clear hc hfa HF ST hd hrun
      cases hok : ok s' x with
      | true =>
        have HR := Lib.hid (show scan ok nx (nx s' x) (l.drop (k + 1)) = scan ok nx s l by rw [← hrun', scan, hok, Bool.true_and])
        rw [hok] at hs
        clear hrun' hok
        go_wp2_with fail
        refine hs.mono ?_
        rintro e w2 ⟨rfl, h2⟩
        go_wp2
        go_roundw
        case rel => exact ⟨k + 1, _, by omega, by go_num, HR, h2⟩
        case measure => simp [intOf]; omega
      | false =>
        have HR := Lib.hid (show scan ok nx s l = false by rw [← hrun', scan, hok, Bool.false_and])
        rw [hok] at hs
        clear hrun' hok
        go_wp2_with fail
        refine hs.mono ?_
        rintro e w2 ⟨rfl, h2⟩
        go_wp2
        go_ret
        exact ⟨k, rfl, by rw [HR.out]; exact decide_eq_true (by omega), _, h2⟩
    · have HR := Lib.hid (show scan ok nx s l = true by rw [← hrun.out, List.drop_of_length_le (by omega), scan])
      clear hrun HF ST hfa
      go_wp2
      go_ret
      exact ⟨-1, rfl, by rw [HR.out]; rfl, _, hRep⟩
theorem conC {S : Type} (ok : S → Ch → Bool) (nx : S → Ch → S) (gf : Nat) (J : S → World → Prop) (A : Option Addr) (n c : Nat) (l : List (Ch)) (hn : n ≤ 9223372036854775807)
    (hat : ∀ s W, J s W → ChAt W A n l)
    (step : ∀ s (c : Ch) W, J s W → Calls Tryd.prog 74 #[(chv c), pt gf] W fun e w' => e = .returned (.bool (!(ok s c))) ∧ J (nx s c) w')
    (s : S) (w : World) (hJ : J s w) :
    Calls Tryd.prog 73 #[.slice A n c, .func (.func 74) #[] #[pt gf]] w fun e w' => e = .returned (.bool (!(scan ok nx s l))) ∧ ∃ s', J s' w' := by
  have HI := Lib.hid (idxC ok nx gf J A n c l hn hat step s w hJ)
  clear step hat hJ
  go_enter Tryd.func73, Tryd.ntmps73
  go_wp2_with fail
  refine HI.out.mono ?_
  rintro e w1 ⟨k, rfl, hk, h1⟩
  have HK := Lib.hid hk
  clear hk
  go_wp2
  go_ret
  exact ⟨congrArg (fun b => Ending.returned (Value.bool b)) HK.out, h1⟩

set_option maxHeartbeats 4000000 in
theorem idxW {S : Type} (ok : S → Wt → Bool) (nx : S → Wt → S) (gf : Nat) (J : S → World → Prop) (A : Option Addr) (n c : Nat) (l : List (Wt)) (hn : n ≤ 9223372036854775807)
    (hat : ∀ s W, J s W → WtAt W A n l)
    (step : ∀ s (c : Wt) W, J s W → Calls Tryd.prog 82 #[(wtv c), pt gf] W fun e w' => e = .returned (.bool (!(ok s c))) ∧ J (nx s c) w')
    (s : S) (w : World) (hJ : J s w) :
    Calls Tryd.prog 91 #[.slice A n c, .func (.func 82) #[] #[pt gf]] w fun e w' => ∃ k : Int, e = .returned (.int .i64 k) ∧ decide (0 ≤ k) = !(scan ok nx s l) ∧ ∃ s', J s' w' := by
  have ST := Lib.hid step
  have HF := Lib.hid hat
  clear step hat
  go_enter Tryd.func91, Tryd.ntmps91
  go_wp2
  go_loopw [8] (fun i wr => ∃ (k : Nat) (s' : S), k ≤ n ∧ i = .int .i64 k ∧ Hid (scan ok nx s' (l.drop k) = scan ok nx s l) ∧ J s' wr) (fun i _ => n - (intOf i).toNat)
  case atStart => exact ⟨0, s, Nat.zero_le _, rfl, rfl, hJ⟩
  case round =>
    obtain ⟨k, s', hk, rfl, hrun, hRep⟩ := hrel
    have hfa := HF.out s' wr hRep
    have hlen := hfa.1
    by_cases hlt : k < n
    · have hkl : k < l.length := by omega
      obtain ⟨b, o, rfl, hc⟩ := hfa.2 (by omega)
      obtain ⟨h1, h2⟩ := hc k hkl
      have hs := ST.out s' (l[k]'hkl) wr hRep
      have hd : l.drop k = (l[k]'hkl) :: l.drop (k + 1) := List.drop_eq_getElem_cons hkl
      have hrun' := hrun.out
      rw [hd] at hrun'
      generalize (l[k]'hkl) = x at *
      clear hc hfa HF ST hd hrun
      cases hok : ok s' x with
      | true =>
        have HR := Lib.hid (show scan ok nx (nx s' x) (l.drop (k + 1)) = scan ok nx s l by rw [← hrun', scan, hok, Bool.true_and])
        rw [hok] at hs
        clear hrun' hok
        go_wp2_with fail
        refine hs.mono ?_
        rintro e w2 ⟨rfl, h2⟩
        go_wp2
        go_roundw
        case rel => exact ⟨k + 1, _, by omega, by go_num, HR, h2⟩
        case measure => simp [intOf]; omega
      | false =>
        have HR := Lib.hid (show scan ok nx s l = false by rw [← hrun', scan, hok, Bool.false_and])
        rw [hok] at hs
        clear hrun' hok
        go_wp2_with fail
        refine hs.mono ?_
        rintro e w2 ⟨rfl, h2⟩
        go_wp2
        go_ret
        exact ⟨k, rfl, by rw [HR.out]; exact decide_eq_true (by omega), _, h2⟩
    · have HR := Lib.hid (show scan ok nx s l = true by rw [← hrun.out, List.drop_of_length_le (by omega), scan])
      clear hrun HF ST hfa
      go_wp2
      go_ret
      exact ⟨-1, rfl, by rw [HR.out]; rfl, _, hRep⟩
theorem conW {S : Type} (ok : S → Wt → Bool) (nx : S → Wt → S) (gf : Nat) (J : S → World → Prop) (A : Option Addr) (n c : Nat) (l : List (Wt)) (hn : n ≤ 9223372036854775807)
    (hat : ∀ s W, J s W → WtAt W A n l)
    (step : ∀ s (c : Wt) W, J s W → Calls Tryd.prog 82 #[(wtv c), pt gf] W fun e w' => e = .returned (.bool (!(ok s c))) ∧ J (nx s c) w')
    (s : S) (w : World) (hJ : J s w) :
    Calls Tryd.prog 81 #[.slice A n c, .func (.func 82) #[] #[pt gf]] w fun e w' => e = .returned (.bool (!(scan ok nx s l))) ∧ ∃ s', J s' w' := by
  have HI := Lib.hid (idxW ok nx gf J A n c l hn hat step s w hJ)
  clear step hat hJ
  go_enter Tryd.func81, Tryd.ntmps81
  go_wp2_with fail
  refine HI.out.mono ?_
  rintro e w1 ⟨k, rfl, hk, h1⟩
  have HK := Lib.hid hk
  clear hk
  go_wp2
  go_ret
  exact ⟨congrArg (fun b => Ending.returned (Value.bool b)) HK.out, h1⟩

theorem eachOneC (ga gf : Nat) (a : Int) (c : Ch) (W : World) (hg : Blk W ga 3 #[.int .i64 a]) (hf : Blk W gf 84 #[.func (.func 58) #[] #[pt ga]]) :
    Calls Tryd.prog 74 #[(chv c), pt gf] W fun e w' => e = .returned (.bool (!(okCh a c))) ∧ Blk w' ga 3 #[.int .i64 ((fun _ c => c.q) a c)] ∧ Grow (fun k => k = ga) W w' := by
  have h1 : Blk (W.alloc (.cells #[.int .i64 c.q, .string c.s, .bool c.d] 50)) ga 3 #[.int .i64 a] := hg.below (nbl W _) hg.lt
  have h2 : Blk (W.alloc (.cells #[.int .i64 c.q, .string c.s, .bool c.d] 50)) gf 84 #[.func (.func 58) #[] #[pt ga]] := hf.below (nbl W _) hf.lt
  have h3 := Blk.new W 50 #[.int .i64 c.q, .string c.s, .bool c.d]
  have HO := Lib.hid (changeOne ga a c _ rfl _ h1)
  have c2 := h2.cell 0
  have c3 := h3.cell 0
  simp at c2 c3
  have HG := Lib.hid (Grow.of_below (F := fun k => k = ga) (nbl W (.cells #[.int .i64 c.q, .string c.s, .bool c.d] 50)))
  clear h1 h2 h3 hg hf
  go_enter Tryd.func74, Tryd.ntmps74
  go_wp2_with fail
  refine HO.out.mono ?_
  rintro e w1 ⟨rfl, q1, q2⟩
  have q3 := HG.out.trans (q2.mono fun k hk => .inl hk)
  go_wp2
  go_ret
  exact ⟨rfl, q1, q3⟩
theorem eachC (ga : Nat) (a : Int) (A : Option Addr) (n c : Nat) (l : List Ch) (w : World) (hn : n ≤ 9223372036854775807) (hx : ∀ W, Below ga w W → ChAt W A n l) (hg : Blk w ga 3 #[.int .i64 a]) :
    Calls Tryd.prog 57 #[.slice A n c, .func (.func 58) #[] #[pt ga]] w fun e w' => e = .returned (.bool (rise a l)) ∧ Below ga w w' := by
  have hlt := hg.lt
  have HC := Lib.hid (conC okCh (fun _ c => c.q) w.heap.size (fun s W => Below ga w W ∧ Blk W ga 3 #[.int .i64 s] ∧ Blk W w.heap.size 84 #[.func (.func 58) #[] #[pt ga]]) A n c l hn
    (fun s W h => hx W h.1)
    (fun s x W h => (eachOneC ga w.heap.size s x W h.2.1 h.2.2).mono fun e w' ⟨h1, h2, h3⟩ => ⟨h1,
      ⟨h3.os.trans h.1.os, h3.tape.trans h.1.tape, h3.output.trans h.1.output, Nat.le_trans h.1.size h3.size, fun k hk => (h3.block k (by have := h.1.size; omega) (by omega)).trans (h.1.block k hk)⟩, h2,
      (h3.block _ h.2.2.lt (by omega)).trans h.2.2⟩)
    a (w.alloc (.cells #[.func (.func 58) #[] #[pt ga]] 84)) ⟨(Below.refl ga w).alloc (by omega) _, hg.below (nbl w _) hlt, Blk.new w _ _⟩)
  go_enter Tryd.func57, Tryd.ntmps57
  go_wp2_with fail
  refine HC.out.mono ?_
  rintro e w1 ⟨rfl, s', h1, _, _⟩
  go_wp2
  go_ret
  exact ⟨by rw [← scan_rise]; simp, h1⟩

theorem eachOneW (ga gf : Nat) (a : ByteArray) (c : Wt) (W : World) (hg : Blk W ga 9 #[.string a]) (hf : Blk W gf 91 #[.func (.func 67) #[] #[pt ga]]) :
    Calls Tryd.prog 82 #[(wtv c), pt gf] W fun e w' => e = .returned (.bool (!(okWt a c))) ∧ Blk w' ga 9 #[.string ((fun _ c => c.k) a c)] ∧ Grow (fun k => k = ga) W w' := by
  have h1 : Blk (W.alloc (.cells #[.string c.k, .int .i64 c.q] 68)) ga 9 #[.string a] := hg.below (nbl W _) hg.lt
  have h2 : Blk (W.alloc (.cells #[.string c.k, .int .i64 c.q] 68)) gf 91 #[.func (.func 67) #[] #[pt ga]] := hf.below (nbl W _) hf.lt
  have h3 := Blk.new W 68 #[.string c.k, .int .i64 c.q]
  have HO := Lib.hid (writeOne ga a c _ rfl _ h1)
  have c2 := h2.cell 0
  have c3 := h3.cell 0
  simp at c2 c3
  have HG := Lib.hid (Grow.of_below (F := fun k => k = ga) (nbl W (.cells #[.string c.k, .int .i64 c.q] 68)))
  clear h1 h2 h3 hg hf
  go_enter Tryd.func82, Tryd.ntmps82
  go_wp2_with fail
  refine HO.out.mono ?_
  rintro e w1 ⟨rfl, q1, q2⟩
  have q3 := HG.out.trans (q2.mono fun k hk => .inl hk)
  go_wp2
  go_ret
  exact ⟨rfl, q1, q3⟩
theorem eachW (ga : Nat) (a : ByteArray) (A : Option Addr) (n c : Nat) (l : List Wt) (w : World) (hn : n ≤ 9223372036854775807) (hx : ∀ W, Below ga w W → WtAt W A n l) (hg : Blk w ga 9 #[.string a]) :
    Calls Tryd.prog 66 #[.slice A n c, .func (.func 67) #[] #[pt ga]] w fun e w' => e = .returned (.bool (riseW a l)) ∧ Below ga w w' := by
  have hlt := hg.lt
  have HC := Lib.hid (conW okWt (fun _ c => c.k) w.heap.size (fun s W => Below ga w W ∧ Blk W ga 9 #[.string s] ∧ Blk W w.heap.size 91 #[.func (.func 67) #[] #[pt ga]]) A n c l hn
    (fun s W h => hx W h.1)
    (fun s x W h => (eachOneW ga w.heap.size s x W h.2.1 h.2.2).mono fun e w' ⟨h1, h2, h3⟩ => ⟨h1,
      ⟨h3.os.trans h.1.os, h3.tape.trans h.1.tape, h3.output.trans h.1.output, Nat.le_trans h.1.size h3.size, fun k hk => (h3.block k (by have := h.1.size; omega) (by omega)).trans (h.1.block k hk)⟩, h2,
      (h3.block _ h.2.2.lt (by omega)).trans h.2.2⟩)
    a (w.alloc (.cells #[.func (.func 67) #[] #[pt ga]] 91)) ⟨(Below.refl ga w).alloc (by omega) _, hg.below (nbl w _) hlt, Blk.new w _ _⟩)
  go_enter Tryd.func66, Tryd.ntmps66
  go_wp2_with fail
  refine HC.out.mono ?_
  rintro e w1 ⟨rfl, s', h1, _, _⟩
  go_wp2
  go_ret
  exact ⟨by rw [← scan_riseW]; simp, h1⟩

theorem eachOneS (gf : Nat) (c : Int × Int) (W : World) (hf : Blk W gf 81 #[.func (.func 55) #[] #[]]) :
    Calls Tryd.prog 72 #[sv c.1 c.2, pt gf] W fun e w' => e = .returned (.bool (!(mayP c))) ∧ Below W.heap.size W w' := by
  obtain ⟨x, y⟩ := c
  have h2 : Blk (W.alloc (.cells #[.int .i64 x, .int .i64 y] 23)) gf 81 #[.func (.func 55) #[] #[]] := hf.below (nbl W _) hf.lt
  have h3 := Blk.new W 23 #[.int .i64 x, .int .i64 y]
  have HO := Lib.hid (stampOne (x, y) _ rfl (W.alloc (.cells #[.int .i64 x, .int .i64 y] 23)))
  have c2 := h2.cell 0
  have c3 := h3.cell 0
  simp at c2 c3
  clear h2 h3 hf
  go_enter Tryd.func72, Tryd.ntmps72
  go_wp2_with fail
  refine HO.out.mono ?_
  rintro e w1 ⟨rfl, q1⟩
  have q3 := (nbl W (.cells #[.int .i64 x, .int .i64 y] 23)).trans (q1.mono (by simp))
  go_wp2
  go_ret
  exact ⟨rfl, q3⟩
theorem areStamps_c (A : Option Addr) (n c : Nat) (l : List (Int × Int)) (b : Bool) (hb : l.all mayP = b) (w : World) (hn : n ≤ 9223372036854775807) (hx : Stamps w A n l) :
    Calls Tryd.prog 30 #[.slice A n c] w fun e w' => e = .returned (.bool b) ∧ Below w.heap.size w w' := by
  subst hb
  have HC := Lib.hid (conS (fun (_ : Unit) p => mayP p) (fun u _ => u) w.heap.size (fun _ W => Below w.heap.size w W ∧ Blk W w.heap.size 81 #[.func (.func 55) #[] #[]]) A n c l hn
    (fun s W h => hx.below' h.1)
    (fun s x W h => (eachOneS w.heap.size x W h.2).mono fun e w' ⟨h1, h3⟩ => ⟨h1, h.1.trans (h3.mono h.1.size), (h3.block _ h.2.lt).trans h.2⟩)
    () (w.alloc (.cells #[.func (.func 55) #[] #[]] 81)) ⟨nbl w _, Blk.new w _ _⟩)
  have HE : Calls Tryd.prog 54 #[.slice A n c, .func (.func 55) #[] #[]] w fun e w' => e = .returned (.bool (l.all mayP)) ∧ Below w.heap.size w w' := by
    go_enter Tryd.func54, Tryd.ntmps54
    go_wp2_with fail
    refine HC.out.mono ?_
    rintro e w1 ⟨rfl, s', h1, _⟩
    go_wp2
    go_ret
    exact ⟨by rw [← scan_all]; simp, h1⟩
  clear HC
  have HE' := Lib.hid HE
  clear HE
  go_enter Tryd.func30, Tryd.ntmps30
  go_wp2_with fail
  refine HE'.out.mono ?_
  rintro e w1 ⟨rfl, h1⟩
  go_wp2
  go_ret
  exact ⟨rfl, h1⟩
theorem areChanges_c (A : Option Addr) (n c : Nat) (l : List Ch) (b : Bool) (hb : (decide (1 ≤ l.length ∧ l.length ≤ 16) && rise 0 l) = b) (w : World) (hn : n ≤ 9223372036854775807) (hx : ChAt w A n l) :
    Calls Tryd.prog 31 #[.slice A n c] w fun e w' => e = .returned (.bool b) ∧ Below w.heap.size w w' := by
  have hl := hx.1
  by_cases h1 : 1 ≤ n ∧ n ≤ 16
  · rw [hl, decide_eq_true h1, Bool.true_and] at hb
    subst hb
    obtain ⟨h2, h3⟩ := h1
    have HC := Lib.hid (eachC w.heap.size 0 A n c l (w.alloc (.cells #[.int .i64 0] 3)) hn (fun W hb => hx.below ((nbl w _).trans hb)) (Blk.new w _ _))
    go_enter Tryd.func31, Tryd.ntmps31
    go_wp2_with fail
    refine HC.out.mono ?_
    rintro e w1 ⟨rfl, q1⟩
    have q2 := (nbl w (.cells #[.int .i64 0] 3)).trans q1
    go_wp2
    go_ret
    exact ⟨rfl, q2⟩
  · rw [hl, decide_eq_false h1, Bool.false_and] at hb
    subst hb
    by_cases h2 : n < 1
    · go_enter Tryd.func31, Tryd.ntmps31
      go_wp2
      go_ret
      exact ⟨rfl, Below.refl _ _⟩
    · have h3 : 16 < n := by omega
      go_enter Tryd.func31, Tryd.ntmps31
      go_wp2
      go_ret
      exact ⟨rfl, Below.refl _ _⟩
theorem areWrites_c (st : Int) (A : Option Addr) (n c : Nat) (l : List Wt) (b : Bool) (hb : areW st l = b) (w : World) (hn : n ≤ 9223372036854775807) (hx : WtAt w A n l) :
    Calls Tryd.prog 42 #[.int .i64 st, .slice A n c] w fun e w' => e = .returned (.bool b) ∧ Below w.heap.size w w' := by
  have hl := hx.1
  unfold areW at hb
  by_cases h0 : st = 2
  · subst h0
    rw [if_pos rfl] at hb
    by_cases h1 : n ≤ 32
    · rw [hl, decide_eq_true h1, Bool.true_and] at hb
      subst hb
      have HC := Lib.hid (eachW w.heap.size ⟨#[]⟩ A n c l (w.alloc (.cells #[.string ⟨#[]⟩] 9)) hn (fun W hb => hx.below ((nbl w _).trans hb)) (Blk.new w _ _))
      go_enter Tryd.func42, Tryd.ntmps42
      go_wp2_with fail
      refine HC.out.mono ?_
      rintro e w1 ⟨rfl, q1⟩
      have q2 := (nbl w (.cells #[.string ⟨#[]⟩] 9)).trans q1
      go_wp2
      go_ret
      exact ⟨rfl, q2⟩
    · rw [hl, decide_eq_false h1, Bool.false_and] at hb
      subst hb
      go_enter Tryd.func42, Tryd.ntmps42
      go_wp2
      go_ret
      exact ⟨rfl, Below.refl _ _⟩
  · rw [if_neg h0, hl] at hb
    have h2 : (st != 2) = true := by simpa using h0
    by_cases h3 : n = 0
    · rw [decide_eq_true h3] at hb
      subst hb h3
      go_enter Tryd.func42, Tryd.ntmps42
      go_wp2
      go_ret
      exact ⟨rfl, Below.refl _ _⟩
    · rw [decide_eq_false h3] at hb
      subst hb
      have h4 : ((n : Int) == 0) = false := by simp; omega
      go_enter Tryd.func42, Tryd.ntmps42
      go_wp2
      go_ret
      exact ⟨by first | rfl | simp; omega, Below.refl _ _⟩
end Go.Proofs.YtiafmbfeigcinaaDoor
set_option linter.unusedVariables false
set_option linter.unusedSimpArgs false
set_option maxRecDepth 100000
namespace Go.Proofs.YtiafmbfeigcinaaDoor
open Go.RowKit

/-- What a call makes of a thing on the blocks F. -/
def ATurn (A' : As) (F : Nat → Prop) (V V' : World) : Prop := ∃ F', A'.p V' F' ∧ Grow F V V' ∧ ∀ k, F' k → nF F V V' k
theorem ATurn.refl {A : As} {F : Nat → Prop} {V : World} (h : A.p V F) : ATurn A F V V := ⟨F, h, Grow.refl F V, fun k e => .inl e⟩
theorem nF_nF {F F1 : Nat → Prop} {V V1 V2 : World} (h1 : V.heap.size ≤ V1.heap.size) (h2 : V1.heap.size ≤ V2.heap.size) (hs : ∀ k, F1 k → nF F V V1 k) : ∀ k, nF F1 V1 V2 k → nF F V V2 k := by
  rintro k (e | e)
  · rcases hs k e with e | e
    · exact .inl e
    · exact .inr ⟨e.1, by omega⟩
  · exact .inr ⟨by omega, e.2⟩
theorem ATurn.trans {A1 A2 : As} {F : Nat → Prop} {V V1 V2 : World} (h : ATurn A1 F V V1) (h2 : ∀ F1, A1.p V1 F1 → (∀ k, F1 k → nF F V V1 k) → ATurn A2 F1 V1 V2) : ATurn A2 F V V2 := by
  obtain ⟨F1, a1, a2, a3⟩ := h
  obtain ⟨F2, b1, b2, b3⟩ := h2 F1 a1 a3
  exact ⟨F2, b1, a2.trans (b2.mono a3), fun k e => nF_nF a2.size b2.size a3 k (b3 k e)⟩
theorem ATurn.below {A1 : As} {F : Nat → Prop} {V V1 V2 : World} (h : ATurn A1 F V V1) (hb : Below V1.heap.size V1 V2) : ATurn A1 F V V2 :=
  h.trans fun F1 a1 _ => ⟨F1, A1.on a1 hb.size (fun k e => hb.block k (A1.lt a1 k e)), Grow.of_below hb, fun k e => .inl e⟩
theorem ATurn.pre {A1 : As} {F : Nat → Prop} {V0 V V1 : World} (hb : Below V0.heap.size V0 V) (h : ATurn A1 F V V1) (hF : ∀ k, F k → k < V0.heap.size) : ATurn A1 F V0 V1 := by
  obtain ⟨F1, a1, a2, a3⟩ := h
  exact ⟨F1, a1, (Grow.of_below (F := F) hb).trans (a2.mono fun k e => .inl e), nF_nF hb.size a2.size (fun k e => .inl e) |> fun f k e => f k (a3 k e)⟩
theorem Has.aturn {w V V' : World} {A A' : As} {l : List As} (h : Has w (A :: l) V) (hc : ∀ F, A.p V F → ATurn A' F V V') : Has w (A' :: l) V' := by
  obtain ⟨F, h1, _, h2⟩ := h.step
  obtain ⟨F', a1, a2, a3⟩ := hc F h1
  exact h2 V' A' F' a2 a1 a3

/-- A pen: a block, and a row of bytes that is newer. -/
def penA (g : Nat) (xs : List UInt8) : As where
  p V F := ∃ v, Blk V g 45 #[v] ∧ Own V (g + 1) v xs ∧ ∀ k, F k ↔ k = g ∨ v.ownBlock = some k
  on {V V' F} h _ hk := by
    obtain ⟨v, h1, h2, h3⟩ := h
    refine ⟨v, (hk _ ((h3 _).2 (.inl rfl))).trans h1, ⟨h2.1, h2.2.elim .inl (fun ⟨q, cap, cur, e, hq, hh, r⟩ => .inr ⟨q, cap, cur, e, hq, (hk q ((h3 q).2 (.inr (by rw [e]; rfl)))).trans hh, r⟩)⟩, h3⟩
  lt {V F} h k e := by
    obtain ⟨v, h1, h2, h3⟩ := h
    rcases (h3 k).1 e with rfl | e
    · exact h1.lt
    · rcases h2.2 with ⟨rfl, _⟩ | ⟨q, cap, cur, rfl, hq, hh, _⟩
      · cases e
      · have e3 : some q = some k := e
        injection e3 with e3
        subst e3
        exact (Array.getElem?_eq_some_iff.1 hh).1
theorem own_block_ge {V : World} {B : Nat} {v : Value} {xs : List UInt8} (h : Own V B v xs) : ∀ k, v.ownBlock = some k → B ≤ k ∧ k < V.heap.size := by
  intro k e
  rcases h.2 with ⟨rfl, _⟩ | ⟨q, cap, cur, rfl, hq, hh, _⟩
  · cases e
  · have e3 : some q = some k := e
    injection e3 with e3
    subst e3
    exact ⟨hq, (Array.getElem?_eq_some_iff.1 hh).1⟩
theorem slice_form {V : World} {B s n : Nat} {e : TypeId} {v : Value} {l : List Value} (h : V.ownsRow B e s v n l) : ∃ A m c, v = .slice A m c := by
  rcases h.2 with ⟨rfl, _⟩ | ⟨q, cap, cur, rfl, _⟩
  · exact ⟨_, _, _, rfl⟩
  · exact ⟨_, _, _, rfl⟩
theorem penA_new (V : World) : (penA V.heap.size []).p (V.alloc (.cells #[.slice none 0 0] 45)) (fun k => k = V.heap.size) :=
  ⟨.slice none 0 0, Blk.new V _ _, World.ownsRow_nil _ _ _ _, fun k => ⟨.inl, fun e => e.elim id (fun e => nomatch e)⟩⟩
/-- What append, and the store behind it, make of a pen. -/
theorem penA_app {w1 w2 : World} {g : Nat} {v v' : Value} {xs l : List UInt8} {m : Nat} {F : Nat → Prop} (hB : Blk w1 g 45 #[v]) (hO : Own w1 (g + 1) v xs) (hF : ∀ k, F k ↔ k = g ∨ v.ownBlock = some k)
    (hown : w2.ownsRow (g + 1) 5 1 v' m ((xs ++ l).map bv)) (hm : m = (xs ++ l).length) (hg : w1.grownBy w2 v.ownBlock) (hv : v'.ownBlock = v.ownBlock ∨ v'.ownBlock = some w1.heap.size) :
    Blk w2 g 45 #[v] ∧ ATurn (penA g (xs ++ l)) F w1 (w2.setCell ⟨g, 0, none⟩ v') := by
  subst hm
  have hgb : Blk w2 g 45 #[v] := (hg.block g hB.lt (fun e => by have := own_block_ge hO g e.symm; omega)).trans hB
  have hG : Grow F w1 w2 := Grow.by_ hg (fun k e => (hF k).2 (.inr e))
  have hO2 : Own w2 (g + 1) v' (xs ++ l) := hown
  refine ⟨hgb, fun k => k = g ∨ v'.ownBlock = some k, ⟨v', hgb.set_ 0 v', hO2.far (by simp) v', fun k => Iff.rfl⟩, hG.set (p := ⟨g, 0, none⟩) (.inl ((hF g).2 (.inl rfl))) _, fun k e => ?_⟩
  have hsz : (w2.setCell ⟨g, 0, none⟩ v').heap.size = w2.heap.size := by rw [World.setCell]; simp
  rcases e with rfl | e
  · exact .inl ((hF _).2 (.inl rfl))
  · rcases hv with h | h
    · exact .inl ((hF k).2 (.inr (h ▸ e)))
    · have hk := own_block_ge hO2 k e
      rw [h] at e
      injection e with e
      exact .inr ⟨by omega, by rw [hsz]; exact hk.2⟩
theorem flat_take {α : Type} (f : α → List UInt8) (l : List α) (j : Nat) (h : j < l.length) : (l.take (j + 1)).flatMap f = (l.take j).flatMap f ++ f (l[j]'h) := by
  rw [List.take_succ_eq_append_getElem h, List.flatMap_append]
  simp
theorem flat_take_le {α : Type} (f : α → List UInt8) (l : List α) (j m : Nat) (hm : ∀ x ∈ l, (f x).length ≤ m) : ((l.take j).flatMap f).length ≤ m * l.length := by
  have h1 := flat_len (t := f) (l := l.take j) fun x hx => hm x (List.mem_of_mem_take hx)
  have h2 : (l.take j).length ≤ l.length := by rw [List.length_take]; omega
  have h3 := Nat.mul_le_mul_left m h2
  omega

set_option maxHeartbeats 4000000 in
theorem penNums (g : Nat) (A : Option Addr) (n c : Nat) (ns : List Int) (xs : List UInt8) (V : World) (F : Nat → Prop) (hP : (penA g xs).p V F) (hI : IAt V A n ns) (hA : ∀ a, A = some a → ¬ F a.block)
    (hN : ∀ x ∈ ns, 0 ≤ x ∧ x ≤ 9007199254740991) (hn : n ≤ 1000) (hx : xs.length ≤ 1099511627776) :
    Calls Tryd.prog 20 #[pt g, .slice A n c] V fun e w' => e = .returned (.tuple #[]) ∧ ATurn (penA g (xs ++ ns.flatMap nbs)) F V w' := by
  have HN := Lib.hid hN
  have HI := Lib.hid hI
  have HA := Lib.hid hA
  have hT := Lib.hid (ATurn.refl hP)
  clear hN hI hA hP
  go_enter Tryd.func20, Tryd.ntmps20
  go_wp2
  go_loopw [10] (fun i wr => ∃ j : Nat, j ≤ n ∧ i = .int .i64 j ∧ Hid (ATurn (penA g (xs ++ (ns.take j).flatMap nbs)) F V wr)) (fun i _ => n - (intOf i).toNat)
  case atStart => exact ⟨0, Nat.zero_le _, rfl, by simpa using hT⟩
  case round =>
    obtain ⟨j, hj, rfl, HH⟩ := hrel
    have hl := HI.out.1
    by_cases hlt : j < n
    · have hjl : j < ns.length := by omega
      have ht := HH.out
      obtain ⟨F1, ⟨v, b1, b2, b3⟩, b4, b5⟩ := HH.out
      have hIw : IAt wr A n ns := HI.out.keep fun a ha k u hu => by
        have hlt := World.block_lt_of_cell? V _ hu
        have := b4.block a.block hlt (HA.out a ha)
        unfold World.cell? at hu ⊢
        simp only at hu ⊢
        rw [this]
        exact hu
      obtain ⟨b, o, rfl, hc⟩ := hIw.2 (by omega)
      have h1 := hc j hjl
      have hx2 := HN.out _ (List.getElem_mem hjl)
      have hfl := flat_take nbs ns j hjl
      have hfb := flat_take_le nbs ns j 8 (fun x hx => num_len (HN.out x hx).2)
      obtain ⟨q, hq⟩ : ∃ q : Nat, ns[j]'hjl = (q : Int) := ⟨(ns[j]'hjl).toNat, by omega⟩
      rw [hq] at h1 hx2 hfl
      rw [num_nat] at hfl
      have hel := enc_len q (by omega)
      generalize hys : xs ++ (ns.take j).flatMap nbs = ys at *
      have hyl : ys.length ≤ 1099511635776 := by rw [← hys, List.length_append]; omega
      have HFL := Lib.hid (show ys ++ enc q = xs ++ (ns.take (j + 1)).flatMap nbs by rw [hfl, ← hys, List.append_assoc])
      have HQ := Lib.hid (num_any q (enc q) wr (by omega) rfl)
      have vz := b1.cell 0
      simp at vz
      have HB := Lib.hid (show Blk wr g 45 #[v] from b1)
      have HT := Lib.hid ht
      clear hc hIw hfl hys hfb hq HH b4 b5 ht
      go_wp2_with (first
        | (go_at_call 47; refine HQ.out.mono ?_; rintro e w1 ⟨Ar, mr, cr, rfl, hor, hr1, hr2, hb1⟩
           have hB1 : Blk w1 g 45 #[v] := HB.out.below hb1 HB.out.lt
           have hO1 : Own w1 (g + 1) v ys := b2.below hb1
           have v1 := hB1.cell 0
           simp at v1)
        | (at_builtin; refine wpList_app rfl _ _ 43 rfl (g + 1) 5 Tryd.underlying43 info5 v ys.length ys (enc q) rfl ?ho Ar mr cr rfl hor.at_ ?hb ?hs ?_))
      case ho => exact hO1
      case hb => have := hor.len; omega
      case hs => exact hB1.lt
      intro v' w2 hown hg hv
      obtain ⟨c1, c2⟩ := penA_app hB1 hO1 b3 (by rw [List.map_append]; exact hown) (by rw [List.length_append, hor.len]) hg hv
      have c3 := c1.cell 0
      have c4 := c1.frozen 0
      simp at c3
      have HC := Lib.hid c2
      obtain ⟨Av, nv, cv, hve⟩ := slice_form hown
      clear c1 c2 hown hg hv
      subst hve
      go_wp2
      go_roundw
      case rel =>
        refine ⟨j + 1, by omega, by go_num, Lib.hid ?_⟩
        rw [← HFL.out]
        exact ((HT.out.below hb1).trans fun F2 a1 a2 => by
          obtain ⟨v2, d1, d2, d3⟩ := a1
          have hvv : v2 = v := by
            have := d1.symm.trans hB1
            simpa using this
          subst hvv
          have hFF : F2 = F1 := by funext k; exact propext ((d3 k).trans (b3 k).symm)
          rw [hFF]
          exact HC.out)
      case measure => simp [intOf]; omega
    · have hjn : j = n := by omega
      have HE := Lib.hid (show ATurn (penA g (xs ++ ns.flatMap nbs)) F V wr by
        have := HH.out
        rw [List.take_of_length_le (by omega)] at this
        exact this)
      clear HH
      go_wp2
      go_end0
      exact ⟨rfl, HE.out⟩
end Go.Proofs.YtiafmbfeigcinaaDoor
