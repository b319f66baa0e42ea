/-
  Layer 11, the code: what may be: numbers, keys, values; the functions that look at one change, one write, one stamp.
  Layer 11: what each looks through, by a function that is handed in: slices.IndexFunc, ContainsFunc, each; areStamps, areChanges, areWrites.
  Layer 11, the code: CheckIntent, CheckRecord.
  Layer 11, the code: keys under which something stands; the examples.
-/
import Derived.Test.YtchebellejkdnaaDoorZ12
import Derived.Test.YtchebellejkdnaaDoorZ11
import Derived.Test.YtchebellejkdnaaDoorZ14
import Derived.Test.YtchebellejkdnaaDoorZ13
set_option linter.unusedVariables false
set_option linter.unusedSimpArgs false
set_option maxRecDepth 100000
namespace Go.Proofs.YtchebellejkdnaaDoor
open Go.RowKit

theorem isId_c (n : Int) (b : Bool) (h : isI n = b) (w : World) : Calls Tryd.prog 80 #[.int .i64 n] w fun e w' => e = .returned (.bool b) ∧ w = w' := by
  subst h
  go_enter Tryd.func80, Tryd.ntmps80
  go_wp2
  all_goals go_ret
  all_goals refine ⟨congrArg (fun v => Ending.returned (Value.bool v)) ?_, rfl⟩
  all_goals unfold isI
  all_goals first | exact (decide_eq_true (by omega)).symm | exact (decide_eq_false (by omega)).symm | exact decide_eq_decide.2 (by omega)
theorem isNumber_c (n : Int) (b : Bool) (h : isN n = b) (w : World) : Calls Tryd.prog 66 #[.int .i64 n] w fun e w' => e = .returned (.bool b) ∧ w = w' := by
  subst h
  go_enter Tryd.func66, Tryd.ntmps66
  go_wp2
  all_goals go_ret
  all_goals refine ⟨congrArg (fun v => Ending.returned (Value.bool v)) ?_, rfl⟩
  all_goals unfold isN
  all_goals first | exact (decide_eq_true (by omega)).symm | exact (decide_eq_false (by omega)).symm | exact decide_eq_decide.2 (by omega)
theorem isStatus_c (n : Int) (b : Bool) (h : isS n = b) (w : World) : Calls Tryd.prog 60 #[.int .i64 n] w fun e w' => e = .returned (.bool b) ∧ w = w' := by
  subst h
  go_enter Tryd.func60, Tryd.ntmps60
  go_wp2
  all_goals go_ret
  all_goals refine ⟨congrArg (fun v => Ending.returned (Value.bool v)) ?_, rfl⟩
  all_goals unfold isS
  all_goals first | exact (decide_eq_true (by omega)).symm | exact (decide_eq_false (by omega)).symm | exact decide_eq_decide.2 (by omega)
theorem isKey_c (s : ByteArray) (b : Bool) (h : isK s = b) (w : World) : Calls Tryd.prog 89 #[.string s] w fun e w' => e = .returned (.bool b) ∧ w = w' := by
  have hb : ((if 1 ≤ s.size ∧ s.size ≤ 32 then 0 else 2 : Int) == 0) = b := by
    subst h
    unfold isK
    by_cases h1 : 1 ≤ s.size ∧ s.size ≤ 32
    · rw [if_pos h1, decide_eq_true h1]; rfl
    · rw [if_neg h1, decide_eq_false h1]; rfl
  have HC := Lib.hid (check s)
  generalize (if 1 ≤ s.size ∧ s.size ≤ 32 then 0 else 2 : Int) = x at hb HC
  have HB := Lib.hid hb
  clear hb h
  go_enter Tryd.func89, Tryd.ntmps89
  go_wp2_with fail
  refine (HC.out _).mono ?_
  rintro e w1 ⟨rfl, rfl⟩
  go_wp2
  go_ret
  exact ⟨congrArg (fun b => Ending.returned (Value.bool b)) HB.out, rfl⟩
theorem empty_iff (s : ByteArray) : (s.toList == ([] : List UInt8)) = decide (s.size = 0) := by
  rw [Lib.toList_data, ← sb_len]
  show (sb s == []) = _
  generalize sb s = l
  cases l <;> rfl
theorem empty_is (s : ByteArray) : s.toList.isEmpty = decide (s.size = 0) := by
  rw [Lib.toList_data, ← sb_len]
  show (sb s).isEmpty = _
  generalize sb s = l
  cases l <;> rfl
theorem isValue_c (s : ByteArray) (d : Bool) (b : Bool) (h : isV s d = b) (w : World) : Calls Tryd.prog 68 #[.string s, .bool d] w fun e w' => e = .returned (.bool b) ∧ w = w' := by
  subst h
  have h1 := empty_iff s
  have h2 := empty_is s
  by_cases h0 : s.size = 0
  · rw [decide_eq_true h0] at h1 h2
    cases d
    all_goals go_enter Tryd.func68, Tryd.ntmps68
    all_goals go_wp2
    all_goals go_ret
    all_goals refine ⟨congrArg (fun v => Ending.returned (Value.bool v)) ?_, rfl⟩
    all_goals unfold isV
    all_goals simp [h0, h1, h2]
  · rw [decide_eq_false h0] at h1 h2
    cases d
    all_goals go_enter Tryd.func68, Tryd.ntmps68
    all_goals go_wp2
    all_goals go_ret
    all_goals refine ⟨congrArg (fun v => Ending.returned (Value.bool v)) ?_, rfl⟩
    all_goals unfold isV
    all_goals first | (simp [h0, h1, h2]; done) | (simp [h0, h1, h2]; omega)
theorem argUnless_c (b : Bool) (w : World) : Calls Tryd.prog 53 #[.bool b] w fun e w' => e = .returned (.int .i64 (if b then 0 else 2)) ∧ w = w' := by
  cases b
  all_goals go_enter Tryd.func53, Tryd.ntmps53
  all_goals go_wp2
  all_goals go_ret
  all_goals exact ⟨rfl, rfl⟩
theorem isOwner_c (id ep pr : Int) (an : ByteArray) (b : Bool) (h : hdr id ep pr an = b) (w : World) : Calls Tryd.prog 54 #[.int .i64 id, .int .i64 ep, .int .i64 pr, .string an] w fun e w' => e = .returned (.bool b) ∧ w = w' := by
  subst h
  cases h1 : isI id
  all_goals cases h2 : isN ep
  all_goals cases h4 : isK an
  all_goals go_enter Tryd.func54, Tryd.ntmps54
  all_goals go_wp2_with (first
    | (go_at_call 80; refine (isId_c _ _ h1 _).mono ?_; rintro e w1 ⟨rfl, rfl⟩)
    | (go_at_call 66; refine (isNumber_c _ _ h2 _).mono ?_; rintro e w1 ⟨rfl, rfl⟩)
    | (go_at_call 89; refine (isKey_c _ _ h4 _).mono ?_; rintro e w1 ⟨rfl, rfl⟩))
  all_goals go_ret
  all_goals refine ⟨congrArg (fun v => Ending.returned (Value.bool v)) ?_, rfl⟩
  all_goals unfold hdr
  all_goals rw [h1, h2, h4]
  all_goals first
    | (simp; done)
    | (rw [show isP pr = true from decide_eq_true (by omega)]; rfl)
    | (rw [show isP pr = false from decide_eq_false (by omega)]; rfl)
    | (unfold isP; simp; omega)

/-! ### one change, one write, one stamp -/
theorem stampOne (p : Int × Int) (b : Bool) (h : mayP p = b) (w : World) : Calls Tryd.prog 91 #[sv p.1 p.2] w fun e w' => e = .returned (.bool b) ∧ Below w.heap.size w w' := by
  have hb : (ck p.1 p.2 == 0) = b := by
    subst h
    unfold ck mayP
    cases may p.1 p.2 <;> rfl
  have HC := Lib.hid (check_ok p.1 p.2)
  generalize ck p.1 p.2 = x at hb HC
  have HB := Lib.hid hb
  obtain ⟨a, c⟩ := p
  clear hb h
  go_enter Tryd.func91, Tryd.ntmps91
  go_wp2_with fail
  refine (HC.out _).mono ?_
  rintro e w1 ⟨rfl, hb1⟩
  have hb2 := (nbl w (.cells #[.int .i64 a, .int .i64 c] 23)).trans (hb1.mono (by simp))
  go_wp2
  go_ret
  exact ⟨congrArg (fun b => Ending.returned (Value.bool b)) HB.out, hb2⟩
set_option maxHeartbeats 4000000 in
theorem changeOne (ga : Nat) (a : Int) (c : Ch) (b : Bool) (h : okCh a c = b) (w : World) (hg : Blk w ga 3 #[.int .i64 a]) :
    Calls Tryd.prog 93 #[chv c, pt ga] w fun e w' => e = .returned (.bool b) ∧ Blk w' ga 3 #[.int .i64 c.q] ∧ Grow (fun k => k = ga) w w' := by
  subst h
  obtain ⟨q, s, d⟩ := c
  have hne : ga ≠ w.heap.size := by have := hg.lt; omega
  have hX := Blk.new w 77 #[.int .i64 q, .string s, .bool d]
  have hG : Blk (w.alloc (.cells #[.int .i64 q, .string s, .bool d] 77)) ga 3 #[.int .i64 a] := hg.below (nbl w _) hg.lt
  have hR : Grow (fun k => k = ga) w ((w.alloc (.cells #[.int .i64 q, .string s, .bool d] 77)).setCell ⟨ga, 0, none⟩ (.int .i64 q)) := (Grow.of_below (F := fun k => k = ga) (nbl w _)).set (p := ⟨ga, 0, none⟩) (.inl rfl) _
  have hS := hG.set_ 0 (.int .i64 q)
  have hY : Blk ((w.alloc (.cells #[.int .i64 q, .string s, .bool d] 77)).setCell ⟨ga, 0, none⟩ (.int .i64 q)) w.heap.size 77 #[.int .i64 q, .string s, .bool d] := by
    unfold Blk at *
    simp only [World.setCell, Array.getElem?_modify]
    rw [if_neg hne]
    exact hX
  have g0 := hG.cell 0
  have gz := hG.frozen 0
  have x0 := hX.cell 0
  have y0 := hY.cell 0
  have y1 := hY.cell 1
  have y2 := hY.cell 2
  simp at g0 x0 y0 y1 y2
  have HS := Lib.hid hS
  have HR := Lib.hid hR
  clear hX hG hS hY hR hg
  cases h1 : isI q
  all_goals cases h2 : isV s (!d)
  all_goals by_cases hlt : a < q
  all_goals go_enter Tryd.func93, Tryd.ntmps93
  all_goals go_wp2_with (first
    | (go_at_call 80; refine (isId_c _ _ h1 _).mono ?_; rintro e w1 ⟨rfl, rfl⟩)
    | (go_at_call 68; refine (isValue_c _ _ _ h2 _).mono ?_; rintro e w1 ⟨rfl, rfl⟩))
  all_goals go_ret
  all_goals refine ⟨congrArg (fun v => Ending.returned (Value.bool v)) ?_, HS.out, HR.out⟩
  all_goals unfold okCh
  all_goals simp only [h1, h2]
  all_goals first | (rw [decide_eq_true hlt]; rfl) | (rw [decide_eq_false (by omega)]; rfl)
theorem slt_gt (a s : ByteArray) : (!(Op.bytesLess s.toList a.toList || s.toList == a.toList)) = slt a s := by
  rw [kbeq]
  show (!(kl s a || decide (s = a))) = kl a s
  by_cases h : s = a
  · subst h
    rw [kl_irr, decide_eq_true rfl]; rfl
  · rw [decide_eq_false h]
    cases h1 : kl s a with
    | true => rw [kl_asym h1]; rfl
    | false =>
      cases h2 : kl a s with
      | true => rfl
      | false => exact absurd (kl_total h1 h2) h
set_option maxHeartbeats 4000000 in
theorem writeOne (ga : Nat) (a : ByteArray) (c : Wt) (b : Bool) (h : okWt a c = b) (w : World) (hg : Blk w ga 9 #[.string a]) :
    Calls Tryd.prog 95 #[wtv c, pt ga] w fun e w' => e = .returned (.bool b) ∧ Blk w' ga 9 #[.string c.k] ∧ Grow (fun k => k = ga) w w' := by
  subst h
  obtain ⟨s, q⟩ := c
  have hne : ga ≠ w.heap.size := by have := hg.lt; omega
  have hX := Blk.new w 89 #[.string s, .int .i64 q]
  have hG : Blk (w.alloc (.cells #[.string s, .int .i64 q] 89)) ga 9 #[.string a] := hg.below (nbl w _) hg.lt
  have hR : Grow (fun k => k = ga) w ((w.alloc (.cells #[.string s, .int .i64 q] 89)).setCell ⟨ga, 0, none⟩ (.string s)) := (Grow.of_below (F := fun k => k = ga) (nbl w _)).set (p := ⟨ga, 0, none⟩) (.inl rfl) _
  have hS := hG.set_ 0 (.string s)
  have hY : Blk ((w.alloc (.cells #[.string s, .int .i64 q] 89)).setCell ⟨ga, 0, none⟩ (.string s)) w.heap.size 89 #[.string s, .int .i64 q] := by
    unfold Blk at *
    simp only [World.setCell, Array.getElem?_modify]
    rw [if_neg hne]
    exact hX
  have g0 := hG.cell 0
  have gz := hG.frozen 0
  have x0 := hX.cell 0
  have y0 := hY.cell 0
  have y1 := hY.cell 1
  simp at g0 x0 y0 y1
  have HS := Lib.hid hS
  have HR := Lib.hid hR
  clear hX hG hS hY hR hg
  have hl0 := slt_gt a s
  cases h1 : isI q
  all_goals cases h2 : isK s
  all_goals cases hlt : slt a s
  all_goals rw [hlt] at hl0
  all_goals generalize hx1 : Op.bytesLess s.toList a.toList = x1 at hl0
  all_goals generalize hx2 : (s.toList == a.toList) = x2 at hl0
  all_goals have hx3 : (x1 || x2) = !(!(x1 || x2)) := by simp
  all_goals rw [hl0] at hx3
  all_goals clear hl0
  all_goals go_enter Tryd.func95, Tryd.ntmps95
  all_goals go_wp2_with (first
    | (go_at_call 80; refine (isId_c _ _ h1 _).mono ?_; rintro e w1 ⟨rfl, rfl⟩)
    | (go_at_call 89; refine (isKey_c _ _ h2 _).mono ?_; rintro e w1 ⟨rfl, rfl⟩))
  all_goals go_ret
  all_goals refine ⟨congrArg (fun v => Ending.returned (Value.bool v)) ?_, HS.out, HR.out⟩
  all_goals unfold okWt
  all_goals simp only [h1, h2, hlt]
  all_goals rfl
end Go.Proofs.YtchebellejkdnaaDoor
set_option linter.unusedVariables false
set_option maxRecDepth 100000
namespace Go.Proofs.YtchebellejkdnaaDoor
open Go.RowKit


set_option maxHeartbeats 4000000 in
theorem idxS {S : Type} (ok : S → Int × Int → Bool) (nx : S → Int × Int → S) (gf : Nat) (J : S → World → Prop) (A : Option Addr) (n c : Nat) (l : List (Int × Int)) (hn : n ≤ 9223372036854775807)
    (hat : ∀ s W, J s W → Stamps W A n l)
    (step : ∀ s (c : Int × Int) W, J s W → Calls Tryd.prog 110 #[(sv c.1 c.2), pt gf] W fun e w' => e = .returned (.bool (!(ok s c))) ∧ J (nx s c) w')
    (s : S) (w : World) (hJ : J s w) :
    Calls Tryd.prog 120 #[.slice A n c, .func (.func 110) #[] #[pt gf]] w fun e w' => ∃ k : Int, e = .returned (.int .i64 k) ∧ decide (0 ≤ k) = !(scan ok nx s l) ∧ ∃ s', J s' w' := by
  have ST := Lib.hid step
  have HF := Lib.hid hat
  clear step hat
  go_enter Tryd.func120, Tryd.ntmps120
  go_wp2
  go_loopw [8] (fun i wr => ∃ (k : Nat) (s' : S), k ≤ n ∧ i = .int .i64 k ∧ Hid (scan ok nx s' (l.drop k) = scan ok nx s l) ∧ J s' wr) (fun i _ => n - (intOf i).toNat)
  case atStart => exact ⟨0, s, Nat.zero_le _, rfl, rfl, hJ⟩
  case round =>
    obtain ⟨k, s', hk, rfl, hrun, hRep⟩ := hrel
    have hfa := HF.out s' wr hRep
    have hlen := hfa.1
    by_cases hlt : k < n
    · have hkl : k < l.length := by omega
      obtain ⟨b, o, rfl, hc⟩ := hfa.2 (by omega)
      obtain ⟨h1, h2⟩ := hc k hkl
      have hs := ST.out s' (l[k]'hkl) wr hRep
      have hd : l.drop k = (l[k]'hkl) :: l.drop (k + 1) := List.drop_eq_getElem_cons hkl
      have hrun' := hrun.out
      rw [hd] at hrun'
      generalize (l[k]'hkl) = x at *
      clear hc hfa HF ST hd hrun
      cases hok : ok s' x with
      | true =>
        have HR := Lib.hid (show scan ok nx (nx s' x) (l.drop (k + 1)) = scan ok nx s l by rw [← hrun', scan, hok, Bool.true_and])
        rw [hok] at hs
        clear hrun' hok
        go_wp2_with fail
        refine hs.mono ?_
        rintro e w2 ⟨rfl, h2⟩
        go_wp2
        go_roundw
        case rel => exact ⟨k + 1, _, by omega, by go_num, HR, h2⟩
        case measure => simp [intOf]; omega
      | false =>
        have HR := Lib.hid (show scan ok nx s l = false by rw [← hrun', scan, hok, Bool.false_and])
        rw [hok] at hs
        clear hrun' hok
        go_wp2_with fail
        refine hs.mono ?_
        rintro e w2 ⟨rfl, h2⟩
        go_wp2
        go_ret
        exact ⟨k, rfl, by rw [HR.out]; exact decide_eq_true (by omega), _, h2⟩
    · have HR := Lib.hid (show scan ok nx s l = true by rw [← hrun.out, List.drop_of_length_le (by omega), scan])
      clear hrun HF ST hfa
      go_wp2
      go_ret
      exact ⟨-1, rfl, by rw [HR.out]; rfl, _, hRep⟩
theorem conS {S : Type} (ok : S → Int × Int → Bool) (nx : S → Int × Int → S) (gf : Nat) (J : S → World → Prop) (A : Option Addr) (n c : Nat) (l : List (Int × Int)) (hn : n ≤ 9223372036854775807)
    (hat : ∀ s W, J s W → Stamps W A n l)
    (step : ∀ s (c : Int × Int) W, J s W → Calls Tryd.prog 110 #[(sv c.1 c.2), pt gf] W fun e w' => e = .returned (.bool (!(ok s c))) ∧ J (nx s c) w')
    (s : S) (w : World) (hJ : J s w) :
    Calls Tryd.prog 109 #[.slice A n c, .func (.func 110) #[] #[pt gf]] w fun e w' => e = .returned (.bool (!(scan ok nx s l))) ∧ ∃ s', J s' w' := by
  have HI := Lib.hid (idxS ok nx gf J A n c l hn hat step s w hJ)
  clear step hat hJ
  go_enter Tryd.func109, Tryd.ntmps109
  go_wp2_with fail
  refine HI.out.mono ?_
  rintro e w1 ⟨k, rfl, hk, h1⟩
  have HK := Lib.hid hk
  clear hk
  go_wp2
  go_ret
  exact ⟨congrArg (fun b => Ending.returned (Value.bool b)) HK.out, h1⟩

set_option maxHeartbeats 4000000 in
theorem idxC {S : Type} (ok : S → Ch → Bool) (nx : S → Ch → S) (gf : Nat) (J : S → World → Prop) (A : Option Addr) (n c : Nat) (l : List (Ch)) (hn : n ≤ 9223372036854775807)
    (hat : ∀ s W, J s W → ChAt W A n l)
    (step : ∀ s (c : Ch) W, J s W → Calls Tryd.prog 112 #[(chv c), pt gf] W fun e w' => e = .returned (.bool (!(ok s c))) ∧ J (nx s c) w')
    (s : S) (w : World) (hJ : J s w) :
    Calls Tryd.prog 121 #[.slice A n c, .func (.func 112) #[] #[pt gf]] w fun e w' => ∃ k : Int, e = .returned (.int .i64 k) ∧ decide (0 ≤ k) = !(scan ok nx s l) ∧ ∃ s', J s' w' := by
  have ST := Lib.hid step
  have HF := Lib.hid hat
  clear step hat
  go_enter Tryd.func121, Tryd.ntmps121
  go_wp2
  go_loopw [8] (fun i wr => ∃ (k : Nat) (s' : S), k ≤ n ∧ i = .int .i64 k ∧ Hid (scan ok nx s' (l.drop k) = scan ok nx s l) ∧ J s' wr) (fun i _ => n - (intOf i).toNat)
  case atStart => exact ⟨0, s, Nat.zero_le _, rfl, rfl, hJ⟩
  case round =>
    obtain ⟨k, s', hk, rfl, hrun, hRep⟩ := hrel
    have hfa := HF.out s' wr hRep
    have hlen := hfa.1
    by_cases hlt : k < n
    · have hkl : k < l.length := by omega
      obtain ⟨b, o, rfl, hc⟩ := hfa.2 (by omega)
      obtain ⟨h1, h2, h3⟩ := hc k hkl
      have hs := ST.out s' (l[k]'hkl) wr hRep
      have hd : l.drop k = (l[k]'hkl) :: l.drop (k + 1) := List.drop_eq_getElem_cons hkl
      have hrun' := hrun.out
      rw [hd] at hrun'
      generalize (l[k]'hkl) = x at *
      clear hc hfa HF ST hd hrun
      cases hok : ok s' x with
      | true =>
        have HR := Lib.hid (show scan ok nx (nx s' x) (l.drop (k + 1)) = scan ok nx s l by rw [← hrun', scan, hok, Bool.true_and])
        rw [hok] at hs
        clear hrun' hok
        go_wp2_with fail
        refine hs.mono ?_
        rintro e w2 ⟨rfl, h2⟩
        go_wp2
        go_roundw
        case rel => exact ⟨k + 1, _, by omega, by go_num, HR, h2⟩
        case measure => simp [intOf]; omega
      | false =>
        have HR := Lib.hid (show scan ok nx s l = false by rw [← hrun', scan, hok, Bool.false_and])
        rw [hok] at hs
        clear hrun' hok
        go_wp2_with fail
        refine hs.mono ?_
        rintro e w2 ⟨rfl, h2⟩
        go_wp2
        go_ret
        exact ⟨k, rfl, by rw [HR.out]; exact decide_eq_true (by omega), _, h2⟩
    · have HR := Lib.hid (show scan ok nx s l = true by rw [← hrun.out, List.drop_of_length_le (by omega), scan])
      clear hrun HF ST hfa
      go_wp2
      go_ret
      exact ⟨-1, rfl, by rw [HR.out]; rfl, _, hRep⟩
theorem conC {S : Type} (ok : S → Ch → Bool) (nx : S → Ch → S) (gf : Nat) (J : S → World → Prop) (A : Option Addr) (n c : Nat) (l : List (Ch)) (hn : n ≤ 9223372036854775807)
    (hat : ∀ s W, J s W → ChAt W A n l)
    (step : ∀ s (c : Ch) W, J s W → Calls Tryd.prog 112 #[(chv c), pt gf] W fun e w' => e = .returned (.bool (!(ok s c))) ∧ J (nx s c) w')
    (s : S) (w : World) (hJ : J s w) :
    Calls Tryd.prog 111 #[.slice A n c, .func (.func 112) #[] #[pt gf]] w fun e w' => e = .returned (.bool (!(scan ok nx s l))) ∧ ∃ s', J s' w' := by
  have HI := Lib.hid (idxC ok nx gf J A n c l hn hat step s w hJ)
  clear step hat hJ
  go_enter Tryd.func111, Tryd.ntmps111
  go_wp2_with fail
  refine HI.out.mono ?_
  rintro e w1 ⟨k, rfl, hk, h1⟩
  have HK := Lib.hid hk
  clear hk
  go_wp2
  go_ret
  exact ⟨congrArg (fun b => Ending.returned (Value.bool b)) HK.out, h1⟩

set_option maxHeartbeats 4000000 in
theorem idxW {S : Type} (ok : S → Wt → Bool) (nx : S → Wt → S) (gf : Nat) (J : S → World → Prop) (A : Option Addr) (n c : Nat) (l : List (Wt)) (hn : n ≤ 9223372036854775807)
    (hat : ∀ s W, J s W → WtAt W A n l)
    (step : ∀ s (c : Wt) W, J s W → Calls Tryd.prog 114 #[(wtv c), pt gf] W fun e w' => e = .returned (.bool (!(ok s c))) ∧ J (nx s c) w')
    (s : S) (w : World) (hJ : J s w) :
    Calls Tryd.prog 122 #[.slice A n c, .func (.func 114) #[] #[pt gf]] w fun e w' => ∃ k : Int, e = .returned (.int .i64 k) ∧ decide (0 ≤ k) = !(scan ok nx s l) ∧ ∃ s', J s' w' := by
  have ST := Lib.hid step
  have HF := Lib.hid hat
  clear step hat
  go_enter Tryd.func122, Tryd.ntmps122
  go_wp2
  go_loopw [8] (fun i wr => ∃ (k : Nat) (s' : S), k ≤ n ∧ i = .int .i64 k ∧ Hid (scan ok nx s' (l.drop k) = scan ok nx s l) ∧ J s' wr) (fun i _ => n - (intOf i).toNat)
  case atStart => exact ⟨0, s, Nat.zero_le _, rfl, rfl, hJ⟩
  case round =>
    obtain ⟨k, s', hk, rfl, hrun, hRep⟩ := hrel
    have hfa := HF.out s' wr hRep
    have hlen := hfa.1
    by_cases hlt : k < n
    · have hkl : k < l.length := by omega
      obtain ⟨b, o, rfl, hc⟩ := hfa.2 (by omega)
      obtain ⟨h1, h2⟩ := hc k hkl
      have hs := ST.out s' (l[k]'hkl) wr hRep
      have hd : l.drop k = (l[k]'hkl) :: l.drop (k + 1) := List.drop_eq_getElem_cons hkl
      have hrun' := hrun.out
      rw [hd] at hrun'
      generalize (l[k]'hkl) = x at *
      clear hc hfa HF ST hd hrun
      cases hok : ok s' x with
      | true =>
        have HR := Lib.hid (show scan ok nx (nx s' x) (l.drop (k + 1)) = scan ok nx s l by rw [← hrun', scan, hok, Bool.true_and])
        rw [hok] at hs
        clear hrun' hok
        go_wp2_with fail
        refine hs.mono ?_
        rintro e w2 ⟨rfl, h2⟩
        go_wp2
        go_roundw
        case rel => exact ⟨k + 1, _, by omega, by go_num, HR, h2⟩
        case measure => simp [intOf]; omega
      | false =>
        have HR := Lib.hid (show scan ok nx s l = false by rw [← hrun', scan, hok, Bool.false_and])
        rw [hok] at hs
        clear hrun' hok
        go_wp2_with fail
        refine hs.mono ?_
        rintro e w2 ⟨rfl, h2⟩
        go_wp2
        go_ret
        exact ⟨k, rfl, by rw [HR.out]; exact decide_eq_true (by omega), _, h2⟩
    · have HR := Lib.hid (show scan ok nx s l = true by rw [← hrun.out, List.drop_of_length_le (by omega), scan])
      clear hrun HF ST hfa
      go_wp2
      go_ret
      exact ⟨-1, rfl, by rw [HR.out]; rfl, _, hRep⟩
theorem conW {S : Type} (ok : S → Wt → Bool) (nx : S → Wt → S) (gf : Nat) (J : S → World → Prop) (A : Option Addr) (n c : Nat) (l : List (Wt)) (hn : n ≤ 9223372036854775807)
    (hat : ∀ s W, J s W → WtAt W A n l)
    (step : ∀ s (c : Wt) W, J s W → Calls Tryd.prog 114 #[(wtv c), pt gf] W fun e w' => e = .returned (.bool (!(ok s c))) ∧ J (nx s c) w')
    (s : S) (w : World) (hJ : J s w) :
    Calls Tryd.prog 113 #[.slice A n c, .func (.func 114) #[] #[pt gf]] w fun e w' => e = .returned (.bool (!(scan ok nx s l))) ∧ ∃ s', J s' w' := by
  have HI := Lib.hid (idxW ok nx gf J A n c l hn hat step s w hJ)
  clear step hat hJ
  go_enter Tryd.func113, Tryd.ntmps113
  go_wp2_with fail
  refine HI.out.mono ?_
  rintro e w1 ⟨k, rfl, hk, h1⟩
  have HK := Lib.hid hk
  clear hk
  go_wp2
  go_ret
  exact ⟨congrArg (fun b => Ending.returned (Value.bool b)) HK.out, h1⟩

theorem eachOneC (ga gf : Nat) (a : Int) (c : Ch) (W : World) (hg : Blk W ga 3 #[.int .i64 a]) (hf : Blk W gf 118 #[.func (.func 93) #[] #[pt ga]]) :
    Calls Tryd.prog 112 #[(chv c), pt gf] W fun e w' => e = .returned (.bool (!(okCh a c))) ∧ Blk w' ga 3 #[.int .i64 ((fun _ c => c.q) a c)] ∧ Grow (fun k => k = ga) W w' := by
  have h1 : Blk (W.alloc (.cells #[.int .i64 c.q, .string c.s, .bool c.d] 77)) ga 3 #[.int .i64 a] := hg.below (nbl W _) hg.lt
  have h2 : Blk (W.alloc (.cells #[.int .i64 c.q, .string c.s, .bool c.d] 77)) gf 118 #[.func (.func 93) #[] #[pt ga]] := hf.below (nbl W _) hf.lt
  have h3 := Blk.new W 77 #[.int .i64 c.q, .string c.s, .bool c.d]
  have HO := Lib.hid (changeOne ga a c _ rfl _ h1)
  have c2 := h2.cell 0
  have c3 := h3.cell 0
  simp at c2 c3
  have HG := Lib.hid (Grow.of_below (F := fun k => k = ga) (nbl W (.cells #[.int .i64 c.q, .string c.s, .bool c.d] 77)))
  clear h1 h2 h3 hg hf
  go_enter Tryd.func112, Tryd.ntmps112
  go_wp2_with fail
  refine HO.out.mono ?_
  rintro e w1 ⟨rfl, q1, q2⟩
  have q3 := HG.out.trans (q2.mono fun k hk => .inl hk)
  go_wp2
  go_ret
  exact ⟨rfl, q1, q3⟩
theorem eachC (ga : Nat) (a : Int) (A : Option Addr) (n c : Nat) (l : List Ch) (w : World) (hn : n ≤ 9223372036854775807) (hx : ChAt w A n l) (hA : ∀ p, A = some p → p.block < ga) (hg : Blk w ga 3 #[.int .i64 a]) :
    Calls Tryd.prog 92 #[.slice A n c, .func (.func 93) #[] #[pt ga]] w fun e w' => e = .returned (.bool (rise a l)) ∧ Below ga w w' := by
  have hlt := hg.lt
  have HC := Lib.hid (conC okCh (fun _ c => c.q) w.heap.size (fun s W => Below ga w W ∧ Blk W ga 3 #[.int .i64 s] ∧ Blk W w.heap.size 118 #[.func (.func 93) #[] #[pt ga]]) A n c l hn
    (fun s W h => hx.keep fun p hp j v hv => (h.1.cell (p := ⟨p.block, j, none⟩) (hA p hp)).trans hv)
    (fun s x W h => (eachOneC ga w.heap.size s x W h.2.1 h.2.2).mono fun e w' ⟨h1, h2, h3⟩ => ⟨h1,
      ⟨h3.os.trans h.1.os, h3.tape.trans h.1.tape, h3.output.trans h.1.output, Nat.le_trans h.1.size h3.size, fun k hk => (h3.block k (by have := h.1.size; omega) (by omega)).trans (h.1.block k hk)⟩, h2,
      (h3.block _ h.2.2.lt (by omega)).trans h.2.2⟩)
    a (w.alloc (.cells #[.func (.func 93) #[] #[pt ga]] 118)) ⟨(Below.refl ga w).alloc (by omega) _, hg.below (nbl w _) hlt, Blk.new w _ _⟩)
  go_enter Tryd.func92, Tryd.ntmps92
  go_wp2_with fail
  refine HC.out.mono ?_
  rintro e w1 ⟨rfl, s', h1, _, _⟩
  go_wp2
  go_ret
  exact ⟨by rw [← scan_rise]; simp, h1⟩

theorem eachOneW (ga gf : Nat) (a : ByteArray) (c : Wt) (W : World) (hg : Blk W ga 9 #[.string a]) (hf : Blk W gf 120 #[.func (.func 95) #[] #[pt ga]]) :
    Calls Tryd.prog 114 #[(wtv c), pt gf] W fun e w' => e = .returned (.bool (!(okWt a c))) ∧ Blk w' ga 9 #[.string ((fun _ c => c.k) a c)] ∧ Grow (fun k => k = ga) W w' := by
  have h1 : Blk (W.alloc (.cells #[.string c.k, .int .i64 c.q] 89)) ga 9 #[.string a] := hg.below (nbl W _) hg.lt
  have h2 : Blk (W.alloc (.cells #[.string c.k, .int .i64 c.q] 89)) gf 120 #[.func (.func 95) #[] #[pt ga]] := hf.below (nbl W _) hf.lt
  have h3 := Blk.new W 89 #[.string c.k, .int .i64 c.q]
  have HO := Lib.hid (writeOne ga a c _ rfl _ h1)
  have c2 := h2.cell 0
  have c3 := h3.cell 0
  simp at c2 c3
  have HG := Lib.hid (Grow.of_below (F := fun k => k = ga) (nbl W (.cells #[.string c.k, .int .i64 c.q] 89)))
  clear h1 h2 h3 hg hf
  go_enter Tryd.func114, Tryd.ntmps114
  go_wp2_with fail
  refine HO.out.mono ?_
  rintro e w1 ⟨rfl, q1, q2⟩
  have q3 := HG.out.trans (q2.mono fun k hk => .inl hk)
  go_wp2
  go_ret
  exact ⟨rfl, q1, q3⟩
theorem eachW (ga : Nat) (a : ByteArray) (A : Option Addr) (n c : Nat) (l : List Wt) (w : World) (hn : n ≤ 9223372036854775807) (hx : WtAt w A n l) (hA : ∀ p, A = some p → p.block < ga) (hg : Blk w ga 9 #[.string a]) :
    Calls Tryd.prog 94 #[.slice A n c, .func (.func 95) #[] #[pt ga]] w fun e w' => e = .returned (.bool (riseW a l)) ∧ Below ga w w' := by
  have hlt := hg.lt
  have HC := Lib.hid (conW okWt (fun _ c => c.k) w.heap.size (fun s W => Below ga w W ∧ Blk W ga 9 #[.string s] ∧ Blk W w.heap.size 120 #[.func (.func 95) #[] #[pt ga]]) A n c l hn
    (fun s W h => hx.keep fun p hp j v hv => (h.1.cell (p := ⟨p.block, j, none⟩) (hA p hp)).trans hv)
    (fun s x W h => (eachOneW ga w.heap.size s x W h.2.1 h.2.2).mono fun e w' ⟨h1, h2, h3⟩ => ⟨h1,
      ⟨h3.os.trans h.1.os, h3.tape.trans h.1.tape, h3.output.trans h.1.output, Nat.le_trans h.1.size h3.size, fun k hk => (h3.block k (by have := h.1.size; omega) (by omega)).trans (h.1.block k hk)⟩, h2,
      (h3.block _ h.2.2.lt (by omega)).trans h.2.2⟩)
    a (w.alloc (.cells #[.func (.func 95) #[] #[pt ga]] 120)) ⟨(Below.refl ga w).alloc (by omega) _, hg.below (nbl w _) hlt, Blk.new w _ _⟩)
  go_enter Tryd.func94, Tryd.ntmps94
  go_wp2_with fail
  refine HC.out.mono ?_
  rintro e w1 ⟨rfl, s', h1, _, _⟩
  go_wp2
  go_ret
  exact ⟨by rw [← scan_riseW]; simp, h1⟩

theorem eachOneS (gf : Nat) (c : Int × Int) (W : World) (hf : Blk W gf 116 #[.func (.func 91) #[] #[]]) :
    Calls Tryd.prog 110 #[sv c.1 c.2, pt gf] W fun e w' => e = .returned (.bool (!(mayP c))) ∧ Below W.heap.size W w' := by
  obtain ⟨x, y⟩ := c
  have h2 : Blk (W.alloc (.cells #[.int .i64 x, .int .i64 y] 23)) gf 116 #[.func (.func 91) #[] #[]] := hf.below (nbl W _) hf.lt
  have h3 := Blk.new W 23 #[.int .i64 x, .int .i64 y]
  have HO := Lib.hid (stampOne (x, y) _ rfl (W.alloc (.cells #[.int .i64 x, .int .i64 y] 23)))
  have c2 := h2.cell 0
  have c3 := h3.cell 0
  simp at c2 c3
  clear h2 h3 hf
  go_enter Tryd.func110, Tryd.ntmps110
  go_wp2_with fail
  refine HO.out.mono ?_
  rintro e w1 ⟨rfl, q1⟩
  have q3 := (nbl W (.cells #[.int .i64 x, .int .i64 y] 23)).trans (q1.mono (by simp))
  go_wp2
  go_ret
  exact ⟨rfl, q3⟩
theorem areStamps_c (A : Option Addr) (n c : Nat) (l : List (Int × Int)) (b : Bool) (hb : l.all mayP = b) (w : World) (hn : n ≤ 9223372036854775807) (hx : Stamps w A n l) :
    Calls Tryd.prog 55 #[.slice A n c] w fun e w' => e = .returned (.bool b) ∧ Below w.heap.size w w' := by
  subst hb
  have HC := Lib.hid (conS (fun (_ : Unit) p => mayP p) (fun u _ => u) w.heap.size (fun _ W => Below w.heap.size w W ∧ Blk W w.heap.size 116 #[.func (.func 91) #[] #[]]) A n c l hn
    (fun s W h => hx.below' h.1)
    (fun s x W h => (eachOneS w.heap.size x W h.2).mono fun e w' ⟨h1, h3⟩ => ⟨h1, h.1.trans (h3.mono h.1.size), (h3.block _ h.2.lt).trans h.2⟩)
    () (w.alloc (.cells #[.func (.func 91) #[] #[]] 116)) ⟨nbl w _, Blk.new w _ _⟩)
  have HE : Calls Tryd.prog 90 #[.slice A n c, .func (.func 91) #[] #[]] w fun e w' => e = .returned (.bool (l.all mayP)) ∧ Below w.heap.size w w' := by
    go_enter Tryd.func90, Tryd.ntmps90
    go_wp2_with fail
    refine HC.out.mono ?_
    rintro e w1 ⟨rfl, s', h1, _⟩
    go_wp2
    go_ret
    exact ⟨by rw [← scan_all]; simp, h1⟩
  clear HC
  have HE' := Lib.hid HE
  clear HE
  go_enter Tryd.func55, Tryd.ntmps55
  go_wp2_with fail
  refine HE'.out.mono ?_
  rintro e w1 ⟨rfl, h1⟩
  go_wp2
  go_ret
  exact ⟨rfl, h1⟩
theorem areChanges_c (A : Option Addr) (n c : Nat) (l : List Ch) (b : Bool) (hb : (decide (1 ≤ l.length ∧ l.length ≤ 16) && rise 0 l) = b) (w : World) (hn : n ≤ 9223372036854775807) (hx : ChAt w A n l) (hA : ∀ p, A = some p → p.block < w.heap.size) :
    Calls Tryd.prog 56 #[.slice A n c] w fun e w' => e = .returned (.bool b) ∧ Below w.heap.size w w' := by
  have hl := hx.1
  by_cases h1 : 1 ≤ n ∧ n ≤ 16
  · rw [hl, decide_eq_true h1, Bool.true_and] at hb
    subst hb
    obtain ⟨h2, h3⟩ := h1
    have HC := Lib.hid (eachC w.heap.size 0 A n c l (w.alloc (.cells #[.int .i64 0] 3)) hn (hx.below (nbl w _)) hA (Blk.new w _ _))
    go_enter Tryd.func56, Tryd.ntmps56
    go_wp2_with fail
    refine HC.out.mono ?_
    rintro e w1 ⟨rfl, q1⟩
    have q2 := (nbl w (.cells #[.int .i64 0] 3)).trans q1
    go_wp2
    go_ret
    exact ⟨rfl, q2⟩
  · rw [hl, decide_eq_false h1, Bool.false_and] at hb
    subst hb
    by_cases h2 : n < 1
    · go_enter Tryd.func56, Tryd.ntmps56
      go_wp2
      go_ret
      exact ⟨rfl, Below.refl _ _⟩
    · have h3 : 16 < n := by omega
      go_enter Tryd.func56, Tryd.ntmps56
      go_wp2
      go_ret
      exact ⟨rfl, Below.refl _ _⟩
theorem areWrites_c (st : Int) (A : Option Addr) (n c : Nat) (l : List Wt) (b : Bool) (hb : areW st l = b) (w : World) (hn : n ≤ 9223372036854775807) (hx : WtAt w A n l) (hA : ∀ p, A = some p → p.block < w.heap.size) :
    Calls Tryd.prog 61 #[.int .i64 st, .slice A n c] w fun e w' => e = .returned (.bool b) ∧ Below w.heap.size w w' := by
  have hl := hx.1
  unfold areW at hb
  by_cases h0 : st = 2
  · subst h0
    rw [if_pos rfl] at hb
    by_cases h1 : n ≤ 32
    · rw [hl, decide_eq_true h1, Bool.true_and] at hb
      subst hb
      have HC := Lib.hid (eachW w.heap.size ⟨#[]⟩ A n c l (w.alloc (.cells #[.string ⟨#[]⟩] 9)) hn (hx.below (nbl w _)) hA (Blk.new w _ _))
      go_enter Tryd.func61, Tryd.ntmps61
      go_wp2_with fail
      refine HC.out.mono ?_
      rintro e w1 ⟨rfl, q1⟩
      have q2 := (nbl w (.cells #[.string ⟨#[]⟩] 9)).trans q1
      go_wp2
      go_ret
      exact ⟨rfl, q2⟩
    · rw [hl, decide_eq_false h1, Bool.false_and] at hb
      subst hb
      go_enter Tryd.func61, Tryd.ntmps61
      go_wp2
      go_ret
      exact ⟨rfl, Below.refl _ _⟩
  · rw [if_neg h0, hl] at hb
    have h2 : (st != 2) = true := by simpa using h0
    by_cases h3 : n = 0
    · rw [decide_eq_true h3] at hb
      subst hb h3
      go_enter Tryd.func61, Tryd.ntmps61
      go_wp2
      go_ret
      exact ⟨rfl, Below.refl _ _⟩
    · rw [decide_eq_false h3] at hb
      subst hb
      have h4 : ((n : Int) == 0) = false := by simp; omega
      go_enter Tryd.func61, Tryd.ntmps61
      go_wp2
      go_ret
      exact ⟨by first | rfl | simp; omega, Below.refl _ _⟩
end Go.Proofs.YtchebellejkdnaaDoor
set_option linter.unusedVariables false
set_option linter.unusedSimpArgs false
set_option maxRecDepth 100000
namespace Go.Proofs.YtchebellejkdnaaDoor
open Go.RowKit

theorem mayI_eq (x : It) : mayI x = (hdr x.id x.ep x.pr x.an && ([(x.sw, x.sl), (x.bw, x.bl)].all mayP && (decide (1 ≤ x.l.length ∧ x.l.length ≤ 16) && rise 0 x.l))) := by
  unfold mayI mayP
  simp [Bool.and_assoc]
theorem mayR_eq (x : Rc) : mayR x = (hdr x.id x.ep x.pr x.an && ([(x.sw, x.sl), (x.bw, x.bl)].all mayP && (isS x.st && areW x.st x.l))) := by
  unfold mayR mayP
  simp [Bool.and_assoc]
set_option maxHeartbeats 2000000 in
theorem checkI (x : It) (A : Option Addr) (n c : Nat) (w : World) (hx : ChAt w A n x.l) (hA : ∀ p, A = some p → p.block < w.heap.size) (hn : n ≤ 9223372036854775807) :
    Calls Tryd.prog 12 #[itv x (.slice A n c)] w fun e w' => e = .returned (.int .i64 (if mayI x then 0 else 2)) ∧ Below w.heap.size w w' := by
  rw [mayI_eq]
  cases h1 : hdr x.id x.ep x.pr x.an
  · obtain ⟨id, ep, pr, an, sw, sl, bw, bl, l⟩ := x
    simp only at h1 hx
    have hb := nbl w (.cells (itc ⟨id, ep, pr, an, sw, sl, bw, bl, l⟩ (.slice A n c)) 26)
    have HB := Lib.hid hb
    clear hb hx
    go_enter Tryd.func12, Tryd.ntmps12
    go_wp2_with (first
      | (go_at_call 54; refine (isOwner_c _ _ _ _ _ h1 _).mono ?_; rintro e w1 ⟨rfl, rfl⟩)
      | (go_at_call 53; refine (argUnless_c _ _).mono ?_; rintro e w1 ⟨rfl, rfl⟩))
    go_ret
    exact ⟨rfl, HB.out⟩
  · cases h2 : [(x.sw, x.sl), (x.bw, x.bl)].all mayP
    · obtain ⟨id, ep, pr, an, sw, sl, bw, bl, l⟩ := x
      simp only at h1 h2 hx
      have hb := (nbl w (.cells (itc ⟨id, ep, pr, an, sw, sl, bw, bl, l⟩ (.slice A n c)) 26)).alloc (by simp) (.cells #[.int .i64 sw, .int .i64 sl, .int .i64 bw, .int .i64 bl] 23)
      have hS := areStamps_c (some ⟨w.heap.size + 1, 0, none⟩) 2 2 _ _ h2 _ (by omega) (by have := stamps_lit (w.alloc (.cells (itc ⟨id, ep, pr, an, sw, sl, bw, bl, l⟩ (.slice A n c)) 26)) [(sw, sl), (bw, bl)] _ 23 rfl; simpa using this)
      have HB := Lib.hid hb
      have HS := Lib.hid hS
      clear hb hx hS
      go_enter Tryd.func12, Tryd.ntmps12
      go_wp2_with (first
        | (go_at_call 54; refine (isOwner_c _ _ _ _ _ h1 _).mono ?_; rintro e w1 ⟨rfl, rfl⟩)
        | (go_at_call 55; refine HS.out.mono ?_; rintro e w2 ⟨rfl, hb2⟩)
        | (go_at_call 53; refine (argUnless_c _ _).mono ?_; rintro e w1 ⟨rfl, rfl⟩))
      go_ret
      exact ⟨rfl, HB.out.trans (hb2.mono (by simp; omega))⟩
    · obtain ⟨b3, h3⟩ : ∃ b, (decide (1 ≤ x.l.length ∧ x.l.length ≤ 16) && rise 0 x.l) = b := ⟨_, rfl⟩
      rw [h3]
      obtain ⟨id, ep, pr, an, sw, sl, bw, bl, l⟩ := x
      simp only at h1 h2 h3 hx
      have hb := (nbl w (.cells (itc ⟨id, ep, pr, an, sw, sl, bw, bl, l⟩ (.slice A n c)) 26)).alloc (by simp) (.cells #[.int .i64 sw, .int .i64 sl, .int .i64 bw, .int .i64 bl] 23)
      have hS := areStamps_c (some ⟨w.heap.size + 1, 0, none⟩) 2 2 _ _ h2 _ (by omega) (by have := stamps_lit (w.alloc (.cells (itc ⟨id, ep, pr, an, sw, sl, bw, bl, l⟩ (.slice A n c)) 26)) [(sw, sl), (bw, bl)] _ 23 rfl; simpa using this)
      have hBx : Blk ((w.alloc (.cells (itc ⟨id, ep, pr, an, sw, sl, bw, bl, l⟩ (.slice A n c)) 26)).alloc (.cells #[.int .i64 sw, .int .i64 sl, .int .i64 bw, .int .i64 bl] 23)) w.heap.size 26 (itc ⟨id, ep, pr, an, sw, sl, bw, bl, l⟩ (.slice A n c)) := (Blk.new w _ _).below (nbl _ _) (by simp)
      have HB := Lib.hid hb
      have HS := Lib.hid hS
      have HBx := Lib.hid hBx
      have HX := Lib.hid hx
      clear hb hx hS hBx
      go_enter Tryd.func12, Tryd.ntmps12
      go_wp2_with (first
        | (go_at_call 54; refine (isOwner_c _ _ _ _ _ h1 _).mono ?_; rintro e w1 ⟨rfl, rfl⟩)
        | (go_at_call 55; refine HS.out.mono ?_; rintro e w2 ⟨rfl, hb2⟩
           have hb3 := HB.out.trans (hb2.mono (by simp; omega))
           have k8 := (HBx.out.below hb2 (by simp; omega)).cell 8
           simp at k8)
        | (go_at_call 56; refine (areChanges_c A n c l b3 h3 w2 hn (HX.out.below hb3) (fun p hp => Nat.lt_of_lt_of_le (hA p hp) hb3.size)).mono ?_; rintro e w3 ⟨rfl, hb4⟩; have hb5 := hb3.trans (hb4.mono hb3.size))
        | (go_at_call 53; refine (argUnless_c _ _).mono ?_; rintro e w1 ⟨rfl, rfl⟩))
      all_goals go_ret
      all_goals exact ⟨by first | rfl | (simp_all; done) | (cases b3 <;> simp_all), hb5⟩
set_option maxHeartbeats 2000000 in
theorem checkR (x : Rc) (A : Option Addr) (n c : Nat) (w : World) (hx : WtAt w A n x.l) (hA : ∀ p, A = some p → p.block < w.heap.size) (hn : n ≤ 9223372036854775807) :
    Calls Tryd.prog 20 #[rcv x (.slice A n c)] w fun e w' => e = .returned (.int .i64 (if mayR x then 0 else 2)) ∧ Below w.heap.size w w' := by
  rw [mayR_eq]
  cases h1 : hdr x.id x.ep x.pr x.an
  · obtain ⟨id, ep, st, pr, an, sw, sl, bw, bl, l⟩ := x
    simp only at h1 hx
    have hb := nbl w (.cells (rcc ⟨id, ep, st, pr, an, sw, sl, bw, bl, l⟩ (.slice A n c)) 37)
    have HB := Lib.hid hb
    clear hb hx
    go_enter Tryd.func20, Tryd.ntmps20
    go_wp2_with (first
      | (go_at_call 54; refine (isOwner_c _ _ _ _ _ h1 _).mono ?_; rintro e w1 ⟨rfl, rfl⟩)
      | (go_at_call 53; refine (argUnless_c _ _).mono ?_; rintro e w1 ⟨rfl, rfl⟩))
    go_ret
    exact ⟨rfl, HB.out⟩
  · cases h2 : [(x.sw, x.sl), (x.bw, x.bl)].all mayP
    · obtain ⟨id, ep, st, pr, an, sw, sl, bw, bl, l⟩ := x
      simp only at h1 h2 hx
      have hb := (nbl w (.cells (rcc ⟨id, ep, st, pr, an, sw, sl, bw, bl, l⟩ (.slice A n c)) 37)).alloc (by simp) (.cells #[.int .i64 sw, .int .i64 sl, .int .i64 bw, .int .i64 bl] 23)
      have hS := areStamps_c (some ⟨w.heap.size + 1, 0, none⟩) 2 2 _ _ h2 _ (by omega) (by have := stamps_lit (w.alloc (.cells (rcc ⟨id, ep, st, pr, an, sw, sl, bw, bl, l⟩ (.slice A n c)) 37)) [(sw, sl), (bw, bl)] _ 23 rfl; simpa using this)
      have HB := Lib.hid hb
      have HS := Lib.hid hS
      clear hb hx hS
      go_enter Tryd.func20, Tryd.ntmps20
      go_wp2_with (first
        | (go_at_call 54; refine (isOwner_c _ _ _ _ _ h1 _).mono ?_; rintro e w1 ⟨rfl, rfl⟩)
        | (go_at_call 55; refine HS.out.mono ?_; rintro e w2 ⟨rfl, hb2⟩)
        | (go_at_call 53; refine (argUnless_c _ _).mono ?_; rintro e w1 ⟨rfl, rfl⟩))
      go_ret
      exact ⟨rfl, HB.out.trans (hb2.mono (by simp; omega))⟩
    · obtain ⟨b3, h3⟩ : ∃ b, areW x.st x.l = b := ⟨_, rfl⟩
      rw [h3]
      obtain ⟨b4, h4⟩ : ∃ b, isS x.st = b := ⟨_, rfl⟩
      rw [h4]
      obtain ⟨id, ep, st, pr, an, sw, sl, bw, bl, l⟩ := x
      simp only at h1 h2 h3 h4 hx
      have hb := (nbl w (.cells (rcc ⟨id, ep, st, pr, an, sw, sl, bw, bl, l⟩ (.slice A n c)) 37)).alloc (by simp) (.cells #[.int .i64 sw, .int .i64 sl, .int .i64 bw, .int .i64 bl] 23)
      have hS := areStamps_c (some ⟨w.heap.size + 1, 0, none⟩) 2 2 _ _ h2 _ (by omega) (by have := stamps_lit (w.alloc (.cells (rcc ⟨id, ep, st, pr, an, sw, sl, bw, bl, l⟩ (.slice A n c)) 37)) [(sw, sl), (bw, bl)] _ 23 rfl; simpa using this)
      have hBx : Blk ((w.alloc (.cells (rcc ⟨id, ep, st, pr, an, sw, sl, bw, bl, l⟩ (.slice A n c)) 37)).alloc (.cells #[.int .i64 sw, .int .i64 sl, .int .i64 bw, .int .i64 bl] 23)) w.heap.size 37 (rcc ⟨id, ep, st, pr, an, sw, sl, bw, bl, l⟩ (.slice A n c)) := (Blk.new w _ _).below (nbl _ _) (by simp)
      have HB := Lib.hid hb
      have HS := Lib.hid hS
      have HBx := Lib.hid hBx
      have HX := Lib.hid hx
      clear hb hx hS hBx
      cases b4
      all_goals go_enter Tryd.func20, Tryd.ntmps20
      all_goals go_wp2_with (first
        | (go_at_call 54; refine (isOwner_c _ _ _ _ _ h1 _).mono ?_; rintro e w1 ⟨rfl, rfl⟩)
        | (go_at_call 60; refine (isStatus_c _ _ h4 _).mono ?_; rintro e w1 ⟨rfl, rfl⟩)
        | (go_at_call 55; refine HS.out.mono ?_; rintro e w2 ⟨rfl, hb2⟩
           have hb3 := HB.out.trans (hb2.mono (by simp; omega))
           have k8 := (HBx.out.below hb2 (by simp; omega)).cell 9
           have k2 := (HBx.out.below hb2 (by simp; omega)).cell 2
           simp at k8 k2)
        | (go_at_call 61; refine (areWrites_c st A n c l b3 h3 w2 hn (HX.out.below hb3) (fun p hp => Nat.lt_of_lt_of_le (hA p hp) hb3.size)).mono ?_; rintro e w3 ⟨rfl, hb4⟩; have hb5 := hb3.trans (hb4.mono hb3.size))
        | (go_at_call 53; refine (argUnless_c _ _).mono ?_; rintro e w1 ⟨rfl, rfl⟩))
      all_goals go_ret
      all_goals exact ⟨by first | rfl | (simp_all; done) | (cases b3 <;> simp_all), by first | exact hb5 | exact hb3⟩

/-! ### plain texts -/
theorem ByteArray_nil : (⟨([] : List UInt8).toArray⟩ : ByteArray) = ⟨#[]⟩ := rfl
def ansT (ok : Bool) (l : List UInt8) : Ending := .returned (.tuple #[.string (if ok then ⟨l.toArray⟩ else ⟨#[]⟩), .int .i64 (if ok then 0 else 2)])
theorem ansT_t (l : List UInt8) : ansT true l = .returned (.tuple #[.string ⟨l.toArray⟩, .int .i64 0]) := rfl
theorem ansT_f (l : List UInt8) : ansT false l = .returned (.tuple #[.string ⟨#[]⟩, .int .i64 2]) := rfl
theorem number_c (n : Int) (w : World) : Calls Tryd.prog 24 #[.int .i64 n] w fun e w' => e = ansT (isN n) (nbs n) ∧ Below w.heap.size w w' := by
  cases h1 : isN n
  · go_enter Tryd.func24, Tryd.ntmps24
    go_wp2_with (go_at_call 66; refine (isNumber_c _ _ h1 _).mono ?_; rintro e w1 ⟨rfl, rfl⟩)
    go_ret2
    exact ⟨rfl, Below.refl _ _⟩
  · have hn := isN_iff.1 h1
    have H1 := Lib.hid (Has.nil (Below.refl w.heap.size w)).penNew
    go_enter Tryd.func24, Tryd.ntmps24
    go_wp2_with (first
      | (go_at_call 66; refine (isNumber_c _ _ h1 _).mono ?_; rintro e w1 ⟨rfl, rfl⟩)
      | (go_at_call 45; refine (H1.out.penNums (by simp) [n] (by simpa using hn) (by simp) (by simp) rfl rfl).mono ?_; rintro e w2 ⟨rfl, h2⟩)
      | (go_at_call 49; refine h2.penText.mono ?_; rintro e w3 ⟨rfl, rfl⟩))
    go_ret2
    exact ⟨by rw [ansT_t]; simp, h2.bel⟩
theorem stamp_c (a b : Int) (w : World) : Calls Tryd.prog 26 #[sv a b] w fun e w' => e = ansT (may a b) (txS a b) ∧ Below w.heap.size w w' := by
  have HC := Lib.hid (check_ok a b)
  cases h1 : may a b
  · have hk : ck a b = 9 := by unfold ck; rw [h1]; rfl
    rw [hk] at HC
    go_enter Tryd.func26, Tryd.ntmps26
    go_wp2_with (go_at_call 67; refine (HC.out _).mono ?_; rintro e w1 ⟨rfl, hb1⟩)
    go_ret2
    exact ⟨rfl, (nbl w _).trans (hb1.mono (by simp))⟩
  · have hk : ck a b = 0 := by unfold ck; rw [h1]; rfl
    rw [hk] at HC
    have H0 := Lib.hid (Has.nil (w := w) (nbl w (.cells #[.int .i64 a, .int .i64 b] 23)))
    go_enter Tryd.func26, Tryd.ntmps26
    go_wp2_with (first
      | (go_at_call 67; refine (HC.out _).mono ?_; rintro e w1 ⟨rfl, hb1⟩
         have H1 := (H0.out.keep hb1).penNew
         have hX : Blk w1 w.heap.size 23 #[.int .i64 a, .int .i64 b] := (Blk.new w _ _).below hb1 (by simp)
         have hX0 := (hX.below (nbl w1 (.cells #[.slice none 0 0] 72)) hX.lt).cell 0
         have hX1 := (hX.below (nbl w1 (.cells #[.slice none 0 0] 72)) hX.lt).cell 1
         simp at hX0 hX1)
      | (go_at_call 47; refine (H1.penStamps (by simp) [(a, b)] (by simpa [mayP] using h1) (by simp) (by simp) rfl rfl).mono ?_; rintro e w2 ⟨rfl, h2⟩)
      | (go_at_call 49; refine h2.penText.mono ?_; rintro e w3 ⟨rfl, rfl⟩))
    go_ret2
    exact ⟨by rw [ansT_t]; simp [txP], h2.bel⟩
theorem version_c (s : ByteArray) (d : Bool) (w : World) : Calls Tryd.prog 28 #[.string s, .bool d] w fun e w' => e = ansT (isV s d) (txV s d) ∧ Below w.heap.size w w' := by
  cases h1 : isV s d
  · go_enter Tryd.func28, Tryd.ntmps28
    go_wp2_with (go_at_call 68; refine (isValue_c _ _ _ h1 _).mono ?_; rintro e w1 ⟨rfl, rfl⟩)
    go_ret2
    exact ⟨rfl, Below.refl _ _⟩
  · have hn := (isV_iff.1 h1).1
    have H1 := Lib.hid (Has.nil (Below.refl w.heap.size w)).penNew
    have hfl := fl_len d
    cases d
    all_goals go_enter Tryd.func28, Tryd.ntmps28
    all_goals go_wp2_with (first
      | (go_at_call 68; refine (isValue_c _ _ _ h1 _).mono ?_; rintro e w1 ⟨rfl, rfl⟩)
      | (go_at_call 48; refine (H1.out.penFlag _ (by simp)).mono ?_; rintro e w2 ⟨rfl, h2⟩)
      | (go_at_call 46; refine (h2.penStr _ hn (by simpa using Nat.le_trans hfl (by decide))).mono ?_; rintro e w3 ⟨rfl, h3⟩)
      | (go_at_call 49; first | (refine h3.penText.mono ?_; rintro e w3 ⟨rfl, rfl⟩) | (refine h2.penText.mono ?_; rintro e w3 ⟨rfl, rfl⟩)))
    all_goals go_ret2
    all_goals exact ⟨by rw [ansT_t]; simp [txV], by first | exact h3.bel | exact h2.bel⟩
end Go.Proofs.YtchebellejkdnaaDoor
set_option linter.unusedVariables false
set_option linter.unusedSimpArgs false
set_option maxRecDepth 100000
namespace Go.Proofs.YtchebellejkdnaaDoor
open Go.RowKit

def str2 (l : List UInt8) (e : Int) : Ending := .returned (.tuple #[.string ⟨l.toArray⟩, .int .i64 e])
def markK (m : List UInt8) (k : ByteArray) (b : List UInt8) : Ending := if isK k then str2 (m ++ okey (sb k) ++ b) 0 else str2 [] 2
theorem okey_len (k : ByteArray) (h : k.size ≤ 32) : (okey (sb k)).length ≤ 66 := by
  have := esc_len (ob k)
  rw [ob_len] at this
  show (esc (ob k) ++ [0, 0]).length ≤ 66
  rw [List.length_append]
  simp
  omega
set_option maxHeartbeats 1000000 in
theorem marked_c (m k b : ByteArray) (w : World) (hM : MaxL w) (hm : m.size ≤ 10) (hb : b.size ≤ 100) :
    Calls Tryd.prog 79 #[.string m, .string k, .string b] w fun e w' => e = markK (sb m) k (sb b) ∧ Below w.heap.size w w' := by
  unfold markK
  cases h1 : isK k
  · go_enter Tryd.func79, Tryd.ntmps79
    go_wp2_with (go_at_call 89; refine (isKey_c _ _ h1 _).mono ?_; rintro e w1 ⟨rfl, rfl⟩)
    go_ret2
    exact ⟨rfl, Below.refl _ _⟩
  · have hk := isK_iff.1 h1
    have HK := Lib.hid (key k w (by omega) hM)
    have hl := okey_len k hk.2
    have hq0 : okey (ob k) = okey (sb k) := rfl
    rw [hq0] at HK
    obtain ⟨q, hq⟩ : ∃ q, okey (sb k) = q := ⟨_, rfl⟩
    rw [hq] at HK hl ⊢
    obtain ⟨qb, hqb⟩ : ∃ qb : ByteArray, ⟨q.toArray⟩ = qb := ⟨_, rfl⟩
    rw [hqb] at HK
    have hqs : qb.size ≤ 66 := by rw [← hqb]; exact hl
    have HE := Lib.hid (show (m ++ qb ++ b : ByteArray) = ⟨(sb m ++ q ++ sb b).toArray⟩ by
      apply ByteArray.ext
      rw [← hqb]
      simp [sb])
    clear hqb hq hq0 hl
    go_enter Tryd.func79, Tryd.ntmps79
    go_wp2_with (first
      | (go_at_call 89; refine (isKey_c _ _ h1 _).mono ?_; rintro e w1 ⟨rfl, rfl⟩)
      | (go_at_call 101; refine HK.out.mono ?_; rintro e w1 ⟨rfl, hb1⟩))
    go_ret2
    refine ⟨?_, hb1⟩
    have hE := HE.out
    rw [List.append_assoc] at hE
    simp only [if_true, List.append_assoc]
    unfold str2
    rw [← hE]
    rfl
theorem intentKey_c (k : ByteArray) (w : World) (hM : MaxL w) :
    Calls Tryd.prog 37 #[.string k] w fun e w' => e = markK [105] k [] ∧ Below w.heap.size w w' := by
  have HC := Lib.hid (marked_c ⟨#[105]⟩ k ⟨#[]⟩ w hM (by decide) (by decide))
  have e0 : markK (sb ⟨#[105]⟩) k (sb ⟨#[]⟩) = markK [105] k [] := rfl
  rw [e0] at HC
  obtain ⟨s, n, hs⟩ : ∃ s n, markK [105] k [] = .returned (.tuple #[.string s, .int .i64 n]) := by
    unfold markK
    split
    · exact ⟨_, _, rfl⟩
    · exact ⟨_, _, rfl⟩
  rw [hs] at HC ⊢
  clear e0 hs
  go_enter Tryd.func37, Tryd.ntmps37
  go_wp2_with (go_at_call 79; refine HC.out.mono ?_; rintro e w1 ⟨rfl, hb1⟩)
  go_ret2
  exact ⟨rfl, hb1⟩
theorem bound_c (w : World) : Calls Tryd.prog 41 #[] w fun e w' => e = .returned (.string ⟨#[98]⟩) ∧ w = w' := by
  go_enter Tryd.func41, Tryd.ntmps41
  go_wp2
  go_ret
  exact ⟨rfl, rfl⟩
theorem threshold_no (n : Int) (h : n < 1 ∨ 6 < n) (w : World) : Calls Tryd.prog 40 #[.int .i64 n] w fun e w' => e = str2 [] 2 ∧ Below w.heap.size w w' := by
  rcases h with h | h
  all_goals go_enter Tryd.func40, Tryd.ntmps40
  all_goals go_wp2
  all_goals go_ret2
  all_goals exact ⟨rfl, Below.refl _ _⟩
theorem threshold_c (n : Nat) (h1 : 1 ≤ n) (h6 : n ≤ 6) (w : World) : Calls Tryd.prog 40 #[.int .i64 (n : Int)] w fun e w' => e = str2 [103, UInt8.ofNat n] 0 ∧ Below w.heap.size w w' := by
  have hn : (n : Int) % 256 = (n : Int) := by omega
  have hcv := (at_b (w := w) (x := (n : Int)) (b := UInt8.ofNat n) 5 (by rw [UInt8.toNat_ofNat']; omega)).conv (P := Tryd.prog) 1 70 5 9 Tryd.underlying70 (by kernel_rfl) Tryd.underlying9
  go_enter Tryd.func40, Tryd.ntmps40
  go_wp2
  go_ret2
  exact ⟨rfl, nbl w _⟩
theorem cutPre0 (k : ByteArray) (c : UInt8) (w : World) (b : Bool) (hb : (sb k).head? = some c ↔ b = true) :
    Calls Tryd.prog 102 #[.string k, .string ⟨#[c]⟩] w fun e w' => e = .returned (.tuple #[.string (if b then k.extract 1 k.size else k), .bool b]) ∧ w = w' := by
  have hp : Lib.hasPrefix (ob k) (ob ⟨#[c]⟩) = b := by
    rw [Bool.eq_iff_iff, ← hb]
    show Lib.hasPrefix (sb k) [c] = true ↔ _
    generalize sb k = l
    cases l with
    | nil => simp [Lib.hasPrefix]
    | cons x l =>
      constructor
      · intro h
        have : c = x := by simpa [Lib.hasPrefix, List.isPrefixOf] using h
        rw [this]
        rfl
      · intro h
        have : x = c := by simpa using h
        subst this
        simp [Lib.hasPrefix, List.isPrefixOf]
  have HP := Lib.hid (hasPre0 k ⟨#[c]⟩ b w hp)
  have H1 : Calls Tryd.prog 117 #[.string k, .string ⟨#[c]⟩] w fun e w' => e = .returned (.tuple #[.string (if b then k.extract 1 k.size else k), .bool b]) ∧ w = w' := by
    have hk : b = true → 1 ≤ k.size := by
      intro h
      have := hb.2 h
      rw [← sb_len]
      cases hh : sb k with
      | nil => rw [hh] at this; cases this
      | cons x l => simp
    clear hb hp
    cases b
    · go_enter Tryd.func117, Tryd.ntmps117
      go_wp2_with (go_at_call 124; refine HP.out.mono ?_; rintro e w1 ⟨rfl, rfl⟩)
      go_ret2
      exact ⟨rfl, rfl⟩
    · have hk1 := hk rfl
      have hz : (⟨#[c]⟩ : ByteArray).size = 1 := rfl
      go_enter Tryd.func117, Tryd.ntmps117
      go_wp2_with (go_at_call 124; refine HP.out.mono ?_; rintro e w1 ⟨rfl, rfl⟩)
      go_ret2
      exact ⟨rfl, rfl⟩
  obtain ⟨z, hz⟩ : ∃ z : ByteArray, (if b = true then k.extract 1 k.size else k) = z := ⟨_, rfl⟩
  rw [hz] at H1 ⊢
  have H2 := Lib.hid H1
  clear H1 hp hb HP hz
  go_enter Tryd.func102, Tryd.ntmps102
  go_wp2_with (go_at_call 117; refine H2.out.mono ?_; rintro e w1 ⟨rfl, rfl⟩)
  go_ret2
  exact ⟨rfl, rfl⟩
theorem tkey_err : ∀ (k : Nat) (l : List UInt8) (n x : Nat), l.length ≤ k → tkey n l = .error x → x ≠ 0
  | _, [], n, x, _, h => by rw [tkey_nil] at h; cases h; decide
  | 0, _ :: _, _, _, hl, _ => by simp at hl
  | k + 1, b :: t, n, x, hl, h => by
    simp only [List.length_cons] at hl
    have step : ∀ (u : List UInt8) (c : UInt8), u.length ≤ k → (if n = 0 then (.error 5 : Except Nat (List UInt8 × List UInt8)) else (tkey (n - 1) u).map fun p => (c :: p.1, p.2)) = .error x → x ≠ 0 := by
      intro u c hu h
      split at h
      · cases h; decide
      · cases hr : tkey (n - 1) u with
        | ok p => rw [hr] at h; cases h
        | error y =>
          rw [hr] at h
          have hy := tkey_err k u (n - 1) y hu hr
          cases h
          exact hy
    by_cases hb : b = 0
    · subst hb
      cases t with
      | nil => rw [tkey_zero] at h; cases h; decide
      | cons c t =>
        by_cases c0 : c = 0
        · subst c0; rw [tkey_end] at h; cases h
        · by_cases c1 : c = 1
          · subst c1
            rw [tkey_esc] at h
            exact step t 0 (by simp at hl; omega) h
          · rw [tkey_bad n c0 c1] at h; cases h; decide
    · rw [tkey_byte n hb] at h
      exact step t b (by omega) h
/-- With which key a table's key begins behind a mark, and what stands behind it. -/
def rk (m : UInt8) (k : List UInt8) : Option (List UInt8 × List UInt8) :=
  if k.head? = some m then (match tkey 1000 (k.drop 1) with
    | .ok p => if 1 ≤ p.1.length ∧ p.1.length ≤ 32 then some p else none
    | .error _ => none) else none
def rkA (o : Option (List UInt8 × List UInt8)) : Ending :=
  match o with
  | none => .returned (.tuple #[.string ⟨#[]⟩, .string ⟨#[]⟩, .bool false])
  | some p => .returned (.tuple #[.string ⟨p.1.toArray⟩, .string ⟨p.2.toArray⟩, .bool true])
set_option maxHeartbeats 1000000 in
theorem readKey_c (m : UInt8) (k : ByteArray) (w : World) (hk : k.size ≤ 150000000000000) :
    Calls Tryd.prog 82 #[.string ⟨#[m]⟩, .string k] w fun e w' => e = rkA (rk m (sb k)) ∧ Below w.heap.size w w' := by
  by_cases hh : (sb k).head? = some m
  · have HP := Lib.hid (cutPre0 k m w true ⟨fun _ => rfl, fun _ => hh⟩)
    rw [if_pos rfl] at HP
    have HT := Lib.hid (take (k.extract 1 k.size) w (by rw [ByteArray.size_extract]; omega))
    have e1 : ob (k.extract 1 k.size) = (sb k).drop 1 := ob_sb _ ▸ (sb_end k 1)
    rw [e1] at HT
    unfold rk
    rw [if_pos hh]
    cases ht : tkey 1000 ((sb k).drop 1) with
    | error x =>
      rw [ht] at HT
      have hx : ((x : Int) != 0) = true := by have := tkey_err _ _ _ _ (Nat.le_refl _) ht; simpa using this
      clear ht e1
      go_enter Tryd.func82, Tryd.ntmps82
      go_wp2_with (first
        | (go_at_call 102; refine HP.out.mono ?_; rintro e w1 ⟨rfl, rfl⟩)
        | (go_at_call 103; refine HT.out.mono ?_; rintro e w2 ⟨rfl, hb⟩; rw [TkAns_err]))
      go_ret3
      exact ⟨rfl, hb⟩
    | ok p =>
      rw [ht] at HT
      obtain ⟨s, r⟩ := p
      have hik : isK ⟨s.toArray⟩ = decide (1 ≤ s.length ∧ s.length ≤ 32) := rfl
      simp only
      by_cases h1 : 1 ≤ s.length ∧ s.length ≤ 32
      · rw [if_pos h1]
        rw [decide_eq_true h1] at hik
        clear ht e1 h1
        go_enter Tryd.func82, Tryd.ntmps82
        go_wp2_with (first
          | (go_at_call 102; refine HP.out.mono ?_; rintro e w1 ⟨rfl, rfl⟩)
          | (go_at_call 103; refine HT.out.mono ?_; rintro e w2 ⟨rfl, hb⟩; rw [TkAns_ok])
          | (go_at_call 89; refine (isKey_c _ _ hik _).mono ?_; rintro e w3 ⟨rfl, rfl⟩))
        go_ret3
        exact ⟨rfl, hb⟩
      · rw [if_neg h1]
        rw [decide_eq_false h1] at hik
        clear ht e1 h1
        go_enter Tryd.func82, Tryd.ntmps82
        go_wp2_with (first
          | (go_at_call 102; refine HP.out.mono ?_; rintro e w1 ⟨rfl, rfl⟩)
          | (go_at_call 103; refine HT.out.mono ?_; rintro e w2 ⟨rfl, hb⟩; rw [TkAns_ok])
          | (go_at_call 89; refine (isKey_c _ _ hik _).mono ?_; rintro e w3 ⟨rfl, rfl⟩))
        go_ret3
        exact ⟨rfl, hb⟩
  · have HP := Lib.hid (cutPre0 k m w false ⟨fun h => absurd h hh, fun h => nomatch h⟩)
    rw [if_neg (by simp)] at HP
    unfold rk
    rw [if_neg hh]
    clear hh
    go_enter Tryd.func82, Tryd.ntmps82
    go_wp2_with (go_at_call 102; refine HP.out.mono ?_; rintro e w1 ⟨rfl, rfl⟩)
    go_ret3
    exact ⟨rfl, Below.refl _ _⟩
theorem readIntent_c (k : ByteArray) (w : World) (hk : k.size ≤ 150000000000000) (s : List UInt8) (hr : rk 105 (sb k) = some (s, [])) :
    Calls Tryd.prog 43 #[.string k] w fun e w' => e = str2 s 0 ∧ Below w.heap.size w w' := by
  have HC := Lib.hid (readKey_c 105 k w hk)
  rw [hr] at HC
  clear hr
  go_enter Tryd.func43, Tryd.ntmps43
  go_wp2_with (go_at_call 82; refine HC.out.mono ?_; rintro e w1 ⟨rfl, hb1⟩; unfold rkA; simp only)
  go_ret2
  exact ⟨rfl, hb1⟩
theorem readIntent_no (k : ByteArray) (w : World) (hk : k.size ≤ 150000000000000) (hr : rk 105 (sb k) = none) :
    Calls Tryd.prog 43 #[.string k] w fun e w' => e = str2 [] 4 ∧ Below w.heap.size w w' := by
  have HC := Lib.hid (readKey_c 105 k w hk)
  rw [hr] at HC
  clear hr
  go_enter Tryd.func43, Tryd.ntmps43
  go_wp2_with (go_at_call 82; refine HC.out.mono ?_; rintro e w1 ⟨rfl, hb1⟩; unfold rkA; simp only)
  go_ret2
  exact ⟨rfl, hb1⟩
end Go.Proofs.YtchebellejkdnaaDoor
