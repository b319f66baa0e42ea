/-
  Layer 11, the code: what may be: numbers, keys, values; the functions that look at one change, one write, one stamp.
  Layer 11: what each looks through, by a function that is handed in: slices.IndexFunc, ContainsFunc, each; areStamps, areChanges, areWrites.
  Layer 11, the code: CheckIntent, CheckRecord.
-/
import Derived.Test.YtiafmbfeigcinaaGreatDoorZ13
import Derived.Test.YtiafmbfeigcinaaGreatDoorZ12
import Derived.Test.YtiafmbfeigcinaaGreatDoorZ16
set_option linter.unusedVariables false
set_option linter.unusedSimpArgs false
set_option maxRecDepth 100000
namespace Go.Proofs.YtiafmbfeigcinaaGreatDoor
open Go.RowKit

theorem isId_c (n : Int) (b : Bool) (h : isI n = b) (w : World) : Calls Tryz.prog 179 #[.int .i64 n] w fun e w' => e = .returned (.bool b) ∧ w = w' := by
  subst h
  go_enter Tryz.func179, Tryz.ntmps179
  go_wp2
  all_goals go_ret
  all_goals refine ⟨congrArg (fun v => Ending.returned (Value.bool v)) ?_, rfl⟩
  all_goals unfold isI
  all_goals first | exact (decide_eq_true (by omega)).symm | exact (decide_eq_false (by omega)).symm | exact decide_eq_decide.2 (by omega)
theorem isNumber_c (n : Int) (b : Bool) (h : isN n = b) (w : World) : Calls Tryz.prog 180 #[.int .i64 n] w fun e w' => e = .returned (.bool b) ∧ w = w' := by
  subst h
  go_enter Tryz.func180, Tryz.ntmps180
  go_wp2
  all_goals go_ret
  all_goals refine ⟨congrArg (fun v => Ending.returned (Value.bool v)) ?_, rfl⟩
  all_goals unfold isN
  all_goals first | exact (decide_eq_true (by omega)).symm | exact (decide_eq_false (by omega)).symm | exact decide_eq_decide.2 (by omega)
theorem isStatus_c (n : Int) (b : Bool) (h : isS n = b) (w : World) : Calls Tryz.prog 145 #[.int .i64 n] w fun e w' => e = .returned (.bool b) ∧ w = w' := by
  subst h
  go_enter Tryz.func145, Tryz.ntmps145
  go_wp2
  all_goals go_ret
  all_goals refine ⟨congrArg (fun v => Ending.returned (Value.bool v)) ?_, rfl⟩
  all_goals unfold isS
  all_goals first | exact (decide_eq_true (by omega)).symm | exact (decide_eq_false (by omega)).symm | exact decide_eq_decide.2 (by omega)
theorem isKey_c (s : ByteArray) (b : Bool) (h : isK s = b) (w : World) : Calls Tryz.prog 181 #[.string s] w fun e w' => e = .returned (.bool b) ∧ w = w' := by
  have hb : ((if 1 ≤ s.size ∧ s.size ≤ 32 then 0 else 2 : Int) == 0) = b := by
    subst h
    unfold isK
    by_cases h1 : 1 ≤ s.size ∧ s.size ≤ 32
    · rw [if_pos h1, decide_eq_true h1]; rfl
    · rw [if_neg h1, decide_eq_false h1]; rfl
  have HC := Lib.hid (check s)
  generalize (if 1 ≤ s.size ∧ s.size ≤ 32 then 0 else 2 : Int) = x at hb HC
  have HB := Lib.hid hb
  clear hb h
  go_enter Tryz.func181, Tryz.ntmps181
  go_wp2_with fail
  refine (HC.out _).mono ?_
  rintro e w1 ⟨rfl, rfl⟩
  go_wp2
  go_ret
  exact ⟨congrArg (fun b => Ending.returned (Value.bool b)) HB.out, rfl⟩
theorem empty_iff (s : ByteArray) : (s.toList == ([] : List UInt8)) = decide (s.size = 0) := by
  rw [Lib.toList_data, ← sb_len]
  show (sb s == []) = _
  generalize sb s = l
  cases l <;> rfl
theorem empty_is (s : ByteArray) : s.toList.isEmpty = decide (s.size = 0) := by
  rw [Lib.toList_data, ← sb_len]
  show (sb s).isEmpty = _
  generalize sb s = l
  cases l <;> rfl
theorem isValue_c (s : ByteArray) (d : Bool) (b : Bool) (h : isV s d = b) (w : World) : Calls Tryz.prog 150 #[.string s, .bool d] w fun e w' => e = .returned (.bool b) ∧ w = w' := by
  subst h
  have h1 := empty_iff s
  have h2 := empty_is s
  by_cases h0 : s.size = 0
  · rw [decide_eq_true h0] at h1 h2
    cases d
    all_goals go_enter Tryz.func150, Tryz.ntmps150
    all_goals go_wp2
    all_goals go_ret
    all_goals refine ⟨congrArg (fun v => Ending.returned (Value.bool v)) ?_, rfl⟩
    all_goals unfold isV
    all_goals simp [h0, h1, h2]
  · rw [decide_eq_false h0] at h1 h2
    cases d
    all_goals go_enter Tryz.func150, Tryz.ntmps150
    all_goals go_wp2
    all_goals go_ret
    all_goals refine ⟨congrArg (fun v => Ending.returned (Value.bool v)) ?_, rfl⟩
    all_goals unfold isV
    all_goals first | (simp [h0, h1, h2]; done) | (simp [h0, h1, h2]; omega)
theorem argUnless_c (b : Bool) (w : World) : Calls Tryz.prog 140 #[.bool b] w fun e w' => e = .returned (.int .i64 (if b then 0 else 2)) ∧ w = w' := by
  cases b
  all_goals go_enter Tryz.func140, Tryz.ntmps140
  all_goals go_wp2
  all_goals go_ret
  all_goals exact ⟨rfl, rfl⟩
theorem isOwner_c (id ep pr : Int) (an : ByteArray) (b : Bool) (h : hdr id ep pr an = b) (w : World) : Calls Tryz.prog 141 #[.int .i64 id, .int .i64 ep, .int .i64 pr, .string an] w fun e w' => e = .returned (.bool b) ∧ w = w' := by
  subst h
  cases h1 : isI id
  all_goals cases h2 : isN ep
  all_goals cases h4 : isK an
  all_goals go_enter Tryz.func141, Tryz.ntmps141
  all_goals go_wp2_with (first
    | (go_at_call 179; refine (isId_c _ _ h1 _).mono ?_; rintro e w1 ⟨rfl, rfl⟩)
    | (go_at_call 180; refine (isNumber_c _ _ h2 _).mono ?_; rintro e w1 ⟨rfl, rfl⟩)
    | (go_at_call 181; refine (isKey_c _ _ h4 _).mono ?_; rintro e w1 ⟨rfl, rfl⟩))
  all_goals go_ret
  all_goals refine ⟨congrArg (fun v => Ending.returned (Value.bool v)) ?_, rfl⟩
  all_goals unfold hdr
  all_goals rw [h1, h2, h4]
  all_goals first
    | (simp; done)
    | (rw [show isP pr = true from decide_eq_true (by omega)]; rfl)
    | (rw [show isP pr = false from decide_eq_false (by omega)]; rfl)
    | (unfold isP; simp; omega)

/-! ### one change, one write, one stamp -/
theorem stampOne (p : Int × Int) (b : Bool) (h : mayP p = b) (w : World) : Calls Tryz.prog 183 #[sv p.1 p.2] w fun e w' => e = .returned (.bool b) ∧ Below w.heap.size w w' := by
  have hb : (ck p.1 p.2 == 0) = b := by
    subst h
    unfold ck mayP
    cases may p.1 p.2 <;> rfl
  have HC := Lib.hid (check_ok p.1 p.2)
  generalize ck p.1 p.2 = x at hb HC
  have HB := Lib.hid hb
  obtain ⟨a, c⟩ := p
  clear hb h
  go_enter Tryz.func183, Tryz.ntmps183
  go_wp2_with fail
  refine (HC.out _).mono ?_
  rintro e w1 ⟨rfl, hb1⟩
  have hb2 := (nbl w (.cells #[.int .i64 a, .int .i64 c] 26)).trans (hb1.mono (by simp))
  go_wp2
  go_ret
  exact ⟨congrArg (fun b => Ending.returned (Value.bool b)) HB.out, hb2⟩
set_option maxHeartbeats 4000000 in
theorem changeOne (ga : Nat) (a : Int) (c : Ch) (b : Bool) (h : okCh a c = b) (w : World) (hg : Blk w ga 3 #[.int .i64 a]) :
    Calls Tryz.prog 185 #[chv c, pt ga] w fun e w' => e = .returned (.bool b) ∧ Blk w' ga 3 #[.int .i64 c.q] ∧ Grow (fun k => k = ga) w w' := by
  subst h
  obtain ⟨q, s, d⟩ := c
  have hne : ga ≠ w.heap.size := by have := hg.lt; omega
  have hX := Blk.new w 79 #[.int .i64 q, .string s, .bool d]
  have hG : Blk (w.alloc (.cells #[.int .i64 q, .string s, .bool d] 79)) ga 3 #[.int .i64 a] := hg.below (nbl w _) hg.lt
  have hR : Grow (fun k => k = ga) w ((w.alloc (.cells #[.int .i64 q, .string s, .bool d] 79)).setCell ⟨ga, 0, none⟩ (.int .i64 q)) := (Grow.of_below (F := fun k => k = ga) (nbl w _)).set (p := ⟨ga, 0, none⟩) (.inl rfl) _
  have hS := hG.set_ 0 (.int .i64 q)
  have hY : Blk ((w.alloc (.cells #[.int .i64 q, .string s, .bool d] 79)).setCell ⟨ga, 0, none⟩ (.int .i64 q)) w.heap.size 79 #[.int .i64 q, .string s, .bool d] := by
    unfold Blk at *
    simp only [World.setCell, Array.getElem?_modify]
    rw [if_neg hne]
    exact hX
  have g0 := hG.cell 0
  have gz := hG.frozen 0
  have x0 := hX.cell 0
  have y0 := hY.cell 0
  have y1 := hY.cell 1
  have y2 := hY.cell 2
  simp at g0 x0 y0 y1 y2
  have HS := Lib.hid hS
  have HR := Lib.hid hR
  clear hX hG hS hY hR hg
  cases h1 : isI q
  all_goals cases h2 : isV s (!d)
  all_goals by_cases hlt : a < q
  all_goals go_enter Tryz.func185, Tryz.ntmps185
  all_goals go_wp2_with (first
    | (go_at_call 179; refine (isId_c _ _ h1 _).mono ?_; rintro e w1 ⟨rfl, rfl⟩)
    | (go_at_call 150; refine (isValue_c _ _ _ h2 _).mono ?_; rintro e w1 ⟨rfl, rfl⟩))
  all_goals go_ret
  all_goals refine ⟨congrArg (fun v => Ending.returned (Value.bool v)) ?_, HS.out, HR.out⟩
  all_goals unfold okCh
  all_goals simp only [h1, h2]
  all_goals first | (rw [decide_eq_true hlt]; rfl) | (rw [decide_eq_false (by omega)]; rfl)
theorem slt_gt (a s : ByteArray) : (!(Op.bytesLess s.toList a.toList || s.toList == a.toList)) = slt a s := by
  rw [kbeq]
  show (!(kl s a || decide (s = a))) = kl a s
  by_cases h : s = a
  · subst h
    rw [kl_irr, decide_eq_true rfl]; rfl
  · rw [decide_eq_false h]
    cases h1 : kl s a with
    | true => rw [kl_asym h1]; rfl
    | false =>
      cases h2 : kl a s with
      | true => rfl
      | false => exact absurd (kl_total h1 h2) h
set_option maxHeartbeats 4000000 in
theorem writeOne (ga : Nat) (a : ByteArray) (c : Wt) (b : Bool) (h : okWt a c = b) (w : World) (hg : Blk w ga 9 #[.string a]) :
    Calls Tryz.prog 187 #[wtv c, pt ga] w fun e w' => e = .returned (.bool b) ∧ Blk w' ga 9 #[.string c.k] ∧ Grow (fun k => k = ga) w w' := by
  subst h
  obtain ⟨s, q⟩ := c
  have hne : ga ≠ w.heap.size := by have := hg.lt; omega
  have hX := Blk.new w 159 #[.string s, .int .i64 q]
  have hG : Blk (w.alloc (.cells #[.string s, .int .i64 q] 159)) ga 9 #[.string a] := hg.below (nbl w _) hg.lt
  have hR : Grow (fun k => k = ga) w ((w.alloc (.cells #[.string s, .int .i64 q] 159)).setCell ⟨ga, 0, none⟩ (.string s)) := (Grow.of_below (F := fun k => k = ga) (nbl w _)).set (p := ⟨ga, 0, none⟩) (.inl rfl) _
  have hS := hG.set_ 0 (.string s)
  have hY : Blk ((w.alloc (.cells #[.string s, .int .i64 q] 159)).setCell ⟨ga, 0, none⟩ (.string s)) w.heap.size 159 #[.string s, .int .i64 q] := by
    unfold Blk at *
    simp only [World.setCell, Array.getElem?_modify]
    rw [if_neg hne]
    exact hX
  have g0 := hG.cell 0
  have gz := hG.frozen 0
  have x0 := hX.cell 0
  have y0 := hY.cell 0
  have y1 := hY.cell 1
  simp at g0 x0 y0 y1
  have HS := Lib.hid hS
  have HR := Lib.hid hR
  clear hX hG hS hY hR hg
  have hl0 := slt_gt a s
  cases h1 : isI q
  all_goals cases h2 : isK s
  all_goals cases hlt : slt a s
  all_goals rw [hlt] at hl0
  all_goals generalize hx1 : Op.bytesLess s.toList a.toList = x1 at hl0
  all_goals generalize hx2 : (s.toList == a.toList) = x2 at hl0
  all_goals have hx3 : (x1 || x2) = !(!(x1 || x2)) := by simp
  all_goals rw [hl0] at hx3
  all_goals clear hl0
  all_goals go_enter Tryz.func187, Tryz.ntmps187
  all_goals go_wp2_with (first
    | (go_at_call 179; refine (isId_c _ _ h1 _).mono ?_; rintro e w1 ⟨rfl, rfl⟩)
    | (go_at_call 181; refine (isKey_c _ _ h2 _).mono ?_; rintro e w1 ⟨rfl, rfl⟩))
  all_goals go_ret
  all_goals refine ⟨congrArg (fun v => Ending.returned (Value.bool v)) ?_, HS.out, HR.out⟩
  all_goals unfold okWt
  all_goals simp only [h1, h2, hlt]
  all_goals rfl
end Go.Proofs.YtiafmbfeigcinaaGreatDoor
set_option linter.unusedVariables false
set_option maxRecDepth 100000
namespace Go.Proofs.YtiafmbfeigcinaaGreatDoor
open Go.RowKit


set_option maxHeartbeats 4000000 in
theorem idxS {S : Type} (ok : S → Int × Int → Bool) (nx : S → Int × Int → S) (gf : Nat) (J : S → World → Prop) (A : Option Addr) (n c : Nat) (l : List (Int × Int)) (hn : n ≤ 9223372036854775807)
    (hat : ∀ s W, J s W → Stamps W A n l)
    (step : ∀ s (c : Int × Int) W, J s W → Calls Tryz.prog 202 #[(sv c.1 c.2), pt gf] W fun e w' => e = .returned (.bool (!(ok s c))) ∧ J (nx s c) w')
    (s : S) (w : World) (hJ : J s w) :
    Calls Tryz.prog 193 #[.slice A n c, .func (.func 202) #[] #[pt gf]] w fun e w' => ∃ k : Int, e = .returned (.int .i64 k) ∧ decide (0 ≤ k) = !(scan ok nx s l) ∧ ∃ s', J s' w' := by
  have ST := Lib.hid step
  have HF := Lib.hid hat
  clear step hat
  go_enter Tryz.func193, Tryz.ntmps193
  go_wp2
  go_loopw [8] (fun i wr => ∃ (k : Nat) (s' : S), k ≤ n ∧ i = .int .i64 k ∧ Hid (scan ok nx s' (l.drop k) = scan ok nx s l) ∧ J s' wr) (fun i _ => n - (intOf i).toNat)
  case atStart => exact ⟨0, s, Nat.zero_le _, rfl, rfl, hJ⟩
  case round =>
    obtain ⟨k, s', hk, rfl, hrun, hRep⟩ := hrel
    have hfa := HF.out s' wr hRep
    have hlen := hfa.1
    by_cases hlt : k < n
    · have hkl : k < l.length := by omega
      obtain ⟨b, o, rfl, hc⟩ := hfa.2 (by omega)
      obtain ⟨h1, h2⟩ := hc k hkl
      have hs := ST.out s' (l[k]'hkl) wr hRep
      have hd : l.drop k = (l[k]'hkl) :: l.drop (k + 1) := List.drop_eq_getElem_cons hkl
      have hrun' := hrun.out
      rw [hd] at hrun'
      generalize (l[k]'hkl) = x at *
      clear hc hfa HF ST hd hrun
      cases hok : ok s' x with
      | true =>
        have HR := Lib.hid (show scan ok nx (nx s' x) (l.drop (k + 1)) = scan ok nx s l by rw [← hrun', scan, hok, Bool.true_and])
        rw [hok] at hs
        clear hrun' hok
        go_wp2_with fail
        refine hs.mono ?_
        rintro e w2 ⟨rfl, h2⟩
        go_wp2
        go_roundw
        case rel => exact ⟨k + 1, _, by omega, by go_num, HR, h2⟩
        case measure => simp [intOf]; omega
      | false =>
        have HR := Lib.hid (show scan ok nx s l = false by rw [← hrun', scan, hok, Bool.false_and])
        rw [hok] at hs
        clear hrun' hok
        go_wp2_with fail
        refine hs.mono ?_
        rintro e w2 ⟨rfl, h2⟩
        go_wp2
        go_ret
        exact ⟨k, rfl, by rw [HR.out]; exact decide_eq_true (by omega), _, h2⟩
    · have HR := Lib.hid (show scan ok nx s l = true by rw [← hrun.out, List.drop_of_length_le (by omega), scan])
      clear hrun HF ST hfa
      go_wp2
      go_ret
      exact ⟨-1, rfl, by rw [HR.out]; rfl, _, hRep⟩
theorem conS {S : Type} (ok : S → Int × Int → Bool) (nx : S → Int × Int → S) (gf : Nat) (J : S → World → Prop) (A : Option Addr) (n c : Nat) (l : List (Int × Int)) (hn : n ≤ 9223372036854775807)
    (hat : ∀ s W, J s W → Stamps W A n l)
    (step : ∀ s (c : Int × Int) W, J s W → Calls Tryz.prog 202 #[(sv c.1 c.2), pt gf] W fun e w' => e = .returned (.bool (!(ok s c))) ∧ J (nx s c) w')
    (s : S) (w : World) (hJ : J s w) :
    Calls Tryz.prog 154 #[.slice A n c, .func (.func 202) #[] #[pt gf]] w fun e w' => e = .returned (.bool (!(scan ok nx s l))) ∧ ∃ s', J s' w' := by
  have HI := Lib.hid (idxS ok nx gf J A n c l hn hat step s w hJ)
  clear step hat hJ
  go_enter Tryz.func154, Tryz.ntmps154
  go_wp2_with fail
  refine HI.out.mono ?_
  rintro e w1 ⟨k, rfl, hk, h1⟩
  have HK := Lib.hid hk
  clear hk
  go_wp2
  go_ret
  exact ⟨congrArg (fun b => Ending.returned (Value.bool b)) HK.out, h1⟩

set_option maxHeartbeats 4000000 in
theorem idxC {S : Type} (ok : S → Ch → Bool) (nx : S → Ch → S) (gf : Nat) (J : S → World → Prop) (A : Option Addr) (n c : Nat) (l : List (Ch)) (hn : n ≤ 9223372036854775807)
    (hat : ∀ s W, J s W → ChAt W A n l)
    (step : ∀ s (c : Ch) W, J s W → Calls Tryz.prog 204 #[(chv c), pt gf] W fun e w' => e = .returned (.bool (!(ok s c))) ∧ J (nx s c) w')
    (s : S) (w : World) (hJ : J s w) :
    Calls Tryz.prog 216 #[.slice A n c, .func (.func 204) #[] #[pt gf]] w fun e w' => ∃ k : Int, e = .returned (.int .i64 k) ∧ decide (0 ≤ k) = !(scan ok nx s l) ∧ ∃ s', J s' w' := by
  have ST := Lib.hid step
  have HF := Lib.hid hat
  clear step hat
  go_enter Tryz.func216, Tryz.ntmps216
  go_wp2
  go_loopw [8] (fun i wr => ∃ (k : Nat) (s' : S), k ≤ n ∧ i = .int .i64 k ∧ Hid (scan ok nx s' (l.drop k) = scan ok nx s l) ∧ J s' wr) (fun i _ => n - (intOf i).toNat)
  case atStart => exact ⟨0, s, Nat.zero_le _, rfl, rfl, hJ⟩
  case round =>
    obtain ⟨k, s', hk, rfl, hrun, hRep⟩ := hrel
    have hfa := HF.out s' wr hRep
    have hlen := hfa.1
    by_cases hlt : k < n
    · have hkl : k < l.length := by omega
      obtain ⟨b, o, rfl, hc⟩ := hfa.2 (by omega)
      obtain ⟨h1, h2, h3⟩ := hc k hkl
      have hs := ST.out s' (l[k]'hkl) wr hRep
      have hd : l.drop k = (l[k]'hkl) :: l.drop (k + 1) := List.drop_eq_getElem_cons hkl
      have hrun' := hrun.out
      rw [hd] at hrun'
      generalize (l[k]'hkl) = x at *
      clear hc hfa HF ST hd hrun
      cases hok : ok s' x with
      | true =>
        have HR := Lib.hid (show scan ok nx (nx s' x) (l.drop (k + 1)) = scan ok nx s l by rw [← hrun', scan, hok, Bool.true_and])
        rw [hok] at hs
        clear hrun' hok
        go_wp2_with fail
        refine hs.mono ?_
        rintro e w2 ⟨rfl, h2⟩
        go_wp2
        go_roundw
        case rel => exact ⟨k + 1, _, by omega, by go_num, HR, h2⟩
        case measure => simp [intOf]; omega
      | false =>
        have HR := Lib.hid (show scan ok nx s l = false by rw [← hrun', scan, hok, Bool.false_and])
        rw [hok] at hs
        clear hrun' hok
        go_wp2_with fail
        refine hs.mono ?_
        rintro e w2 ⟨rfl, h2⟩
        go_wp2
        go_ret
        exact ⟨k, rfl, by rw [HR.out]; exact decide_eq_true (by omega), _, h2⟩
    · have HR := Lib.hid (show scan ok nx s l = true by rw [← hrun.out, List.drop_of_length_le (by omega), scan])
      clear hrun HF ST hfa
      go_wp2
      go_ret
      exact ⟨-1, rfl, by rw [HR.out]; rfl, _, hRep⟩
theorem conC {S : Type} (ok : S → Ch → Bool) (nx : S → Ch → S) (gf : Nat) (J : S → World → Prop) (A : Option Addr) (n c : Nat) (l : List (Ch)) (hn : n ≤ 9223372036854775807)
    (hat : ∀ s W, J s W → ChAt W A n l)
    (step : ∀ s (c : Ch) W, J s W → Calls Tryz.prog 204 #[(chv c), pt gf] W fun e w' => e = .returned (.bool (!(ok s c))) ∧ J (nx s c) w')
    (s : S) (w : World) (hJ : J s w) :
    Calls Tryz.prog 203 #[.slice A n c, .func (.func 204) #[] #[pt gf]] w fun e w' => e = .returned (.bool (!(scan ok nx s l))) ∧ ∃ s', J s' w' := by
  have HI := Lib.hid (idxC ok nx gf J A n c l hn hat step s w hJ)
  clear step hat hJ
  go_enter Tryz.func203, Tryz.ntmps203
  go_wp2_with fail
  refine HI.out.mono ?_
  rintro e w1 ⟨k, rfl, hk, h1⟩
  have HK := Lib.hid hk
  clear hk
  go_wp2
  go_ret
  exact ⟨congrArg (fun b => Ending.returned (Value.bool b)) HK.out, h1⟩

set_option maxHeartbeats 4000000 in
theorem idxW {S : Type} (ok : S → Wt → Bool) (nx : S → Wt → S) (gf : Nat) (J : S → World → Prop) (A : Option Addr) (n c : Nat) (l : List (Wt)) (hn : n ≤ 9223372036854775807)
    (hat : ∀ s W, J s W → WtAt W A n l)
    (step : ∀ s (c : Wt) W, J s W → Calls Tryz.prog 206 #[(wtv c), pt gf] W fun e w' => e = .returned (.bool (!(ok s c))) ∧ J (nx s c) w')
    (s : S) (w : World) (hJ : J s w) :
    Calls Tryz.prog 217 #[.slice A n c, .func (.func 206) #[] #[pt gf]] w fun e w' => ∃ k : Int, e = .returned (.int .i64 k) ∧ decide (0 ≤ k) = !(scan ok nx s l) ∧ ∃ s', J s' w' := by
  have ST := Lib.hid step
  have HF := Lib.hid hat
  clear step hat
  go_enter Tryz.func217, Tryz.ntmps217
  go_wp2
  go_loopw [8] (fun i wr => ∃ (k : Nat) (s' : S), k ≤ n ∧ i = .int .i64 k ∧ Hid (scan ok nx s' (l.drop k) = scan ok nx s l) ∧ J s' wr) (fun i _ => n - (intOf i).toNat)
  case atStart => exact ⟨0, s, Nat.zero_le _, rfl, rfl, hJ⟩
  case round =>
    obtain ⟨k, s', hk, rfl, hrun, hRep⟩ := hrel
    have hfa := HF.out s' wr hRep
    have hlen := hfa.1
    by_cases hlt : k < n
    · have hkl : k < l.length := by omega
      obtain ⟨b, o, rfl, hc⟩ := hfa.2 (by omega)
      obtain ⟨h1, h2⟩ := hc k hkl
      have hs := ST.out s' (l[k]'hkl) wr hRep
      have hd : l.drop k = (l[k]'hkl) :: l.drop (k + 1) := List.drop_eq_getElem_cons hkl
      have hrun' := hrun.out
      rw [hd] at hrun'
      generalize (l[k]'hkl) = x at *
      clear hc hfa HF ST hd hrun
      cases hok : ok s' x with
      | true =>
        have HR := Lib.hid (show scan ok nx (nx s' x) (l.drop (k + 1)) = scan ok nx s l by rw [← hrun', scan, hok, Bool.true_and])
        rw [hok] at hs
        clear hrun' hok
        go_wp2_with fail
        refine hs.mono ?_
        rintro e w2 ⟨rfl, h2⟩
        go_wp2
        go_roundw
        case rel => exact ⟨k + 1, _, by omega, by go_num, HR, h2⟩
        case measure => simp [intOf]; omega
      | false =>
        have HR := Lib.hid (show scan ok nx s l = false by rw [← hrun', scan, hok, Bool.false_and])
        rw [hok] at hs
        clear hrun' hok
        go_wp2_with fail
        refine hs.mono ?_
        rintro e w2 ⟨rfl, h2⟩
        go_wp2
        go_ret
        exact ⟨k, rfl, by rw [HR.out]; exact decide_eq_true (by omega), _, h2⟩
    · have HR := Lib.hid (show scan ok nx s l = true by rw [← hrun.out, List.drop_of_length_le (by omega), scan])
      clear hrun HF ST hfa
      go_wp2
      go_ret
      exact ⟨-1, rfl, by rw [HR.out]; rfl, _, hRep⟩
theorem conW {S : Type} (ok : S → Wt → Bool) (nx : S → Wt → S) (gf : Nat) (J : S → World → Prop) (A : Option Addr) (n c : Nat) (l : List (Wt)) (hn : n ≤ 9223372036854775807)
    (hat : ∀ s W, J s W → WtAt W A n l)
    (step : ∀ s (c : Wt) W, J s W → Calls Tryz.prog 206 #[(wtv c), pt gf] W fun e w' => e = .returned (.bool (!(ok s c))) ∧ J (nx s c) w')
    (s : S) (w : World) (hJ : J s w) :
    Calls Tryz.prog 205 #[.slice A n c, .func (.func 206) #[] #[pt gf]] w fun e w' => e = .returned (.bool (!(scan ok nx s l))) ∧ ∃ s', J s' w' := by
  have HI := Lib.hid (idxW ok nx gf J A n c l hn hat step s w hJ)
  clear step hat hJ
  go_enter Tryz.func205, Tryz.ntmps205
  go_wp2_with fail
  refine HI.out.mono ?_
  rintro e w1 ⟨k, rfl, hk, h1⟩
  have HK := Lib.hid hk
  clear hk
  go_wp2
  go_ret
  exact ⟨congrArg (fun b => Ending.returned (Value.bool b)) HK.out, h1⟩

theorem eachOneC (ga gf : Nat) (a : Int) (c : Ch) (W : World) (hg : Blk W ga 3 #[.int .i64 a]) (hf : Blk W gf 232 #[.func (.func 185) #[] #[pt ga]]) :
    Calls Tryz.prog 204 #[(chv c), pt gf] W fun e w' => e = .returned (.bool (!(okCh a c))) ∧ Blk w' ga 3 #[.int .i64 ((fun _ c => c.q) a c)] ∧ Grow (fun k => k = ga) W w' := by
  have h1 : Blk (W.alloc (.cells #[.int .i64 c.q, .string c.s, .bool c.d] 79)) ga 3 #[.int .i64 a] := hg.below (nbl W _) hg.lt
  have h2 : Blk (W.alloc (.cells #[.int .i64 c.q, .string c.s, .bool c.d] 79)) gf 232 #[.func (.func 185) #[] #[pt ga]] := hf.below (nbl W _) hf.lt
  have h3 := Blk.new W 79 #[.int .i64 c.q, .string c.s, .bool c.d]
  have HO := Lib.hid (changeOne ga a c _ rfl _ h1)
  have c2 := h2.cell 0
  have c3 := h3.cell 0
  simp at c2 c3
  have HG := Lib.hid (Grow.of_below (F := fun k => k = ga) (nbl W (.cells #[.int .i64 c.q, .string c.s, .bool c.d] 79)))
  clear h1 h2 h3 hg hf
  go_enter Tryz.func204, Tryz.ntmps204
  go_wp2_with fail
  refine HO.out.mono ?_
  rintro e w1 ⟨rfl, q1, q2⟩
  have q3 := HG.out.trans (q2.mono fun k hk => .inl hk)
  go_wp2
  go_ret
  exact ⟨rfl, q1, q3⟩
theorem eachC (ga : Nat) (a : Int) (A : Option Addr) (n c : Nat) (l : List Ch) (w : World) (hn : n ≤ 9223372036854775807) (hx : ∀ W, Below ga w W → ChAt W A n l) (hg : Blk w ga 3 #[.int .i64 a]) :
    Calls Tryz.prog 184 #[.slice A n c, .func (.func 185) #[] #[pt ga]] w fun e w' => e = .returned (.bool (rise a l)) ∧ Below ga w w' := by
  have hlt := hg.lt
  have HC := Lib.hid (conC okCh (fun _ c => c.q) w.heap.size (fun s W => Below ga w W ∧ Blk W ga 3 #[.int .i64 s] ∧ Blk W w.heap.size 232 #[.func (.func 185) #[] #[pt ga]]) A n c l hn
    (fun s W h => hx W h.1)
    (fun s x W h => (eachOneC ga w.heap.size s x W h.2.1 h.2.2).mono fun e w' ⟨h1, h2, h3⟩ => ⟨h1,
      ⟨h3.os.trans h.1.os, h3.tape.trans h.1.tape, h3.output.trans h.1.output, Nat.le_trans h.1.size h3.size, fun k hk => (h3.block k (by have := h.1.size; omega) (by omega)).trans (h.1.block k hk)⟩, h2,
      (h3.block _ h.2.2.lt (by omega)).trans h.2.2⟩)
    a (w.alloc (.cells #[.func (.func 185) #[] #[pt ga]] 232)) ⟨(Below.refl ga w).alloc (by omega) _, hg.below (nbl w _) hlt, Blk.new w _ _⟩)
  go_enter Tryz.func184, Tryz.ntmps184
  go_wp2_with fail
  refine HC.out.mono ?_
  rintro e w1 ⟨rfl, s', h1, _, _⟩
  go_wp2
  go_ret
  exact ⟨by rw [← scan_rise]; simp, h1⟩

theorem eachOneW (ga gf : Nat) (a : ByteArray) (c : Wt) (W : World) (hg : Blk W ga 9 #[.string a]) (hf : Blk W gf 234 #[.func (.func 187) #[] #[pt ga]]) :
    Calls Tryz.prog 206 #[(wtv c), pt gf] W fun e w' => e = .returned (.bool (!(okWt a c))) ∧ Blk w' ga 9 #[.string ((fun _ c => c.k) a c)] ∧ Grow (fun k => k = ga) W w' := by
  have h1 : Blk (W.alloc (.cells #[.string c.k, .int .i64 c.q] 159)) ga 9 #[.string a] := hg.below (nbl W _) hg.lt
  have h2 : Blk (W.alloc (.cells #[.string c.k, .int .i64 c.q] 159)) gf 234 #[.func (.func 187) #[] #[pt ga]] := hf.below (nbl W _) hf.lt
  have h3 := Blk.new W 159 #[.string c.k, .int .i64 c.q]
  have HO := Lib.hid (writeOne ga a c _ rfl _ h1)
  have c2 := h2.cell 0
  have c3 := h3.cell 0
  simp at c2 c3
  have HG := Lib.hid (Grow.of_below (F := fun k => k = ga) (nbl W (.cells #[.string c.k, .int .i64 c.q] 159)))
  clear h1 h2 h3 hg hf
  go_enter Tryz.func206, Tryz.ntmps206
  go_wp2_with fail
  refine HO.out.mono ?_
  rintro e w1 ⟨rfl, q1, q2⟩
  have q3 := HG.out.trans (q2.mono fun k hk => .inl hk)
  go_wp2
  go_ret
  exact ⟨rfl, q1, q3⟩
theorem eachW (ga : Nat) (a : ByteArray) (A : Option Addr) (n c : Nat) (l : List Wt) (w : World) (hn : n ≤ 9223372036854775807) (hx : ∀ W, Below ga w W → WtAt W A n l) (hg : Blk w ga 9 #[.string a]) :
    Calls Tryz.prog 186 #[.slice A n c, .func (.func 187) #[] #[pt ga]] w fun e w' => e = .returned (.bool (riseW a l)) ∧ Below ga w w' := by
  have hlt := hg.lt
  have HC := Lib.hid (conW okWt (fun _ c => c.k) w.heap.size (fun s W => Below ga w W ∧ Blk W ga 9 #[.string s] ∧ Blk W w.heap.size 234 #[.func (.func 187) #[] #[pt ga]]) A n c l hn
    (fun s W h => hx W h.1)
    (fun s x W h => (eachOneW ga w.heap.size s x W h.2.1 h.2.2).mono fun e w' ⟨h1, h2, h3⟩ => ⟨h1,
      ⟨h3.os.trans h.1.os, h3.tape.trans h.1.tape, h3.output.trans h.1.output, Nat.le_trans h.1.size h3.size, fun k hk => (h3.block k (by have := h.1.size; omega) (by omega)).trans (h.1.block k hk)⟩, h2,
      (h3.block _ h.2.2.lt (by omega)).trans h.2.2⟩)
    a (w.alloc (.cells #[.func (.func 187) #[] #[pt ga]] 234)) ⟨(Below.refl ga w).alloc (by omega) _, hg.below (nbl w _) hlt, Blk.new w _ _⟩)
  go_enter Tryz.func186, Tryz.ntmps186
  go_wp2_with fail
  refine HC.out.mono ?_
  rintro e w1 ⟨rfl, s', h1, _, _⟩
  go_wp2
  go_ret
  exact ⟨by rw [← scan_riseW]; simp, h1⟩

theorem eachOneS (gf : Nat) (c : Int × Int) (W : World) (hf : Blk W gf 218 #[.func (.func 183) #[] #[]]) :
    Calls Tryz.prog 202 #[sv c.1 c.2, pt gf] W fun e w' => e = .returned (.bool (!(mayP c))) ∧ Below W.heap.size W w' := by
  obtain ⟨x, y⟩ := c
  have h2 : Blk (W.alloc (.cells #[.int .i64 x, .int .i64 y] 26)) gf 218 #[.func (.func 183) #[] #[]] := hf.below (nbl W _) hf.lt
  have h3 := Blk.new W 26 #[.int .i64 x, .int .i64 y]
  have HO := Lib.hid (stampOne (x, y) _ rfl (W.alloc (.cells #[.int .i64 x, .int .i64 y] 26)))
  have c2 := h2.cell 0
  have c3 := h3.cell 0
  simp at c2 c3
  clear h2 h3 hf
  go_enter Tryz.func202, Tryz.ntmps202
  go_wp2_with fail
  refine HO.out.mono ?_
  rintro e w1 ⟨rfl, q1⟩
  have q3 := (nbl W (.cells #[.int .i64 x, .int .i64 y] 26)).trans (q1.mono (by simp))
  go_wp2
  go_ret
  exact ⟨rfl, q3⟩
theorem areStamps_c (A : Option Addr) (n c : Nat) (l : List (Int × Int)) (b : Bool) (hb : l.all mayP = b) (w : World) (hn : n ≤ 9223372036854775807) (hx : Stamps w A n l) :
    Calls Tryz.prog 142 #[.slice A n c] w fun e w' => e = .returned (.bool b) ∧ Below w.heap.size w w' := by
  subst hb
  have HC := Lib.hid (conS (fun (_ : Unit) p => mayP p) (fun u _ => u) w.heap.size (fun _ W => Below w.heap.size w W ∧ Blk W w.heap.size 218 #[.func (.func 183) #[] #[]]) A n c l hn
    (fun s W h => hx.below' h.1)
    (fun s x W h => (eachOneS w.heap.size x W h.2).mono fun e w' ⟨h1, h3⟩ => ⟨h1, h.1.trans (h3.mono h.1.size), (h3.block _ h.2.lt).trans h.2⟩)
    () (w.alloc (.cells #[.func (.func 183) #[] #[]] 218)) ⟨nbl w _, Blk.new w _ _⟩)
  have HE : Calls Tryz.prog 182 #[.slice A n c, .func (.func 183) #[] #[]] w fun e w' => e = .returned (.bool (l.all mayP)) ∧ Below w.heap.size w w' := by
    go_enter Tryz.func182, Tryz.ntmps182
    go_wp2_with fail
    refine HC.out.mono ?_
    rintro e w1 ⟨rfl, s', h1, _⟩
    go_wp2
    go_ret
    exact ⟨by rw [← scan_all]; simp, h1⟩
  clear HC
  have HE' := Lib.hid HE
  clear HE
  go_enter Tryz.func142, Tryz.ntmps142
  go_wp2_with fail
  refine HE'.out.mono ?_
  rintro e w1 ⟨rfl, h1⟩
  go_wp2
  go_ret
  exact ⟨rfl, h1⟩
theorem areChanges_c (A : Option Addr) (n c : Nat) (l : List Ch) (b : Bool) (hb : (decide (1 ≤ l.length ∧ l.length ≤ 16) && rise 0 l) = b) (w : World) (hn : n ≤ 9223372036854775807) (hx : ChAt w A n l) :
    Calls Tryz.prog 143 #[.slice A n c] w fun e w' => e = .returned (.bool b) ∧ Below w.heap.size w w' := by
  have hl := hx.1
  by_cases h1 : 1 ≤ n ∧ n ≤ 16
  · rw [hl, decide_eq_true h1, Bool.true_and] at hb
    subst hb
    obtain ⟨h2, h3⟩ := h1
    have HC := Lib.hid (eachC w.heap.size 0 A n c l (w.alloc (.cells #[.int .i64 0] 3)) hn (fun W hb => hx.below ((nbl w _).trans hb)) (Blk.new w _ _))
    go_enter Tryz.func143, Tryz.ntmps143
    go_wp2_with fail
    refine HC.out.mono ?_
    rintro e w1 ⟨rfl, q1⟩
    have q2 := (nbl w (.cells #[.int .i64 0] 3)).trans q1
    go_wp2
    go_ret
    exact ⟨rfl, q2⟩
  · rw [hl, decide_eq_false h1, Bool.false_and] at hb
    subst hb
    by_cases h2 : n < 1
    · go_enter Tryz.func143, Tryz.ntmps143
      go_wp2
      go_ret
      exact ⟨rfl, Below.refl _ _⟩
    · have h3 : 16 < n := by omega
      go_enter Tryz.func143, Tryz.ntmps143
      go_wp2
      go_ret
      exact ⟨rfl, Below.refl _ _⟩
theorem areWrites_c (st : Int) (A : Option Addr) (n c : Nat) (l : List Wt) (b : Bool) (hb : areW st l = b) (w : World) (hn : n ≤ 9223372036854775807) (hx : WtAt w A n l) :
    Calls Tryz.prog 146 #[.int .i64 st, .slice A n c] w fun e w' => e = .returned (.bool b) ∧ Below w.heap.size w w' := by
  have hl := hx.1
  unfold areW at hb
  by_cases h0 : st = 2
  · subst h0
    rw [if_pos rfl] at hb
    by_cases h1 : n ≤ 32
    · rw [hl, decide_eq_true h1, Bool.true_and] at hb
      subst hb
      have HC := Lib.hid (eachW w.heap.size ⟨#[]⟩ A n c l (w.alloc (.cells #[.string ⟨#[]⟩] 9)) hn (fun W hb => hx.below ((nbl w _).trans hb)) (Blk.new w _ _))
      go_enter Tryz.func146, Tryz.ntmps146
      go_wp2_with fail
      refine HC.out.mono ?_
      rintro e w1 ⟨rfl, q1⟩
      have q2 := (nbl w (.cells #[.string ⟨#[]⟩] 9)).trans q1
      go_wp2
      go_ret
      exact ⟨rfl, q2⟩
    · rw [hl, decide_eq_false h1, Bool.false_and] at hb
      subst hb
      go_enter Tryz.func146, Tryz.ntmps146
      go_wp2
      go_ret
      exact ⟨rfl, Below.refl _ _⟩
  · rw [if_neg h0, hl] at hb
    have h2 : (st != 2) = true := by simpa using h0
    by_cases h3 : n = 0
    · rw [decide_eq_true h3] at hb
      subst hb h3
      go_enter Tryz.func146, Tryz.ntmps146
      go_wp2
      go_ret
      exact ⟨rfl, Below.refl _ _⟩
    · rw [decide_eq_false h3] at hb
      subst hb
      have h4 : ((n : Int) == 0) = false := by simp; omega
      go_enter Tryz.func146, Tryz.ntmps146
      go_wp2
      go_ret
      exact ⟨by first | rfl | simp; omega, Below.refl _ _⟩
end Go.Proofs.YtiafmbfeigcinaaGreatDoor
set_option linter.unusedVariables false
set_option linter.unusedSimpArgs false
set_option maxRecDepth 100000
namespace Go.Proofs.YtiafmbfeigcinaaGreatDoor
open Go.RowKit

theorem mayI_eq (x : It) : mayI x = (hdr x.id x.ep x.pr x.an && ([(x.sw, x.sl), (x.bw, x.bl)].all mayP && (decide (1 ≤ x.l.length ∧ x.l.length ≤ 16) && rise 0 x.l))) := by
  unfold mayI mayP
  simp [Bool.and_assoc]
theorem mayR_eq (x : Rc) : mayR x = (hdr x.id x.ep x.pr x.an && ([(x.sw, x.sl), (x.bw, x.bl)].all mayP && (isS x.st && areW x.st x.l))) := by
  unfold mayR mayP
  simp [Bool.and_assoc]
set_option maxHeartbeats 2000000 in
theorem checkI (x : It) (A : Option Addr) (n c : Nat) (w : World) (hx : ChAt w A n x.l) (hn : n ≤ 9223372036854775807) :
    Calls Tryz.prog 94 #[itv x (.slice A n c)] w fun e w' => e = .returned (.int .i64 (if mayI x then 0 else 2)) ∧ Below w.heap.size w w' := by
  rw [mayI_eq]
  cases h1 : hdr x.id x.ep x.pr x.an
  · obtain ⟨id, ep, pr, an, sw, sl, bw, bl, l⟩ := x
    simp only at h1 hx
    have hb := nbl w (.cells (itc ⟨id, ep, pr, an, sw, sl, bw, bl, l⟩ (.slice A n c)) 37)
    have HB := Lib.hid hb
    clear hb hx
    go_enter Tryz.func94, Tryz.ntmps94
    go_wp2_with (first
      | (go_at_call 141; refine (isOwner_c _ _ _ _ _ h1 _).mono ?_; rintro e w1 ⟨rfl, rfl⟩)
      | (go_at_call 140; refine (argUnless_c _ _).mono ?_; rintro e w1 ⟨rfl, rfl⟩))
    go_ret
    exact ⟨rfl, HB.out⟩
  · cases h2 : [(x.sw, x.sl), (x.bw, x.bl)].all mayP
    · obtain ⟨id, ep, pr, an, sw, sl, bw, bl, l⟩ := x
      simp only at h1 h2 hx
      have hb := (nbl w (.cells (itc ⟨id, ep, pr, an, sw, sl, bw, bl, l⟩ (.slice A n c)) 37)).alloc (by simp) (.cells #[.int .i64 sw, .int .i64 sl, .int .i64 bw, .int .i64 bl] 26)
      have hS := areStamps_c (some ⟨w.heap.size + 1, 0, none⟩) 2 2 _ _ h2 _ (by omega) (by have := stamps_lit (w.alloc (.cells (itc ⟨id, ep, pr, an, sw, sl, bw, bl, l⟩ (.slice A n c)) 37)) [(sw, sl), (bw, bl)] _ 26 rfl; simpa using this)
      have HB := Lib.hid hb
      have HS := Lib.hid hS
      clear hb hx hS
      go_enter Tryz.func94, Tryz.ntmps94
      go_wp2_with (first
        | (go_at_call 141; refine (isOwner_c _ _ _ _ _ h1 _).mono ?_; rintro e w1 ⟨rfl, rfl⟩)
        | (go_at_call 142; refine HS.out.mono ?_; rintro e w2 ⟨rfl, hb2⟩)
        | (go_at_call 140; refine (argUnless_c _ _).mono ?_; rintro e w1 ⟨rfl, rfl⟩))
      go_ret
      exact ⟨rfl, HB.out.trans (hb2.mono (by simp; omega))⟩
    · obtain ⟨b3, h3⟩ : ∃ b, (decide (1 ≤ x.l.length ∧ x.l.length ≤ 16) && rise 0 x.l) = b := ⟨_, rfl⟩
      rw [h3]
      obtain ⟨id, ep, pr, an, sw, sl, bw, bl, l⟩ := x
      simp only at h1 h2 h3 hx
      have hb := (nbl w (.cells (itc ⟨id, ep, pr, an, sw, sl, bw, bl, l⟩ (.slice A n c)) 37)).alloc (by simp) (.cells #[.int .i64 sw, .int .i64 sl, .int .i64 bw, .int .i64 bl] 26)
      have hS := areStamps_c (some ⟨w.heap.size + 1, 0, none⟩) 2 2 _ _ h2 _ (by omega) (by have := stamps_lit (w.alloc (.cells (itc ⟨id, ep, pr, an, sw, sl, bw, bl, l⟩ (.slice A n c)) 37)) [(sw, sl), (bw, bl)] _ 26 rfl; simpa using this)
      have hBx : Blk ((w.alloc (.cells (itc ⟨id, ep, pr, an, sw, sl, bw, bl, l⟩ (.slice A n c)) 37)).alloc (.cells #[.int .i64 sw, .int .i64 sl, .int .i64 bw, .int .i64 bl] 26)) w.heap.size 37 (itc ⟨id, ep, pr, an, sw, sl, bw, bl, l⟩ (.slice A n c)) := (Blk.new w _ _).below (nbl _ _) (by simp)
      have HB := Lib.hid hb
      have HS := Lib.hid hS
      have HBx := Lib.hid hBx
      have HX := Lib.hid hx
      clear hb hx hS hBx
      go_enter Tryz.func94, Tryz.ntmps94
      go_wp2_with (first
        | (go_at_call 141; refine (isOwner_c _ _ _ _ _ h1 _).mono ?_; rintro e w1 ⟨rfl, rfl⟩)
        | (go_at_call 142; refine HS.out.mono ?_; rintro e w2 ⟨rfl, hb2⟩
           have hb3 := HB.out.trans (hb2.mono (by simp; omega))
           have k8 := (HBx.out.below hb2 (by simp; omega)).cell 8
           simp at k8)
        | (go_at_call 143; refine (areChanges_c A n c l b3 h3 w2 hn (HX.out.below hb3)).mono ?_; rintro e w3 ⟨rfl, hb4⟩; have hb5 := hb3.trans (hb4.mono hb3.size))
        | (go_at_call 140; refine (argUnless_c _ _).mono ?_; rintro e w1 ⟨rfl, rfl⟩))
      all_goals go_ret
      all_goals exact ⟨by first | rfl | (simp_all; done) | (cases b3 <;> simp_all), hb5⟩
set_option maxHeartbeats 2000000 in
theorem checkR (x : Rc) (A : Option Addr) (n c : Nat) (w : World) (hx : WtAt w A n x.l) (hn : n ≤ 9223372036854775807) :
    Calls Tryz.prog 97 #[rcv x (.slice A n c)] w fun e w' => e = .returned (.int .i64 (if mayR x then 0 else 2)) ∧ Below w.heap.size w w' := by
  rw [mayR_eq]
  cases h1 : hdr x.id x.ep x.pr x.an
  · obtain ⟨id, ep, st, pr, an, sw, sl, bw, bl, l⟩ := x
    simp only at h1 hx
    have hb := nbl w (.cells (rcc ⟨id, ep, st, pr, an, sw, sl, bw, bl, l⟩ (.slice A n c)) 106)
    have HB := Lib.hid hb
    clear hb hx
    go_enter Tryz.func97, Tryz.ntmps97
    go_wp2_with (first
      | (go_at_call 141; refine (isOwner_c _ _ _ _ _ h1 _).mono ?_; rintro e w1 ⟨rfl, rfl⟩)
      | (go_at_call 140; refine (argUnless_c _ _).mono ?_; rintro e w1 ⟨rfl, rfl⟩))
    go_ret
    exact ⟨rfl, HB.out⟩
  · cases h2 : [(x.sw, x.sl), (x.bw, x.bl)].all mayP
    · obtain ⟨id, ep, st, pr, an, sw, sl, bw, bl, l⟩ := x
      simp only at h1 h2 hx
      have hb := (nbl w (.cells (rcc ⟨id, ep, st, pr, an, sw, sl, bw, bl, l⟩ (.slice A n c)) 106)).alloc (by simp) (.cells #[.int .i64 sw, .int .i64 sl, .int .i64 bw, .int .i64 bl] 26)
      have hS := areStamps_c (some ⟨w.heap.size + 1, 0, none⟩) 2 2 _ _ h2 _ (by omega) (by have := stamps_lit (w.alloc (.cells (rcc ⟨id, ep, st, pr, an, sw, sl, bw, bl, l⟩ (.slice A n c)) 106)) [(sw, sl), (bw, bl)] _ 26 rfl; simpa using this)
      have HB := Lib.hid hb
      have HS := Lib.hid hS
      clear hb hx hS
      go_enter Tryz.func97, Tryz.ntmps97
      go_wp2_with (first
        | (go_at_call 141; refine (isOwner_c _ _ _ _ _ h1 _).mono ?_; rintro e w1 ⟨rfl, rfl⟩)
        | (go_at_call 142; refine HS.out.mono ?_; rintro e w2 ⟨rfl, hb2⟩)
        | (go_at_call 140; refine (argUnless_c _ _).mono ?_; rintro e w1 ⟨rfl, rfl⟩))
      go_ret
      exact ⟨rfl, HB.out.trans (hb2.mono (by simp; omega))⟩
    · obtain ⟨b3, h3⟩ : ∃ b, areW x.st x.l = b := ⟨_, rfl⟩
      rw [h3]
      obtain ⟨b4, h4⟩ : ∃ b, isS x.st = b := ⟨_, rfl⟩
      rw [h4]
      obtain ⟨id, ep, st, pr, an, sw, sl, bw, bl, l⟩ := x
      simp only at h1 h2 h3 h4 hx
      have hb := (nbl w (.cells (rcc ⟨id, ep, st, pr, an, sw, sl, bw, bl, l⟩ (.slice A n c)) 106)).alloc (by simp) (.cells #[.int .i64 sw, .int .i64 sl, .int .i64 bw, .int .i64 bl] 26)
      have hS := areStamps_c (some ⟨w.heap.size + 1, 0, none⟩) 2 2 _ _ h2 _ (by omega) (by have := stamps_lit (w.alloc (.cells (rcc ⟨id, ep, st, pr, an, sw, sl, bw, bl, l⟩ (.slice A n c)) 106)) [(sw, sl), (bw, bl)] _ 26 rfl; simpa using this)
      have hBx : Blk ((w.alloc (.cells (rcc ⟨id, ep, st, pr, an, sw, sl, bw, bl, l⟩ (.slice A n c)) 106)).alloc (.cells #[.int .i64 sw, .int .i64 sl, .int .i64 bw, .int .i64 bl] 26)) w.heap.size 106 (rcc ⟨id, ep, st, pr, an, sw, sl, bw, bl, l⟩ (.slice A n c)) := (Blk.new w _ _).below (nbl _ _) (by simp)
      have HB := Lib.hid hb
      have HS := Lib.hid hS
      have HBx := Lib.hid hBx
      have HX := Lib.hid hx
      clear hb hx hS hBx
      cases b4
      all_goals go_enter Tryz.func97, Tryz.ntmps97
      all_goals go_wp2_with (first
        | (go_at_call 141; refine (isOwner_c _ _ _ _ _ h1 _).mono ?_; rintro e w1 ⟨rfl, rfl⟩)
        | (go_at_call 145; refine (isStatus_c _ _ h4 _).mono ?_; rintro e w1 ⟨rfl, rfl⟩)
        | (go_at_call 142; refine HS.out.mono ?_; rintro e w2 ⟨rfl, hb2⟩
           have hb3 := HB.out.trans (hb2.mono (by simp; omega))
           have k8 := (HBx.out.below hb2 (by simp; omega)).cell 9
           have k2 := (HBx.out.below hb2 (by simp; omega)).cell 2
           simp at k8 k2)
        | (go_at_call 146; refine (areWrites_c st A n c l b3 h3 w2 hn (HX.out.below hb3)).mono ?_; rintro e w3 ⟨rfl, hb4⟩; have hb5 := hb3.trans (hb4.mono hb3.size))
        | (go_at_call 140; refine (argUnless_c _ _).mono ?_; rintro e w1 ⟨rfl, rfl⟩))
      all_goals go_ret
      all_goals exact ⟨by first | rfl | (simp_all; done) | (cases b3 <;> simp_all), by first | exact hb5 | exact hb3⟩

/-! ### plain texts -/
theorem ByteArray_nil : (⟨([] : List UInt8).toArray⟩ : ByteArray) = ⟨#[]⟩ := rfl
def ansT (ok : Bool) (l : List UInt8) : Ending := .returned (.tuple #[.string (if ok then ⟨l.toArray⟩ else ⟨#[]⟩), .int .i64 (if ok then 0 else 2)])
theorem ansT_t (l : List UInt8) : ansT true l = .returned (.tuple #[.string ⟨l.toArray⟩, .int .i64 0]) := rfl
theorem ansT_f (l : List UInt8) : ansT false l = .returned (.tuple #[.string ⟨#[]⟩, .int .i64 2]) := rfl
theorem version_c (s : ByteArray) (d : Bool) (w : World) : Calls Tryz.prog 103 #[.string s, .bool d] w fun e w' => e = ansT (isV s d) (txV s d) ∧ Below w.heap.size w w' := by
  cases h1 : isV s d
  · go_enter Tryz.func103, Tryz.ntmps103
    go_wp2_with (go_at_call 150; refine (isValue_c _ _ _ h1 _).mono ?_; rintro e w1 ⟨rfl, rfl⟩)
    go_ret2
    exact ⟨rfl, Below.refl _ _⟩
  · have hn := (isV_iff.1 h1).1
    have H1 := Lib.hid (Has.nil (Below.refl w.heap.size w)).penNew
    have hfl := fl_len d
    cases d
    all_goals go_enter Tryz.func103, Tryz.ntmps103
    all_goals go_wp2_with (first
      | (go_at_call 150; refine (isValue_c _ _ _ h1 _).mono ?_; rintro e w1 ⟨rfl, rfl⟩)
      | (go_at_call 151; refine (H1.out.penFlag _ (by simp)).mono ?_; rintro e w2 ⟨rfl, h2⟩)
      | (go_at_call 152; refine (h2.penStr _ hn (by simpa using Nat.le_trans hfl (by decide))).mono ?_; rintro e w3 ⟨rfl, h3⟩)
      | (go_at_call 153; first | (refine h3.penText.mono ?_; rintro e w3 ⟨rfl, rfl⟩) | (refine h2.penText.mono ?_; rintro e w3 ⟨rfl, rfl⟩)))
    all_goals go_ret2
    all_goals exact ⟨by rw [ansT_t]; simp [txV], by first | exact h3.bel | exact h2.bel⟩
end Go.Proofs.YtiafmbfeigcinaaGreatDoor
