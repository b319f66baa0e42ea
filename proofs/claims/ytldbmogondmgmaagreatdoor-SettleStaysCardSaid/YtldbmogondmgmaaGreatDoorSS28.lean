/-
  Layer 11: what each looks through, by a function that is handed in: slices.IndexFunc, ContainsFunc, each; areStamps, areChanges, areWrites.
  Layer 11, the code: CheckIntent, CheckRecord.
  Layer 11, the code: TakeIntent, TakeRecord.
  Layer 11, the code: TakeVersion, TakeStamp.
-/
import Derived.Test.YtldbmogondmgmaaGreatDoorSS12
import Derived.Test.YtldbmogondmgmaaGreatDoorSS27
import Derived.Test.YtldbmogondmgmaaGreatDoorSS11
set_option linter.unusedVariables false
set_option maxRecDepth 100000
namespace Go.Proofs.YtldbmogondmgmaaGreatDoor
open Go.RowKit


set_option maxHeartbeats 4000000 in
theorem idxS {S : Type} (ok : S → Int × Int → Bool) (nx : S → Int × Int → S) (gf : Nat) (J : S → World → Prop) (A : Option Addr) (n c : Nat) (l : List (Int × Int)) (hn : n ≤ 9223372036854775807)
    (hat : ∀ s W, J s W → Stamps W A n l)
    (step : ∀ s (c : Int × Int) W, J s W → Calls Tryz.prog 213 #[(sv c.1 c.2), pt gf] W fun e w' => e = .returned (.bool (!(ok s c))) ∧ J (nx s c) w')
    (s : S) (w : World) (hJ : J s w) :
    Calls Tryz.prog 215 #[.slice A n c, .func (.func 213) #[] #[pt gf]] w fun e w' => ∃ k : Int, e = .returned (.int .i64 k) ∧ decide (0 ≤ k) = !(scan ok nx s l) ∧ ∃ s', J s' w' := by
  have ST := Lib.hid step
  have HF := Lib.hid hat
  clear step hat
  go_enter Tryz.func215, Tryz.ntmps215
  go_wp2
  go_loopw [8] (fun i wr => ∃ (k : Nat) (s' : S), k ≤ n ∧ i = .int .i64 k ∧ Hid (scan ok nx s' (l.drop k) = scan ok nx s l) ∧ J s' wr) (fun i _ => n - (intOf i).toNat)
  case atStart => exact ⟨0, s, Nat.zero_le _, rfl, rfl, hJ⟩
  case round =>
    obtain ⟨k, s', hk, rfl, hrun, hRep⟩ := hrel
    have hfa := HF.out s' wr hRep
    have hlen := hfa.1
    by_cases hlt : k < n
    · have hkl : k < l.length := by omega
      obtain ⟨b, o, rfl, hc⟩ := hfa.2 (by omega)
      obtain ⟨h1, h2⟩ := hc k hkl
      have hs := ST.out s' (l[k]'hkl) wr hRep
      have hd : l.drop k = (l[k]'hkl) :: l.drop (k + 1) := List.drop_eq_getElem_cons hkl
      have hrun' := hrun.out
      rw [hd] at hrun'
      generalize (l[k]'hkl) = x at *
      clear hc hfa HF ST hd hrun
      cases hok : ok s' x with
      | true =>
        have HR := Lib.hid (show scan ok nx (nx s' x) (l.drop (k + 1)) = scan ok nx s l by rw [← hrun', scan, hok, Bool.true_and])
        rw [hok] at hs
        clear hrun' hok
        go_wp2_with fail
        refine hs.mono ?_
        rintro e w2 ⟨rfl, h2⟩
        go_wp2
        go_roundw
        case rel => exact ⟨k + 1, _, by omega, by go_num, HR, h2⟩
        case measure => simp [intOf]; omega
      | false =>
        have HR := Lib.hid (show scan ok nx s l = false by rw [← hrun', scan, hok, Bool.false_and])
        rw [hok] at hs
        clear hrun' hok
        go_wp2_with fail
        refine hs.mono ?_
        rintro e w2 ⟨rfl, h2⟩
        go_wp2
        go_ret
        exact ⟨k, rfl, by rw [HR.out]; exact decide_eq_true (by omega), _, h2⟩
    · have HR := Lib.hid (show scan ok nx s l = true by rw [← hrun.out, List.drop_of_length_le (by omega), scan])
      clear hrun HF ST hfa
      go_wp2
      go_ret
      exact ⟨-1, rfl, by rw [HR.out]; rfl, _, hRep⟩
theorem conS {S : Type} (ok : S → Int × Int → Bool) (nx : S → Int × Int → S) (gf : Nat) (J : S → World → Prop) (A : Option Addr) (n c : Nat) (l : List (Int × Int)) (hn : n ≤ 9223372036854775807)
    (hat : ∀ s W, J s W → Stamps W A n l)
    (step : ∀ s (c : Int × Int) W, J s W → Calls Tryz.prog 213 #[(sv c.1 c.2), pt gf] W fun e w' => e = .returned (.bool (!(ok s c))) ∧ J (nx s c) w')
    (s : S) (w : World) (hJ : J s w) :
    Calls Tryz.prog 185 #[.slice A n c, .func (.func 213) #[] #[pt gf]] w fun e w' => e = .returned (.bool (!(scan ok nx s l))) ∧ ∃ s', J s' w' := by
  have HI := Lib.hid (idxS ok nx gf J A n c l hn hat step s w hJ)
  clear step hat hJ
  go_enter Tryz.func185, Tryz.ntmps185
  go_wp2_with fail
  refine HI.out.mono ?_
  rintro e w1 ⟨k, rfl, hk, h1⟩
  have HK := Lib.hid hk
  clear hk
  go_wp2
  go_ret
  exact ⟨congrArg (fun b => Ending.returned (Value.bool b)) HK.out, h1⟩

set_option maxHeartbeats 4000000 in
theorem idxC {S : Type} (ok : S → Ch → Bool) (nx : S → Ch → S) (gf : Nat) (J : S → World → Prop) (A : Option Addr) (n c : Nat) (l : List (Ch)) (hn : n ≤ 9223372036854775807)
    (hat : ∀ s W, J s W → ChAt W A n l)
    (step : ∀ s (c : Ch) W, J s W → Calls Tryz.prog 214 #[(chv c), pt gf] W fun e w' => e = .returned (.bool (!(ok s c))) ∧ J (nx s c) w')
    (s : S) (w : World) (hJ : J s w) :
    Calls Tryz.prog 167 #[.slice A n c, .func (.func 214) #[] #[pt gf]] w fun e w' => ∃ k : Int, e = .returned (.int .i64 k) ∧ decide (0 ≤ k) = !(scan ok nx s l) ∧ ∃ s', J s' w' := by
  have ST := Lib.hid step
  have HF := Lib.hid hat
  clear step hat
  go_enter Tryz.func167, Tryz.ntmps167
  go_wp2
  go_loopw [8] (fun i wr => ∃ (k : Nat) (s' : S), k ≤ n ∧ i = .int .i64 k ∧ Hid (scan ok nx s' (l.drop k) = scan ok nx s l) ∧ J s' wr) (fun i _ => n - (intOf i).toNat)
  case atStart => exact ⟨0, s, Nat.zero_le _, rfl, rfl, hJ⟩
  case round =>
    obtain ⟨k, s', hk, rfl, hrun, hRep⟩ := hrel
    have hfa := HF.out s' wr hRep
    have hlen := hfa.1
    by_cases hlt : k < n
    · have hkl : k < l.length := by omega
      obtain ⟨b, o, rfl, hc⟩ := hfa.2 (by omega)
      obtain ⟨h1, h2, h3⟩ := hc k hkl
      have hs := ST.out s' (l[k]'hkl) wr hRep
      have hd : l.drop k = (l[k]'hkl) :: l.drop (k + 1) := List.drop_eq_getElem_cons hkl
      have hrun' := hrun.out
      rw [hd] at hrun'
      generalize (l[k]'hkl) = x at *
      clear hc hfa HF ST hd hrun
      cases hok : ok s' x with
      | true =>
        have HR := Lib.hid (show scan ok nx (nx s' x) (l.drop (k + 1)) = scan ok nx s l by rw [← hrun', scan, hok, Bool.true_and])
        rw [hok] at hs
        clear hrun' hok
        go_wp2_with fail
        refine hs.mono ?_
        rintro e w2 ⟨rfl, h2⟩
        go_wp2
        go_roundw
        case rel => exact ⟨k + 1, _, by omega, by go_num, HR, h2⟩
        case measure => simp [intOf]; omega
      | false =>
        have HR := Lib.hid (show scan ok nx s l = false by rw [← hrun', scan, hok, Bool.false_and])
        rw [hok] at hs
        clear hrun' hok
        go_wp2_with fail
        refine hs.mono ?_
        rintro e w2 ⟨rfl, h2⟩
        go_wp2
        go_ret
        exact ⟨k, rfl, by rw [HR.out]; exact decide_eq_true (by omega), _, h2⟩
    · have HR := Lib.hid (show scan ok nx s l = true by rw [← hrun.out, List.drop_of_length_le (by omega), scan])
      clear hrun HF ST hfa
      go_wp2
      go_ret
      exact ⟨-1, rfl, by rw [HR.out]; rfl, _, hRep⟩
theorem conC {S : Type} (ok : S → Ch → Bool) (nx : S → Ch → S) (gf : Nat) (J : S → World → Prop) (A : Option Addr) (n c : Nat) (l : List (Ch)) (hn : n ≤ 9223372036854775807)
    (hat : ∀ s W, J s W → ChAt W A n l)
    (step : ∀ s (c : Ch) W, J s W → Calls Tryz.prog 214 #[(chv c), pt gf] W fun e w' => e = .returned (.bool (!(ok s c))) ∧ J (nx s c) w')
    (s : S) (w : World) (hJ : J s w) :
    Calls Tryz.prog 139 #[.slice A n c, .func (.func 214) #[] #[pt gf]] w fun e w' => e = .returned (.bool (!(scan ok nx s l))) ∧ ∃ s', J s' w' := by
  have HI := Lib.hid (idxC ok nx gf J A n c l hn hat step s w hJ)
  clear step hat hJ
  go_enter Tryz.func139, Tryz.ntmps139
  go_wp2_with fail
  refine HI.out.mono ?_
  rintro e w1 ⟨k, rfl, hk, h1⟩
  have HK := Lib.hid hk
  clear hk
  go_wp2
  go_ret
  exact ⟨congrArg (fun b => Ending.returned (Value.bool b)) HK.out, h1⟩

set_option maxHeartbeats 4000000 in
theorem idxW {S : Type} (ok : S → Wt → Bool) (nx : S → Wt → S) (gf : Nat) (J : S → World → Prop) (A : Option Addr) (n c : Nat) (l : List (Wt)) (hn : n ≤ 9223372036854775807)
    (hat : ∀ s W, J s W → WtAt W A n l)
    (step : ∀ s (c : Wt) W, J s W → Calls Tryz.prog 234 #[(wtv c), pt gf] W fun e w' => e = .returned (.bool (!(ok s c))) ∧ J (nx s c) w')
    (s : S) (w : World) (hJ : J s w) :
    Calls Tryz.prog 239 #[.slice A n c, .func (.func 234) #[] #[pt gf]] w fun e w' => ∃ k : Int, e = .returned (.int .i64 k) ∧ decide (0 ≤ k) = !(scan ok nx s l) ∧ ∃ s', J s' w' := by
  have ST := Lib.hid step
  have HF := Lib.hid hat
  clear step hat
  go_enter Tryz.func239, Tryz.ntmps239
  go_wp2
  go_loopw [8] (fun i wr => ∃ (k : Nat) (s' : S), k ≤ n ∧ i = .int .i64 k ∧ Hid (scan ok nx s' (l.drop k) = scan ok nx s l) ∧ J s' wr) (fun i _ => n - (intOf i).toNat)
  case atStart => exact ⟨0, s, Nat.zero_le _, rfl, rfl, hJ⟩
  case round =>
    obtain ⟨k, s', hk, rfl, hrun, hRep⟩ := hrel
    have hfa := HF.out s' wr hRep
    have hlen := hfa.1
    by_cases hlt : k < n
    · have hkl : k < l.length := by omega
      obtain ⟨b, o, rfl, hc⟩ := hfa.2 (by omega)
      obtain ⟨h1, h2⟩ := hc k hkl
      have hs := ST.out s' (l[k]'hkl) wr hRep
      have hd : l.drop k = (l[k]'hkl) :: l.drop (k + 1) := List.drop_eq_getElem_cons hkl
      have hrun' := hrun.out
      rw [hd] at hrun'
      generalize (l[k]'hkl) = x at *
      clear hc hfa HF ST hd hrun
      cases hok : ok s' x with
      | true =>
        have HR := Lib.hid (show scan ok nx (nx s' x) (l.drop (k + 1)) = scan ok nx s l by rw [← hrun', scan, hok, Bool.true_and])
        rw [hok] at hs
        clear hrun' hok
        go_wp2_with fail
        refine hs.mono ?_
        rintro e w2 ⟨rfl, h2⟩
        go_wp2
        go_roundw
        case rel => exact ⟨k + 1, _, by omega, by go_num, HR, h2⟩
        case measure => simp [intOf]; omega
      | false =>
        have HR := Lib.hid (show scan ok nx s l = false by rw [← hrun', scan, hok, Bool.false_and])
        rw [hok] at hs
        clear hrun' hok
        go_wp2_with fail
        refine hs.mono ?_
        rintro e w2 ⟨rfl, h2⟩
        go_wp2
        go_ret
        exact ⟨k, rfl, by rw [HR.out]; exact decide_eq_true (by omega), _, h2⟩
    · have HR := Lib.hid (show scan ok nx s l = true by rw [← hrun.out, List.drop_of_length_le (by omega), scan])
      clear hrun HF ST hfa
      go_wp2
      go_ret
      exact ⟨-1, rfl, by rw [HR.out]; rfl, _, hRep⟩
theorem conW {S : Type} (ok : S → Wt → Bool) (nx : S → Wt → S) (gf : Nat) (J : S → World → Prop) (A : Option Addr) (n c : Nat) (l : List (Wt)) (hn : n ≤ 9223372036854775807)
    (hat : ∀ s W, J s W → WtAt W A n l)
    (step : ∀ s (c : Wt) W, J s W → Calls Tryz.prog 234 #[(wtv c), pt gf] W fun e w' => e = .returned (.bool (!(ok s c))) ∧ J (nx s c) w')
    (s : S) (w : World) (hJ : J s w) :
    Calls Tryz.prog 233 #[.slice A n c, .func (.func 234) #[] #[pt gf]] w fun e w' => e = .returned (.bool (!(scan ok nx s l))) ∧ ∃ s', J s' w' := by
  have HI := Lib.hid (idxW ok nx gf J A n c l hn hat step s w hJ)
  clear step hat hJ
  go_enter Tryz.func233, Tryz.ntmps233
  go_wp2_with fail
  refine HI.out.mono ?_
  rintro e w1 ⟨k, rfl, hk, h1⟩
  have HK := Lib.hid hk
  clear hk
  go_wp2
  go_ret
  exact ⟨congrArg (fun b => Ending.returned (Value.bool b)) HK.out, h1⟩

theorem eachOneC (ga gf : Nat) (a : Int) (c : Ch) (W : World) (hg : Blk W ga 3 #[.int .i64 a]) (hf : Blk W gf 214 #[.func (.func 183) #[] #[pt ga]]) :
    Calls Tryz.prog 214 #[(chv c), pt gf] W fun e w' => e = .returned (.bool (!(okCh a c))) ∧ Blk w' ga 3 #[.int .i64 ((fun _ c => c.q) a c)] ∧ Grow (fun k => k = ga) W w' := by
  have h1 : Blk (W.alloc (.cells #[.int .i64 c.q, .string c.s, .bool c.d] 24)) ga 3 #[.int .i64 a] := hg.below (nbl W _) hg.lt
  have h2 : Blk (W.alloc (.cells #[.int .i64 c.q, .string c.s, .bool c.d] 24)) gf 214 #[.func (.func 183) #[] #[pt ga]] := hf.below (nbl W _) hf.lt
  have h3 := Blk.new W 24 #[.int .i64 c.q, .string c.s, .bool c.d]
  have HO := Lib.hid (changeOne ga a c _ rfl _ h1)
  have c2 := h2.cell 0
  have c3 := h3.cell 0
  simp at c2 c3
  have HG := Lib.hid (Grow.of_below (F := fun k => k = ga) (nbl W (.cells #[.int .i64 c.q, .string c.s, .bool c.d] 24)))
  clear h1 h2 h3 hg hf
  go_enter Tryz.func214, Tryz.ntmps214
  go_wp2_with fail
  refine HO.out.mono ?_
  rintro e w1 ⟨rfl, q1, q2⟩
  have q3 := HG.out.trans (q2.mono fun k hk => .inl hk)
  go_wp2
  go_ret
  exact ⟨rfl, q1, q3⟩
theorem eachC (ga : Nat) (a : Int) (A : Option Addr) (n c : Nat) (l : List Ch) (w : World) (hn : n ≤ 9223372036854775807) (hx : ∀ W, Below ga w W → ChAt W A n l) (hg : Blk w ga 3 #[.int .i64 a]) :
    Calls Tryz.prog 182 #[.slice A n c, .func (.func 183) #[] #[pt ga]] w fun e w' => e = .returned (.bool (rise a l)) ∧ Below ga w w' := by
  have hlt := hg.lt
  have HC := Lib.hid (conC okCh (fun _ c => c.q) w.heap.size (fun s W => Below ga w W ∧ Blk W ga 3 #[.int .i64 s] ∧ Blk W w.heap.size 214 #[.func (.func 183) #[] #[pt ga]]) A n c l hn
    (fun s W h => hx W h.1)
    (fun s x W h => (eachOneC ga w.heap.size s x W h.2.1 h.2.2).mono fun e w' ⟨h1, h2, h3⟩ => ⟨h1,
      ⟨h3.os.trans h.1.os, h3.tape.trans h.1.tape, h3.output.trans h.1.output, Nat.le_trans h.1.size h3.size, fun k hk => (h3.block k (by have := h.1.size; omega) (by omega)).trans (h.1.block k hk)⟩, h2,
      (h3.block _ h.2.2.lt (by omega)).trans h.2.2⟩)
    a (w.alloc (.cells #[.func (.func 183) #[] #[pt ga]] 214)) ⟨(Below.refl ga w).alloc (by omega) _, hg.below (nbl w _) hlt, Blk.new w _ _⟩)
  go_enter Tryz.func182, Tryz.ntmps182
  go_wp2_with fail
  refine HC.out.mono ?_
  rintro e w1 ⟨rfl, s', h1, _, _⟩
  go_wp2
  go_ret
  exact ⟨by rw [← scan_rise]; simp, h1⟩

theorem eachOneW (ga gf : Nat) (a : ByteArray) (c : Wt) (W : World) (hg : Blk W ga 9 #[.string a]) (hf : Blk W gf 273 #[.func (.func 227) #[] #[pt ga]]) :
    Calls Tryz.prog 234 #[(wtv c), pt gf] W fun e w' => e = .returned (.bool (!(okWt a c))) ∧ Blk w' ga 9 #[.string ((fun _ c => c.k) a c)] ∧ Grow (fun k => k = ga) W w' := by
  have h1 : Blk (W.alloc (.cells #[.string c.k, .int .i64 c.q] 272)) ga 9 #[.string a] := hg.below (nbl W _) hg.lt
  have h2 : Blk (W.alloc (.cells #[.string c.k, .int .i64 c.q] 272)) gf 273 #[.func (.func 227) #[] #[pt ga]] := hf.below (nbl W _) hf.lt
  have h3 := Blk.new W 272 #[.string c.k, .int .i64 c.q]
  have HO := Lib.hid (writeOne ga a c _ rfl _ h1)
  have c2 := h2.cell 0
  have c3 := h3.cell 0
  simp at c2 c3
  have HG := Lib.hid (Grow.of_below (F := fun k => k = ga) (nbl W (.cells #[.string c.k, .int .i64 c.q] 272)))
  clear h1 h2 h3 hg hf
  go_enter Tryz.func234, Tryz.ntmps234
  go_wp2_with fail
  refine HO.out.mono ?_
  rintro e w1 ⟨rfl, q1, q2⟩
  have q3 := HG.out.trans (q2.mono fun k hk => .inl hk)
  go_wp2
  go_ret
  exact ⟨rfl, q1, q3⟩
theorem eachW (ga : Nat) (a : ByteArray) (A : Option Addr) (n c : Nat) (l : List Wt) (w : World) (hn : n ≤ 9223372036854775807) (hx : ∀ W, Below ga w W → WtAt W A n l) (hg : Blk w ga 9 #[.string a]) :
    Calls Tryz.prog 226 #[.slice A n c, .func (.func 227) #[] #[pt ga]] w fun e w' => e = .returned (.bool (riseW a l)) ∧ Below ga w w' := by
  have hlt := hg.lt
  have HC := Lib.hid (conW okWt (fun _ c => c.k) w.heap.size (fun s W => Below ga w W ∧ Blk W ga 9 #[.string s] ∧ Blk W w.heap.size 273 #[.func (.func 227) #[] #[pt ga]]) A n c l hn
    (fun s W h => hx W h.1)
    (fun s x W h => (eachOneW ga w.heap.size s x W h.2.1 h.2.2).mono fun e w' ⟨h1, h2, h3⟩ => ⟨h1,
      ⟨h3.os.trans h.1.os, h3.tape.trans h.1.tape, h3.output.trans h.1.output, Nat.le_trans h.1.size h3.size, fun k hk => (h3.block k (by have := h.1.size; omega) (by omega)).trans (h.1.block k hk)⟩, h2,
      (h3.block _ h.2.2.lt (by omega)).trans h.2.2⟩)
    a (w.alloc (.cells #[.func (.func 227) #[] #[pt ga]] 273)) ⟨(Below.refl ga w).alloc (by omega) _, hg.below (nbl w _) hlt, Blk.new w _ _⟩)
  go_enter Tryz.func226, Tryz.ntmps226
  go_wp2_with fail
  refine HC.out.mono ?_
  rintro e w1 ⟨rfl, s', h1, _, _⟩
  go_wp2
  go_ret
  exact ⟨by rw [← scan_riseW]; simp, h1⟩

theorem eachOneS (gf : Nat) (c : Int × Int) (W : World) (hf : Blk W gf 131 #[.func (.func 181) #[] #[]]) :
    Calls Tryz.prog 213 #[sv c.1 c.2, pt gf] W fun e w' => e = .returned (.bool (!(mayP c))) ∧ Below W.heap.size W w' := by
  obtain ⟨x, y⟩ := c
  have h2 : Blk (W.alloc (.cells #[.int .i64 x, .int .i64 y] 26)) gf 131 #[.func (.func 181) #[] #[]] := hf.below (nbl W _) hf.lt
  have h3 := Blk.new W 26 #[.int .i64 x, .int .i64 y]
  have HO := Lib.hid (stampOne (x, y) _ rfl (W.alloc (.cells #[.int .i64 x, .int .i64 y] 26)))
  have c2 := h2.cell 0
  have c3 := h3.cell 0
  simp at c2 c3
  clear h2 h3 hf
  go_enter Tryz.func213, Tryz.ntmps213
  go_wp2_with fail
  refine HO.out.mono ?_
  rintro e w1 ⟨rfl, q1⟩
  have q3 := (nbl W (.cells #[.int .i64 x, .int .i64 y] 26)).trans (q1.mono (by simp))
  go_wp2
  go_ret
  exact ⟨rfl, q3⟩
theorem areStamps_c (A : Option Addr) (n c : Nat) (l : List (Int × Int)) (b : Bool) (hb : l.all mayP = b) (w : World) (hn : n ≤ 9223372036854775807) (hx : Stamps w A n l) :
    Calls Tryz.prog 115 #[.slice A n c] w fun e w' => e = .returned (.bool b) ∧ Below w.heap.size w w' := by
  subst hb
  have HC := Lib.hid (conS (fun (_ : Unit) p => mayP p) (fun u _ => u) w.heap.size (fun _ W => Below w.heap.size w W ∧ Blk W w.heap.size 131 #[.func (.func 181) #[] #[]]) A n c l hn
    (fun s W h => hx.below' h.1)
    (fun s x W h => (eachOneS w.heap.size x W h.2).mono fun e w' ⟨h1, h3⟩ => ⟨h1, h.1.trans (h3.mono h.1.size), (h3.block _ h.2.lt).trans h.2⟩)
    () (w.alloc (.cells #[.func (.func 181) #[] #[]] 131)) ⟨nbl w _, Blk.new w _ _⟩)
  have HE : Calls Tryz.prog 180 #[.slice A n c, .func (.func 181) #[] #[]] w fun e w' => e = .returned (.bool (l.all mayP)) ∧ Below w.heap.size w w' := by
    go_enter Tryz.func180, Tryz.ntmps180
    go_wp2_with fail
    refine HC.out.mono ?_
    rintro e w1 ⟨rfl, s', h1, _⟩
    go_wp2
    go_ret
    exact ⟨by rw [← scan_all]; simp, h1⟩
  clear HC
  have HE' := Lib.hid HE
  clear HE
  go_enter Tryz.func115, Tryz.ntmps115
  go_wp2_with fail
  refine HE'.out.mono ?_
  rintro e w1 ⟨rfl, h1⟩
  go_wp2
  go_ret
  exact ⟨rfl, h1⟩
theorem areChanges_c (A : Option Addr) (n c : Nat) (l : List Ch) (b : Bool) (hb : (decide (1 ≤ l.length ∧ l.length ≤ 16) && rise 0 l) = b) (w : World) (hn : n ≤ 9223372036854775807) (hx : ChAt w A n l) :
    Calls Tryz.prog 116 #[.slice A n c] w fun e w' => e = .returned (.bool b) ∧ Below w.heap.size w w' := by
  have hl := hx.1
  by_cases h1 : 1 ≤ n ∧ n ≤ 16
  · rw [hl, decide_eq_true h1, Bool.true_and] at hb
    subst hb
    obtain ⟨h2, h3⟩ := h1
    have HC := Lib.hid (eachC w.heap.size 0 A n c l (w.alloc (.cells #[.int .i64 0] 3)) hn (fun W hb => hx.below ((nbl w _).trans hb)) (Blk.new w _ _))
    go_enter Tryz.func116, Tryz.ntmps116
    go_wp2_with fail
    refine HC.out.mono ?_
    rintro e w1 ⟨rfl, q1⟩
    have q2 := (nbl w (.cells #[.int .i64 0] 3)).trans q1
    go_wp2
    go_ret
    exact ⟨rfl, q2⟩
  · rw [hl, decide_eq_false h1, Bool.false_and] at hb
    subst hb
    by_cases h2 : n < 1
    · go_enter Tryz.func116, Tryz.ntmps116
      go_wp2
      go_ret
      exact ⟨rfl, Below.refl _ _⟩
    · have h3 : 16 < n := by omega
      go_enter Tryz.func116, Tryz.ntmps116
      go_wp2
      go_ret
      exact ⟨rfl, Below.refl _ _⟩
theorem areWrites_c (st : Int) (A : Option Addr) (n c : Nat) (l : List Wt) (b : Bool) (hb : areW st l = b) (w : World) (hn : n ≤ 9223372036854775807) (hx : WtAt w A n l) :
    Calls Tryz.prog 218 #[.int .i64 st, .slice A n c] w fun e w' => e = .returned (.bool b) ∧ Below w.heap.size w w' := by
  have hl := hx.1
  unfold areW at hb
  by_cases h0 : st = 2
  · subst h0
    rw [if_pos rfl] at hb
    by_cases h1 : n ≤ 32
    · rw [hl, decide_eq_true h1, Bool.true_and] at hb
      subst hb
      have HC := Lib.hid (eachW w.heap.size ⟨#[]⟩ A n c l (w.alloc (.cells #[.string ⟨#[]⟩] 9)) hn (fun W hb => hx.below ((nbl w _).trans hb)) (Blk.new w _ _))
      go_enter Tryz.func218, Tryz.ntmps218
      go_wp2_with fail
      refine HC.out.mono ?_
      rintro e w1 ⟨rfl, q1⟩
      have q2 := (nbl w (.cells #[.string ⟨#[]⟩] 9)).trans q1
      go_wp2
      go_ret
      exact ⟨rfl, q2⟩
    · rw [hl, decide_eq_false h1, Bool.false_and] at hb
      subst hb
      go_enter Tryz.func218, Tryz.ntmps218
      go_wp2
      go_ret
      exact ⟨rfl, Below.refl _ _⟩
  · rw [if_neg h0, hl] at hb
    have h2 : (st != 2) = true := by simpa using h0
    by_cases h3 : n = 0
    · rw [decide_eq_true h3] at hb
      subst hb h3
      go_enter Tryz.func218, Tryz.ntmps218
      go_wp2
      go_ret
      exact ⟨rfl, Below.refl _ _⟩
    · rw [decide_eq_false h3] at hb
      subst hb
      have h4 : ((n : Int) == 0) = false := by simp; omega
      go_enter Tryz.func218, Tryz.ntmps218
      go_wp2
      go_ret
      exact ⟨by first | rfl | simp; omega, Below.refl _ _⟩
end Go.Proofs.YtldbmogondmgmaaGreatDoor
set_option linter.unusedVariables false
set_option linter.unusedSimpArgs false
set_option maxRecDepth 100000
namespace Go.Proofs.YtldbmogondmgmaaGreatDoor
open Go.RowKit

theorem mayI_eq (x : It) : mayI x = (hdr x.id x.ep x.pr x.an && ([(x.sw, x.sl), (x.bw, x.bl)].all mayP && (decide (1 ≤ x.l.length ∧ x.l.length ≤ 16) && rise 0 x.l))) := by
  unfold mayI mayP
  simp [Bool.and_assoc]
theorem mayR_eq (x : Rc) : mayR x = (hdr x.id x.ep x.pr x.an && ([(x.sw, x.sl), (x.bw, x.bl)].all mayP && (isS x.st && areW x.st x.l))) := by
  unfold mayR mayP
  simp [Bool.and_assoc]
set_option maxHeartbeats 2000000 in
theorem checkI (x : It) (A : Option Addr) (n c : Nat) (w : World) (hx : ChAt w A n x.l) (hn : n ≤ 9223372036854775807) :
    Calls Tryz.prog 54 #[itv x (.slice A n c)] w fun e w' => e = .returned (.int .i64 (if mayI x then 0 else 2)) ∧ Below w.heap.size w w' := by
  rw [mayI_eq]
  cases h1 : hdr x.id x.ep x.pr x.an
  · obtain ⟨id, ep, pr, an, sw, sl, bw, bl, l⟩ := x
    simp only at h1 hx
    have hb := nbl w (.cells (itc ⟨id, ep, pr, an, sw, sl, bw, bl, l⟩ (.slice A n c)) 39)
    have HB := Lib.hid hb
    clear hb hx
    go_enter Tryz.func54, Tryz.ntmps54
    go_wp2_with (first
      | (go_at_call 114; refine (isOwner_c _ _ _ _ _ h1 _).mono ?_; rintro e w1 ⟨rfl, rfl⟩)
      | (go_at_call 113; refine (argUnless_c _ _).mono ?_; rintro e w1 ⟨rfl, rfl⟩))
    go_ret
    exact ⟨rfl, HB.out⟩
  · cases h2 : [(x.sw, x.sl), (x.bw, x.bl)].all mayP
    · obtain ⟨id, ep, pr, an, sw, sl, bw, bl, l⟩ := x
      simp only at h1 h2 hx
      have hb := (nbl w (.cells (itc ⟨id, ep, pr, an, sw, sl, bw, bl, l⟩ (.slice A n c)) 39)).alloc (by simp) (.cells #[.int .i64 sw, .int .i64 sl, .int .i64 bw, .int .i64 bl] 26)
      have hS := areStamps_c (some ⟨w.heap.size + 1, 0, none⟩) 2 2 _ _ h2 _ (by omega) (by have := stamps_lit (w.alloc (.cells (itc ⟨id, ep, pr, an, sw, sl, bw, bl, l⟩ (.slice A n c)) 39)) [(sw, sl), (bw, bl)] _ 26 rfl; simpa using this)
      have HB := Lib.hid hb
      have HS := Lib.hid hS
      clear hb hx hS
      go_enter Tryz.func54, Tryz.ntmps54
      go_wp2_with (first
        | (go_at_call 114; refine (isOwner_c _ _ _ _ _ h1 _).mono ?_; rintro e w1 ⟨rfl, rfl⟩)
        | (go_at_call 115; refine HS.out.mono ?_; rintro e w2 ⟨rfl, hb2⟩)
        | (go_at_call 113; refine (argUnless_c _ _).mono ?_; rintro e w1 ⟨rfl, rfl⟩))
      go_ret
      exact ⟨rfl, HB.out.trans (hb2.mono (by simp; omega))⟩
    · obtain ⟨b3, h3⟩ : ∃ b, (decide (1 ≤ x.l.length ∧ x.l.length ≤ 16) && rise 0 x.l) = b := ⟨_, rfl⟩
      rw [h3]
      obtain ⟨id, ep, pr, an, sw, sl, bw, bl, l⟩ := x
      simp only at h1 h2 h3 hx
      have hb := (nbl w (.cells (itc ⟨id, ep, pr, an, sw, sl, bw, bl, l⟩ (.slice A n c)) 39)).alloc (by simp) (.cells #[.int .i64 sw, .int .i64 sl, .int .i64 bw, .int .i64 bl] 26)
      have hS := areStamps_c (some ⟨w.heap.size + 1, 0, none⟩) 2 2 _ _ h2 _ (by omega) (by have := stamps_lit (w.alloc (.cells (itc ⟨id, ep, pr, an, sw, sl, bw, bl, l⟩ (.slice A n c)) 39)) [(sw, sl), (bw, bl)] _ 26 rfl; simpa using this)
      have hBx : Blk ((w.alloc (.cells (itc ⟨id, ep, pr, an, sw, sl, bw, bl, l⟩ (.slice A n c)) 39)).alloc (.cells #[.int .i64 sw, .int .i64 sl, .int .i64 bw, .int .i64 bl] 26)) w.heap.size 39 (itc ⟨id, ep, pr, an, sw, sl, bw, bl, l⟩ (.slice A n c)) := (Blk.new w _ _).below (nbl _ _) (by simp)
      have HB := Lib.hid hb
      have HS := Lib.hid hS
      have HBx := Lib.hid hBx
      have HX := Lib.hid hx
      clear hb hx hS hBx
      go_enter Tryz.func54, Tryz.ntmps54
      go_wp2_with (first
        | (go_at_call 114; refine (isOwner_c _ _ _ _ _ h1 _).mono ?_; rintro e w1 ⟨rfl, rfl⟩)
        | (go_at_call 115; refine HS.out.mono ?_; rintro e w2 ⟨rfl, hb2⟩
           have hb3 := HB.out.trans (hb2.mono (by simp; omega))
           have k8 := (HBx.out.below hb2 (by simp; omega)).cell 8
           simp at k8)
        | (go_at_call 116; refine (areChanges_c A n c l b3 h3 w2 hn (HX.out.below hb3)).mono ?_; rintro e w3 ⟨rfl, hb4⟩; have hb5 := hb3.trans (hb4.mono hb3.size))
        | (go_at_call 113; refine (argUnless_c _ _).mono ?_; rintro e w1 ⟨rfl, rfl⟩))
      all_goals go_ret
      all_goals exact ⟨by first | rfl | (simp_all; done) | (cases b3 <;> simp_all), hb5⟩
set_option maxHeartbeats 2000000 in
theorem checkR (x : Rc) (A : Option Addr) (n c : Nat) (w : World) (hx : WtAt w A n x.l) (hn : n ≤ 9223372036854775807) :
    Calls Tryz.prog 191 #[rcv x (.slice A n c)] w fun e w' => e = .returned (.int .i64 (if mayR x then 0 else 2)) ∧ Below w.heap.size w w' := by
  rw [mayR_eq]
  cases h1 : hdr x.id x.ep x.pr x.an
  · obtain ⟨id, ep, st, pr, an, sw, sl, bw, bl, l⟩ := x
    simp only at h1 hx
    have hb := nbl w (.cells (rcc ⟨id, ep, st, pr, an, sw, sl, bw, bl, l⟩ (.slice A n c)) 69)
    have HB := Lib.hid hb
    clear hb hx
    go_enter Tryz.func191, Tryz.ntmps191
    go_wp2_with (first
      | (go_at_call 114; refine (isOwner_c _ _ _ _ _ h1 _).mono ?_; rintro e w1 ⟨rfl, rfl⟩)
      | (go_at_call 113; refine (argUnless_c _ _).mono ?_; rintro e w1 ⟨rfl, rfl⟩))
    go_ret
    exact ⟨rfl, HB.out⟩
  · cases h2 : [(x.sw, x.sl), (x.bw, x.bl)].all mayP
    · obtain ⟨id, ep, st, pr, an, sw, sl, bw, bl, l⟩ := x
      simp only at h1 h2 hx
      have hb := (nbl w (.cells (rcc ⟨id, ep, st, pr, an, sw, sl, bw, bl, l⟩ (.slice A n c)) 69)).alloc (by simp) (.cells #[.int .i64 sw, .int .i64 sl, .int .i64 bw, .int .i64 bl] 26)
      have hS := areStamps_c (some ⟨w.heap.size + 1, 0, none⟩) 2 2 _ _ h2 _ (by omega) (by have := stamps_lit (w.alloc (.cells (rcc ⟨id, ep, st, pr, an, sw, sl, bw, bl, l⟩ (.slice A n c)) 69)) [(sw, sl), (bw, bl)] _ 26 rfl; simpa using this)
      have HB := Lib.hid hb
      have HS := Lib.hid hS
      clear hb hx hS
      go_enter Tryz.func191, Tryz.ntmps191
      go_wp2_with (first
        | (go_at_call 114; refine (isOwner_c _ _ _ _ _ h1 _).mono ?_; rintro e w1 ⟨rfl, rfl⟩)
        | (go_at_call 115; refine HS.out.mono ?_; rintro e w2 ⟨rfl, hb2⟩)
        | (go_at_call 113; refine (argUnless_c _ _).mono ?_; rintro e w1 ⟨rfl, rfl⟩))
      go_ret
      exact ⟨rfl, HB.out.trans (hb2.mono (by simp; omega))⟩
    · obtain ⟨b3, h3⟩ : ∃ b, areW x.st x.l = b := ⟨_, rfl⟩
      rw [h3]
      obtain ⟨b4, h4⟩ : ∃ b, isS x.st = b := ⟨_, rfl⟩
      rw [h4]
      obtain ⟨id, ep, st, pr, an, sw, sl, bw, bl, l⟩ := x
      simp only at h1 h2 h3 h4 hx
      have hb := (nbl w (.cells (rcc ⟨id, ep, st, pr, an, sw, sl, bw, bl, l⟩ (.slice A n c)) 69)).alloc (by simp) (.cells #[.int .i64 sw, .int .i64 sl, .int .i64 bw, .int .i64 bl] 26)
      have hS := areStamps_c (some ⟨w.heap.size + 1, 0, none⟩) 2 2 _ _ h2 _ (by omega) (by have := stamps_lit (w.alloc (.cells (rcc ⟨id, ep, st, pr, an, sw, sl, bw, bl, l⟩ (.slice A n c)) 69)) [(sw, sl), (bw, bl)] _ 26 rfl; simpa using this)
      have hBx : Blk ((w.alloc (.cells (rcc ⟨id, ep, st, pr, an, sw, sl, bw, bl, l⟩ (.slice A n c)) 69)).alloc (.cells #[.int .i64 sw, .int .i64 sl, .int .i64 bw, .int .i64 bl] 26)) w.heap.size 69 (rcc ⟨id, ep, st, pr, an, sw, sl, bw, bl, l⟩ (.slice A n c)) := (Blk.new w _ _).below (nbl _ _) (by simp)
      have HB := Lib.hid hb
      have HS := Lib.hid hS
      have HBx := Lib.hid hBx
      have HX := Lib.hid hx
      clear hb hx hS hBx
      cases b4
      all_goals go_enter Tryz.func191, Tryz.ntmps191
      all_goals go_wp2_with (first
        | (go_at_call 114; refine (isOwner_c _ _ _ _ _ h1 _).mono ?_; rintro e w1 ⟨rfl, rfl⟩)
        | (go_at_call 217; refine (isStatus_c _ _ h4 _).mono ?_; rintro e w1 ⟨rfl, rfl⟩)
        | (go_at_call 115; refine HS.out.mono ?_; rintro e w2 ⟨rfl, hb2⟩
           have hb3 := HB.out.trans (hb2.mono (by simp; omega))
           have k8 := (HBx.out.below hb2 (by simp; omega)).cell 9
           have k2 := (HBx.out.below hb2 (by simp; omega)).cell 2
           simp at k8 k2)
        | (go_at_call 218; refine (areWrites_c st A n c l b3 h3 w2 hn (HX.out.below hb3)).mono ?_; rintro e w3 ⟨rfl, hb4⟩; have hb5 := hb3.trans (hb4.mono hb3.size))
        | (go_at_call 113; refine (argUnless_c _ _).mono ?_; rintro e w1 ⟨rfl, rfl⟩))
      all_goals go_ret
      all_goals exact ⟨by first | rfl | (simp_all; done) | (cases b3 <;> simp_all), by first | exact hb5 | exact hb3⟩

/-! ### plain texts -/
def ansT (ok : Bool) (l : List UInt8) : Ending := .returned (.tuple #[.string (if ok then ⟨l.toArray⟩ else ⟨#[]⟩), .int .i64 (if ok then 0 else 2)])
theorem ansT_t (l : List UInt8) : ansT true l = .returned (.tuple #[.string ⟨l.toArray⟩, .int .i64 0]) := rfl
theorem version_c (s : ByteArray) (d : Bool) (w : World) : Calls Tryz.prog 192 #[.string s, .bool d] w fun e w' => e = ansT (isV s d) (txV s d) ∧ Below w.heap.size w w' := by
  cases h1 : isV s d
  · go_enter Tryz.func192, Tryz.ntmps192
    go_wp2_with (go_at_call 184; refine (isValue_c _ _ _ h1 _).mono ?_; rintro e w1 ⟨rfl, rfl⟩)
    go_ret2
    exact ⟨rfl, Below.refl _ _⟩
  · have hn := (isV_iff.1 h1).1
    have H1 := Lib.hid (Has.nil (Below.refl w.heap.size w)).penNew
    have hfl := fl_len d
    cases d
    all_goals go_enter Tryz.func192, Tryz.ntmps192
    all_goals go_wp2_with (first
      | (go_at_call 184; refine (isValue_c _ _ _ h1 _).mono ?_; rintro e w1 ⟨rfl, rfl⟩)
      | (go_at_call 208; refine (H1.out.penFlag _ (by simp)).mono ?_; rintro e w2 ⟨rfl, h2⟩)
      | (go_at_call 206; refine (h2.penStr _ hn (by simpa using Nat.le_trans hfl (by decide))).mono ?_; rintro e w3 ⟨rfl, h3⟩)
      | (go_at_call 209; first | (refine h3.penText.mono ?_; rintro e w3 ⟨rfl, rfl⟩) | (refine h2.penText.mono ?_; rintro e w3 ⟨rfl, rfl⟩)))
    all_goals go_ret2
    all_goals exact ⟨by rw [ansT_t]; simp [txV], by first | exact h3.bel | exact h2.bel⟩
end Go.Proofs.YtldbmogondmgmaaGreatDoor
set_option linter.unusedVariables false
set_option linter.unusedSimpArgs false
set_option maxRecDepth 100000
namespace Go.Proofs.YtldbmogondmgmaaGreatDoor
open Go.RowKit

theorem pC_eats (b r : List UInt8) (h : (pC (some b)).2 = some r) : r.length < b.length := by
  rcases e : pC (some b) with ⟨c, o⟩
  rw [e] at h
  simp only at h
  subst h
  obtain ⟨e2, _⟩ := pC_back e
  injection e2 with e2
  rw [e2, List.length_append]
  have := enc_pos c.q.toNat
  unfold txC nbs
  rw [List.length_append]
  omega
theorem chc_get : ∀ (l : List Ch) (i : Nat) (h : i < l.length), (l.flatMap chc)[i * 3]? = some (.int .i64 (l[i]'h).q) ∧ (l.flatMap chc)[i * 3 + 1]? = some (.string (l[i]'h).s) ∧ (l.flatMap chc)[i * 3 + 2]? = some (.bool (l[i]'h).d)
  | [], i, h => absurd h (by simp)
  | c :: l, 0, h => ⟨rfl, rfl, rfl⟩
  | c :: l, i + 1, h => by
    have := chc_get l i (by simpa using h)
    have e1 : (i + 1) * 3 = i * 3 + 3 := by omega
    rw [e1]
    simpa [chc] using this
theorem chRow {w : World} {B n : Nat} {v : Value} {l : List Ch} (h : w.ownsRow B 24 3 v n (l.flatMap chc)) : ∃ A c, v = .slice A n c ∧ ChAt w A n l ∧ n ≤ c ∧ c ≤ 9223372036854775807 ∧ ∀ p, A = some p → p.block < w.heap.size := by
  have hl : l.length = n := by have := h.1; rw [chc_len] at this; omega
  rcases h.2 with ⟨rfl, h0⟩ | ⟨g, cap, cur, rfl, hb, hg, hnc, hcm, _⟩
  · exact ⟨none, 0, by rw [h0], ⟨hl, fun hm => by omega⟩, by omega, by omega, fun p hp => nomatch hp⟩
  · refine ⟨_, cap, rfl, ⟨hl, fun hm => ⟨g, 0, rfl, fun i hi => ?_⟩⟩, hnc, hcm, fun p hp => by cases hp; exact (Array.getElem?_eq_some_iff.1 hg).1⟩
    obtain ⟨h1, h2, h3⟩ := chc_get l i hi
    have c1 := World.ownsRow.cells h (g := g) rfl _ _ h1
    have c2 := World.ownsRow.cells h (g := g) rfl _ _ h2
    have c3 := World.ownsRow.cells h (g := g) rfl _ _ h3
    rw [Go.WideShapes.add_plain] at c1 c2 c3
    exact ⟨c1, by rw [Nat.add_assoc]; exact c2, by rw [Nat.add_assoc]; exact c3⟩
theorem Has.apart {w V : World} {l : List As} {A : Option Addr} {n c s m g : Nat} {E t : TypeId} {xs : List Value} {cs : Array Value} (h : Has w (rowA E s (.slice A n c) m xs :: l) V) (hm : blkA g t cs ∈ l) : ∀ a, A = some a → a.block ≠ g := by
  obtain ⟨⟨F, ⟨F1, F2, h1, h2, h3, h4⟩, _⟩, _⟩ := h
  obtain ⟨F3, a1, a2⟩ := h2.memL hm
  intro a ha e
  subst ha
  exact h3 g ((h1.2 g).2 (by rw [← e]; rfl)) (a2 g ((a1.2 g).2 rfl))
def zI : It := ⟨0, 0, 0, ⟨#[]⟩, 0, 0, 0, 0, []⟩
/-- What TakeIntent, TakeRecord answer. -/
def AnsI (o : Option It) (w : World) (e : Ending) (w' : World) : Prop :=
  match o with
  | none => e = .returned (.tuple #[itv zI (.slice none 0 0), .int .i64 4])
  | some x => ∃ A n c, e = .returned (.tuple #[itv x (.slice A n c), .int .i64 0]) ∧ ChAt w' A n x.l ∧ n ≤ c ∧ c ≤ 9223372036854775807 ∧ ∀ p, A = some p → p.block < w'.heap.size
theorem four_ {α : Type} {l : List α} (h : l.length = 4) : ∃ a b c d, l = [a, b, c, d] := by
  match l, h with
  | [a, b, c, d], _ => exact ⟨a, b, c, d, rfl⟩
theorem three3 {α : Type} {l : List α} (h : l.length = 3) : ∃ a b c, l = [a, b, c] := by
  match l, h with
  | [a, b, c], _ => exact ⟨a, b, c, rfl⟩
theorem Blk.all9 {w : World} {g : Nat} {t : TypeId} {c0 c1 c2 c3 c4 c5 c6 c7 c8 v0 v1 v2 v3 v4 v5 v6 v7 v8 : Value} (h : Blk w g t #[c0, c1, c2, c3, c4, c5, c6, c7, c8]) : Blk (((((((((w.setCell ⟨g, 0, none⟩ v0).setCell ⟨g, 1, none⟩ v1).setCell ⟨g, 2, none⟩ v2).setCell ⟨g, 3, none⟩ v3).setCell ⟨g, 4, none⟩ v4).setCell ⟨g, 5, none⟩ v5).setCell ⟨g, 6, none⟩ v6).setCell ⟨g, 7, none⟩ v7).setCell ⟨g, 8, none⟩ v8) g t #[v0, v1, v2, v3, v4, v5, v6, v7, v8] := by
  have := (((((((((h.set_ 0 v0).set_ 1 v1).set_ 2 v2).set_ 3 v3).set_ 4 v4).set_ 5 v5).set_ 6 v6).set_ 7 v7).set_ 8 v8)
  simpa using this
theorem Blk.all10 {w : World} {g : Nat} {t : TypeId} {c0 c1 c2 c3 c4 c5 c6 c7 c8 c9 v0 v1 v2 v3 v4 v5 v6 v7 v8 v9 : Value} (h : Blk w g t #[c0, c1, c2, c3, c4, c5, c6, c7, c8, c9]) : Blk ((((((((((w.setCell ⟨g, 0, none⟩ v0).setCell ⟨g, 1, none⟩ v1).setCell ⟨g, 2, none⟩ v2).setCell ⟨g, 3, none⟩ v3).setCell ⟨g, 4, none⟩ v4).setCell ⟨g, 5, none⟩ v5).setCell ⟨g, 6, none⟩ v6).setCell ⟨g, 7, none⟩ v7).setCell ⟨g, 8, none⟩ v8).setCell ⟨g, 9, none⟩ v9) g t #[v0, v1, v2, v3, v4, v5, v6, v7, v8, v9] := by
  have := ((((((((((h.set_ 0 v0).set_ 1 v1).set_ 2 v2).set_ 3 v3).set_ 4 v4).set_ 5 v5).set_ 6 v6).set_ 7 v7).set_ 8 v8).set_ 9 v9)
  simpa using this

/-- How far the reader is behind it all. -/
def finI (s : Rst) : Rst := (many pC (pn (pns 4 (ps (pns 3 s).2).2).2).1 (pn (pns 4 (ps (pns 3 s).2).2).2).2).2
theorem finI_some (b : List UInt8) : finI (some b) = (rdI b).2 := rfl
theorem finI_none : finI none = none := rfl
theorem rdI_parts (b : List UInt8) {a0 a1 a2 b0 b1 b2 b3 : Nat} {u : ByteArray} {l : List Ch} (h1 : (pns 3 (some b)).2 ≠ none → [a0, a1, a2] = (pns 3 (some b)).1) (h2 : (ps (pns 3 (some b)).2).2 ≠ none → u = (ps (pns 3 (some b)).2).1)
    (h3 : (pns 4 (ps (pns 3 (some b)).2).2).2 ≠ none → [b0, b1, b2, b3] = (pns 4 (ps (pns 3 (some b)).2).2).1) (h4 : finI (some b) ≠ none → l = (many pC (pn (pns 4 (ps (pns 3 (some b)).2).2).2).1 (pn (pns 4 (ps (pns 3 (some b)).2).2).2).2).1)
    (hf : finI (some b) ≠ none) : (⟨a0, a1, a2, u, b0, b1, b2, b3, l⟩ : It) = (rdI b).1 := by
  have k4 : (pn (pns 4 (ps (pns 3 (some b)).2).2).2).2 ≠ none := fun e => hf (by unfold finI; rw [e, many_none])
  have k3 : (pns 4 (ps (pns 3 (some b)).2).2).2 ≠ none := fun e => k4 (by rw [e]; rfl)
  have k2 : (ps (pns 3 (some b)).2).2 ≠ none := pns_noneR k3
  have k1 : (pns 3 (some b)).2 ≠ none := fun e => k2 (by rw [e]; rfl)
  have j1 := h1 k1
  have j2 := h2 k2
  have j3 := h3 k3
  have j4 := h4 hf
  simp only [pns, List.cons.injEq, and_true] at j1 j3
  obtain ⟨e0, e1, e2⟩ := j1
  obtain ⟨e3, e4, e5, e6⟩ := j3
  subst e0 e1 e2 e3 e4 e5 e6 j2 j4
  rfl

theorem ret_it {fn : Func} {R : Ending → World → Prop} {a : Act} {w : World} {p u : Tmp} {g : Nat} {cs : Array Value} (hr : fn.results = #[.cell p 39, .tmp u]) (hp : a.tmps.getD p undef = .pointer (some ⟨g, 0, none⟩))
    (hB : Blk w g 39 cs) (hs : cs.size = 9) (hd : a.defers = []) (hR : R (.returned (.tuple #[.agg cs, a.tmps.getD u undef])) w) : bodyPost Tryz.prog fn R .ret a w := by
  refine bodyPost_ret ?_ hd hR
  have hp' : a.tmps[p]?.getD undef = .pointer (some ⟨g, 0, none⟩) := by simpa using hp
  simp [results, hr, hp', asAddr, run_loadVar_row w g 39 39 _ (0, 0) _ hB Tryz.underlying39 rfl (by rw [hs]; kernel_rfl)]
theorem checkI2 (x : It) (A : Option Addr) (n c : Nat) (w : World) (hx : ChAt w A n x.l) (hn : n ≤ 9223372036854775807) :
    ∃ (k : Int) (b : Bool), (k != 0) = b ∧ b = !mayI x ∧ Calls Tryz.prog 54 #[itv x (.slice A n c)] w fun e w' => e = .returned (.int .i64 k) ∧ Below w.heap.size w w' :=
  ⟨_, _, rfl, by cases mayI x <;> rfl, checkI x A n c w hx hn⟩
set_option maxHeartbeats 2000000 in
theorem takeI_c (t : ByteArray) (w : World) (ht : t.size ≤ 225000000000000) :
    Calls Tryz.prog 15 #[.string t] w fun e w' => AnsI (tkI (sb t)) w e w' ∧ Below w.heap.size w w' := by
  have h0 := ((Has.nil (Below.refl w.heap.size w)).newBlk 39 (itc zI (.slice none 0 0))).newBlk 39 (itc zI (.slice none 0 0))
  rw [show (w.alloc (.cells (itc zI (.slice none 0 0)) 39)).heap.size = w.heap.size + 1 by simp] at h0
  have HN := Lib.hid (h0.rdNew t ht)
  obtain ⟨s0, hs0⟩ : ∃ s0 : Rst, (if t.size ≤ 2048 then some (sb t) else none) = s0 := ⟨_, rfl⟩
  rw [hs0] at HN
  have hfi : tkI (sb t) = if finI s0 = some [] ∧ mayI (rdI (sb t)).1 = true then some (rdI (sb t)).1 else none := by
    by_cases hz : t.size ≤ 2048
    · rw [if_pos hz] at hs0
      subst hs0
      rw [finI_some]
      rfl
    · rw [if_neg hz] at hs0
      subst hs0
      rw [finI_none, if_neg (by simp), tkI_long (by rw [sb_len]; omega)]
  have hs1 : s0 ≠ none → s0 = some (sb t) := by
    intro hne
    by_cases hz : t.size ≤ 2048
    · rw [if_pos hz] at hs0; exact hs0.symm
    · rw [if_neg hz] at hs0; exact absurd hs0.symm hne
  have HFI := Lib.hid hfi
  have HS1 := Lib.hid hs1
  clear h0 hs0 hfi hs1
  go_enter Tryz.func15, Tryz.ntmps15
  go_wp2_with (first
    | (go_at_call 46; refine HN.out.mono ?_; rintro e w1 ⟨g, rfl, h1⟩
       have h2 := ((h1.newBlk 111 #[pt g]).perm (List.perm_middle (l₁ := [_]))).perm (List.Perm.cons _ (List.Perm.swap _ _ _))
       have h3 : Has w (rdA g s0 :: blkA (w.heap.size + 1) 39 (itc zI (.slice none 0 0)) :: blkA w1.heap.size 111 #[pt g] :: blkA w.heap.size 39 (itc zI (.slice none 0 0)) :: []) (w1.alloc (.cells #[pt g] 111)) := h2
       have r1 := (h3.blkIn (g := w1.heap.size) (t := 111) (cs := #[pt g]) (by simp)).cell 0
       simp at r1
       have H3 := Lib.hid h3
       clear h1 h2 h3 HN)
    | (go_at_call 47; refine (H3.out.rdNums [0, 1, 2] (by simp) rfl rfl (by simp) (fun i hi => by simp at hi; rcases hi with rfl | rfl | rfl <;> exact ⟨0, rfl⟩)).mono ?_; rintro e w2 ⟨vs, ⟨rfl, hvl, hvb, hvs⟩, h4⟩
       obtain ⟨a0, a1, a2, rfl⟩ := three3 hvl
       have e1 : sets (itc zI (.slice none 0 0)) (ivs [0, 1, 2] [a0, a1, a2]) = itc ⟨(a0 : Int), (a1 : Int), (a2 : Int), ⟨#[]⟩, 0, 0, 0, 0, []⟩ (.slice none 0 0) := by simp [sets, ivs, zI]
       rw [e1] at h4
       have r2 := (h4.blkIn (g := w1.heap.size) (t := 111) (cs := #[pt g]) (by simp)).cell 0
       simp at r2
       have H4 := Lib.hid h4
       clear h4 e1 H3 r1)
    | (go_at_call 48; refine H4.out.rdStr.mono ?_; rintro e w3 ⟨u, ⟨rfl, hu⟩, h5⟩
       have z1 := h5.swap.blk.1.cell 3
       have zf := h5.swap.blk.1.frozen 3
       simp at z1
       have h5 := (h5.swap.setBlk 3 (.string u)).swap
       have r3 := (h5.blkIn (g := w1.heap.size) (t := 111) (cs := #[pt g]) (by simp)).cell 0
       simp at r3
       have H5 := Lib.hid h5
       clear h5 H4 r2)
    | (go_at_call 49; refine (H5.out.rdStamps [4, 6] (by simp [World.setCell]) rfl rfl (by simp) (fun i hi => by simp at hi; rcases hi with rfl | rfl <;> exact ⟨⟨0, rfl⟩, ⟨0, rfl⟩⟩)).mono ?_; rintro e w4 ⟨vt, ⟨rfl, htl, htb, hts⟩, h6⟩
       obtain ⟨b0, b1, b2, b3, rfl⟩ := four_ htl
       have e2 : sets ((itc ⟨(a0 : Int), (a1 : Int), (a2 : Int), ⟨#[]⟩, 0, 0, 0, 0, []⟩ (.slice none 0 0)).setIfInBounds 3 (.string u)) (ivs (dbl [4, 6]) [b0, b1, b2, b3]) = itc ⟨(a0 : Int), (a1 : Int), (a2 : Int), u, b0, b1, b2, b3, []⟩ (.slice none 0 0) := by simp [sets, ivs, dbl]
       rw [e2] at h6
       have r4 := (h6.blkIn (g := w1.heap.size) (t := 111) (cs := #[pt g]) (by simp)).cell 0
       simp at r4
       have h7 := (h6.rowNil 24 3).perm ((List.perm_middle (l₁ := [_, _, _]) (a := rowA 24 3 (.slice none 0 0) 0 [])).symm)
       have HM := Lib.hid (many_c pC 51 #[pt w1.heap.size, pt (w.heap.size + 1)] g (xI (w.heap.size + 1) w1.heap.size g ⟨(a0 : Int), (a1 : Int), (a2 : Int), u, b0, b1, b2, b3, []⟩) w
         (fun args W => by rfl) pC_eats (fun T V s v l hl h => closI (w.heap.size + 1) w1.heap.size g _ w T V s v l hl h) w4 _ (.slice none 0 0) [blkA w.heap.size 39 (itc zI (.slice none 0 0))] h7)
       clear h6 h7 e2 H5 r3)
    | (go_at_call 50; refine HM.out.mono ?_; rintro e w5 ⟨rfl, l, v', hl, h8⟩
       have h8 : Has w (rdA g (finI s0) :: (xI (w.heap.size + 1) w1.heap.size g ⟨(a0 : Int), (a1 : Int), (a2 : Int), u, b0, b1, b2, b3, []⟩ v' l ++ [blkA w.heap.size 39 (itc zI (.slice none 0 0))])) w5 := h8
       have r5 := (h8.blkIn (g := w1.heap.size) (t := 111) (cs := #[pt g]) (by simp [xI])).cell 0
       simp at r5
       obtain ⟨Av, cv, rfl, hat, hnc, hcm, hav⟩ := chRow (h8.perm (List.perm_middle (l₁ := [_, _, _]))).rowOf
       have hap : ∀ a, Av = some a → a.block ≠ w.heap.size := (h8.perm (List.perm_middle (l₁ := [_, _, _]))).apart (g := w.heap.size) (t := 39) (cs := itc zI (.slice none 0 0)) (by simp [xI])
       have kx := h8.blkIn (g := w.heap.size + 1) (t := 39) (cs := itc ⟨(a0 : Int), (a1 : Int), (a2 : Int), u, b0, b1, b2, b3, l⟩ (.slice Av l.length cv)) (by simp [xI])
       have ky := h8.blkIn (g := w.heap.size) (t := 39) (cs := itc zI (.slice none 0 0)) (by simp [xI])
       obtain ⟨kk, bb, hk, hbb, hCK⟩ := checkI2 ⟨(a0 : Int), (a1 : Int), (a2 : Int), u, b0, b1, b2, b3, l⟩ Av l.length cv w5 hat (by omega)
       have q0 := kx.cell 0
       have p0 := ky.cell 0
       have f0 := ky.frozen 0
       have q1 := kx.cell 1
       have p1 := ky.cell 1
       have f1 := ky.frozen 1
       have q2 := kx.cell 2
       have p2 := ky.cell 2
       have f2 := ky.frozen 2
       have q3 := kx.cell 3
       have p3 := ky.cell 3
       have f3 := ky.frozen 3
       have q4 := kx.cell 4
       have p4 := ky.cell 4
       have f4 := ky.frozen 4
       have q5 := kx.cell 5
       have p5 := ky.cell 5
       have f5 := ky.frozen 5
       have q6 := kx.cell 6
       have p6 := ky.cell 6
       have f6 := ky.frozen 6
       have q7 := kx.cell 7
       have p7 := ky.cell 7
       have f7 := ky.frozen 7
       have q8 := kx.cell 8
       have p8 := ky.cell 8
       have f8 := ky.frozen 8
       simp at q0 p0 q1 p1 q2 p2 q3 p3 q4 p4 q5 p5 q6 p6 q7 p7 q8 p8
       have hbel := h8.bel
       have HCK := Lib.hid hCK
       have HKX := Lib.hid kx
       have HKY := Lib.hid ky
       have HAT := Lib.hid hat
       have H8 := Lib.hid h8
       have HLL := Lib.hid (show finI s0 ≠ none → l = (many pC (pn (pns 4 (ps (pns 3 s0).2).2).2).1 (pn (pns 4 (ps (pns 3 s0).2).2).2).2).1 from hl)
       clear h8 HM r4 kx ky hCK hat hl)
    | (go_at_call 53; refine H8.out.rdDone.mono ?_; rintro e w6 ⟨rfl, rfl⟩
       obtain ⟨bd, hbd⟩ : ∃ bd, decide (finI s0 = some []) = bd := ⟨_, rfl⟩
       rw [hbd]
       have HBD := Lib.hid hbd
       clear hbd)
    | (go_at_call 54; refine HCK.out.mono ?_; rintro e w7 ⟨rfl, hb7⟩
       have kx7 := HKX.out.below hb7 HKX.out.lt
       have ky7 := HKY.out.below hb7 HKY.out.lt
       have j0 := kx7.cell 0
       have m0 := ky7.cell 0
       have n0 := ky7.frozen 0
       have j1 := kx7.cell 1
       have m1 := ky7.cell 1
       have n1 := ky7.frozen 1
       have j2 := kx7.cell 2
       have m2 := ky7.cell 2
       have n2 := ky7.frozen 2
       have j3 := kx7.cell 3
       have m3 := ky7.cell 3
       have n3 := ky7.frozen 3
       have j4 := kx7.cell 4
       have m4 := ky7.cell 4
       have n4 := ky7.frozen 4
       have j5 := kx7.cell 5
       have m5 := ky7.cell 5
       have n5 := ky7.frozen 5
       have j6 := kx7.cell 6
       have m6 := ky7.cell 6
       have n6 := ky7.frozen 6
       have j7 := kx7.cell 7
       have m7 := ky7.cell 7
       have n7 := ky7.frozen 7
       have j8 := kx7.cell 8
       have m8 := ky7.cell 8
       have n8 := ky7.frozen 8
       simp at j0 m0 j1 m1 j2 m2 j3 m3 j4 m4 j5 m5 j6 m6 j7 m7 j8 m8))
  all_goals
    have hy : finI s0 = some [] → (⟨(a0 : Int), (a1 : Int), (a2 : Int), u, b0, b1, b2, b3, l⟩ : It) = (rdI (sb t)).1 := by
      intro hf
      have hs := HS1.out (fun e => by rw [e] at hf; cases hf)
      subst hs
      exact rdI_parts (sb t) hvs hu hts HLL.out (by rw [hf]; simp)
  · rename_i hbd hm
    rw [hbd] at HBD
    have hf : finI s0 = some [] := of_decide_eq_true HBD.out
    have hm' : mayI ⟨(a0 : Int), (a1 : Int), (a2 : Int), u, b0, b1, b2, b3, l⟩ = false := by simpa using hm
    have hW : Blk _ w.heap.size 39 (itc zI (.slice none 0 0)) := ky7.all9
    refine ret_it rfl rfl hW rfl rfl ⟨?_, (((((((((hbel.trans (hb7.mono hbel.size)).setCell (by exact Nat.le_refl _) _).setCell (by exact Nat.le_refl _) _).setCell (by exact Nat.le_refl _) _).setCell (by exact Nat.le_refl _) _).setCell (by exact Nat.le_refl _) _).setCell (by exact Nat.le_refl _) _).setCell (by exact Nat.le_refl _) _).setCell (by exact Nat.le_refl _) _).setCell (by exact Nat.le_refl _) _⟩
    rw [HFI.out, if_neg (by rw [← hy hf, hm']; simp)]
    rfl
  · rename_i hbd hm
    rw [hbd] at HBD
    have hf : finI s0 = some [] := of_decide_eq_true HBD.out
    have hm' : mayI ⟨(a0 : Int), (a1 : Int), (a2 : Int), u, b0, b1, b2, b3, l⟩ = true := by simpa using hm
    have hW : Blk _ w.heap.size 39 (itc ⟨(a0 : Int), (a1 : Int), (a2 : Int), u, b0, b1, b2, b3, l⟩ (.slice Av l.length cv)) := ky7.all9
    have hat7 := HAT.out.below hb7
    refine ret_it rfl rfl hW rfl rfl ⟨?_, (((((((((hbel.trans (hb7.mono hbel.size)).setCell (by exact Nat.le_refl _) _).setCell (by exact Nat.le_refl _) _).setCell (by exact Nat.le_refl _) _).setCell (by exact Nat.le_refl _) _).setCell (by exact Nat.le_refl _) _).setCell (by exact Nat.le_refl _) _).setCell (by exact Nat.le_refl _) _).setCell (by exact Nat.le_refl _) _).setCell (by exact Nat.le_refl _) _⟩
    rw [HFI.out, if_pos ⟨hf, by rw [← hy hf, hm']⟩, ← hy hf]
    refine ⟨Av, l.length, cv, rfl, ?_, hnc, hcm, fun p hp => by have := hav p hp; have := hb7.size; simp [World.setCell]; omega⟩
    refine hat7.keep fun a ha j z hz => ?_
    have hne := hap a ha
    simp only [World.cell?, World.setCell, Array.getElem?_modify] at hz ⊢
    simpa [hne, hne.symm] using hz
  · rename_i hbd
    have hf : ¬ finI s0 = some [] := by
      have := HBD.out
      intro h
      rw [decide_eq_true h] at this
      exact hbd this.symm
    have hW : Blk _ w.heap.size 39 (itc zI (.slice none 0 0)) := HKY.out.all9
    refine ret_it rfl rfl hW rfl rfl ⟨?_, (((((((((hbel).setCell (by exact Nat.le_refl _) _).setCell (by exact Nat.le_refl _) _).setCell (by exact Nat.le_refl _) _).setCell (by exact Nat.le_refl _) _).setCell (by exact Nat.le_refl _) _).setCell (by exact Nat.le_refl _) _).setCell (by exact Nat.le_refl _) _).setCell (by exact Nat.le_refl _) _).setCell (by exact Nat.le_refl _) _⟩
    rw [HFI.out, if_neg (fun h => hf h.1)]
    rfl

end Go.Proofs.YtldbmogondmgmaaGreatDoor
set_option linter.unusedVariables false
set_option linter.unusedSimpArgs false
set_option maxRecDepth 100000
namespace Go.Proofs.YtldbmogondmgmaaGreatDoor
open Go.RowKit

theorem Blk.all2 {w : World} {g : Nat} {t : TypeId} {c0 c1 v0 v1 : Value} (h : Blk w g t #[c0, c1]) : Blk ((w.setCell ⟨g, 0, none⟩ v0).setCell ⟨g, 1, none⟩ v1) g t #[v0, v1] := by
  have := (h.set_ 0 v0).set_ 1 v1
  simpa using this
def AnsV (o : Option (ByteArray × Bool)) : Ending :=
  match o with
  | none => .returned (.tuple #[.string ⟨#[]⟩, .bool false, .int .i64 4])
  | some x => .returned (.tuple #[.string x.1, .bool x.2, .int .i64 0])
theorem s0_long (t : ByteArray) {s0 : Rst} (hs0 : (if t.size ≤ 2048 then some (sb t) else none) = s0) : (s0 = some (sb t)) ∨ (s0 = none ∧ 2048 < (sb t).length) := by
  by_cases hz : t.size ≤ 2048
  · rw [if_pos hz] at hs0; exact .inl hs0.symm
  · rw [if_neg hz] at hs0; exact .inr ⟨hs0.symm, by rw [sb_len]; omega⟩
theorem tkV_of {b : List UInt8} {d : Bool} (hd : (pf (some b)).2 ≠ none → d = (pf (some b)).1) : tkV b = if d = true then (if (ps (pf (some b)).2).2 = some [] then some ((ps (pf (some b)).2).1, true) else none) else if (pf (some b)).2 = some [] then some (⟨#[]⟩, false) else none := by
  unfold tkV
  simp only
  cases h : (pf (some b)).2 with
  | none => cases (pf (some b)).1 <;> cases d <;> simp [ps_none]
  | some r =>
    rw [hd (by rw [h]; simp)]
set_option maxHeartbeats 1000000 in
theorem takeV_c (t : ByteArray) (w : World) (ht : t.size ≤ 225000000000000) :
    Calls Tryz.prog 29 #[.string t] w fun e w' => e = AnsV (tkV (sb t)) ∧ Below w.heap.size w w' := by
  have HN := Lib.hid ((Has.nil (Below.refl w.heap.size w)).rdNew t ht)
  obtain ⟨s0, hs0⟩ : ∃ s0 : Rst, (if t.size ≤ 2048 then some (sb t) else none) = s0 := ⟨_, rfl⟩
  rw [hs0] at HN
  have HS := Lib.hid (s0_long t hs0)
  clear hs0
  go_enter Tryz.func29, Tryz.ntmps29
  go_wp2_with (first
    | (go_at_call 46; refine HN.out.mono ?_; rintro e w1 ⟨g, rfl, h1⟩; have H1 := Lib.hid h1; clear h1 HN)
    | (go_at_call 52; refine H1.out.rdFlag.mono ?_; rintro e w2 ⟨d, ⟨rfl, hd⟩, h2⟩; have H2 := Lib.hid h2; clear h2 H1)
    | (go_at_call 48; refine H2.out.rdStr.mono ?_; rintro e w3 ⟨u, ⟨rfl, hu⟩, h3⟩; have H3 := Lib.hid h3; clear h3)
    | (go_at_call 53; first | (refine H3.out.rdDone.mono ?_; rintro e w6 ⟨rfl, rfl⟩; have hb3 := H3.out.bel) | (refine H2.out.rdDone.mono ?_; rintro e w6 ⟨rfl, rfl⟩; have hb3 := H2.out.bel)))
  all_goals go_ret3
  all_goals refine ⟨?_, hb3⟩
  · have e1 : d = true := by assumption
    have e2 : (!decide ((ps (pf s0).2).2 = some [])) = true := by assumption
    have hne : ¬ (ps (pf s0).2).2 = some [] := by simpa using e2
    rcases HS.out with rfl | ⟨rfl, hl⟩
    · rw [tkV_of hd, if_pos e1, if_neg hne]; rfl
    · rw [tkV_long hl]; rfl
  · have e1 : d = true := by assumption
    have e2 : (!decide ((ps (pf s0).2).2 = some [])) = false := by assumption
    have he : (ps (pf s0).2).2 = some [] := by simpa using e2
    rcases HS.out with rfl | ⟨rfl, hl⟩
    · rw [tkV_of hd, if_pos e1, if_pos he, ← hu (by rw [he]; simp)]; rfl
    · cases he
  · have e1 : d = false := by assumption
    have e2 : (!decide ((pf s0).2 = some [])) = true := by assumption
    have hne : ¬ (pf s0).2 = some [] := by simpa using e2
    rcases HS.out with rfl | ⟨rfl, hl⟩
    · rw [tkV_of hd, if_neg (by rw [e1]; simp), if_neg hne]; rfl
    · rw [tkV_long hl]; rfl
  · have e1 : d = false := by assumption
    have e2 : (!decide ((pf s0).2 = some [])) = false := by assumption
    have he : (pf s0).2 = some [] := by simpa using e2
    rcases HS.out with rfl | ⟨rfl, hl⟩
    · rw [tkV_of hd, if_neg (by rw [e1]; simp), if_pos he]; rfl
    · cases he
end Go.Proofs.YtldbmogondmgmaaGreatDoor
