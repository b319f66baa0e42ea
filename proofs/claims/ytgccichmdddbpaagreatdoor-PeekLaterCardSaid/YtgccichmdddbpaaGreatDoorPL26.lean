/-
  Layer 11, the code: the function literals of TakeIntent, TakeRecord.
  Layer 11, the code: what may be: numbers, keys, values; the functions that look at one change, one write, one stamp.
  Layer 11: what each looks through, by a function that is handed in: slices.IndexFunc, ContainsFunc, each; areStamps, areChanges, areWrites.
  Layer 11, the code: CheckIntent, CheckRecord.
  Layer 11, the code: TakeIntent, TakeRecord.
  Layer 11, the code: TakeVersion, TakeStamp.
-/
import Derived.Test.YtgccichmdddbpaaGreatDoorPL25
import Derived.Test.YtgccichmdddbpaaGreatDoorPL24
import Derived.Test.YtgccichmdddbpaaGreatDoorPL03
set_option linter.unusedVariables false
set_option linter.unusedSimpArgs false
set_option maxRecDepth 100000
namespace Go.Proofs.YtgccichmdddbpaaGreatDoor
open Go.RowKit

section
variable {w V V' : World} {l T : List As} {A : As} {F : Nat → Prop} {g : Nat}
theorem Sep.memL (h : Sep V l F) (hm : A ∈ l) : ∃ F1, A.p V F1 ∧ ∀ k, F1 k → F k := by
  induction l generalizing F with
  | nil => cases hm
  | cons B l ih =>
    obtain ⟨F1, F2, h1, h2, h3, h4⟩ := h
    rcases List.mem_cons.1 hm with rfl | hm
    · exact ⟨F1, h1, fun k e => (h4 k).2 (.inl e)⟩
    · obtain ⟨F3, h5, h6⟩ := ih h2 hm
      exact ⟨F3, h5, fun k e => (h4 k).2 (.inr (h6 k e))⟩
theorem Has.blkIn {t : TypeId} {cs : Array Value} (h : Has w l V) (hm : blkA g t cs ∈ l) : Blk V g t cs := by
  obtain ⟨⟨F, h1, h2⟩, _⟩ := h
  obtain ⟨F1, h3, h4⟩ := h1.memL hm
  exact h3.1
end
theorem infoCh : (Tryz.prog.info? 24).map (fun i => (i.zero, i.size, i.bytes)) = some (some (.agg #[.int .i64 0, .string ⟨#[]⟩, .bool false]), 3, 32) := by kernel_rfl
theorem chc_len : ∀ l : List Ch, (l.flatMap chc).length = l.length * 3
  | [] => rfl
  | c :: l => by rw [List.flatMap_cons, List.length_append, chc_len l, List.length_cons]; show 3 + _ = _; omega
theorem lay_new (W : World) (cs : Array Value) (t : TypeId) : ∀ j u, cs.toList[j]? = some u → (W.alloc (.cells cs t)).cell? ((⟨W.heap.size, 0, none⟩ : Addr).add j) = some u := by
  intro j u hj
  rw [Go.WideShapes.add_plain, Nat.zero_add, (Blk.new W t cs).cell j]
  simpa using hj

/-- The intent that is read, its record; beside it: the reader's variable, the row of changes. -/
def xI (x rb g : Nat) (y : It) (v : Value) (l : List Ch) : List As := [blkA x 38 (itc y v), blkA rb 204 #[pt g], rowA 24 3 v l.length (l.flatMap chc)]

set_option maxHeartbeats 1000000 in
theorem closI (x rb g : Nat) (y : It) (w : World) (T : List As) (V : World) (s : Rst) (v : Value) (l : List Ch) (hl : l.length ≤ 2048) (h : Has w (rdA g s :: (xI x rb g y v l ++ T)) V) :
    Calls Tryz.prog 146 #[pt rb, pt x] V fun e w' => e = .returned (.tuple #[]) ∧ ∃ (a : Ch) (v' : Value), ((pC s).2 ≠ none → a = (pC s).1) ∧ Has w (rdA g (pC s).2 :: (xI x rb g y v' (l ++ [a]) ++ T)) w' := by
  obtain ⟨i0, hi0, hz0, hz1, hz2⟩ := info_parts infoCh
  have h1 : Has w (rdA g s :: blkA V.heap.size 24 #[.int .i64 0, .string ⟨#[]⟩, .bool false] :: blkA x 38 (itc y v) :: blkA rb 204 #[pt g] :: rowA 24 3 v l.length (l.flatMap chc) :: T) (V.alloc (.cells #[.int .i64 0, .string ⟨#[]⟩, .bool false] 24)) := (h.newBlk _ _).swap
  have r1 := (h1.blkIn (g := rb) (t := 204) (cs := #[pt g]) (by simp)).cell 0
  simp at r1
  have H1 := Lib.hid h1
  have HXr := Lib.hid (h1.perm (List.perm_middle (l₁ := [_, _, _, _]))).rowOf
  clear h h1
  go_enter Tryz.func146, Tryz.ntmps146
  go_wp2_with (first
    | (go_at_call 142; refine (H1.out.rdNums [0] (by simp) rfl rfl (by simp) (fun i hi => by simp at hi; subst hi; exact ⟨0, rfl⟩)).mono ?_; rintro e w1 ⟨vs, ⟨rfl, hvl, hvb, hvs⟩, h2⟩
       obtain ⟨q, rfl⟩ : ∃ u, vs = [u] := by
         match vs, hvl with
         | [u], _ => exact ⟨u, rfl⟩
       have e1 : sets #[.int .i64 0, .string ⟨#[]⟩, .bool false] (ivs [0] [q]) = #[.int .i64 (q : Int), .string ⟨#[]⟩, .bool false] := by simp [sets, ivs]
       rw [e1] at h2
       have r2 := (h2.blkIn (g := rb) (t := 204) (cs := #[pt g]) (by simp)).cell 0
       simp at r2
       have H2 := Lib.hid h2
       clear h2 e1 H1 r1)
    | (go_at_call 147; refine H2.out.rdFlag.mono ?_; rintro e w2 ⟨d, ⟨rfl, hd⟩, h3⟩
       have z2 := h3.swap.blk.1.cell 2
       have zf := h3.swap.blk.1.frozen 2
       simp at z2
       have h3 := (h3.swap.setBlk 2 (.bool d)).swap
       have r3 := (h3.blkIn (g := rb) (t := 204) (cs := #[pt g]) (by simp)).cell 0
       simp at r3
       have H3 := Lib.hid h3
       clear h3 H2 r2)
    | (go_at_call 143; refine H3.out.rdStr.mono ?_; rintro e w3 ⟨u, ⟨rfl, hu⟩, h4⟩
       have z1 := h4.swap.blk.1.cell 1
       have zg := h4.swap.blk.1.frozen 1
       simp at z1
       have h4 := (h4.swap.setBlk 1 (.string u)).swap
       have c0 := h4.swap.blk.1.cell 0
       have c1 := h4.swap.blk.1.cell 1
       have c2 := h4.swap.blk.1.cell 2
       have x0 := (h4.blkIn (g := x) (t := 38) (cs := itc y v) (by simp)).cell 8
       simp at c0 c1 c2 x0
       have H5 := Lib.hid (h4.alloc (.cells #[.int .i64 (q : Int), .string u, .bool d] 24))
       clear h4 H3 r3)
    | (at_builtin; refine wpList_append_own_at _ rfl _ _ 36 rfl 0 24 i0 _ 3 32 Tryz.underlying36 hi0 hz0 hz1 hz2 rfl (by decide) v l.length (l.flatMap chc) rfl ?ho ⟨w3.heap.size, 0, none⟩ 1 1 (chc (⟨(q : Int), u, d⟩ : Ch)) ?hx ?hl ?hn ?h1 ?h2 ?h3 (Nat.zero_le _) ?_))
  case ho => exact (H5.out.perm (List.perm_middle (l₁ := [_, _, _, _]))).rowOf
  case hx => first | rfl | (simp [World.setCell]; rfl)
  case hl => rfl
  case hn => have := lay_new (w3.setCell ⟨V.heap.size, 1, none⟩ (.string u)) #[.int .i64 (q : Int), .string u, .bool d] 24; simpa [World.setCell, chc] using this
  case h1 => intro u hu; simp [chc] at hu; rcases hu with rfl | rfl | rfl <;> rfl
  case h2 => unfold maxLen; omega
  case h3 => omega
  intro v' w5 hown hg _ hob
  obtain ⟨Av, nv, cv, hve⟩ := slice_form hown
  have h6 := (H5.out.perm (List.perm_middle (l₁ := [_, _, _, _]))).rowTurn hown hg (by simpa [World.setCell] using hob)
  have h7 := h6.perm (List.perm_middle (l₁ := [_, _, _]))
  subst hve
  have x8 := h7.blk.1.cell 8
  have xf := h7.blk.1.frozen 8
  simp at x8
  have H8 := Lib.hid (h7.setBlk 8 (.slice Av nv cv))
  clear hown hg hob h6 h7
  go_wp2
  go_end0
  refine ⟨rfl, (⟨(q : Int), u, d⟩ : Ch), .slice Av nv cv, fun hne => ?_, ?_⟩
  · have k3 : (ps (pf (pn s).2).2).2 ≠ none := hne
    have k2 : (pf (pn s).2).2 ≠ none := fun e => k3 (by rw [e]; rfl)
    have k1 : (pn s).2 ≠ none := fun e => k2 (by rw [e]; rfl)
    have j1 : [q] = [(pn s).1] := hvs k1
    have j2 := hd k2
    have j3 := hu k3
    unfold pC
    simp only at j1 j2 j3 ⊢
    rw [j2, j3]
    simp at j1
    rw [j1]
    rfl
  have h9 := H8.out
  have hlen : (l ++ [(⟨(q : Int), u, d⟩ : Ch)]).length = l.length + 1 := by simp
  have hfl : (l ++ [(⟨(q : Int), u, d⟩ : Ch)]).flatMap chc = l.flatMap chc ++ chc (⟨(q : Int), u, d⟩ : Ch) := by simp
  unfold xI
  rw [hlen, hfl]
  have h10 := ((h9.perm (List.perm_middle (l₁ := [_, _, _]))).tail).perm (List.perm_middle (l₁ := [_, _]))
  exact h10.perm (List.Perm.cons _ (List.Perm.cons _ (List.Perm.swap _ _ _)))

end Go.Proofs.YtgccichmdddbpaaGreatDoor
set_option linter.unusedVariables false
set_option linter.unusedSimpArgs false
set_option maxRecDepth 100000
namespace Go.Proofs.YtgccichmdddbpaaGreatDoor
open Go.RowKit

theorem isId_c (n : Int) (b : Bool) (h : isI n = b) (w : World) : Calls Tryz.prog 181 #[.int .i64 n] w fun e w' => e = .returned (.bool b) ∧ w = w' := by
  subst h
  go_enter Tryz.func181, Tryz.ntmps181
  go_wp2
  all_goals go_ret
  all_goals refine ⟨congrArg (fun v => Ending.returned (Value.bool v)) ?_, rfl⟩
  all_goals unfold isI
  all_goals first | exact (decide_eq_true (by omega)).symm | exact (decide_eq_false (by omega)).symm | exact decide_eq_decide.2 (by omega)
theorem isNumber_c (n : Int) (b : Bool) (h : isN n = b) (w : World) : Calls Tryz.prog 182 #[.int .i64 n] w fun e w' => e = .returned (.bool b) ∧ w = w' := by
  subst h
  go_enter Tryz.func182, Tryz.ntmps182
  go_wp2
  all_goals go_ret
  all_goals refine ⟨congrArg (fun v => Ending.returned (Value.bool v)) ?_, rfl⟩
  all_goals unfold isN
  all_goals first | exact (decide_eq_true (by omega)).symm | exact (decide_eq_false (by omega)).symm | exact decide_eq_decide.2 (by omega)
theorem isKey_c (s : ByteArray) (b : Bool) (h : isK s = b) (w : World) : Calls Tryz.prog 178 #[.string s] w fun e w' => e = .returned (.bool b) ∧ w = w' := by
  have hb : ((if 1 ≤ s.size ∧ s.size ≤ 32 then 0 else 2 : Int) == 0) = b := by
    subst h
    unfold isK
    by_cases h1 : 1 ≤ s.size ∧ s.size ≤ 32
    · rw [if_pos h1, decide_eq_true h1]; rfl
    · rw [if_neg h1, decide_eq_false h1]; rfl
  have HC := Lib.hid (check s)
  generalize (if 1 ≤ s.size ∧ s.size ≤ 32 then 0 else 2 : Int) = x at hb HC
  have HB := Lib.hid hb
  clear hb h
  go_enter Tryz.func178, Tryz.ntmps178
  go_wp2_with fail
  refine (HC.out _).mono ?_
  rintro e w1 ⟨rfl, rfl⟩
  go_wp2
  go_ret
  exact ⟨congrArg (fun b => Ending.returned (Value.bool b)) HB.out, rfl⟩
theorem empty_iff (s : ByteArray) : (s.toList == ([] : List UInt8)) = decide (s.size = 0) := by
  rw [Lib.toList_data, ← sb_len]
  show (sb s == []) = _
  generalize sb s = l
  cases l <;> rfl
theorem empty_is (s : ByteArray) : s.toList.isEmpty = decide (s.size = 0) := by
  rw [Lib.toList_data, ← sb_len]
  show (sb s).isEmpty = _
  generalize sb s = l
  cases l <;> rfl
theorem isValue_c (s : ByteArray) (d : Bool) (b : Bool) (h : isV s d = b) (w : World) : Calls Tryz.prog 187 #[.string s, .bool d] w fun e w' => e = .returned (.bool b) ∧ w = w' := by
  subst h
  have h1 := empty_iff s
  have h2 := empty_is s
  by_cases h0 : s.size = 0
  · rw [decide_eq_true h0] at h1 h2
    cases d
    all_goals go_enter Tryz.func187, Tryz.ntmps187
    all_goals go_wp2
    all_goals go_ret
    all_goals refine ⟨congrArg (fun v => Ending.returned (Value.bool v)) ?_, rfl⟩
    all_goals unfold isV
    all_goals simp [h0, h1, h2]
  · rw [decide_eq_false h0] at h1 h2
    cases d
    all_goals go_enter Tryz.func187, Tryz.ntmps187
    all_goals go_wp2
    all_goals go_ret
    all_goals refine ⟨congrArg (fun v => Ending.returned (Value.bool v)) ?_, rfl⟩
    all_goals unfold isV
    all_goals first | (simp [h0, h1, h2]; done) | (simp [h0, h1, h2]; omega)
theorem argUnless_c (b : Bool) (w : World) : Calls Tryz.prog 137 #[.bool b] w fun e w' => e = .returned (.int .i64 (if b then 0 else 2)) ∧ w = w' := by
  cases b
  all_goals go_enter Tryz.func137, Tryz.ntmps137
  all_goals go_wp2
  all_goals go_ret
  all_goals exact ⟨rfl, rfl⟩
theorem isOwner_c (id ep pr : Int) (an : ByteArray) (b : Bool) (h : hdr id ep pr an = b) (w : World) : Calls Tryz.prog 138 #[.int .i64 id, .int .i64 ep, .int .i64 pr, .string an] w fun e w' => e = .returned (.bool b) ∧ w = w' := by
  subst h
  cases h1 : isI id
  all_goals cases h2 : isN ep
  all_goals cases h4 : isK an
  all_goals go_enter Tryz.func138, Tryz.ntmps138
  all_goals go_wp2_with (first
    | (go_at_call 181; refine (isId_c _ _ h1 _).mono ?_; rintro e w1 ⟨rfl, rfl⟩)
    | (go_at_call 182; refine (isNumber_c _ _ h2 _).mono ?_; rintro e w1 ⟨rfl, rfl⟩)
    | (go_at_call 178; refine (isKey_c _ _ h4 _).mono ?_; rintro e w1 ⟨rfl, rfl⟩))
  all_goals go_ret
  all_goals refine ⟨congrArg (fun v => Ending.returned (Value.bool v)) ?_, rfl⟩
  all_goals unfold hdr
  all_goals rw [h1, h2, h4]
  all_goals first
    | (simp; done)
    | (rw [show isP pr = true from decide_eq_true (by omega)]; rfl)
    | (rw [show isP pr = false from decide_eq_false (by omega)]; rfl)
    | (unfold isP; simp; omega)

/-! ### one change, one write, one stamp -/
theorem stampOne (p : Int × Int) (b : Bool) (h : mayP p = b) (w : World) : Calls Tryz.prog 184 #[sv p.1 p.2] w fun e w' => e = .returned (.bool b) ∧ Below w.heap.size w w' := by
  have hb : (ck p.1 p.2 == 0) = b := by
    subst h
    unfold ck mayP
    cases may p.1 p.2 <;> rfl
  have HC := Lib.hid (check_ok p.1 p.2)
  generalize ck p.1 p.2 = x at hb HC
  have HB := Lib.hid hb
  obtain ⟨a, c⟩ := p
  clear hb h
  go_enter Tryz.func184, Tryz.ntmps184
  go_wp2_with fail
  refine (HC.out _).mono ?_
  rintro e w1 ⟨rfl, hb1⟩
  have hb2 := (nbl w (.cells #[.int .i64 a, .int .i64 c] 26)).trans (hb1.mono (by simp))
  go_wp2
  go_ret
  exact ⟨congrArg (fun b => Ending.returned (Value.bool b)) HB.out, hb2⟩
set_option maxHeartbeats 4000000 in
theorem changeOne (ga : Nat) (a : Int) (c : Ch) (b : Bool) (h : okCh a c = b) (w : World) (hg : Blk w ga 3 #[.int .i64 a]) :
    Calls Tryz.prog 186 #[chv c, pt ga] w fun e w' => e = .returned (.bool b) ∧ Blk w' ga 3 #[.int .i64 c.q] ∧ Grow (fun k => k = ga) w w' := by
  subst h
  obtain ⟨q, s, d⟩ := c
  have hne : ga ≠ w.heap.size := by have := hg.lt; omega
  have hX := Blk.new w 24 #[.int .i64 q, .string s, .bool d]
  have hG : Blk (w.alloc (.cells #[.int .i64 q, .string s, .bool d] 24)) ga 3 #[.int .i64 a] := hg.below (nbl w _) hg.lt
  have hR : Grow (fun k => k = ga) w ((w.alloc (.cells #[.int .i64 q, .string s, .bool d] 24)).setCell ⟨ga, 0, none⟩ (.int .i64 q)) := (Grow.of_below (F := fun k => k = ga) (nbl w _)).set (p := ⟨ga, 0, none⟩) (.inl rfl) _
  have hS := hG.set_ 0 (.int .i64 q)
  have hY : Blk ((w.alloc (.cells #[.int .i64 q, .string s, .bool d] 24)).setCell ⟨ga, 0, none⟩ (.int .i64 q)) w.heap.size 24 #[.int .i64 q, .string s, .bool d] := by
    unfold Blk at *
    simp only [World.setCell, Array.getElem?_modify]
    rw [if_neg hne]
    exact hX
  have g0 := hG.cell 0
  have gz := hG.frozen 0
  have x0 := hX.cell 0
  have y0 := hY.cell 0
  have y1 := hY.cell 1
  have y2 := hY.cell 2
  simp at g0 x0 y0 y1 y2
  have HS := Lib.hid hS
  have HR := Lib.hid hR
  clear hX hG hS hY hR hg
  cases h1 : isI q
  all_goals cases h2 : isV s (!d)
  all_goals by_cases hlt : a < q
  all_goals go_enter Tryz.func186, Tryz.ntmps186
  all_goals go_wp2_with (first
    | (go_at_call 181; refine (isId_c _ _ h1 _).mono ?_; rintro e w1 ⟨rfl, rfl⟩)
    | (go_at_call 187; refine (isValue_c _ _ _ h2 _).mono ?_; rintro e w1 ⟨rfl, rfl⟩))
  all_goals go_ret
  all_goals refine ⟨congrArg (fun v => Ending.returned (Value.bool v)) ?_, HS.out, HR.out⟩
  all_goals unfold okCh
  all_goals simp only [h1, h2]
  all_goals first | (rw [decide_eq_true hlt]; rfl) | (rw [decide_eq_false (by omega)]; rfl)
end Go.Proofs.YtgccichmdddbpaaGreatDoor
set_option linter.unusedVariables false
set_option maxRecDepth 100000
namespace Go.Proofs.YtgccichmdddbpaaGreatDoor
open Go.RowKit


set_option maxHeartbeats 4000000 in
theorem idxS {S : Type} (ok : S → Int × Int → Bool) (nx : S → Int × Int → S) (gf : Nat) (J : S → World → Prop) (A : Option Addr) (n c : Nat) (l : List (Int × Int)) (hn : n ≤ 9223372036854775807)
    (hat : ∀ s W, J s W → Stamps W A n l)
    (step : ∀ s (c : Int × Int) W, J s W → Calls Tryz.prog 205 #[(sv c.1 c.2), pt gf] W fun e w' => e = .returned (.bool (!(ok s c))) ∧ J (nx s c) w')
    (s : S) (w : World) (hJ : J s w) :
    Calls Tryz.prog 180 #[.slice A n c, .func (.func 205) #[] #[pt gf]] w fun e w' => ∃ k : Int, e = .returned (.int .i64 k) ∧ decide (0 ≤ k) = !(scan ok nx s l) ∧ ∃ s', J s' w' := by
  have ST := Lib.hid step
  have HF := Lib.hid hat
  clear step hat
  go_enter Tryz.func180, Tryz.ntmps180
  go_wp2
  go_loopw [8] (fun i wr => ∃ (k : Nat) (s' : S), k ≤ n ∧ i = .int .i64 k ∧ Hid (scan ok nx s' (l.drop k) = scan ok nx s l) ∧ J s' wr) (fun i _ => n - (intOf i).toNat)
  case atStart => exact ⟨0, s, Nat.zero_le _, rfl, rfl, hJ⟩
  case round =>
    obtain ⟨k, s', hk, rfl, hrun, hRep⟩ := hrel
    have hfa := HF.out s' wr hRep
    have hlen := hfa.1
    by_cases hlt : k < n
    · have hkl : k < l.length := by omega
      obtain ⟨b, o, rfl, hc⟩ := hfa.2 (by omega)
      obtain ⟨h1, h2⟩ := hc k hkl
      have hs := ST.out s' (l[k]'hkl) wr hRep
      have hd : l.drop k = (l[k]'hkl) :: l.drop (k + 1) := List.drop_eq_getElem_cons hkl
      have hrun' := hrun.out
      rw [hd] at hrun'
      generalize (l[k]'hkl) = x at *
      clear hc hfa HF ST hd hrun
      cases hok : ok s' x with
      | true =>
        have HR := Lib.hid (show scan ok nx (nx s' x) (l.drop (k + 1)) = scan ok nx s l by rw [← hrun', scan, hok, Bool.true_and])
        rw [hok] at hs
        clear hrun' hok
        go_wp2_with fail
        refine hs.mono ?_
        rintro e w2 ⟨rfl, h2⟩
        go_wp2
        go_roundw
        case rel => exact ⟨k + 1, _, by omega, by go_num, HR, h2⟩
        case measure => simp [intOf]; omega
      | false =>
        have HR := Lib.hid (show scan ok nx s l = false by rw [← hrun', scan, hok, Bool.false_and])
        rw [hok] at hs
        clear hrun' hok
        go_wp2_with fail
        refine hs.mono ?_
        rintro e w2 ⟨rfl, h2⟩
        go_wp2
        go_ret
        exact ⟨k, rfl, by rw [HR.out]; exact decide_eq_true (by omega), _, h2⟩
    · have HR := Lib.hid (show scan ok nx s l = true by rw [← hrun.out, List.drop_of_length_le (by omega), scan])
      clear hrun HF ST hfa
      go_wp2
      go_ret
      exact ⟨-1, rfl, by rw [HR.out]; rfl, _, hRep⟩
theorem conS {S : Type} (ok : S → Int × Int → Bool) (nx : S → Int × Int → S) (gf : Nat) (J : S → World → Prop) (A : Option Addr) (n c : Nat) (l : List (Int × Int)) (hn : n ≤ 9223372036854775807)
    (hat : ∀ s W, J s W → Stamps W A n l)
    (step : ∀ s (c : Int × Int) W, J s W → Calls Tryz.prog 205 #[(sv c.1 c.2), pt gf] W fun e w' => e = .returned (.bool (!(ok s c))) ∧ J (nx s c) w')
    (s : S) (w : World) (hJ : J s w) :
    Calls Tryz.prog 135 #[.slice A n c, .func (.func 205) #[] #[pt gf]] w fun e w' => e = .returned (.bool (!(scan ok nx s l))) ∧ ∃ s', J s' w' := by
  have HI := Lib.hid (idxS ok nx gf J A n c l hn hat step s w hJ)
  clear step hat hJ
  go_enter Tryz.func135, Tryz.ntmps135
  go_wp2_with fail
  refine HI.out.mono ?_
  rintro e w1 ⟨k, rfl, hk, h1⟩
  have HK := Lib.hid hk
  clear hk
  go_wp2
  go_ret
  exact ⟨congrArg (fun b => Ending.returned (Value.bool b)) HK.out, h1⟩

set_option maxHeartbeats 4000000 in
theorem idxC {S : Type} (ok : S → Ch → Bool) (nx : S → Ch → S) (gf : Nat) (J : S → World → Prop) (A : Option Addr) (n c : Nat) (l : List (Ch)) (hn : n ≤ 9223372036854775807)
    (hat : ∀ s W, J s W → ChAt W A n l)
    (step : ∀ s (c : Ch) W, J s W → Calls Tryz.prog 207 #[(chv c), pt gf] W fun e w' => e = .returned (.bool (!(ok s c))) ∧ J (nx s c) w')
    (s : S) (w : World) (hJ : J s w) :
    Calls Tryz.prog 94 #[.slice A n c, .func (.func 207) #[] #[pt gf]] w fun e w' => ∃ k : Int, e = .returned (.int .i64 k) ∧ decide (0 ≤ k) = !(scan ok nx s l) ∧ ∃ s', J s' w' := by
  have ST := Lib.hid step
  have HF := Lib.hid hat
  clear step hat
  go_enter Tryz.func94, Tryz.ntmps94
  go_wp2
  go_loopw [8] (fun i wr => ∃ (k : Nat) (s' : S), k ≤ n ∧ i = .int .i64 k ∧ Hid (scan ok nx s' (l.drop k) = scan ok nx s l) ∧ J s' wr) (fun i _ => n - (intOf i).toNat)
  case atStart => exact ⟨0, s, Nat.zero_le _, rfl, rfl, hJ⟩
  case round =>
    obtain ⟨k, s', hk, rfl, hrun, hRep⟩ := hrel
    have hfa := HF.out s' wr hRep
    have hlen := hfa.1
    by_cases hlt : k < n
    · have hkl : k < l.length := by omega
      obtain ⟨b, o, rfl, hc⟩ := hfa.2 (by omega)
      obtain ⟨h1, h2, h3⟩ := hc k hkl
      have hs := ST.out s' (l[k]'hkl) wr hRep
      have hd : l.drop k = (l[k]'hkl) :: l.drop (k + 1) := List.drop_eq_getElem_cons hkl
      have hrun' := hrun.out
      rw [hd] at hrun'
      generalize (l[k]'hkl) = x at *
      clear hc hfa HF ST hd hrun
      cases hok : ok s' x with
      | true =>
        have HR := Lib.hid (show scan ok nx (nx s' x) (l.drop (k + 1)) = scan ok nx s l by rw [← hrun', scan, hok, Bool.true_and])
        rw [hok] at hs
        clear hrun' hok
        go_wp2_with fail
        refine hs.mono ?_
        rintro e w2 ⟨rfl, h2⟩
        go_wp2
        go_roundw
        case rel => exact ⟨k + 1, _, by omega, by go_num, HR, h2⟩
        case measure => simp [intOf]; omega
      | false =>
        have HR := Lib.hid (show scan ok nx s l = false by rw [← hrun', scan, hok, Bool.false_and])
        rw [hok] at hs
        clear hrun' hok
        go_wp2_with fail
        refine hs.mono ?_
        rintro e w2 ⟨rfl, h2⟩
        go_wp2
        go_ret
        exact ⟨k, rfl, by rw [HR.out]; exact decide_eq_true (by omega), _, h2⟩
    · have HR := Lib.hid (show scan ok nx s l = true by rw [← hrun.out, List.drop_of_length_le (by omega), scan])
      clear hrun HF ST hfa
      go_wp2
      go_ret
      exact ⟨-1, rfl, by rw [HR.out]; rfl, _, hRep⟩
theorem conC {S : Type} (ok : S → Ch → Bool) (nx : S → Ch → S) (gf : Nat) (J : S → World → Prop) (A : Option Addr) (n c : Nat) (l : List (Ch)) (hn : n ≤ 9223372036854775807)
    (hat : ∀ s W, J s W → ChAt W A n l)
    (step : ∀ s (c : Ch) W, J s W → Calls Tryz.prog 207 #[(chv c), pt gf] W fun e w' => e = .returned (.bool (!(ok s c))) ∧ J (nx s c) w')
    (s : S) (w : World) (hJ : J s w) :
    Calls Tryz.prog 206 #[.slice A n c, .func (.func 207) #[] #[pt gf]] w fun e w' => e = .returned (.bool (!(scan ok nx s l))) ∧ ∃ s', J s' w' := by
  have HI := Lib.hid (idxC ok nx gf J A n c l hn hat step s w hJ)
  clear step hat hJ
  go_enter Tryz.func206, Tryz.ntmps206
  go_wp2_with fail
  refine HI.out.mono ?_
  rintro e w1 ⟨k, rfl, hk, h1⟩
  have HK := Lib.hid hk
  clear hk
  go_wp2
  go_ret
  exact ⟨congrArg (fun b => Ending.returned (Value.bool b)) HK.out, h1⟩


theorem eachOneC (ga gf : Nat) (a : Int) (c : Ch) (W : World) (hg : Blk W ga 3 #[.int .i64 a]) (hf : Blk W gf 113 #[.func (.func 186) #[] #[pt ga]]) :
    Calls Tryz.prog 207 #[(chv c), pt gf] W fun e w' => e = .returned (.bool (!(okCh a c))) ∧ Blk w' ga 3 #[.int .i64 ((fun _ c => c.q) a c)] ∧ Grow (fun k => k = ga) W w' := by
  have h1 : Blk (W.alloc (.cells #[.int .i64 c.q, .string c.s, .bool c.d] 24)) ga 3 #[.int .i64 a] := hg.below (nbl W _) hg.lt
  have h2 : Blk (W.alloc (.cells #[.int .i64 c.q, .string c.s, .bool c.d] 24)) gf 113 #[.func (.func 186) #[] #[pt ga]] := hf.below (nbl W _) hf.lt
  have h3 := Blk.new W 24 #[.int .i64 c.q, .string c.s, .bool c.d]
  have HO := Lib.hid (changeOne ga a c _ rfl _ h1)
  have c2 := h2.cell 0
  have c3 := h3.cell 0
  simp at c2 c3
  have HG := Lib.hid (Grow.of_below (F := fun k => k = ga) (nbl W (.cells #[.int .i64 c.q, .string c.s, .bool c.d] 24)))
  clear h1 h2 h3 hg hf
  go_enter Tryz.func207, Tryz.ntmps207
  go_wp2_with fail
  refine HO.out.mono ?_
  rintro e w1 ⟨rfl, q1, q2⟩
  have q3 := HG.out.trans (q2.mono fun k hk => .inl hk)
  go_wp2
  go_ret
  exact ⟨rfl, q1, q3⟩
theorem eachC (ga : Nat) (a : Int) (A : Option Addr) (n c : Nat) (l : List Ch) (w : World) (hn : n ≤ 9223372036854775807) (hx : ∀ W, Below ga w W → ChAt W A n l) (hg : Blk w ga 3 #[.int .i64 a]) :
    Calls Tryz.prog 185 #[.slice A n c, .func (.func 186) #[] #[pt ga]] w fun e w' => e = .returned (.bool (rise a l)) ∧ Below ga w w' := by
  have hlt := hg.lt
  have HC := Lib.hid (conC okCh (fun _ c => c.q) w.heap.size (fun s W => Below ga w W ∧ Blk W ga 3 #[.int .i64 s] ∧ Blk W w.heap.size 113 #[.func (.func 186) #[] #[pt ga]]) A n c l hn
    (fun s W h => hx W h.1)
    (fun s x W h => (eachOneC ga w.heap.size s x W h.2.1 h.2.2).mono fun e w' ⟨h1, h2, h3⟩ => ⟨h1,
      ⟨h3.os.trans h.1.os, h3.tape.trans h.1.tape, h3.output.trans h.1.output, Nat.le_trans h.1.size h3.size, fun k hk => (h3.block k (by have := h.1.size; omega) (by omega)).trans (h.1.block k hk)⟩, h2,
      (h3.block _ h.2.2.lt (by omega)).trans h.2.2⟩)
    a (w.alloc (.cells #[.func (.func 186) #[] #[pt ga]] 113)) ⟨(Below.refl ga w).alloc (by omega) _, hg.below (nbl w _) hlt, Blk.new w _ _⟩)
  go_enter Tryz.func185, Tryz.ntmps185
  go_wp2_with fail
  refine HC.out.mono ?_
  rintro e w1 ⟨rfl, s', h1, _, _⟩
  go_wp2
  go_ret
  exact ⟨by rw [← scan_rise]; simp, h1⟩


theorem eachOneS (gf : Nat) (c : Int × Int) (W : World) (hf : Blk W gf 200 #[.func (.func 184) #[] #[]]) :
    Calls Tryz.prog 205 #[sv c.1 c.2, pt gf] W fun e w' => e = .returned (.bool (!(mayP c))) ∧ Below W.heap.size W w' := by
  obtain ⟨x, y⟩ := c
  have h2 : Blk (W.alloc (.cells #[.int .i64 x, .int .i64 y] 26)) gf 200 #[.func (.func 184) #[] #[]] := hf.below (nbl W _) hf.lt
  have h3 := Blk.new W 26 #[.int .i64 x, .int .i64 y]
  have HO := Lib.hid (stampOne (x, y) _ rfl (W.alloc (.cells #[.int .i64 x, .int .i64 y] 26)))
  have c2 := h2.cell 0
  have c3 := h3.cell 0
  simp at c2 c3
  clear h2 h3 hf
  go_enter Tryz.func205, Tryz.ntmps205
  go_wp2_with fail
  refine HO.out.mono ?_
  rintro e w1 ⟨rfl, q1⟩
  have q3 := (nbl W (.cells #[.int .i64 x, .int .i64 y] 26)).trans (q1.mono (by simp))
  go_wp2
  go_ret
  exact ⟨rfl, q3⟩
theorem areStamps_c (A : Option Addr) (n c : Nat) (l : List (Int × Int)) (b : Bool) (hb : l.all mayP = b) (w : World) (hn : n ≤ 9223372036854775807) (hx : Stamps w A n l) :
    Calls Tryz.prog 139 #[.slice A n c] w fun e w' => e = .returned (.bool b) ∧ Below w.heap.size w w' := by
  subst hb
  have HC := Lib.hid (conS (fun (_ : Unit) p => mayP p) (fun u _ => u) w.heap.size (fun _ W => Below w.heap.size w W ∧ Blk W w.heap.size 200 #[.func (.func 184) #[] #[]]) A n c l hn
    (fun s W h => hx.below' h.1)
    (fun s x W h => (eachOneS w.heap.size x W h.2).mono fun e w' ⟨h1, h3⟩ => ⟨h1, h.1.trans (h3.mono h.1.size), (h3.block _ h.2.lt).trans h.2⟩)
    () (w.alloc (.cells #[.func (.func 184) #[] #[]] 200)) ⟨nbl w _, Blk.new w _ _⟩)
  have HE : Calls Tryz.prog 183 #[.slice A n c, .func (.func 184) #[] #[]] w fun e w' => e = .returned (.bool (l.all mayP)) ∧ Below w.heap.size w w' := by
    go_enter Tryz.func183, Tryz.ntmps183
    go_wp2_with fail
    refine HC.out.mono ?_
    rintro e w1 ⟨rfl, s', h1, _⟩
    go_wp2
    go_ret
    exact ⟨by rw [← scan_all]; simp, h1⟩
  clear HC
  have HE' := Lib.hid HE
  clear HE
  go_enter Tryz.func139, Tryz.ntmps139
  go_wp2_with fail
  refine HE'.out.mono ?_
  rintro e w1 ⟨rfl, h1⟩
  go_wp2
  go_ret
  exact ⟨rfl, h1⟩
theorem areChanges_c (A : Option Addr) (n c : Nat) (l : List Ch) (b : Bool) (hb : (decide (1 ≤ l.length ∧ l.length ≤ 16) && rise 0 l) = b) (w : World) (hn : n ≤ 9223372036854775807) (hx : ChAt w A n l) :
    Calls Tryz.prog 140 #[.slice A n c] w fun e w' => e = .returned (.bool b) ∧ Below w.heap.size w w' := by
  have hl := hx.1
  by_cases h1 : 1 ≤ n ∧ n ≤ 16
  · rw [hl, decide_eq_true h1, Bool.true_and] at hb
    subst hb
    obtain ⟨h2, h3⟩ := h1
    have HC := Lib.hid (eachC w.heap.size 0 A n c l (w.alloc (.cells #[.int .i64 0] 3)) hn (fun W hb => hx.below ((nbl w _).trans hb)) (Blk.new w _ _))
    go_enter Tryz.func140, Tryz.ntmps140
    go_wp2_with fail
    refine HC.out.mono ?_
    rintro e w1 ⟨rfl, q1⟩
    have q2 := (nbl w (.cells #[.int .i64 0] 3)).trans q1
    go_wp2
    go_ret
    exact ⟨rfl, q2⟩
  · rw [hl, decide_eq_false h1, Bool.false_and] at hb
    subst hb
    by_cases h2 : n < 1
    · go_enter Tryz.func140, Tryz.ntmps140
      go_wp2
      go_ret
      exact ⟨rfl, Below.refl _ _⟩
    · have h3 : 16 < n := by omega
      go_enter Tryz.func140, Tryz.ntmps140
      go_wp2
      go_ret
      exact ⟨rfl, Below.refl _ _⟩
end Go.Proofs.YtgccichmdddbpaaGreatDoor
set_option linter.unusedVariables false
set_option linter.unusedSimpArgs false
set_option maxRecDepth 100000
namespace Go.Proofs.YtgccichmdddbpaaGreatDoor
open Go.RowKit

theorem mayI_eq (x : It) : mayI x = (hdr x.id x.ep x.pr x.an && ([(x.sw, x.sl), (x.bw, x.bl)].all mayP && (decide (1 ≤ x.l.length ∧ x.l.length ≤ 16) && rise 0 x.l))) := by
  unfold mayI mayP
  simp [Bool.and_assoc]
set_option maxHeartbeats 2000000 in
theorem checkI (x : It) (A : Option Addr) (n c : Nat) (w : World) (hx : ChAt w A n x.l) (hn : n ≤ 9223372036854775807) :
    Calls Tryz.prog 91 #[itv x (.slice A n c)] w fun e w' => e = .returned (.int .i64 (if mayI x then 0 else 2)) ∧ Below w.heap.size w w' := by
  rw [mayI_eq]
  cases h1 : hdr x.id x.ep x.pr x.an
  · obtain ⟨id, ep, pr, an, sw, sl, bw, bl, l⟩ := x
    simp only at h1 hx
    have hb := nbl w (.cells (itc ⟨id, ep, pr, an, sw, sl, bw, bl, l⟩ (.slice A n c)) 38)
    have HB := Lib.hid hb
    clear hb hx
    go_enter Tryz.func91, Tryz.ntmps91
    go_wp2_with (first
      | (go_at_call 138; refine (isOwner_c _ _ _ _ _ h1 _).mono ?_; rintro e w1 ⟨rfl, rfl⟩)
      | (go_at_call 137; refine (argUnless_c _ _).mono ?_; rintro e w1 ⟨rfl, rfl⟩))
    go_ret
    exact ⟨rfl, HB.out⟩
  · cases h2 : [(x.sw, x.sl), (x.bw, x.bl)].all mayP
    · obtain ⟨id, ep, pr, an, sw, sl, bw, bl, l⟩ := x
      simp only at h1 h2 hx
      have hb := (nbl w (.cells (itc ⟨id, ep, pr, an, sw, sl, bw, bl, l⟩ (.slice A n c)) 38)).alloc (by simp) (.cells #[.int .i64 sw, .int .i64 sl, .int .i64 bw, .int .i64 bl] 26)
      have hS := areStamps_c (some ⟨w.heap.size + 1, 0, none⟩) 2 2 _ _ h2 _ (by omega) (by have := stamps_lit (w.alloc (.cells (itc ⟨id, ep, pr, an, sw, sl, bw, bl, l⟩ (.slice A n c)) 38)) [(sw, sl), (bw, bl)] _ 26 rfl; simpa using this)
      have HB := Lib.hid hb
      have HS := Lib.hid hS
      clear hb hx hS
      go_enter Tryz.func91, Tryz.ntmps91
      go_wp2_with (first
        | (go_at_call 138; refine (isOwner_c _ _ _ _ _ h1 _).mono ?_; rintro e w1 ⟨rfl, rfl⟩)
        | (go_at_call 139; refine HS.out.mono ?_; rintro e w2 ⟨rfl, hb2⟩)
        | (go_at_call 137; refine (argUnless_c _ _).mono ?_; rintro e w1 ⟨rfl, rfl⟩))
      go_ret
      exact ⟨rfl, HB.out.trans (hb2.mono (by simp; omega))⟩
    · obtain ⟨b3, h3⟩ : ∃ b, (decide (1 ≤ x.l.length ∧ x.l.length ≤ 16) && rise 0 x.l) = b := ⟨_, rfl⟩
      rw [h3]
      obtain ⟨id, ep, pr, an, sw, sl, bw, bl, l⟩ := x
      simp only at h1 h2 h3 hx
      have hb := (nbl w (.cells (itc ⟨id, ep, pr, an, sw, sl, bw, bl, l⟩ (.slice A n c)) 38)).alloc (by simp) (.cells #[.int .i64 sw, .int .i64 sl, .int .i64 bw, .int .i64 bl] 26)
      have hS := areStamps_c (some ⟨w.heap.size + 1, 0, none⟩) 2 2 _ _ h2 _ (by omega) (by have := stamps_lit (w.alloc (.cells (itc ⟨id, ep, pr, an, sw, sl, bw, bl, l⟩ (.slice A n c)) 38)) [(sw, sl), (bw, bl)] _ 26 rfl; simpa using this)
      have hBx : Blk ((w.alloc (.cells (itc ⟨id, ep, pr, an, sw, sl, bw, bl, l⟩ (.slice A n c)) 38)).alloc (.cells #[.int .i64 sw, .int .i64 sl, .int .i64 bw, .int .i64 bl] 26)) w.heap.size 38 (itc ⟨id, ep, pr, an, sw, sl, bw, bl, l⟩ (.slice A n c)) := (Blk.new w _ _).below (nbl _ _) (by simp)
      have HB := Lib.hid hb
      have HS := Lib.hid hS
      have HBx := Lib.hid hBx
      have HX := Lib.hid hx
      clear hb hx hS hBx
      go_enter Tryz.func91, Tryz.ntmps91
      go_wp2_with (first
        | (go_at_call 138; refine (isOwner_c _ _ _ _ _ h1 _).mono ?_; rintro e w1 ⟨rfl, rfl⟩)
        | (go_at_call 139; refine HS.out.mono ?_; rintro e w2 ⟨rfl, hb2⟩
           have hb3 := HB.out.trans (hb2.mono (by simp; omega))
           have k8 := (HBx.out.below hb2 (by simp; omega)).cell 8
           simp at k8)
        | (go_at_call 140; refine (areChanges_c A n c l b3 h3 w2 hn (HX.out.below hb3)).mono ?_; rintro e w3 ⟨rfl, hb4⟩; have hb5 := hb3.trans (hb4.mono hb3.size))
        | (go_at_call 137; refine (argUnless_c _ _).mono ?_; rintro e w1 ⟨rfl, rfl⟩))
      all_goals go_ret
      all_goals exact ⟨by first | rfl | (simp_all; done) | (cases b3 <;> simp_all), hb5⟩

/-! ### plain texts -/
def ansT (ok : Bool) (l : List UInt8) : Ending := .returned (.tuple #[.string (if ok then ⟨l.toArray⟩ else ⟨#[]⟩), .int .i64 (if ok then 0 else 2)])
theorem ansT_t (l : List UInt8) : ansT true l = .returned (.tuple #[.string ⟨l.toArray⟩, .int .i64 0]) := rfl
end Go.Proofs.YtgccichmdddbpaaGreatDoor
set_option linter.unusedVariables false
set_option linter.unusedSimpArgs false
set_option maxRecDepth 100000
namespace Go.Proofs.YtgccichmdddbpaaGreatDoor
open Go.RowKit

theorem pC_eats (b r : List UInt8) (h : (pC (some b)).2 = some r) : r.length < b.length := by
  rcases e : pC (some b) with ⟨c, o⟩
  rw [e] at h
  simp only at h
  subst h
  obtain ⟨e2, _⟩ := pC_back e
  injection e2 with e2
  rw [e2, List.length_append]
  have := enc_pos c.q.toNat
  unfold txC nbs
  rw [List.length_append]
  omega
theorem chc_get : ∀ (l : List Ch) (i : Nat) (h : i < l.length), (l.flatMap chc)[i * 3]? = some (.int .i64 (l[i]'h).q) ∧ (l.flatMap chc)[i * 3 + 1]? = some (.string (l[i]'h).s) ∧ (l.flatMap chc)[i * 3 + 2]? = some (.bool (l[i]'h).d)
  | [], i, h => absurd h (by simp)
  | c :: l, 0, h => ⟨rfl, rfl, rfl⟩
  | c :: l, i + 1, h => by
    have := chc_get l i (by simpa using h)
    have e1 : (i + 1) * 3 = i * 3 + 3 := by omega
    rw [e1]
    simpa [chc] using this
theorem chRow {w : World} {B n : Nat} {v : Value} {l : List Ch} (h : w.ownsRow B 24 3 v n (l.flatMap chc)) : ∃ A c, v = .slice A n c ∧ ChAt w A n l ∧ n ≤ c ∧ c ≤ 9223372036854775807 ∧ ∀ p, A = some p → p.block < w.heap.size := by
  have hl : l.length = n := by have := h.1; rw [chc_len] at this; omega
  rcases h.2 with ⟨rfl, h0⟩ | ⟨g, cap, cur, rfl, hb, hg, hnc, hcm, _⟩
  · exact ⟨none, 0, by rw [h0], ⟨hl, fun hm => by omega⟩, by omega, by omega, fun p hp => nomatch hp⟩
  · refine ⟨_, cap, rfl, ⟨hl, fun hm => ⟨g, 0, rfl, fun i hi => ?_⟩⟩, hnc, hcm, fun p hp => by cases hp; exact (Array.getElem?_eq_some_iff.1 hg).1⟩
    obtain ⟨h1, h2, h3⟩ := chc_get l i hi
    have c1 := World.ownsRow.cells h (g := g) rfl _ _ h1
    have c2 := World.ownsRow.cells h (g := g) rfl _ _ h2
    have c3 := World.ownsRow.cells h (g := g) rfl _ _ h3
    rw [Go.WideShapes.add_plain] at c1 c2 c3
    exact ⟨c1, by rw [Nat.add_assoc]; exact c2, by rw [Nat.add_assoc]; exact c3⟩
theorem Has.apart {w V : World} {l : List As} {A : Option Addr} {n c s m g : Nat} {E t : TypeId} {xs : List Value} {cs : Array Value} (h : Has w (rowA E s (.slice A n c) m xs :: l) V) (hm : blkA g t cs ∈ l) : ∀ a, A = some a → a.block ≠ g := by
  obtain ⟨⟨F, ⟨F1, F2, h1, h2, h3, h4⟩, _⟩, _⟩ := h
  obtain ⟨F3, a1, a2⟩ := h2.memL hm
  intro a ha e
  subst ha
  exact h3 g ((h1.2 g).2 (by rw [← e]; rfl)) (a2 g ((a1.2 g).2 rfl))
def zI : It := ⟨0, 0, 0, ⟨#[]⟩, 0, 0, 0, 0, []⟩
/-- What TakeIntent, TakeRecord answer. -/
def AnsI (o : Option It) (w : World) (e : Ending) (w' : World) : Prop :=
  match o with
  | none => e = .returned (.tuple #[itv zI (.slice none 0 0), .int .i64 4])
  | some x => ∃ A n c, e = .returned (.tuple #[itv x (.slice A n c), .int .i64 0]) ∧ ChAt w' A n x.l ∧ n ≤ c ∧ c ≤ 9223372036854775807 ∧ ∀ p, A = some p → p.block < w'.heap.size
theorem four_ {α : Type} {l : List α} (h : l.length = 4) : ∃ a b c d, l = [a, b, c, d] := by
  match l, h with
  | [a, b, c, d], _ => exact ⟨a, b, c, d, rfl⟩
theorem three3 {α : Type} {l : List α} (h : l.length = 3) : ∃ a b c, l = [a, b, c] := by
  match l, h with
  | [a, b, c], _ => exact ⟨a, b, c, rfl⟩
theorem Blk.all9 {w : World} {g : Nat} {t : TypeId} {c0 c1 c2 c3 c4 c5 c6 c7 c8 v0 v1 v2 v3 v4 v5 v6 v7 v8 : Value} (h : Blk w g t #[c0, c1, c2, c3, c4, c5, c6, c7, c8]) : Blk (((((((((w.setCell ⟨g, 0, none⟩ v0).setCell ⟨g, 1, none⟩ v1).setCell ⟨g, 2, none⟩ v2).setCell ⟨g, 3, none⟩ v3).setCell ⟨g, 4, none⟩ v4).setCell ⟨g, 5, none⟩ v5).setCell ⟨g, 6, none⟩ v6).setCell ⟨g, 7, none⟩ v7).setCell ⟨g, 8, none⟩ v8) g t #[v0, v1, v2, v3, v4, v5, v6, v7, v8] := by
  have := (((((((((h.set_ 0 v0).set_ 1 v1).set_ 2 v2).set_ 3 v3).set_ 4 v4).set_ 5 v5).set_ 6 v6).set_ 7 v7).set_ 8 v8)
  simpa using this
/-- How far the reader is behind it all. -/
def finI (s : Rst) : Rst := (many pC (pn (pns 4 (ps (pns 3 s).2).2).2).1 (pn (pns 4 (ps (pns 3 s).2).2).2).2).2
theorem finI_some (b : List UInt8) : finI (some b) = (rdI b).2 := rfl
theorem finI_none : finI none = none := rfl
theorem rdI_parts (b : List UInt8) {a0 a1 a2 b0 b1 b2 b3 : Nat} {u : ByteArray} {l : List Ch} (h1 : (pns 3 (some b)).2 ≠ none → [a0, a1, a2] = (pns 3 (some b)).1) (h2 : (ps (pns 3 (some b)).2).2 ≠ none → u = (ps (pns 3 (some b)).2).1)
    (h3 : (pns 4 (ps (pns 3 (some b)).2).2).2 ≠ none → [b0, b1, b2, b3] = (pns 4 (ps (pns 3 (some b)).2).2).1) (h4 : finI (some b) ≠ none → l = (many pC (pn (pns 4 (ps (pns 3 (some b)).2).2).2).1 (pn (pns 4 (ps (pns 3 (some b)).2).2).2).2).1)
    (hf : finI (some b) ≠ none) : (⟨a0, a1, a2, u, b0, b1, b2, b3, l⟩ : It) = (rdI b).1 := by
  have k4 : (pn (pns 4 (ps (pns 3 (some b)).2).2).2).2 ≠ none := fun e => hf (by unfold finI; rw [e, many_none])
  have k3 : (pns 4 (ps (pns 3 (some b)).2).2).2 ≠ none := fun e => k4 (by rw [e]; rfl)
  have k2 : (ps (pns 3 (some b)).2).2 ≠ none := pns_noneR k3
  have k1 : (pns 3 (some b)).2 ≠ none := fun e => k2 (by rw [e]; rfl)
  have j1 := h1 k1
  have j2 := h2 k2
  have j3 := h3 k3
  have j4 := h4 hf
  simp only [pns, List.cons.injEq, and_true] at j1 j3
  obtain ⟨e0, e1, e2⟩ := j1
  obtain ⟨e3, e4, e5, e6⟩ := j3
  subst e0 e1 e2 e3 e4 e5 e6 j2 j4
  rfl

theorem ret_it {fn : Func} {R : Ending → World → Prop} {a : Act} {w : World} {p u : Tmp} {g : Nat} {cs : Array Value} (hr : fn.results = #[.cell p 38, .tmp u]) (hp : a.tmps.getD p undef = .pointer (some ⟨g, 0, none⟩))
    (hB : Blk w g 38 cs) (hs : cs.size = 9) (hd : a.defers = []) (hR : R (.returned (.tuple #[.agg cs, a.tmps.getD u undef])) w) : bodyPost Tryz.prog fn R .ret a w := by
  refine bodyPost_ret ?_ hd hR
  have hp' : a.tmps[p]?.getD undef = .pointer (some ⟨g, 0, none⟩) := by simpa using hp
  simp [results, hr, hp', asAddr, run_loadVar_row w g 38 38 _ (0, 0) _ hB Tryz.underlying38 rfl (by rw [hs]; kernel_rfl)]
theorem checkI2 (x : It) (A : Option Addr) (n c : Nat) (w : World) (hx : ChAt w A n x.l) (hn : n ≤ 9223372036854775807) :
    ∃ (k : Int) (b : Bool), (k != 0) = b ∧ b = !mayI x ∧ Calls Tryz.prog 91 #[itv x (.slice A n c)] w fun e w' => e = .returned (.int .i64 k) ∧ Below w.heap.size w w' :=
  ⟨_, _, rfl, by cases mayI x <;> rfl, checkI x A n c w hx hn⟩
set_option maxHeartbeats 2000000 in
theorem takeI_c (t : ByteArray) (w : World) (ht : t.size ≤ 225000000000000) :
    Calls Tryz.prog 93 #[.string t] w fun e w' => AnsI (tkI (sb t)) w e w' ∧ Below w.heap.size w w' := by
  have h0 := ((Has.nil (Below.refl w.heap.size w)).newBlk 38 (itc zI (.slice none 0 0))).newBlk 38 (itc zI (.slice none 0 0))
  rw [show (w.alloc (.cells (itc zI (.slice none 0 0)) 38)).heap.size = w.heap.size + 1 by simp] at h0
  have HN := Lib.hid (h0.rdNew t ht)
  obtain ⟨s0, hs0⟩ : ∃ s0 : Rst, (if t.size ≤ 2048 then some (sb t) else none) = s0 := ⟨_, rfl⟩
  rw [hs0] at HN
  have hfi : tkI (sb t) = if finI s0 = some [] ∧ mayI (rdI (sb t)).1 = true then some (rdI (sb t)).1 else none := by
    by_cases hz : t.size ≤ 2048
    · rw [if_pos hz] at hs0
      subst hs0
      rw [finI_some]
      rfl
    · rw [if_neg hz] at hs0
      subst hs0
      rw [finI_none, if_neg (by simp), tkI_long (by rw [sb_len]; omega)]
  have hs1 : s0 ≠ none → s0 = some (sb t) := by
    intro hne
    by_cases hz : t.size ≤ 2048
    · rw [if_pos hz] at hs0; exact hs0.symm
    · rw [if_neg hz] at hs0; exact absurd hs0.symm hne
  have HFI := Lib.hid hfi
  have HS1 := Lib.hid hs1
  clear h0 hs0 hfi hs1
  go_enter Tryz.func93, Tryz.ntmps93
  go_wp2_with (first
    | (go_at_call 141; refine HN.out.mono ?_; rintro e w1 ⟨g, rfl, h1⟩
       have h2 := ((h1.newBlk 204 #[pt g]).perm (List.perm_middle (l₁ := [_]))).perm (List.Perm.cons _ (List.Perm.swap _ _ _))
       have h3 : Has w (rdA g s0 :: blkA (w.heap.size + 1) 38 (itc zI (.slice none 0 0)) :: blkA w1.heap.size 204 #[pt g] :: blkA w.heap.size 38 (itc zI (.slice none 0 0)) :: []) (w1.alloc (.cells #[pt g] 204)) := h2
       have r1 := (h3.blkIn (g := w1.heap.size) (t := 204) (cs := #[pt g]) (by simp)).cell 0
       simp at r1
       have H3 := Lib.hid h3
       clear h1 h2 h3 HN)
    | (go_at_call 142; refine (H3.out.rdNums [0, 1, 2] (by simp) rfl rfl (by simp) (fun i hi => by simp at hi; rcases hi with rfl | rfl | rfl <;> exact ⟨0, rfl⟩)).mono ?_; rintro e w2 ⟨vs, ⟨rfl, hvl, hvb, hvs⟩, h4⟩
       obtain ⟨a0, a1, a2, rfl⟩ := three3 hvl
       have e1 : sets (itc zI (.slice none 0 0)) (ivs [0, 1, 2] [a0, a1, a2]) = itc ⟨(a0 : Int), (a1 : Int), (a2 : Int), ⟨#[]⟩, 0, 0, 0, 0, []⟩ (.slice none 0 0) := by simp [sets, ivs, zI]
       rw [e1] at h4
       have r2 := (h4.blkIn (g := w1.heap.size) (t := 204) (cs := #[pt g]) (by simp)).cell 0
       simp at r2
       have H4 := Lib.hid h4
       clear h4 e1 H3 r1)
    | (go_at_call 143; refine H4.out.rdStr.mono ?_; rintro e w3 ⟨u, ⟨rfl, hu⟩, h5⟩
       have z1 := h5.swap.blk.1.cell 3
       have zf := h5.swap.blk.1.frozen 3
       simp at z1
       have h5 := (h5.swap.setBlk 3 (.string u)).swap
       have r3 := (h5.blkIn (g := w1.heap.size) (t := 204) (cs := #[pt g]) (by simp)).cell 0
       simp at r3
       have H5 := Lib.hid h5
       clear h5 H4 r2)
    | (go_at_call 144; refine (H5.out.rdStamps [4, 6] (by simp [World.setCell]) rfl rfl (by simp) (fun i hi => by simp at hi; rcases hi with rfl | rfl <;> exact ⟨⟨0, rfl⟩, ⟨0, rfl⟩⟩)).mono ?_; rintro e w4 ⟨vt, ⟨rfl, htl, htb, hts⟩, h6⟩
       obtain ⟨b0, b1, b2, b3, rfl⟩ := four_ htl
       have e2 : sets ((itc ⟨(a0 : Int), (a1 : Int), (a2 : Int), ⟨#[]⟩, 0, 0, 0, 0, []⟩ (.slice none 0 0)).setIfInBounds 3 (.string u)) (ivs (dbl [4, 6]) [b0, b1, b2, b3]) = itc ⟨(a0 : Int), (a1 : Int), (a2 : Int), u, b0, b1, b2, b3, []⟩ (.slice none 0 0) := by simp [sets, ivs, dbl]
       rw [e2] at h6
       have r4 := (h6.blkIn (g := w1.heap.size) (t := 204) (cs := #[pt g]) (by simp)).cell 0
       simp at r4
       have h7 := (h6.rowNil 24 3).perm ((List.perm_middle (l₁ := [_, _, _]) (a := rowA 24 3 (.slice none 0 0) 0 [])).symm)
       have HM := Lib.hid (many_c pC 146 #[pt w1.heap.size, pt (w.heap.size + 1)] g (xI (w.heap.size + 1) w1.heap.size g ⟨(a0 : Int), (a1 : Int), (a2 : Int), u, b0, b1, b2, b3, []⟩) w
         (fun args W => by rfl) pC_eats (fun T V s v l hl h => closI (w.heap.size + 1) w1.heap.size g _ w T V s v l hl h) w4 _ (.slice none 0 0) [blkA w.heap.size 38 (itc zI (.slice none 0 0))] h7)
       clear h6 h7 e2 H5 r3)
    | (go_at_call 145; refine HM.out.mono ?_; rintro e w5 ⟨rfl, l, v', hl, h8⟩
       have h8 : Has w (rdA g (finI s0) :: (xI (w.heap.size + 1) w1.heap.size g ⟨(a0 : Int), (a1 : Int), (a2 : Int), u, b0, b1, b2, b3, []⟩ v' l ++ [blkA w.heap.size 38 (itc zI (.slice none 0 0))])) w5 := h8
       have r5 := (h8.blkIn (g := w1.heap.size) (t := 204) (cs := #[pt g]) (by simp [xI])).cell 0
       simp at r5
       obtain ⟨Av, cv, rfl, hat, hnc, hcm, hav⟩ := chRow (h8.perm (List.perm_middle (l₁ := [_, _, _]))).rowOf
       have hap : ∀ a, Av = some a → a.block ≠ w.heap.size := (h8.perm (List.perm_middle (l₁ := [_, _, _]))).apart (g := w.heap.size) (t := 38) (cs := itc zI (.slice none 0 0)) (by simp [xI])
       have kx := h8.blkIn (g := w.heap.size + 1) (t := 38) (cs := itc ⟨(a0 : Int), (a1 : Int), (a2 : Int), u, b0, b1, b2, b3, l⟩ (.slice Av l.length cv)) (by simp [xI])
       have ky := h8.blkIn (g := w.heap.size) (t := 38) (cs := itc zI (.slice none 0 0)) (by simp [xI])
       obtain ⟨kk, bb, hk, hbb, hCK⟩ := checkI2 ⟨(a0 : Int), (a1 : Int), (a2 : Int), u, b0, b1, b2, b3, l⟩ Av l.length cv w5 hat (by omega)
       have q0 := kx.cell 0
       have p0 := ky.cell 0
       have f0 := ky.frozen 0
       have q1 := kx.cell 1
       have p1 := ky.cell 1
       have f1 := ky.frozen 1
       have q2 := kx.cell 2
       have p2 := ky.cell 2
       have f2 := ky.frozen 2
       have q3 := kx.cell 3
       have p3 := ky.cell 3
       have f3 := ky.frozen 3
       have q4 := kx.cell 4
       have p4 := ky.cell 4
       have f4 := ky.frozen 4
       have q5 := kx.cell 5
       have p5 := ky.cell 5
       have f5 := ky.frozen 5
       have q6 := kx.cell 6
       have p6 := ky.cell 6
       have f6 := ky.frozen 6
       have q7 := kx.cell 7
       have p7 := ky.cell 7
       have f7 := ky.frozen 7
       have q8 := kx.cell 8
       have p8 := ky.cell 8
       have f8 := ky.frozen 8
       simp at q0 p0 q1 p1 q2 p2 q3 p3 q4 p4 q5 p5 q6 p6 q7 p7 q8 p8
       have hbel := h8.bel
       have HCK := Lib.hid hCK
       have HKX := Lib.hid kx
       have HKY := Lib.hid ky
       have HAT := Lib.hid hat
       have H8 := Lib.hid h8
       have HLL := Lib.hid (show finI s0 ≠ none → l = (many pC (pn (pns 4 (ps (pns 3 s0).2).2).2).1 (pn (pns 4 (ps (pns 3 s0).2).2).2).2).1 from hl)
       clear h8 HM r4 kx ky hCK hat hl)
    | (go_at_call 148; refine H8.out.rdDone.mono ?_; rintro e w6 ⟨rfl, rfl⟩
       obtain ⟨bd, hbd⟩ : ∃ bd, decide (finI s0 = some []) = bd := ⟨_, rfl⟩
       rw [hbd]
       have HBD := Lib.hid hbd
       clear hbd)
    | (go_at_call 91; refine HCK.out.mono ?_; rintro e w7 ⟨rfl, hb7⟩
       have kx7 := HKX.out.below hb7 HKX.out.lt
       have ky7 := HKY.out.below hb7 HKY.out.lt
       have j0 := kx7.cell 0
       have m0 := ky7.cell 0
       have n0 := ky7.frozen 0
       have j1 := kx7.cell 1
       have m1 := ky7.cell 1
       have n1 := ky7.frozen 1
       have j2 := kx7.cell 2
       have m2 := ky7.cell 2
       have n2 := ky7.frozen 2
       have j3 := kx7.cell 3
       have m3 := ky7.cell 3
       have n3 := ky7.frozen 3
       have j4 := kx7.cell 4
       have m4 := ky7.cell 4
       have n4 := ky7.frozen 4
       have j5 := kx7.cell 5
       have m5 := ky7.cell 5
       have n5 := ky7.frozen 5
       have j6 := kx7.cell 6
       have m6 := ky7.cell 6
       have n6 := ky7.frozen 6
       have j7 := kx7.cell 7
       have m7 := ky7.cell 7
       have n7 := ky7.frozen 7
       have j8 := kx7.cell 8
       have m8 := ky7.cell 8
       have n8 := ky7.frozen 8
       simp at j0 m0 j1 m1 j2 m2 j3 m3 j4 m4 j5 m5 j6 m6 j7 m7 j8 m8))
  all_goals
    have hy : finI s0 = some [] → (⟨(a0 : Int), (a1 : Int), (a2 : Int), u, b0, b1, b2, b3, l⟩ : It) = (rdI (sb t)).1 := by
      intro hf
      have hs := HS1.out (fun e => by rw [e] at hf; cases hf)
      subst hs
      exact rdI_parts (sb t) hvs hu hts HLL.out (by rw [hf]; simp)
  · rename_i hbd hm
    rw [hbd] at HBD
    have hf : finI s0 = some [] := of_decide_eq_true HBD.out
    have hm' : mayI ⟨(a0 : Int), (a1 : Int), (a2 : Int), u, b0, b1, b2, b3, l⟩ = false := by simpa using hm
    have hW : Blk _ w.heap.size 38 (itc zI (.slice none 0 0)) := ky7.all9
    refine ret_it rfl rfl hW rfl rfl ⟨?_, (((((((((hbel.trans (hb7.mono hbel.size)).setCell (by exact Nat.le_refl _) _).setCell (by exact Nat.le_refl _) _).setCell (by exact Nat.le_refl _) _).setCell (by exact Nat.le_refl _) _).setCell (by exact Nat.le_refl _) _).setCell (by exact Nat.le_refl _) _).setCell (by exact Nat.le_refl _) _).setCell (by exact Nat.le_refl _) _).setCell (by exact Nat.le_refl _) _⟩
    rw [HFI.out, if_neg (by rw [← hy hf, hm']; simp)]
    rfl
  · rename_i hbd hm
    rw [hbd] at HBD
    have hf : finI s0 = some [] := of_decide_eq_true HBD.out
    have hm' : mayI ⟨(a0 : Int), (a1 : Int), (a2 : Int), u, b0, b1, b2, b3, l⟩ = true := by simpa using hm
    have hW : Blk _ w.heap.size 38 (itc ⟨(a0 : Int), (a1 : Int), (a2 : Int), u, b0, b1, b2, b3, l⟩ (.slice Av l.length cv)) := ky7.all9
    have hat7 := HAT.out.below hb7
    refine ret_it rfl rfl hW rfl rfl ⟨?_, (((((((((hbel.trans (hb7.mono hbel.size)).setCell (by exact Nat.le_refl _) _).setCell (by exact Nat.le_refl _) _).setCell (by exact Nat.le_refl _) _).setCell (by exact Nat.le_refl _) _).setCell (by exact Nat.le_refl _) _).setCell (by exact Nat.le_refl _) _).setCell (by exact Nat.le_refl _) _).setCell (by exact Nat.le_refl _) _).setCell (by exact Nat.le_refl _) _⟩
    rw [HFI.out, if_pos ⟨hf, by rw [← hy hf, hm']⟩, ← hy hf]
    refine ⟨Av, l.length, cv, rfl, ?_, hnc, hcm, fun p hp => by have := hav p hp; have := hb7.size; simp [World.setCell]; omega⟩
    refine hat7.keep fun a ha j z hz => ?_
    have hne := hap a ha
    simp only [World.cell?, World.setCell, Array.getElem?_modify] at hz ⊢
    simpa [hne, hne.symm] using hz
  · rename_i hbd
    have hf : ¬ finI s0 = some [] := by
      have := HBD.out
      intro h
      rw [decide_eq_true h] at this
      exact hbd this.symm
    have hW : Blk _ w.heap.size 38 (itc zI (.slice none 0 0)) := HKY.out.all9
    refine ret_it rfl rfl hW rfl rfl ⟨?_, (((((((((hbel).setCell (by exact Nat.le_refl _) _).setCell (by exact Nat.le_refl _) _).setCell (by exact Nat.le_refl _) _).setCell (by exact Nat.le_refl _) _).setCell (by exact Nat.le_refl _) _).setCell (by exact Nat.le_refl _) _).setCell (by exact Nat.le_refl _) _).setCell (by exact Nat.le_refl _) _).setCell (by exact Nat.le_refl _) _⟩
    rw [HFI.out, if_neg (fun h => hf h.1)]
    rfl

end Go.Proofs.YtgccichmdddbpaaGreatDoor
set_option linter.unusedVariables false
set_option linter.unusedSimpArgs false
set_option maxRecDepth 100000
namespace Go.Proofs.YtgccichmdddbpaaGreatDoor
open Go.RowKit

theorem Blk.all2 {w : World} {g : Nat} {t : TypeId} {c0 c1 v0 v1 : Value} (h : Blk w g t #[c0, c1]) : Blk ((w.setCell ⟨g, 0, none⟩ v0).setCell ⟨g, 1, none⟩ v1) g t #[v0, v1] := by
  have := (h.set_ 0 v0).set_ 1 v1
  simpa using this
def AnsV (o : Option (ByteArray × Bool)) : Ending :=
  match o with
  | none => .returned (.tuple #[.string ⟨#[]⟩, .bool false, .int .i64 4])
  | some x => .returned (.tuple #[.string x.1, .bool x.2, .int .i64 0])
theorem s0_long (t : ByteArray) {s0 : Rst} (hs0 : (if t.size ≤ 2048 then some (sb t) else none) = s0) : (s0 = some (sb t)) ∨ (s0 = none ∧ 2048 < (sb t).length) := by
  by_cases hz : t.size ≤ 2048
  · rw [if_pos hz] at hs0; exact .inl hs0.symm
  · rw [if_neg hz] at hs0; exact .inr ⟨hs0.symm, by rw [sb_len]; omega⟩
theorem tkV_of {b : List UInt8} {d : Bool} (hd : (pf (some b)).2 ≠ none → d = (pf (some b)).1) : tkV b = if d = true then (if (ps (pf (some b)).2).2 = some [] then some ((ps (pf (some b)).2).1, true) else none) else if (pf (some b)).2 = some [] then some (⟨#[]⟩, false) else none := by
  unfold tkV
  simp only
  cases h : (pf (some b)).2 with
  | none => cases (pf (some b)).1 <;> cases d <;> simp [ps_none]
  | some r =>
    rw [hd (by rw [h]; simp)]
set_option maxHeartbeats 1000000 in
theorem takeV_c (t : ByteArray) (w : World) (ht : t.size ≤ 225000000000000) :
    Calls Tryz.prog 151 #[.string t] w fun e w' => e = AnsV (tkV (sb t)) ∧ Below w.heap.size w w' := by
  have HN := Lib.hid ((Has.nil (Below.refl w.heap.size w)).rdNew t ht)
  obtain ⟨s0, hs0⟩ : ∃ s0 : Rst, (if t.size ≤ 2048 then some (sb t) else none) = s0 := ⟨_, rfl⟩
  rw [hs0] at HN
  have HS := Lib.hid (s0_long t hs0)
  clear hs0
  go_enter Tryz.func151, Tryz.ntmps151
  go_wp2_with (first
    | (go_at_call 141; refine HN.out.mono ?_; rintro e w1 ⟨g, rfl, h1⟩; have H1 := Lib.hid h1; clear h1 HN)
    | (go_at_call 147; refine H1.out.rdFlag.mono ?_; rintro e w2 ⟨d, ⟨rfl, hd⟩, h2⟩; have H2 := Lib.hid h2; clear h2 H1)
    | (go_at_call 143; refine H2.out.rdStr.mono ?_; rintro e w3 ⟨u, ⟨rfl, hu⟩, h3⟩; have H3 := Lib.hid h3; clear h3)
    | (go_at_call 148; first | (refine H3.out.rdDone.mono ?_; rintro e w6 ⟨rfl, rfl⟩; have hb3 := H3.out.bel) | (refine H2.out.rdDone.mono ?_; rintro e w6 ⟨rfl, rfl⟩; have hb3 := H2.out.bel)))
  all_goals go_ret3
  all_goals refine ⟨?_, hb3⟩
  · have e1 : d = true := by assumption
    have e2 : (!decide ((ps (pf s0).2).2 = some [])) = true := by assumption
    have hne : ¬ (ps (pf s0).2).2 = some [] := by simpa using e2
    rcases HS.out with rfl | ⟨rfl, hl⟩
    · rw [tkV_of hd, if_pos e1, if_neg hne]; rfl
    · rw [tkV_long hl]; rfl
  · have e1 : d = true := by assumption
    have e2 : (!decide ((ps (pf s0).2).2 = some [])) = false := by assumption
    have he : (ps (pf s0).2).2 = some [] := by simpa using e2
    rcases HS.out with rfl | ⟨rfl, hl⟩
    · rw [tkV_of hd, if_pos e1, if_pos he, ← hu (by rw [he]; simp)]; rfl
    · cases he
  · have e1 : d = false := by assumption
    have e2 : (!decide ((pf s0).2 = some [])) = true := by assumption
    have hne : ¬ (pf s0).2 = some [] := by simpa using e2
    rcases HS.out with rfl | ⟨rfl, hl⟩
    · rw [tkV_of hd, if_neg (by rw [e1]; simp), if_neg hne]; rfl
    · rw [tkV_long hl]; rfl
  · have e1 : d = false := by assumption
    have e2 : (!decide ((pf s0).2 = some [])) = false := by assumption
    have he : (pf s0).2 = some [] := by simpa using e2
    rcases HS.out with rfl | ⟨rfl, hl⟩
    · rw [tkV_of hd, if_neg (by rw [e1]; simp), if_pos he]; rfl
    · cases he
end Go.Proofs.YtgccichmdddbpaaGreatDoor
