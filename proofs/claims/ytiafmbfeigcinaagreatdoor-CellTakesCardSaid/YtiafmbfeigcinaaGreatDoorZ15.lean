/-
  Layer 11, the document's answers: TakeNumber, TakeStamp, TakeVersion; the code's TakeNumber.
  Layer 11, the code: the function literals of TakeIntent, TakeRecord.
-/
import Derived.Test.YtiafmbfeigcinaaGreatDoorZ14
import Derived.Test.YtiafmbfeigcinaaGreatDoorZ11
import Derived.Test.YtiafmbfeigcinaaGreatDoorZ12
set_option linter.unusedVariables false
set_option linter.unusedSimpArgs false
set_option maxRecDepth 100000
namespace Go.Proofs.YtiafmbfeigcinaaGreatDoor
open Go.RowKit

def AnsN (o : Option Int) : Ending :=
  match o with
  | none => .returned (.tuple #[.int .i64 0, .int .i64 4])
  | some x => .returned (.tuple #[.int .i64 x, .int .i64 0])
/-- A new taker of a text's bytes. -/
theorem dkNew (t : ByteArray) (w : World) (ht : t.size ≤ 225000000000000) :
    Has w [dkA (w.heap.size + 1) (some (sb t))] ((Lib.bytesWorld w 5 t).alloc (.cells #[.slice (some ⟨w.heap.size, 0, none⟩) t.size (grownCap w t.size 0 5), .bool false] 150)) := by
  have hW := bytesWorld_below w 5 t
  have hA := bytesWorld_at w 5 t
  have hc1 := grownCap_ge w t.size 0 5
  have hc2 := grownCap_le_maxLen w t.size 0 5 (by unfold maxLen; omega)
  have hc3 : maxLen ≤ 9223372036854775807 := by decide
  have hsz : (Lib.bytesWorld w 5 t).heap.size = w.heap.size + 1 := Lib.bytesWorld_size w 5 t
  have hB := Blk.new (Lib.bytesWorld w 5 t) 150 #[.slice (some ⟨w.heap.size, 0, none⟩) t.size (grownCap w t.size 0 5), .bool false]
  rw [hsz] at hB
  refine (Has.nil (Below.refl w.heap.size w)).new (F := fun k => (k = w.heap.size + 1 ∨ ∃ a, some (⟨w.heap.size, 0, none⟩ : Addr) = some a ∧ 0 < t.size ∧ a.block = k)) (hW.alloc hW.size _) ⟨some ⟨w.heap.size, 0, none⟩, t.size, grownCap w t.size 0 5, sb t, hB, hA.alloc _, hc1, by omega, by rw [sb_len]; exact ht, fun b hb => by simpa using hb.symm, fun a ha => by cases ha; simp, fun k => Iff.rfl⟩ (fun k e => ?_)
  rcases e with e | ⟨a, ha, _, e⟩
  · omega
  · cases ha
    simp at e
    omega
theorem dkKc (w : World) (t : ByteArray) : (convert 9 91 (.string t)).run Tryz.prog w = .ok (.slice (some ⟨w.heap.size, 0, none⟩) t.size (grownCap w t.size 0 5)) (Lib.bytesWorld w 5 t) :=
  Lib.run_convert_string_bytes (P := Tryz.prog) w 9 91 5 t Tryz.underlying9 Tryz.underlying91 Tryz.underlying5
theorem rTakeNumber (t : ByteArray) (w : World) (ht : t.size ≤ 225000000000000) :
    Calls Tryz.prog 39 #[.string t] w fun e w' => e = AnsN (tkN (sb t)) ∧ Below w.heap.size w w' := by
  have H0 := Lib.hid (dkNew t w ht)
  have kc := dkKc w t
  have hsz : (Lib.bytesWorld w 5 t).heap.size = w.heap.size + 1 := Lib.bytesWorld_size w 5 t
  have hk : tkN (sb t) = if (pn (some (sb t))).2 = some [] then some ((pn (some (sb t))).1 : Int) else none := rfl
  rw [hk]
  generalize h1 : (pn (some (sb t))).1 = a
  generalize h2 : (pn (some (sb t))).2 = s1
  have N1 := Lib.hid h1
  have N2 := Lib.hid h2
  clear h1 h2 hk
  by_cases hd : s1 = some []
  · rw [if_pos hd]
    have HD := Lib.hid (show decide (s1 = some []) = true from decide_eq_true hd)
    clear hd
    go_enter Tryz.func39, Tryz.ntmps39
    go_wp2_with (first
      | (go_at_call 83; refine H0.out.dkNum.mono ?_; rintro e w1 ⟨rfl, h1⟩; rw [N1.out]; rw [N2.out] at h1; have H1 := Lib.hid h1; clear h1)
      | (go_at_call 84; refine H1.out.dkDone.mono ?_; rintro e w2 ⟨rfl, rfl⟩; rw [HD.out]))
    go_ret2
    exact ⟨rfl, H1.out.bel⟩
  · rw [if_neg hd]
    have HD := Lib.hid (show decide (s1 = some []) = false from decide_eq_false hd)
    clear hd
    go_enter Tryz.func39, Tryz.ntmps39
    go_wp2_with (first
      | (go_at_call 83; refine H0.out.dkNum.mono ?_; rintro e w1 ⟨rfl, h1⟩; rw [N1.out]; rw [N2.out] at h1; have H1 := Lib.hid h1; clear h1)
      | (go_at_call 84; refine H1.out.dkDone.mono ?_; rintro e w2 ⟨rfl, rfl⟩; rw [HD.out]))
    go_ret2
    exact ⟨rfl, H1.out.bel⟩
theorem rTakeVersion (t : ByteArray) (w : World) (ht : t.size ≤ 225000000000000) :
    Calls Tryz.prog 43 #[.string t] w fun e w' => e = AnsV (tkV (sb t)) ∧ Below w.heap.size w w' := by
  have H0 := Lib.hid (dkNew t w ht)
  have kc := dkKc w t
  have hsz : (Lib.bytesWorld w 5 t).heap.size = w.heap.size + 1 := Lib.bytesWorld_size w 5 t
  have hk : tkV (sb t) = if (pf (some (sb t))).1 then (if (ps (pf (some (sb t))).2).2 = some [] then some ((ps (pf (some (sb t))).2).1, true) else none) else if (pf (some (sb t))).2 = some [] then some (⟨#[]⟩, false) else none := rfl
  rw [hk]
  generalize h1 : (pf (some (sb t))).1 = d
  generalize h2 : (pf (some (sb t))).2 = s1
  have N1 := Lib.hid h1
  have N2 := Lib.hid h2
  clear h1 h2 hk
  cases d
  · simp only [Bool.false_eq_true, if_false]
    by_cases hd : s1 = some []
    · rw [if_pos hd]
      have HD := Lib.hid (show decide (s1 = some []) = true from decide_eq_true hd)
      clear hd
      go_enter Tryz.func43, Tryz.ntmps43
      go_wp2_with (first
        | (go_at_call 90; refine H0.out.dkFlag.mono ?_; rintro e w1 ⟨rfl, h1⟩; rw [N1.out]; rw [N2.out] at h1; have H1 := Lib.hid h1; clear h1)
        | (go_at_call 84; refine H1.out.dkDone.mono ?_; rintro e w2 ⟨rfl, rfl⟩; rw [HD.out]))
      go_ret3
      exact ⟨rfl, H1.out.bel⟩
    · rw [if_neg hd]
      have HD := Lib.hid (show decide (s1 = some []) = false from decide_eq_false hd)
      clear hd
      go_enter Tryz.func43, Tryz.ntmps43
      go_wp2_with (first
        | (go_at_call 90; refine H0.out.dkFlag.mono ?_; rintro e w1 ⟨rfl, h1⟩; rw [N1.out]; rw [N2.out] at h1; have H1 := Lib.hid h1; clear h1)
        | (go_at_call 84; refine H1.out.dkDone.mono ?_; rintro e w2 ⟨rfl, rfl⟩; rw [HD.out]))
      go_ret3
      exact ⟨rfl, H1.out.bel⟩
  · simp only [if_true]
    generalize h1 : (ps s1).1 = v
    generalize h2 : (ps s1).2 = s2
    have N3 := Lib.hid h1
    have N4 := Lib.hid h2
    clear h1 h2
    by_cases hd : s2 = some []
    · rw [if_pos hd]
      have HD := Lib.hid (show decide (s2 = some []) = true from decide_eq_true hd)
      clear hd
      go_enter Tryz.func43, Tryz.ntmps43
      go_wp2_with (first
        | (go_at_call 90; refine H0.out.dkFlag.mono ?_; rintro e w1 ⟨rfl, h1⟩; rw [N1.out]; rw [N2.out] at h1; have H1 := Lib.hid h1; clear h1)
        | (go_at_call 91; refine H1.out.dkStr.mono ?_; rintro e w2 ⟨rfl, h2⟩; rw [N3.out]; rw [N4.out] at h2; have H2 := Lib.hid h2; clear h2)
        | (go_at_call 84; refine H2.out.dkDone.mono ?_; rintro e w3 ⟨rfl, rfl⟩; rw [HD.out]))
      go_ret3
      exact ⟨rfl, H2.out.bel⟩
    · rw [if_neg hd]
      have HD := Lib.hid (show decide (s2 = some []) = false from decide_eq_false hd)
      clear hd
      go_enter Tryz.func43, Tryz.ntmps43
      go_wp2_with (first
        | (go_at_call 90; refine H0.out.dkFlag.mono ?_; rintro e w1 ⟨rfl, h1⟩; rw [N1.out]; rw [N2.out] at h1; have H1 := Lib.hid h1; clear h1)
        | (go_at_call 91; refine H1.out.dkStr.mono ?_; rintro e w2 ⟨rfl, h2⟩; rw [N3.out]; rw [N4.out] at h2; have H2 := Lib.hid h2; clear h2)
        | (go_at_call 84; refine H2.out.dkDone.mono ?_; rintro e w3 ⟨rfl, rfl⟩; rw [HD.out]))
      go_ret3
      exact ⟨rfl, H2.out.bel⟩
theorem rTakeStamp (t : ByteArray) (w : World) (ht : t.size ≤ 225000000000000) :
    Calls Tryz.prog 41 #[.string t] w fun e w' => e = AnsS (tkS (sb t)) ∧ Below w.heap.size w w' := by
  have h0 := ((Has.nil (Below.refl w.heap.size w)).newBlk 26 #[.int .i64 0, .int .i64 0])
  have hz0 : (w.alloc (.cells #[.int .i64 0, .int .i64 0] 26)).heap.size = w.heap.size + 1 := by simp
  have h1 := h0.join (dkNew t (w.alloc (.cells #[.int .i64 0, .int .i64 0] 26)) ht)
  have kc := dkKc (w.alloc (.cells #[.int .i64 0, .int .i64 0] 26)) t
  have hsz : (Lib.bytesWorld (w.alloc (.cells #[.int .i64 0, .int .i64 0] 26)) 5 t).heap.size = w.heap.size + 1 + 1 := by rw [Lib.bytesWorld_size, hz0]
  rw [hz0] at h1 kc
  have H0 := Lib.hid (show Has w [dkA (w.heap.size + 1 + 1) (some (sb t)), blkA w.heap.size 26 #[.int .i64 0, .int .i64 0]] _ from h1)
  have hk : tkS (sb t) = if (pn (pn (some (sb t))).2).2 = some [] ∧ may (pn (some (sb t))).1 (pn (pn (some (sb t))).2).1 = true then some (((pn (some (sb t))).1 : Int), ((pn (pn (some (sb t))).2).1 : Int)) else none := rfl
  rw [hk]
  clear h0 h1 hz0 hk
  generalize h1 : (pn (some (sb t))).1 = a
  generalize h2 : (pn (pn (some (sb t))).2).1 = b
  generalize h3 : (pn (pn (some (sb t))).2).2 = s2
  have N1 := Lib.hid h1
  have N2 := Lib.hid h2
  have N3 := Lib.hid h3
  have HS := Lib.hid (fun V => refCheck5 (a : Int) (b : Int) V)
  clear h1 h2 h3
  by_cases hd : s2 = some []
  · have HD := Lib.hid (show decide (s2 = some []) = true from decide_eq_true hd)
    cases hm : may (a : Int) (b : Int)
    · rw [if_neg (by simp)]
      rw [show ck (a : Int) (b : Int) = 9 by unfold ck; rw [hm]; rfl] at HS
      clear hd hm
      go_enter Tryz.func41, Tryz.ntmps41
      go_wp2_with (first
        | (go_at_call 87; refine H0.out.dkStamp.mono ?_; rintro e w1 ⟨rfl, h1⟩; rw [N1.out, N2.out]; rw [N3.out] at h1
           have h2 := (h1.newBlk 26 #[.int .i64 (a : Int), .int .i64 (b : Int)]).swap
           have kx := h2.swap.blk.1
           have ky := (h2.perm (List.perm_middle (l₁ := [_, _]))).blk.1
           have x0 := kx.cell 0
           have x1 := kx.cell 1
           have y0 := ky.cell 0
           have y1 := ky.cell 1
           have f0 := ky.frozen 0
           have f1 := ky.frozen 1
           simp at x0 x1 y0 y1
           have HX := Lib.hid kx
           have HY := Lib.hid ky
           have H2 := Lib.hid h2
           clear h1 h2 kx ky H0)
        | (go_at_call 84; refine H2.out.dkDone.mono ?_; rintro e w3 ⟨rfl, rfl⟩; rw [HD.out])
        | (go_at_call 57; refine (HS.out _).mono ?_; rintro e w4 ⟨rfl, hb4⟩
           have kx := HX.out.below hb4 HX.out.lt
           have ky := HY.out.below hb4 HY.out.lt
           have q0 := kx.cell 0
           have q1 := kx.cell 1
           have z0 := ky.cell 0
           have z1 := ky.cell 1
           have p0 := ky.frozen 0
           have p1 := ky.frozen 1
           simp at q0 q1 z0 z1))
      exact ret_two rfl rfl (ky.all2 (v0 := .int .i64 0) (v1 := .int .i64 0)) rfl ⟨rfl, ((H2.out.bel.trans (hb4.mono H2.out.bel.size)).setCell (by exact Nat.le_refl _) _).setCell (by exact Nat.le_refl _) _⟩
    · rw [if_pos ⟨hd, rfl⟩]
      rw [show ck (a : Int) (b : Int) = 0 by unfold ck; rw [hm]; rfl] at HS
      clear hd hm
      go_enter Tryz.func41, Tryz.ntmps41
      go_wp2_with (first
        | (go_at_call 87; refine H0.out.dkStamp.mono ?_; rintro e w1 ⟨rfl, h1⟩; rw [N1.out, N2.out]; rw [N3.out] at h1
           have h2 := (h1.newBlk 26 #[.int .i64 (a : Int), .int .i64 (b : Int)]).swap
           have kx := h2.swap.blk.1
           have ky := (h2.perm (List.perm_middle (l₁ := [_, _]))).blk.1
           have x0 := kx.cell 0
           have x1 := kx.cell 1
           have y0 := ky.cell 0
           have y1 := ky.cell 1
           have f0 := ky.frozen 0
           have f1 := ky.frozen 1
           simp at x0 x1 y0 y1
           have HX := Lib.hid kx
           have HY := Lib.hid ky
           have H2 := Lib.hid h2
           clear h1 h2 kx ky H0)
        | (go_at_call 84; refine H2.out.dkDone.mono ?_; rintro e w3 ⟨rfl, rfl⟩; rw [HD.out])
        | (go_at_call 57; refine (HS.out _).mono ?_; rintro e w4 ⟨rfl, hb4⟩
           have kx := HX.out.below hb4 HX.out.lt
           have ky := HY.out.below hb4 HY.out.lt
           have q0 := kx.cell 0
           have q1 := kx.cell 1
           have z0 := ky.cell 0
           have z1 := ky.cell 1
           have p0 := ky.frozen 0
           have p1 := ky.frozen 1
           simp at q0 q1 z0 z1))
      exact ret_two rfl rfl (ky.all2 (v0 := .int .i64 (a : Int)) (v1 := .int .i64 (b : Int))) rfl ⟨rfl, ((H2.out.bel.trans (hb4.mono H2.out.bel.size)).setCell (by exact Nat.le_refl _) _).setCell (by exact Nat.le_refl _) _⟩
  · have HD := Lib.hid (show decide (s2 = some []) = false from decide_eq_false hd)
    rw [if_neg (fun h => hd h.1)]
    clear hd
    go_enter Tryz.func41, Tryz.ntmps41
    go_wp2_with (first
      | (go_at_call 87; refine H0.out.dkStamp.mono ?_; rintro e w1 ⟨rfl, h1⟩; rw [N1.out, N2.out]; rw [N3.out] at h1
         have h2 := (h1.newBlk 26 #[.int .i64 (a : Int), .int .i64 (b : Int)]).swap
         have kx := h2.swap.blk.1
         have ky := (h2.perm (List.perm_middle (l₁ := [_, _]))).blk.1
         have x0 := kx.cell 0
         have x1 := kx.cell 1
         have y0 := ky.cell 0
         have y1 := ky.cell 1
         have f0 := ky.frozen 0
         have f1 := ky.frozen 1
         simp at x0 x1 y0 y1
         have HX := Lib.hid kx
         have HY := Lib.hid ky
         have H2 := Lib.hid h2
         clear h1 h2 kx ky H0)
      | (go_at_call 84; refine H2.out.dkDone.mono ?_; rintro e w3 ⟨rfl, rfl⟩; rw [HD.out]))
    exact ret_two rfl rfl (HY.out.all2 (v0 := .int .i64 0) (v1 := .int .i64 0)) rfl ⟨rfl, (H2.out.bel.setCell (by exact Nat.le_refl _) _).setCell (by exact Nat.le_refl _) _⟩
end Go.Proofs.YtiafmbfeigcinaaGreatDoor
set_option linter.unusedVariables false
set_option linter.unusedSimpArgs false
set_option maxRecDepth 100000
namespace Go.Proofs.YtiafmbfeigcinaaGreatDoor
open Go.RowKit

section
variable {w V V' : World} {l T : List As} {A : As} {F : Nat → Prop} {g : Nat}
theorem Sep.memL (h : Sep V l F) (hm : A ∈ l) : ∃ F1, A.p V F1 ∧ ∀ k, F1 k → F k := by
  induction l generalizing F with
  | nil => cases hm
  | cons B l ih =>
    obtain ⟨F1, F2, h1, h2, h3, h4⟩ := h
    rcases List.mem_cons.1 hm with rfl | hm
    · exact ⟨F1, h1, fun k e => (h4 k).2 (.inl e)⟩
    · obtain ⟨F3, h5, h6⟩ := ih h2 hm
      exact ⟨F3, h5, fun k e => (h4 k).2 (.inr (h6 k e))⟩
theorem Has.blkIn {t : TypeId} {cs : Array Value} (h : Has w l V) (hm : blkA g t cs ∈ l) : Blk V g t cs := by
  obtain ⟨⟨F, h1, h2⟩, _⟩ := h
  obtain ⟨F1, h3, h4⟩ := h1.memL hm
  exact h3.1
end
theorem infoCh : (Tryz.prog.info? 79).map (fun i => (i.zero, i.size, i.bytes)) = some (some (.agg #[.int .i64 0, .string ⟨#[]⟩, .bool false]), 3, 32) := by kernel_rfl
theorem infoWt : (Tryz.prog.info? 159).map (fun i => (i.zero, i.size, i.bytes)) = some (some (.agg #[.string ⟨#[]⟩, .int .i64 0]), 2, 24) := by kernel_rfl
theorem chc_len : ∀ l : List Ch, (l.flatMap chc).length = l.length * 3
  | [] => rfl
  | c :: l => by rw [List.flatMap_cons, List.length_append, chc_len l, List.length_cons]; show 3 + _ = _; omega
theorem wtc_len : ∀ l : List Wt, (l.flatMap wtc).length = l.length * 2
  | [] => rfl
  | c :: l => by rw [List.flatMap_cons, List.length_append, wtc_len l, List.length_cons]; show 2 + _ = _; omega
theorem lay_new (W : World) (cs : Array Value) (t : TypeId) : ∀ j u, cs.toList[j]? = some u → (W.alloc (.cells cs t)).cell? ((⟨W.heap.size, 0, none⟩ : Addr).add j) = some u := by
  intro j u hj
  rw [Go.WideShapes.add_plain, Nat.zero_add, (Blk.new W t cs).cell j]
  simpa using hj

/-- The intent that is read, its record; beside it: the reader's variable, the row of changes. -/
def xI (x rb g : Nat) (y : It) (v : Value) (l : List Ch) : List As := [blkA x 37 (itc y v), blkA rb 144 #[pt g], rowA 79 3 v l.length (l.flatMap chc)]
def xR (x rb g : Nat) (y : Rc) (v : Value) (l : List Wt) : List As := [blkA x 106 (rcc y v), blkA rb 144 #[pt g], rowA 159 2 v l.length (l.flatMap wtc)]

set_option maxHeartbeats 1000000 in
theorem closI (x rb g : Nat) (y : It) (w : World) (T : List As) (V : World) (s : Rst) (v : Value) (l : List Ch) (hl : l.length ≤ 2048) (h : Has w (rdA g s :: (xI x rb g y v l ++ T)) V) :
    Calls Tryz.prog 93 #[pt rb, pt x] V fun e w' => e = .returned (.tuple #[]) ∧ ∃ (a : Ch) (v' : Value), ((pC s).2 ≠ none → a = (pC s).1) ∧ Has w (rdA g (pC s).2 :: (xI x rb g y v' (l ++ [a]) ++ T)) w' := by
  obtain ⟨i0, hi0, hz0, hz1, hz2⟩ := info_parts infoCh
  have h1 : Has w (rdA g s :: blkA V.heap.size 79 #[.int .i64 0, .string ⟨#[]⟩, .bool false] :: blkA x 37 (itc y v) :: blkA rb 144 #[pt g] :: rowA 79 3 v l.length (l.flatMap chc) :: T) (V.alloc (.cells #[.int .i64 0, .string ⟨#[]⟩, .bool false] 79)) := (h.newBlk _ _).swap
  have r1 := (h1.blkIn (g := rb) (t := 144) (cs := #[pt g]) (by simp)).cell 0
  simp at r1
  have H1 := Lib.hid h1
  have HXr := Lib.hid (h1.perm (List.perm_middle (l₁ := [_, _, _, _]))).rowOf
  clear h h1
  go_enter Tryz.func93, Tryz.ntmps93
  go_wp2_with (first
    | (go_at_call 81; refine (H1.out.rdNums [0] (by simp) rfl rfl (by simp) (fun i hi => by simp at hi; subst hi; exact ⟨0, rfl⟩)).mono ?_; rintro e w1 ⟨vs, ⟨rfl, hvl, hvb, hvs⟩, h2⟩
       obtain ⟨q, rfl⟩ : ∃ u, vs = [u] := by
         match vs, hvl with
         | [u], _ => exact ⟨u, rfl⟩
       have e1 : sets #[.int .i64 0, .string ⟨#[]⟩, .bool false] (ivs [0] [q]) = #[.int .i64 (q : Int), .string ⟨#[]⟩, .bool false] := by simp [sets, ivs]
       rw [e1] at h2
       have r2 := (h2.blkIn (g := rb) (t := 144) (cs := #[pt g]) (by simp)).cell 0
       simp at r2
       have H2 := Lib.hid h2
       clear h2 e1 H1 r1)
    | (go_at_call 88; refine H2.out.rdFlag.mono ?_; rintro e w2 ⟨d, ⟨rfl, hd⟩, h3⟩
       have z2 := h3.swap.blk.1.cell 2
       have zf := h3.swap.blk.1.frozen 2
       simp at z2
       have h3 := (h3.swap.setBlk 2 (.bool d)).swap
       have r3 := (h3.blkIn (g := rb) (t := 144) (cs := #[pt g]) (by simp)).cell 0
       simp at r3
       have H3 := Lib.hid h3
       clear h3 H2 r2)
    | (go_at_call 89; refine H3.out.rdStr.mono ?_; rintro e w3 ⟨u, ⟨rfl, hu⟩, h4⟩
       have z1 := h4.swap.blk.1.cell 1
       have zg := h4.swap.blk.1.frozen 1
       simp at z1
       have h4 := (h4.swap.setBlk 1 (.string u)).swap
       have c0 := h4.swap.blk.1.cell 0
       have c1 := h4.swap.blk.1.cell 1
       have c2 := h4.swap.blk.1.cell 2
       have x0 := (h4.blkIn (g := x) (t := 37) (cs := itc y v) (by simp)).cell 8
       simp at c0 c1 c2 x0
       have H5 := Lib.hid (h4.alloc (.cells #[.int .i64 (q : Int), .string u, .bool d] 79))
       clear h4 H3 r3)
    | (at_builtin; refine wpList_append_own_at _ rfl _ _ 35 rfl 0 79 i0 _ 3 32 Tryz.underlying35 hi0 hz0 hz1 hz2 rfl (by decide) v l.length (l.flatMap chc) rfl ?ho ⟨w3.heap.size, 0, none⟩ 1 1 (chc (⟨(q : Int), u, d⟩ : Ch)) ?hx ?hl ?hn ?h1 ?h2 ?h3 (Nat.zero_le _) ?_))
  case ho => exact (H5.out.perm (List.perm_middle (l₁ := [_, _, _, _]))).rowOf
  case hx => first | rfl | (simp [World.setCell]; rfl)
  case hl => rfl
  case hn => have := lay_new (w3.setCell ⟨V.heap.size, 1, none⟩ (.string u)) #[.int .i64 (q : Int), .string u, .bool d] 79; simpa [World.setCell, chc] using this
  case h1 => intro u hu; simp [chc] at hu; rcases hu with rfl | rfl | rfl <;> rfl
  case h2 => unfold maxLen; omega
  case h3 => omega
  intro v' w5 hown hg _ hob
  obtain ⟨Av, nv, cv, hve⟩ := slice_form hown
  have h6 := (H5.out.perm (List.perm_middle (l₁ := [_, _, _, _]))).rowTurn hown hg (by simpa [World.setCell] using hob)
  have h7 := h6.perm (List.perm_middle (l₁ := [_, _, _]))
  subst hve
  have x8 := h7.blk.1.cell 8
  have xf := h7.blk.1.frozen 8
  simp at x8
  have H8 := Lib.hid (h7.setBlk 8 (.slice Av nv cv))
  clear hown hg hob h6 h7
  go_wp2
  go_end0
  refine ⟨rfl, (⟨(q : Int), u, d⟩ : Ch), .slice Av nv cv, fun hne => ?_, ?_⟩
  · have k3 : (ps (pf (pn s).2).2).2 ≠ none := hne
    have k2 : (pf (pn s).2).2 ≠ none := fun e => k3 (by rw [e]; rfl)
    have k1 : (pn s).2 ≠ none := fun e => k2 (by rw [e]; rfl)
    have j1 : [q] = [(pn s).1] := hvs k1
    have j2 := hd k2
    have j3 := hu k3
    unfold pC
    simp only at j1 j2 j3 ⊢
    rw [j2, j3]
    simp at j1
    rw [j1]
    rfl
  have h9 := H8.out
  have hlen : (l ++ [(⟨(q : Int), u, d⟩ : Ch)]).length = l.length + 1 := by simp
  have hfl : (l ++ [(⟨(q : Int), u, d⟩ : Ch)]).flatMap chc = l.flatMap chc ++ chc (⟨(q : Int), u, d⟩ : Ch) := by simp
  unfold xI
  rw [hlen, hfl]
  have h10 := ((h9.perm (List.perm_middle (l₁ := [_, _, _]))).tail).perm (List.perm_middle (l₁ := [_, _]))
  exact h10.perm (List.Perm.cons _ (List.Perm.cons _ (List.Perm.swap _ _ _)))

set_option maxHeartbeats 1000000 in
theorem closR (x rb g : Nat) (y : Rc) (w : World) (T : List As) (V : World) (s : Rst) (v : Value) (l : List Wt) (hl : l.length ≤ 2048) (h : Has w (rdA g s :: (xR x rb g y v l ++ T)) V) :
    Calls Tryz.prog 96 #[pt rb, pt x] V fun e w' => e = .returned (.tuple #[]) ∧ ∃ (a : Wt) (v' : Value), ((pW s).2 ≠ none → a = (pW s).1) ∧ Has w (rdA g (pW s).2 :: (xR x rb g y v' (l ++ [a]) ++ T)) w' := by
  obtain ⟨i0, hi0, hz0, hz1, hz2⟩ := info_parts infoWt
  have h1 : Has w (rdA g s :: blkA V.heap.size 159 #[.string ⟨#[]⟩, .int .i64 0] :: blkA x 106 (rcc y v) :: blkA rb 144 #[pt g] :: rowA 159 2 v l.length (l.flatMap wtc) :: T) (V.alloc (.cells #[.string ⟨#[]⟩, .int .i64 0] 159)) := (h.newBlk _ _).swap
  have r1 := (h1.blkIn (g := rb) (t := 144) (cs := #[pt g]) (by simp)).cell 0
  simp at r1
  have H1 := Lib.hid h1
  have HXr := Lib.hid (h1.perm (List.perm_middle (l₁ := [_, _, _, _]))).rowOf
  clear h h1
  go_enter Tryz.func96, Tryz.ntmps96
  go_wp2_with (first
    | (go_at_call 89; refine H1.out.rdStr.mono ?_; rintro e w2 ⟨u, ⟨rfl, hu⟩, h3⟩
       have z2 := h3.swap.blk.1.cell 0
       have zf := h3.swap.blk.1.frozen 0
       simp at z2
       have h3 := (h3.swap.setBlk 0 (.string u)).swap
       have r3 := (h3.blkIn (g := rb) (t := 144) (cs := #[pt g]) (by simp)).cell 0
       simp at r3
       have H3 := Lib.hid h3
       clear h3 H1 r1)
    | (go_at_call 81; refine (H3.out.rdNums [1] (by simp [World.setCell]) rfl rfl (by simp) (fun i hi => by simp at hi; subst hi; exact ⟨0, rfl⟩)).mono ?_; rintro e w3 ⟨vs, ⟨rfl, hvl, hvb, hvs⟩, h4⟩
       obtain ⟨q, rfl⟩ : ∃ u, vs = [u] := by
         match vs, hvl with
         | [u], _ => exact ⟨u, rfl⟩
       have e1 : sets (#[Value.string ⟨#[]⟩, Value.int .i64 0].setIfInBounds 0 (.string u)) (ivs [1] [q]) = #[.string u, .int .i64 (q : Int)] := by simp [sets, ivs]
       rw [e1] at h4
       have c0 := h4.swap.blk.1.cell 0
       have c1 := h4.swap.blk.1.cell 1
       have x0 := (h4.blkIn (g := x) (t := 106) (cs := rcc y v) (by simp)).cell 9
       simp at c0 c1 x0
       have H5 := Lib.hid (h4.alloc (.cells #[.string u, .int .i64 (q : Int)] 159))
       clear h4 H3 r3)
    | (at_builtin; refine wpList_append_own_at _ rfl _ _ 104 rfl 0 159 i0 _ 2 24 Tryz.underlying104 hi0 hz0 hz1 hz2 rfl (by decide) v l.length (l.flatMap wtc) rfl ?ho ⟨w3.heap.size, 0, none⟩ 1 1 (wtc (⟨u, (q : Int)⟩ : Wt)) ?hx ?hl ?hn ?h1 ?h2 ?h3 (Nat.zero_le _) ?_))
  case ho => exact (H5.out.perm (List.perm_middle (l₁ := [_, _, _, _]))).rowOf
  case hx => first | rfl | (simp [World.setCell]; rfl)
  case hl => rfl
  case hn => have := lay_new w3 #[.string u, .int .i64 (q : Int)] 159; simpa [World.setCell, wtc] using this
  case h1 => intro u hu; simp [wtc] at hu; rcases hu with rfl | rfl <;> rfl
  case h2 => unfold maxLen; omega
  case h3 => omega
  intro v' w5 hown hg _ hob
  obtain ⟨Av, nv, cv, hve⟩ := slice_form hown
  have h6 := (H5.out.perm (List.perm_middle (l₁ := [_, _, _, _]))).rowTurn hown hg (by simpa [World.setCell] using hob)
  have h7 := h6.perm (List.perm_middle (l₁ := [_, _, _]))
  subst hve
  have x8 := h7.blk.1.cell 9
  have xf := h7.blk.1.frozen 9
  simp at x8
  have H8 := Lib.hid (h7.setBlk 9 (.slice Av nv cv))
  clear hown hg hob h6 h7
  go_wp2
  go_end0
  refine ⟨rfl, (⟨u, (q : Int)⟩ : Wt), .slice Av nv cv, fun hne => ?_, ?_⟩
  · have k3 : (pn (ps s).2).2 ≠ none := hne
    have k2 : (ps s).2 ≠ none := fun e => k3 (by rw [e]; rfl)
    have j1 : [q] = [(pn (ps s).2).1] := hvs k3
    have j3 := hu k2
    unfold pW
    simp only at j1 j3 ⊢
    rw [j3]
    simp at j1
    rw [j1]
  have h9 := H8.out
  have hlen : (l ++ [(⟨u, (q : Int)⟩ : Wt)]).length = l.length + 1 := by simp
  have hfl : (l ++ [(⟨u, (q : Int)⟩ : Wt)]).flatMap wtc = l.flatMap wtc ++ wtc (⟨u, (q : Int)⟩ : Wt) := by simp
  unfold xR
  rw [hlen, hfl]
  have h10 := ((h9.perm (List.perm_middle (l₁ := [_, _, _]))).tail).perm (List.perm_middle (l₁ := [_, _]))
  exact h10.perm (List.Perm.cons _ (List.Perm.cons _ (List.Perm.swap _ _ _)))
end Go.Proofs.YtiafmbfeigcinaaGreatDoor
