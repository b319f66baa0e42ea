/-
  Layer 8, the code: works of a log.
  Layer 8, the code: a log's own calls: works that may break it.
  Layer 8, the code: a base's bytes.
  Layer 8, the code: a log's calls: Sync, Add, Checkpoint. (Written by wip/tools/genw4.py.)
  Layer 8, the code: a log's call Add.
  Layer 8, the code: a log's call Checkpoint.
-/
import Derived.Test.YtamglegdgcehaaaGreatZ19
import Derived.Test.YtamglegdgcehaaaGreatZ24
import Derived.StillTailTactics
import Derived.Test.YtamglegdgcehaaaGreatZ17
import Derived.Test.YtamglegdgcehaaaGreatZ10
import Derived.Deep.CutRange
set_option linter.unusedVariables false
namespace Go.Proofs.YtamglegdgcehaaaGreat
open Go.RowKit

/-- A log's object. -/
def WObj (V : World) (q g t l k : Nat) (b : Bool) : Prop := V.heap[q]? = some (.cells #[pt g, .int .i64 (t : Int), .int .i64 (l : Int), .int .i64 (k : Int), .bool b] 84 (0, 0))
section
variable {V X : World} {q g t l k : Nat} {b : Bool} {F : Nat → Prop}
theorem WObj.c0 (h : WObj V q g t l k b) : V.cell? ⟨q, 0, none⟩ = some (pt g) := cell_of_row V q 0 _ _ (0, 0) h
theorem WObj.c1 (h : WObj V q g t l k b) : V.cell? ⟨q, 1, none⟩ = some (.int .i64 (t : Int)) := cell_of_row V q 1 _ _ (0, 0) h
theorem WObj.c2 (h : WObj V q g t l k b) : V.cell? ⟨q, 2, none⟩ = some (.int .i64 (l : Int)) := cell_of_row V q 2 _ _ (0, 0) h
theorem WObj.c3 (h : WObj V q g t l k b) : V.cell? ⟨q, 3, none⟩ = some (.int .i64 (k : Int)) := cell_of_row V q 3 _ _ (0, 0) h
theorem WObj.c4 (h : WObj V q g t l k b) : V.cell? ⟨q, 4, none⟩ = some (.bool b) := cell_of_row V q 4 _ _ (0, 0) h
theorem WObj.lt (h : WObj V q g t l k b) : q < V.heap.size := (Array.getElem?_eq_some_iff.1 h).1
theorem WObj.fz (h : WObj V q g t l k b) (i : Nat) : V.frozen? ⟨q, i, none⟩ = false := by unfold WObj at h; simp [World.frozen?, h]
theorem WObj.grow (h : WObj X q g t l k b) (hG : Grow F X V) (hq : ¬ F q) : WObj V q g t l k b := hG.row_ h hq
theorem WObj.below (h : WObj X q g t l k b) (hb : Below X.heap.size X V) : WObj V q g t l k b := (hb.block q h.lt).trans h
theorem WObj.set1 (h : WObj V q g t l k b) (t' : Nat) : WObj (V.setCell ⟨q, 1, none⟩ (.int .i64 (t' : Int))) q g t' l k b := by unfold WObj at *; simp [World.setCell, Array.getElem?_modify, h]
theorem WObj.set2 (h : WObj V q g t l k b) (t' : Nat) : WObj (V.setCell ⟨q, 2, none⟩ (.int .i64 (t' : Int))) q g t t' k b := by unfold WObj at *; simp [World.setCell, Array.getElem?_modify, h]
theorem WObj.set3 (h : WObj V q g t l k b) (t' : Nat) : WObj (V.setCell ⟨q, 3, none⟩ (.int .i64 (t' : Int))) q g t l t' b := by unfold WObj at *; simp [World.setCell, Array.getElem?_modify, h]
theorem WObj.set4 (h : WObj V q g t l k b) (b' : Bool) : WObj (V.setCell ⟨q, 4, none⟩ (.bool b')) q g t l k b' := by unfold WObj at *; simp [World.setCell, Array.getElem?_modify, h]
end

section
variable {R : DRep}
set_option maxRecDepth 100000 in
theorem wRemove (hD : DiskOk R) (w : World) (g : Nat) (D : Dk) (F : Nat → Prop) (nm : ByteArray) (hR : R w g D F) :
    Calls Tryz.prog 64 #[pt g, .string nm] w fun e w' => e = .returned (.int .i64 (aRm nm D).2) ∧ Turns R w g F (aRm nm D).1 w' := by
  have HA := Lib.hid (hD.remove w g D F nm hR)
  rw [show (aRm nm D).2 = if remE D nm = 70 then 0 else remE D nm from rfl, show (aRm nm D).1 = rem D nm from rfl]
  generalize remE D nm = x at *
  by_cases hx : x = 70
  · subst hx
    rw [if_pos rfl]
    go_enter Tryz.func64, Tryz.ntmps64
    go_wp2_with (first
      | (go_at_call 81; go_loud (refine HA.out.mono ?_; rintro e w2 ⟨rfl, ht⟩)))
    go_ret
    exact ⟨rfl, ht⟩
  · rw [if_neg hx]
    have hx' : (x == 70) = false := by simpa using hx
    go_enter Tryz.func64, Tryz.ntmps64
    go_wp2_with (first
      | (go_at_call 81; go_loud (refine HA.out.mono ?_; rintro e w2 ⟨rfl, ht⟩)))
    go_ret
    exact ⟨rfl, ht⟩
set_option maxRecDepth 100000 in
set_option maxHeartbeats 4000000 in
theorem wKeep (hD : DiskOk R) (w : World) (g : Nat) (D : Dk) (F : Nat → Prop) (k a : Nat) (hk : k ≤ 9223372036854775807) (ha : a ≤ 9223372036854775807) (hR : R w g D F) :
    Calls Tryz.prog 126 #[pt g, .int .i64 (k : Int), .int .i64 (a : Int)] w fun e w' => e = .returned (.int .i64 (keepA k a D).2) ∧ Turns R w g F (keepA k a D).1 w' := by
  by_cases hlt : k < a
  · have HA := Lib.hid (hD.cut w g D F nLog (k : Int) (by omega) hR)
    have hcase : keepA k a D = if (aCut nLog k D).2 = 0 then aSyn nLog (aCut nLog k D).1 else aCut nLog k D := by
      unfold keepA
      rw [if_pos hlt, runA_app, runA_one, runA_one]
    have HC := Lib.hid hcase
    clear hcase
    rw [show (aCut nLog k D).2 = cutE D nLog k from rfl, show (aCut nLog k D).1 = cut D nLog k from rfl, show aCut nLog k D = (cut D nLog k, cutE D nLog k) from rfl] at HC
    have HS := Lib.hid (fun V (h : Turns R w g F (cut D nLog k) V) => hD.sync V g (cut D nLog k) (nF F w V) nLog h.1)
    obtain ⟨x, hx⟩ : ∃ x, cutE D nLog k = x := ⟨_, rfl⟩
    rw [hx] at HA HC
    by_cases h0 : x = 0
    · subst h0
      have hC := HC.out
      rw [if_pos rfl] at hC
      rw [hC]
      clear HC hC hx
      go_enter Tryz.func126, Tryz.ntmps126
      go_wp2_with (first
        | (go_at_call 163; go_loud (refine HA.out.mono ?_; rintro e w2 ⟨rfl, ht⟩))
        | (go_at_call 16; go_loud (refine (HS.out _ ht).mono ?_; rintro e w3 ⟨rfl, ht3⟩)))
      go_ret
      exact ⟨rfl, Turns.trans (D1 := D) ht.2 ht3⟩
    · have hC := HC.out
      rw [if_neg h0] at hC
      rw [hC]
      have h0' : (x != 0) = true := by simpa using h0
      clear HC hC hx
      go_enter Tryz.func126, Tryz.ntmps126
      go_wp2_with (first
        | (go_at_call 163; go_loud (refine HA.out.mono ?_; rintro e w2 ⟨rfl, ht⟩)))
      go_ret
      exact ⟨rfl, ht⟩
  · have HS := Lib.hid (hD.sync w g D F nLog hR)
    have hC : keepA k a D = aSyn nLog D := by
      unfold keepA
      rw [if_neg hlt, List.nil_append, runA_one]
    rw [hC]
    clear hC
    go_enter Tryz.func126, Tryz.ntmps126
    go_wp2_with (first
      | (go_at_call 16; go_loud (refine HS.out.mono ?_; rintro e w3 ⟨rfl, ht3⟩)))
    go_ret
    exact ⟨rfl, ht3⟩

/-! ### a log written anew -/
set_option maxRecDepth 100000 in
theorem cRN1 (hD : DiskOk R) (w : World) (g : Nat) (D : Dk) (F : Nat → Prop) (h q t l k : Nat) (b : Bool) (hR : R w g D F) (c : w.cell? ⟨h, 0, none⟩ = some (pt q)) (hq : WObj w q g t l k b) :
    Calls Tryz.prog 160 #[pt h] w fun e w' => e = .returned (.int .i64 (aRm nLog D).2) ∧ Turns R w g F (aRm nLog D).1 w' := by
  have HA := Lib.hid (wRemove hD w g D F nLog hR)
  have c0 := hq.c0
  clear hq
  go_enter Tryz.func160, Tryz.ntmps160
  go_wp2_with (first
    | (go_at_call 64; go_loud (refine HA.out.mono ?_; rintro e w2 ⟨rfl, ht⟩)))
  go_ret
  exact ⟨rfl, ht⟩
set_option maxRecDepth 100000 in
set_option maxHeartbeats 4000000 in
theorem cRN2 (hD : DiskOk R) (w : World) (g : Nat) (D : Dk) (F : Nat → Prop) (h q t l k : Nat) (b : Bool) (hR : R w g D F) (c : w.cell? ⟨h, 0, none⟩ = some (pt q)) (hq : WObj w q g t l k b) (ht : t ≤ 9007199254740991) (hl : l ≤ 9007199254740991) :
    Calls Tryz.prog 161 #[pt h] w fun e w' => e = .returned (.int .i64 (writeA t l D).2) ∧ Turns R w g F (writeA t l D).1 w' := by
  have HA := Lib.hid (fun V (hb : Below w.heap.size w V) => wWriteLog hD V g D F t l (hD.below hR hb) ht hl)
  have HL := Lib.hid (hD.lt hR)
  have HB := Lib.hid ((Below.refl w.heap.size w).drew)
  have k := c
  have k0 := hq.c0
  have k1 := hq.c1
  have k2 := hq.c2
  have d : (⟨w.heap, w.tape, w.drawn + 1, w.os, w.output⟩ : World).cell? ⟨h, 0, none⟩ = some (pt q) := c
  have d0 : (⟨w.heap, w.tape, w.drawn + 1, w.os, w.output⟩ : World).cell? ⟨q, 0, none⟩ = some (pt g) := k0
  have d1 : (⟨w.heap, w.tape, w.drawn + 1, w.os, w.output⟩ : World).cell? ⟨q, 1, none⟩ = some (.int .i64 (t : Int)) := k1
  have d2 : (⟨w.heap, w.tape, w.drawn + 1, w.os, w.output⟩ : World).cell? ⟨q, 2, none⟩ = some (.int .i64 (l : Int)) := k2
  clear hq ht hl hR
  go_enter Tryz.func161, Tryz.ntmps161
  go_wp2_with fail
  go_still_tail 12, (by kernel_rfl)
  change wpList _ _ _ _ _ w.drew
  generalize w.drew = V at *
  clear d d0 d1 d2
  go_wp2_with (first
    | (go_at_call 83; go_loud (refine (HA.out _ HB.out).mono ?_; rintro e w2 ⟨rfl, ht⟩)))
  go_ret
  exact ⟨rfl, hD.under1 HB.out ht HL.out⟩
end
end Go.Proofs.YtamglegdgcehaaaGreat
set_option linter.unusedVariables false
namespace Go.Proofs.YtamglegdgcehaaaGreat
open Go.RowKit

section
variable {R : DRep}
theorem DiskOk.far (hD : DiskOk R) {V : World} {g q i : Nat} {D : Dk} {F : Nat → Prop} (h : R V g D F) (hq : ¬ F q) (u : Value) : R (V.setCell ⟨q, i, none⟩ u) g D F :=
  hD.on h (by rw [set_size]; exact Nat.le_refl _) (fun k hk => set_blk _ _ _ _ (fun e => hq (e ▸ hk)))
set_option maxRecDepth 100000 in
theorem rn_run (hD : DiskOk R) (w Y : World) (g q t l s : Nat) (b : Bool) (D : Dk) (F : Nat → Prop) (h k : Nat) (tt : TypeId) (hk : k = Y.heap.size) (hb : Below w.heap.size w Y) (hR : R w g D F) (hq : WObj w q g t l s b) (hqF : ¬ F q) (c1 : Y.cell? ⟨h, 0, none⟩ = some (pt q)) (hh : w.heap.size ≤ h) (ht : t ≤ 9007199254740991) (hl : l ≤ 9007199254740991) :
    Calls Tryz.prog 131 #[.slice (some ⟨k, 0, none⟩) 2 2] (Y.alloc (.cells #[.func (.func 160) #[] #[pt h], .func (.func 161) #[] #[pt h]] tt)) fun e w' => e = .returned (.int .i64 (renewA t l D).2) ∧ Turns R w g F (renewA t l D).1 w' := by
  subst hk
  have hlt := hD.lt hR
  have hqX := hq.below (hb.trans ((nba Y (.cells #[.func (.func 160) #[] #[pt h], .func (.func 161) #[] #[pt h]] tt)).mono hb.size))
  have hbX := hb.trans ((nba Y (.cells #[.func (.func 160) #[] #[pt h], .func (.func 161) #[] #[pt h]] tt)).mono hb.size)
  have hYX := nba Y (.cells #[.func (.func 160) #[] #[pt h], .func (.func 161) #[] #[pt h]] tt)
  have hfa := lit_f2 Y 160 161 #[pt h] #[pt h] tt
  generalize Y.alloc (.cells #[.func (.func 160) #[] #[pt h], .func (.func 161) #[] #[pt h]] tt) = X at *
  have hF : ∀ k, w.heap.size ≤ k → ¬ F k := fun k hk e => by have := hlt k e; omega
  have d1 := bcell hYX c1
  refine (inTurn_disk hD X g D F (some ⟨Y.heap.size, 0, none⟩) 2 2 _ [aRm nLog, writeA t l] (hD.below hR hbX) hfa (fun a e => by injection e with e; subst e; exact hF _ hb.size) rfl (by omega)
    (fun i h args W => by match i, h with | 0, _ => rfl | 1, _ => rfl) (fun i h0 h2' D V hV hG => ?_)).mono ?_
  · match i, h0, h2' with
    | 0, _, _ => exact cRN1 hD V g D (nF F X V) h q t l s b hV (hG.cell_ d1 (hF _ hh)) (hqX.grow hG hqF)
    | 1, _, _ => exact cRN2 hD V g D (nF F X V) h q t l s b hV (hG.cell_ d1 (hF _ hh)) (hqX.grow hG hqF) ht hl
  · rintro e w' ⟨rfl, ht⟩
    exact ⟨rfl, hD.under1 hbX ht hlt⟩
set_option maxRecDepth 100000 in
theorem wRenew (hD : DiskOk R) (w : World) (g q t l s : Nat) (b : Bool) (D : Dk) (F : Nat → Prop) (hR : R w g D F) (hq : WObj w q g t l s b) (hqF : ¬ F q) (ht : t ≤ 9007199254740991) (hl : l ≤ 9007199254740991) :
    Calls Tryz.prog 123 #[pt q] w fun e w' => e = .returned (.int .i64 (renewA t l D).2) ∧ Turns R w g F (renewA t l D).1 w' := by
  have HX := Lib.hid (rn_run hD w (w.alloc (.cells #[pt q] 28)) g q t l s b D F w.heap.size (w.heap.size + 1) 57 (by simp) (bal (Below.refl _ _) _) hR hq hqF (by simp) (Nat.le_refl _) ht hl)
  clear hq hR
  go_enter Tryz.func123, Tryz.ntmps123
  go_wp2_with (first
    | (go_at_call 131; go_loud (refine HX.out.mono ?_; rintro e w2 ⟨rfl, ht⟩)))
  go_ret
  exact ⟨rfl, ht⟩

set_option maxRecDepth 100000 in
set_option maxHeartbeats 4000000 in
theorem workX (hD : DiskOk R) (w X : World) (q g t l k : Nat) (b : Bool) (D : Dk) (F : Nat → Prop) (A : Option Addr) (n c : Nat) (fs : List (Nat × Array Value)) (acts : List Doing) (hb : Below w.heap.size w X) (hR : R w g D F) (hq : WObj w q g t l k b) (hqF : ¬ F q)
    (hfa : FAt X A n fs) (hA : InF (fun k => w.heap.size ≤ k) A) (hlen : acts.length = n) (hn : n ≤ 1000)
    (hent : ∀ i (h : i < fs.length), ∀ args W, (callFunc (fs[i]'h).1 args).run Tryz.prog W = .ok (.enter (fs[i]'h).1 args) W)
    (step : ∀ i (h : i < fs.length) (h2 : i < acts.length) D V G, R V g D G → ¬ G q → WObj V q g t l k b → (∀ a v, w.heap.size ≤ a.block → X.cell? a = some v → V.cell? a = some v) → (∀ k, w.heap.size ≤ k → k < X.heap.size → ¬ G k ∧ k < V.heap.size) →
      Calls Tryz.prog (fs[i]'h).1 (fs[i]'h).2 V fun e w' => e = .returned (.int .i64 ((acts[i]'h2) D).2) ∧ Turns R V g G ((acts[i]'h2) D).1 w') :
    Calls Tryz.prog 71 #[pt q, .slice A n c] X fun e w' => e = .returned (.int .i64 (runA acts D).2) ∧ R w' g (runA acts D).1 (nF F w w') ∧ Grow (fun k => F k ∨ k = q) w w' ∧ WObj w' q g t l k (decide ((runA acts D).2 ≠ 0)) ∧ (∀ a v, w.heap.size ≤ a.block → X.cell? a = some v → w'.cell? a = some v) := by
  have hlt := hD.lt hR
  have hql := hq.lt
  have hs := hb.size
  have hqX : WObj X q g t l k b := (hb.block q hql).trans hq
  have hF : ∀ k, w.heap.size ≤ k → ¬ F k := fun k hk e => by have := hlt k e; omega
  have HT := Lib.hid (inTurn_disk hD X g D F A n c fs acts (hD.below hR hb) hfa (fun a e => hF _ (hA a e)) hlen hn hent (fun i h h2 D V hV hG =>
    step i h h2 D V _ hV (notF hqF (by omega)) (hqX.grow hG hqF) (fun a v ha hc => hG.cell_ hc (hF _ ha)) (fun k hk hk2 => ⟨notF (hF k hk) hk2, Nat.lt_of_lt_of_le hk2 hG.size⟩)))
  have HE := Lib.hid (fun (V : World) (D' : Dk) (bb : Bool) (ht : Turns R X g F D' V) => (show R (V.setCell ⟨q, 4, none⟩ (.bool bb)) g D' (nF F w (V.setCell ⟨q, 4, none⟩ (.bool bb))) ∧ Grow (fun k => F k ∨ k = q) w (V.setCell ⟨q, 4, none⟩ (.bool bb)) ∧ WObj (V.setCell ⟨q, 4, none⟩ (.bool bb)) q g t l k bb ∧ (∀ a v, w.heap.size ≤ a.block → X.cell? a = some v → (V.setCell ⟨q, 4, none⟩ (.bool bb)).cell? a = some v) from by
    have ht2 := hD.under1 hb ht hlt
    refine ⟨?_, ?_, (hqX.grow ht.2 hqF).set4 bb, fun a v ha hc => ?_⟩
    · have := hD.far (i := 4) (q := q) ht2.1 (notF hqF hql) (.bool bb)
      have e : nF F w (V.setCell ⟨q, 4, none⟩ (.bool bb)) = nF F w V := by unfold nF; rw [set_size]
      rw [e]
      exact this
    · exact (ht2.2.mono (fun k e => .inl e)).set (p := ⟨q, 4, none⟩) (.inl (.inr rfl)) _
    · rw [World.cell?_of_block (w := V) (set_blk V q 4 _ (show a.block ≠ q by omega))]
      exact ht.2.cell_ hc (hF _ ha)))
  have HQ := Lib.hid (fun (V : World) (D' : Dk) (ht : Turns R X g F D' V) => And.intro ((hqX.grow ht.2 hqF).fz 4) (hqX.grow ht.2 hqF).c4)
  generalize (runA acts D).1 = D' at *
  obtain ⟨x, hx⟩ : ∃ x, (runA acts D).2 = x := ⟨_, rfl⟩
  rw [hx] at HT ⊢
  clear hx step hent hfa hA hR hq hqX hF
  by_cases h0 : x = 0
  · subst h0
    go_enter Tryz.func71, Tryz.ntmps71
    go_wp2_with (first
      | (go_at_call 131; go_loud (refine HT.out.mono ?_; rintro e w2 ⟨rfl, ht⟩; obtain ⟨hz, hc4⟩ := HQ.out _ _ ht)))
    go_ret
    exact ⟨rfl, HE.out _ _ false ht⟩
  · have h0' : (x != 0) = true := by simpa using h0
    have hd : decide (x ≠ 0) = true := decide_eq_true h0
    rw [hd]
    clear hd
    go_enter Tryz.func71, Tryz.ntmps71
    go_wp2_with (first
      | (go_at_call 131; go_loud (refine HT.out.mono ?_; rintro e w2 ⟨rfl, ht⟩; obtain ⟨hz, hc4⟩ := HQ.out _ _ ht)))
    go_ret
    exact ⟨rfl, HE.out _ _ true ht⟩

/-! ### what a log answers without works -/
set_option maxRecDepth 100000 in
theorem wCheck (V : World) (q g t l k : Nat) (b : Bool) (h : WObj V q g t l k b) :
    Calls Tryz.prog 67 #[pt q] V fun e w' => e = .returned (.int .i64 (if b then 71 else 0)) ∧ w' = V := by
  have c0 := h.c0
  have c4 := h.c4
  clear h
  cases b with
  | true =>
    go_enter Tryz.func67, Tryz.ntmps67
    go_wp2
    go_ret
    exact ⟨rfl, rfl⟩
  | false =>
    go_enter Tryz.func67, Tryz.ntmps67
    go_wp2
    go_ret
    exact ⟨rfl, rfl⟩
set_option maxRecDepth 100000 in
theorem wLast (V : World) (q g t l k : Nat) (b : Bool) (h : WObj V q g t l k b) :
    Calls Tryz.prog 30 #[pt q] V fun e w' => e = .returned (.int .i64 ((if b then 0 else l : Nat) : Int)) ∧ w' = V := by
  have CK := Lib.hid (wCheck V q g t l k b h)
  have c2 := h.c2
  clear h
  cases b with
  | true =>
    go_enter Tryz.func30, Tryz.ntmps30
    go_wp2_with (first
      | (go_at_call 67; go_loud (refine CK.out.mono ?_; rintro e w2 ⟨rfl, rfl⟩; rw [if_pos rfl])))
    go_ret
    exact ⟨rfl, rfl⟩
  | false =>
    go_enter Tryz.func30, Tryz.ntmps30
    go_wp2_with (first
      | (go_at_call 67; go_loud (refine CK.out.mono ?_; rintro e w2 ⟨rfl, rfl⟩; rw [if_neg (by decide)])))
    go_ret
    exact ⟨rfl, rfl⟩
set_option maxRecDepth 100000 in
theorem wSynced (V : World) (q g t l k : Nat) (b : Bool) (h : WObj V q g t l k b) :
    Calls Tryz.prog 29 #[pt q] V fun e w' => e = .returned (.int .i64 ((if b then 0 else k : Nat) : Int)) ∧ w' = V := by
  have CK := Lib.hid (wCheck V q g t l k b h)
  have c3 := h.c3
  clear h
  cases b with
  | true =>
    go_enter Tryz.func29, Tryz.ntmps29
    go_wp2_with (first
      | (go_at_call 67; go_loud (refine CK.out.mono ?_; rintro e w2 ⟨rfl, rfl⟩; rw [if_pos rfl])))
    go_ret
    exact ⟨rfl, rfl⟩
  | false =>
    go_enter Tryz.func29, Tryz.ntmps29
    go_wp2_with (first
      | (go_at_call 67; go_loud (refine CK.out.mono ?_; rintro e w2 ⟨rfl, rfl⟩; rw [if_neg (by decide)])))
    go_ret
    exact ⟨rfl, rfl⟩
end
end Go.Proofs.YtamglegdgcehaaaGreat
set_option linter.unusedVariables false
namespace Go.Proofs.YtamglegdgcehaaaGreat
open Go.RowKit

def basP (t n k : Nat) (l : List Rw) : List (List UInt8) := fr ([t, n, k].map enc).flatten :: l.map (fun r => fr ([r.key, r.value].map txt).flatten)
theorem basP_succ (t n k : Nat) (l : List Rw) (i : Nat) (h : i < l.length) : basP t n k (l.take (i + 1)) = basP t n k (l.take i) ++ [fr ([(l[i]'h).key, (l[i]'h).value].map txt).flatten] := by
  unfold basP
  rw [List.take_succ_eq_append_getElem h, List.map_append]
  rfl
theorem basP_len (t n k : Nat) (l : List Rw) : (basP t n k l).length = 1 + l.length := by
  unfold basP
  simp
  omega
theorem basP_flat (t n : Nat) (l : List Rw) : (basP t n l.length l).flatten = baseB t n l := by
  unfold basP baseB baseH rowB
  simp
theorem rowB_le (r : Rw) (h : r.key.size ≤ 4096 ∧ r.value.size ≤ 4096) : (rowB r).length ≤ 8208 := by
  unfold rowB
  have h1 := txt_len r.key h.1
  have h2 := txt_len r.value h.2
  rw [List.length_append]
  omega
theorem fr_le (l : List UInt8) (h : l.length ≤ 65536) : (fr l).length ≤ l.length + 12 := by
  rw [fr_len]
  have := enc_len l.length (by omega)
  omega
theorem baseB_le (t n : Nat) (l : List Rw) (ht : t ≤ 9007199254740991) (hn : n ≤ 9007199254740991) (hl : l.length ≤ 10000) (hs : ∀ r ∈ l, r.key.size ≤ 4096 ∧ r.value.size ≤ 4096) : (baseB t n l).length ≤ 100000000 := by
  unfold baseB
  have hH : (baseH t n l.length).length ≤ 24 := by
    unfold baseH
    have := enc_len t ht
    have := enc_len n hn
    have := enc_len l.length (by omega)
    rw [List.length_append, List.length_append]
    omega
  have h1 := fr_le _ (show (baseH t n l.length).length ≤ 65536 from by omega)
  have h3 : ∀ l : List Rw, (∀ r ∈ l, r.key.size ≤ 4096 ∧ r.value.size ≤ 4096) → (l.map (fun r => fr (rowB r))).flatten.length ≤ l.length * 8220 := by
    intro l
    induction l with
    | nil => intro _; simp
    | cons o l ih =>
      intro h
      have := ih (fun x hx => h x (by simp [hx]))
      have h5 := rowB_le o (h o (by simp))
      have := fr_le (rowB o) (by omega)
      simp only [List.map_cons, List.flatten_cons, List.length_append, List.length_cons]
      omega
  have := h3 l hs
  rw [List.length_append]
  omega
theorem lit_three (V : World) (x y z : Nat) (t : TypeId) : IAt (V.alloc (.cells #[.int .i64 (x : Int), .int .i64 (y : Int), .int .i64 (z : Int)] t)) (some ⟨V.heap.size, 0, none⟩) 3 ([x, y, z].map Int.ofNat) := by
  refine ⟨rfl, fun _ => ⟨_, 0, rfl, fun i hi => ?_⟩⟩
  match i, hi with
  | 0, _ => simp
  | 1, _ => simp
  | 2, _ => simp
set_option maxRecDepth 100000 in
set_option maxHeartbeats 16000000 in
theorem wBase (t m : Nat) (A : Option Addr) (n c : Nat) (l : List Rw) (w : World) (hx : WAt w A n l) (hn : n ≤ 10000) (ht : t ≤ 9007199254740991) (hm : m ≤ 9007199254740991) (hs : ∀ r ∈ l, r.key.size ≤ 4096 ∧ r.value.size ≤ 4096) :
    Calls Tryz.prog 75 #[.int .i64 (t : Int), .int .i64 (m : Int), .slice A n c] w fun e w' => ∃ v, e = .returned v ∧ Own w' w.heap.size v (baseB t m l) ∧ Below w.heap.size w w' := by
  have hl := hx.1
  have HX := Lib.hid hx
  have HS := Lib.hid hs
  obtain ⟨L0, hL0⟩ : ∃ L0, L0 = ([t, m, n].map enc).flatten := ⟨_, rfl⟩
  have hl0 : L0.length ≤ 24 := by
    rw [hL0]
    have := flat_enc_le [t, m, n] (by intro x hx; simp at hx; rcases hx with rfl | rfl | rfl <;> omega)
    simpa using this
  have HL0 := Lib.hid hL0
  obtain ⟨L1, hL1⟩ : ∃ L1, L1 = fr L0 := ⟨_, rfl⟩
  have HL1 := Lib.hid hL1
  have HP0 := Lib.hid (show basP t m n (l.take 0) = [L1] from by rw [hL1, hL0]; simp [basP])
  clear hx hs hL0 hL1
  go_enter Tryz.func75, Tryz.ntmps75
  go_wp2_with (first
    | (go_at_call 129; go_loud (refine (wNums _ 3 3 [t, m, n] _ (lit_three w t m n _) (by omega) (by intro x hx; simp at hx; rcases hx with rfl | rfl | rfl <;> omega)).mono ?_; rintro e w2 ⟨v2, rfl, ho2, hb2⟩; rw [← HL0.out] at ho2; obtain ⟨A2, c2, rfl, hat2, hle2, hcm2, _⟩ := ho2.form; have HB2 := Lib.hid ((nba w _).trans (hb2.mono (by simp))); clear ho2 hb2))
    | (go_at_call 132; go_loud (refine (wRec A2 _ c2 L0 w2 hat2 hle2 hcm2 (by omega)).mono ?_; rintro e w3 ⟨v3, rfl, ho3, hb3⟩; rw [← HL1.out] at ho3; obtain ⟨A3, c3, rfl, _⟩ := ho3.form; have HO3 := Lib.hid (ho3.base (B' := w.heap.size) HB2.out.size); have HB3 := Lib.hid (HB2.out.trans (hb3.mono HB2.out.size)); clear ho3 hb3 hat2)))
  go_loopw [7, 9, 20] (fun v _ i wr => ∃ j : Nat, j ≤ n ∧ i = .int .i64 j ∧ Hid (LO wr w.heap.size v (basP t m n (l.take j))) ∧ Hid (Below w.heap.size w wr)) (fun _ _ i _ => n - (intOf i).toNat)
  case atStart => exact ⟨0, Nat.zero_le _, rfl, Lib.hid (by rw [HP0.out]; exact lo_lit HO3.out HB3.out.size), Lib.hid (HB3.out.alloc HB3.out.size _)⟩
  case round =>
    clear HO3 HB3 HB2
    obtain ⟨j, hj, rfl, HL, HB⟩ := hrel
    by_cases hlt : j < n
    · obtain ⟨b, o, rfl, hc⟩ := (HX.out.below HB.out).2 (by omega)
      obtain ⟨c0, c1⟩ := hc j (by omega)
      have hsj := HS.out _ (List.getElem_mem (l := l) (n := j) (by omega))
      have hsucc := basP_succ t m n l j (by omega)
      obtain ⟨⟨key, value⟩, hg⟩ : ∃ q, l[j]'(by omega) = q := ⟨_, rfl⟩
      rw [hg] at c0 c1 hsj hsucc
      obtain ⟨hs1, hs2⟩ := hsj
      have HSU := Lib.hid hsucc
      have hbs := HB.out.size
      obtain ⟨A5, m5, c5, rfl⟩ : ∃ A m c, u7 = .slice A m c := by obtain ⟨A, c, h, _⟩ := HL.out.form; exact ⟨A, _, c, h⟩
      obtain ⟨LA, hLA⟩ : ∃ L, L = ([key, value].map txt).flatten := ⟨_, rfl⟩
      have hla : LA.length ≤ 10000 := by
        rw [hLA]
        have := flat_txt_le [key, value] (by intro x hx; simp at hx; rcases hx with rfl | rfl <;> assumption)
        simp only [List.length_cons, List.length_nil] at this
        omega
      obtain ⟨LB, hLB⟩ : ∃ L, L = fr LA := ⟨_, rfl⟩
      have HLA := Lib.hid hLA
      have HLB := Lib.hid hLB
      have hlk : (basP t m n (l.take j)).length ≤ 10001 := by rw [basP_len, List.length_take]; omega
      have HK := Lib.hid hlk
      clear hc hsucc hLA hLB hlk
      go_wp2_with (first
        | (go_at_call 130; go_loud (refine (wTexts _ 2 2 [key, value] _ (lit_t _ _ key value _ (by simp)) (by omega) (by intro x hx; simp at hx; rcases hx with rfl | rfl <;> assumption)).mono ?_; rintro e w2 ⟨v2, rfl, ho2, hb2⟩; rw [← HLA.out] at ho2; obtain ⟨A2, c2, rfl, hat2, hle2, hcm2, _⟩ := ho2.form; have HB2 := Lib.hid (jstep (X := wr) (bal (bal (Below.refl _ _) _) _) hb2); clear ho2 hb2))
        | (go_at_call 132; go_loud (refine (wRec A2 _ c2 LA w2 hat2 hle2 hcm2 (by omega)).mono ?_; rintro e w3 ⟨v3, rfl, ho3, hb3⟩; rw [← HLB.out] at ho3; obtain ⟨A3, c3, rfl, _⟩ := ho3.form; have HO3 := Lib.hid (ho3.base (B' := w.heap.size) (Nat.le_trans hbs HB2.out.size)); have HB3 := Lib.hid (jstep HB2.out hb3); clear ho3 hb3 hat2))
        | (at_builtin; go_loud (refine wpList_appL rfl _ _ rfl w.heap.size (.slice A5 m5 c5) (basP t m n (l.take j)) rfl (HL.out.below (bal HB3.out _)) w3.heap.size 1 1 [.slice A3 LB.length c3] [LB] rfl rfl (fun i u hi => by cases i with | zero => simp at hi; subst hi; simp | succ i => simp at hi) (Pcs.one (HO3.out.below (nba _ _))) (by have := HK.out; omega) (Nat.le_trans hbs (bsz (bal HB3.out _))) ?_; intro v5 w5 h5 hg5; have H5 := Lib.hid h5; have HG5 := Lib.hid (LO.grown (HL.out.below (bal HB3.out _)) (HB.out.trans ((bal HB3.out _).mono hbs)) (Nat.le_trans hbs (bsz (bal HB3.out _))) hg5); clear h5 hg5)))
      go_roundw
      case rel => exact ⟨j + 1, by omega, by go_num, Lib.hid (by rw [HSU.out]; have h := H5.out; rw [HLB.out, HLA.out] at h; exact h), HG5⟩
      case measure => simp [intOf]; omega
    · obtain rfl : j = n := by omega
      have hl2 := HL.out
      rw [List.take_of_length_le (by omega)] at hl2
      have hfl : (basP t m j l).flatten = baseB t m l := by rw [← basP_flat t m l, hl]
      have hflat : (basP t m j l).flatten.length ≤ 100000000 := by
        rw [hfl]; exact baseB_le t m l ht hm (by omega) HS.out
      generalize basP t m j l = LL at *
      obtain ⟨A', m', c', rfl, hli, hle, hcm⟩ : ∃ A m c, u7 = .slice A m c ∧ Lists wr A m LL ∧ m ≤ c ∧ c ≤ 9223372036854775807 := by obtain ⟨A, c, h1, h2, h3, h4⟩ := hl2.form; exact ⟨A, _, c, h1, h2, h3, h4⟩
      have HLI := Lib.hid hli
      have HFL := Lib.hid hfl
      have hs := HB.out.size
      clear hl2 hli hfl HL hl
      go_wp2_with (first
        | (go_at_call 92; go_loud (refine (join _ _ _ _ _ HLI.out (by omega) (by omega)).mono ?_; rintro e w2 ⟨v2, rfl, ho2, hb2⟩)))
      go_ret
      exact ⟨v2, rfl, by rw [← HFL.out]; exact ho2.base hs, HB.out.trans (hb2.mono hs)⟩
end Go.Proofs.YtamglegdgcehaaaGreat
set_option linter.unusedVariables false
namespace Go.Proofs.YtamglegdgcehaaaGreat
open Go.RowKit

section
variable {R : DRep}
set_option maxRecDepth 100000 in
theorem cSy (hD : DiskOk R) (w : World) (g : Nat) (D : Dk) (F : Nat → Prop) (h q t l k : Nat) (b : Bool) (hR : R w g D F) (c : w.cell? ⟨h, 0, none⟩ = some (pt q)) (hq : WObj w q g t l k b) :
    Calls Tryz.prog 73 #[pt h] w fun e w' => e = .returned (.int .i64 (aSyn nLog D).2) ∧ Turns R w g F (aSyn nLog D).1 w' := by
  have HA := Lib.hid (hD.sync w g D F nLog hR)
  have c0 := hq.c0
  clear hq
  go_enter Tryz.func73, Tryz.ntmps73
  go_wp2_with (first
    | (go_at_call 16; go_loud (refine HA.out.mono ?_; rintro e w2 ⟨rfl, ht⟩)))
  go_ret
  exact ⟨rfl, ht⟩
set_option maxRecDepth 100000 in
theorem cCk2 (hD : DiskOk R) (w : World) (g : Nat) (D : Dk) (F : Nat → Prop) (h q t l k : Nat) (b : Bool) (hR : R w g D F) (c : w.cell? ⟨h, 0, none⟩ = some (pt q)) (hq : WObj w q g t l k b) :
    Calls Tryz.prog 77 #[pt h] w fun e w' => e = .returned (.int .i64 (aSyn nNext D).2) ∧ Turns R w g F (aSyn nNext D).1 w' := by
  have HA := Lib.hid (hD.sync w g D F nNext hR)
  have c0 := hq.c0
  clear hq
  go_enter Tryz.func77, Tryz.ntmps77
  go_wp2_with (first
    | (go_at_call 16; go_loud (refine HA.out.mono ?_; rintro e w2 ⟨rfl, ht⟩)))
  go_ret
  exact ⟨rfl, ht⟩
set_option maxRecDepth 100000 in
theorem cCk3 (hD : DiskOk R) (w : World) (g : Nat) (D : Dk) (F : Nat → Prop) (h q t l k : Nat) (b : Bool) (hR : R w g D F) (c : w.cell? ⟨h, 0, none⟩ = some (pt q)) (hq : WObj w q g t l k b) :
    Calls Tryz.prog 78 #[pt h] w fun e w' => e = .returned (.int .i64 (aRen nNext nBase D).2) ∧ Turns R w g F (aRen nNext nBase D).1 w' := by
  have HA := Lib.hid (hD.rename w g D F nNext nBase hR)
  have c0 := hq.c0
  clear hq
  go_enter Tryz.func78, Tryz.ntmps78
  go_wp2_with (first
    | (go_at_call 79; go_loud (refine HA.out.mono ?_; rintro e w2 ⟨rfl, ht⟩)))
  go_ret
  exact ⟨rfl, ht⟩
set_option maxRecDepth 100000 in
theorem cCk4 (hD : DiskOk R) (w : World) (g : Nat) (D : Dk) (F : Nat → Prop) (h q t l k : Nat) (b : Bool) (hR : R w g D F) (c : w.cell? ⟨h, 0, none⟩ = some (pt q)) (hq : WObj w q g t l k b) :
    Calls Tryz.prog 80 #[pt h] w fun e w' => e = .returned (.int .i64 (aRem nLog D).2) ∧ Turns R w g F (aRem nLog D).1 w' := by
  have HA := Lib.hid (hD.remove w g D F nLog hR)
  have c0 := hq.c0
  clear hq
  go_enter Tryz.func80, Tryz.ntmps80
  go_wp2_with (first
    | (go_at_call 81; go_loud (refine HA.out.mono ?_; rintro e w2 ⟨rfl, ht⟩)))
  go_ret
  exact ⟨rfl, ht⟩
set_option maxRecDepth 100000 in
set_option maxHeartbeats 4000000 in
theorem cAdd1 (hD : DiskOk R) (w : World) (g : Nat) (D : Dk) (F : Nat → Prop) (h h2 q t l k : Nat) (b : Bool) (A : Option Addr) (n c : Nat) (xs : List UInt8) (hR : R w g D F) (e1 : w.cell? ⟨h, 0, none⟩ = some (pt q)) (e2 : w.cell? ⟨h2, 0, none⟩ = some (.slice A n c)) (hq : WObj w q g t l k b) (hx : At w A n xs) (hA : 0 < n → InF (fun k => ¬ F k) A) (hn : n ≤ 140000000000000) :
    Calls Tryz.prog 72 #[pt h, pt h2] w fun e w' => e = .returned (.int .i64 (aApp nLog xs D).2) ∧ Turns R w g F (aApp nLog xs D).1 w' := by
  have HB := Lib.hid ((Below.refl w.heap.size w).drew)
  have HL := Lib.hid (hD.lt hR)
  have HA := Lib.hid (hD.append w.drew g D F nLog A n c xs (hD.below hR HB.out) (hx.below' HB.out) hA hn)
  have e0 := hq.c0
  have d0 : (⟨w.heap, w.tape, w.drawn + 1, w.os, w.output⟩ : World).cell? ⟨q, 0, none⟩ = some (pt g) := e0
  have d1 : (⟨w.heap, w.tape, w.drawn + 1, w.os, w.output⟩ : World).cell? ⟨h, 0, none⟩ = some (pt q) := e1
  have d2 : (⟨w.heap, w.tape, w.drawn + 1, w.os, w.output⟩ : World).cell? ⟨h2, 0, none⟩ = some (.slice A n c) := e2
  clear hq hx hR hA
  go_enter Tryz.func72, Tryz.ntmps72
  go_wp2_with fail
  go_still_tail 5, (by kernel_rfl)
  change wpList _ _ _ _ _ w.drew
  generalize w.drew = V at *
  clear d0 d1 d2
  go_wp2_with (first
    | (go_at_call 15; go_loud (refine HA.out.mono ?_; rintro e w2 ⟨rfl, ht⟩)))
  go_ret
  exact ⟨rfl, hD.under1 HB.out ht HL.out⟩
set_option maxRecDepth 100000 in
set_option maxHeartbeats 4000000 in
theorem cCk1 (hD : DiskOk R) (w : World) (g : Nat) (D : Dk) (F : Nat → Prop) (h h2 q t l k : Nat) (b : Bool) (A : Option Addr) (n c : Nat) (xs : List UInt8) (hR : R w g D F) (e1 : w.cell? ⟨h, 0, none⟩ = some (pt q)) (e2 : w.cell? ⟨h2, 0, none⟩ = some (.slice A n c)) (hq : WObj w q g t l k b) (hx : At w A n xs) (hA : 0 < n → InF (fun k => ¬ F k) A) (hn : n ≤ 140000000000000) :
    Calls Tryz.prog 76 #[pt h, pt h2] w fun e w' => e = .returned (.int .i64 (aApp nNext xs D).2) ∧ Turns R w g F (aApp nNext xs D).1 w' := by
  have HB := Lib.hid ((Below.refl w.heap.size w).drew)
  have HL := Lib.hid (hD.lt hR)
  have HA := Lib.hid (hD.append w.drew g D F nNext A n c xs (hD.below hR HB.out) (hx.below' HB.out) hA hn)
  have e0 := hq.c0
  have d0 : (⟨w.heap, w.tape, w.drawn + 1, w.os, w.output⟩ : World).cell? ⟨q, 0, none⟩ = some (pt g) := e0
  have d1 : (⟨w.heap, w.tape, w.drawn + 1, w.os, w.output⟩ : World).cell? ⟨h, 0, none⟩ = some (pt q) := e1
  have d2 : (⟨w.heap, w.tape, w.drawn + 1, w.os, w.output⟩ : World).cell? ⟨h2, 0, none⟩ = some (.slice A n c) := e2
  clear hq hx hR hA
  go_enter Tryz.func76, Tryz.ntmps76
  go_wp2_with fail
  go_still_tail 5, (by kernel_rfl)
  change wpList _ _ _ _ _ w.drew
  generalize w.drew = V at *
  clear d0 d1 d2
  go_wp2_with (first
    | (go_at_call 15; go_loud (refine HA.out.mono ?_; rintro e w2 ⟨rfl, ht⟩)))
  go_ret
  exact ⟨rfl, hD.under1 HB.out ht HL.out⟩
set_option maxRecDepth 100000 in
set_option maxHeartbeats 4000000 in
theorem cCk5 (hD : DiskOk R) (w : World) (g : Nat) (D : Dk) (F : Nat → Prop) (h h2 q t l k t' : Nat) (b : Bool) (hR : R w g D F) (e1 : w.cell? ⟨h, 0, none⟩ = some (pt q)) (e2 : w.cell? ⟨h2, 0, none⟩ = some (.int .i64 (t' : Int))) (hq : WObj w q g t l k b) (ht : t' ≤ 9007199254740991) (hl : l ≤ 9007199254740991) :
    Calls Tryz.prog 82 #[pt h, pt h2] w fun e w' => e = .returned (.int .i64 (writeA t' l D).2) ∧ Turns R w g F (writeA t' l D).1 w' := by
  have HB := Lib.hid ((Below.refl w.heap.size w).drew)
  have HL := Lib.hid (hD.lt hR)
  have HA := Lib.hid (wWriteLog hD w.drew g D F t' l (hD.below hR HB.out) ht hl)
  have e0 := hq.c0
  have e3 := hq.c2
  have d0 : (⟨w.heap, w.tape, w.drawn + 1, w.os, w.output⟩ : World).cell? ⟨q, 0, none⟩ = some (pt g) := e0
  have d1 : (⟨w.heap, w.tape, w.drawn + 1, w.os, w.output⟩ : World).cell? ⟨h, 0, none⟩ = some (pt q) := e1
  have d2 : (⟨w.heap, w.tape, w.drawn + 1, w.os, w.output⟩ : World).cell? ⟨h2, 0, none⟩ = some (.int .i64 (t' : Int)) := e2
  have d3 : (⟨w.heap, w.tape, w.drawn + 1, w.os, w.output⟩ : World).cell? ⟨q, 2, none⟩ = some (.int .i64 (l : Int)) := e3
  clear hq hR ht hl
  go_enter Tryz.func82, Tryz.ntmps82
  go_wp2_with fail
  go_still_tail 9, (by kernel_rfl)
  change wpList _ _ _ _ _ w.drew
  generalize w.drew = V at *
  clear d0 d1 d2 d3
  go_wp2_with (first
    | (go_at_call 83; go_loud (refine HA.out.mono ?_; rintro e w2 ⟨rfl, ht⟩)))
  go_ret
  exact ⟨rfl, hD.under1 HB.out ht HL.out⟩

/-! ### a log and its disk -/
structure JAt (R : DRep) (V : World) (q g : Nat) (s : Js) (F : Nat → Prop) : Prop where
  disk : R V g s.D F
  away : ¬ F q
  obj : ∃ t l k b, WObj V q g t l k b ∧ (s.x = none → b = true) ∧ (∀ x, s.x = some x → b = false ∧ t = x.turn ∧ l = x.last ∧ k = x.safe)
def JTurns (R : DRep) (w : World) (q g : Nat) (F : Nat → Prop) (s : Js) (w' : World) : Prop := JAt R w' q g s (nF F w w') ∧ Grow (fun k => F k ∨ k = q) w w'
section
variable {w w' V : World} {q g t l k : Nat} {b : Bool} {s : Js} {D D' : Dk} {F : Nat → Prop}
theorem JAt.lt (h : JAt R V q g s F) : q < V.heap.size := by obtain ⟨t, l, k, b, h1, _⟩ := h.obj; exact h1.lt
theorem JAt.keep (hD : DiskOk R) (h : JAt R w q g s F) (hb : Below w.heap.size w V) : JTurns R w q g F s V := by
  have ht := hD.turn1 h.disk hb
  refine ⟨⟨ht.1, notF h.away h.lt, ?_⟩, Grow.of_below hb⟩
  obtain ⟨t, l, k, b, h1, h2⟩ := h.obj
  exact ⟨t, l, k, b, h1.below hb, h2⟩
theorem JTurns.of (hR : R w' g D' (nF F w w')) (hG : Grow (fun k => F k ∨ k = q) w w') (hq : WObj w' q g t l k b) (hF : ¬ F q) (hl : q < w.heap.size) {x : Option Lg} (h1 : x = none → b = true) (h2 : ∀ y, x = some y → b = false ∧ t = y.turn ∧ l = y.last ∧ k = y.safe) : JTurns R w q g F ⟨D', x⟩ w' :=
  ⟨⟨hR, notF hF hl, t, l, k, b, hq, h1, h2⟩, hG⟩
theorem ws_set (hD : DiskOk R) (hR : R w' g D' (nF F w w')) (hG : Grow (fun k => F k ∨ k = q) w w') (hF : ¬ F q) (hl : q < w.heap.size) (i : Nat) (u : Value) :
    R (w'.setCell ⟨q, i, none⟩ u) g D' (nF F w (w'.setCell ⟨q, i, none⟩ u)) ∧ Grow (fun k => F k ∨ k = q) w (w'.setCell ⟨q, i, none⟩ u) := by
  refine ⟨?_, hG.set (p := ⟨q, i, none⟩) (.inl (.inr rfl)) u⟩
  have := hD.far (i := i) (q := q) hR (notF hF hl) u
  have e : nF F w (w'.setCell ⟨q, i, none⟩ u) = nF F w w' := by unfold nF; rw [set_size]
  rw [e]
  exact this
theorem ws_drew (hD : DiskOk R) (hR : R w' g D' (nF F w w')) (hG : Grow (fun k => F k ∨ k = q) w w') (n : Nat) :
    R (w'.drewN n) g D' (nF F w (w'.drewN n)) ∧ Grow (fun k => F k ∨ k = q) w (w'.drewN n) :=
  ⟨hD.below hR (below_drewN (Below.refl _ _) n), hG.drewN n⟩
end
set_option maxRecDepth 100000 in
theorem sync_run (hD : DiskOk R) (w : World) (q g t l s : Nat) (D : Dk) (F : Nat → Prop) (hR : R w g D F) (hq : WObj w q g t l s false) (hqF : ¬ F q) (k : Nat) (tt tw : TypeId) (hk : k = w.heap.size + 1) :
    Calls Tryz.prog 71 #[pt q, .slice (some ⟨k, 0, none⟩) 1 1] ((w.alloc (.cells #[pt q] tw)).alloc (.cells #[.func (.func 73) #[] #[pt w.heap.size]] tt)) fun e w' => e = .returned (.int .i64 (aSyn nLog D).2) ∧
      R w' g (aSyn nLog D).1 (nF F w w') ∧ Grow (fun k => F k ∨ k = q) w w' ∧ WObj w' q g t l s (decide ((aSyn nLog D).2 ≠ 0)) ∧ w'.cell? ⟨w.heap.size, 0, none⟩ = some (pt q) := by
  have hY : (w.alloc (.cells #[pt q] tw)).heap.size = w.heap.size + 1 := by simp
  have e1 := bcell (X := w.alloc (.cells #[pt q] tw)) (nba (w.alloc (.cells #[pt q] tw)) (.cells #[.func (.func 73) #[] #[pt w.heap.size]] tt)) (a := ⟨w.heap.size, 0, none⟩) (v := pt q) (by simp)
  have hb := jstep (bal (Below.refl w.heap.size w) (.cells #[pt q] tw)) (nba (w.alloc (.cells #[pt q] tw)) (.cells #[.func (.func 73) #[] #[pt w.heap.size]] tt))
  have hfa := lit_f1 (w.alloc (.cells #[pt q] tw)) 73 #[pt w.heap.size] tt
  rw [hY, ← hk] at hfa
  generalize (w.alloc (.cells #[pt q] tw)).alloc (.cells #[.func (.func 73) #[] #[pt w.heap.size]] tt) = X at *
  have h := workX hD w X q g t l s false D F (some ⟨k, 0, none⟩) 1 1 _ [aSyn nLog] hb hR hq hqF hfa (fun a e => by injection e with e; subst e; show w.heap.size ≤ k; omega) rfl (by omega)
    (fun i h args W => by match i, h with | 0, _ => rfl) (fun i h0 h2 D V G hV hG hq hc hn => by
      match i, h0, h2 with
      | 0, _, _ => exact cSy hD V g D G w.heap.size q t l s false hV (hc _ _ (Nat.le_refl _) e1) hq)
  rw [runA_one] at h
  exact h.mono fun e w' ⟨h1, h2, h3, h4, h5⟩ => ⟨h1, h2, h3, h4, h5 _ _ (Nat.le_refl _) e1⟩
set_option maxRecDepth 100000 in
set_option maxHeartbeats 4000000 in
theorem wSync (hD : DiskOk R) (w : World) (q g : Nat) (s : Js) (F : Nat → Prop) (h : JAt R w q g s F) :
    Calls Tryz.prog 22 #[pt q] w fun e w' => e = .returned (.int .i64 s.sync.2) ∧ JTurns R w q g F s.sync.1 w' := by
  obtain ⟨t, l, k, b, hq, o1, o2⟩ := h.obj
  have hql := hq.lt
  have hqF := h.away
  have CK := Lib.hid (wCheck (w.alloc (.cells #[pt q] 28)) q g t l k b (hq.below (nba w _)))
  have HK := Lib.hid (JAt.keep hD h (nba w (.cells #[pt q] 28)))
  obtain ⟨D, x⟩ := s
  cases x with
  | none =>
    obtain rfl := o1 rfl
    rw [show (Js.sync ⟨D, none⟩).2 = 71 from rfl, show (Js.sync ⟨D, none⟩).1 = ⟨D, none⟩ from rfl]
    clear hq h o2
    go_enter Tryz.func22, Tryz.ntmps22
    go_wp2_with (first
      | (go_at_call 67; go_loud (refine CK.out.mono ?_; rintro e w2 ⟨rfl, rfl⟩; rw [if_pos rfl])))
    go_ret
    exact ⟨rfl, HK.out⟩
  | some y =>
    obtain ⟨rfl, rfl, rfl, rfl⟩ := o2 y rfl
    have SR := Lib.hid (sync_run hD w q g y.turn y.last y.safe D F h.disk hq hqF (w.heap.size + 1) 57 28 rfl)
    have hE : (Js.sync ⟨D, some y⟩).2 = (aSyn nLog D).2 := rfl
    have hS : (Js.sync ⟨D, some y⟩).1 = ⟨(aSyn nLog D).1, if (aSyn nLog D).2 = 0 then some ⟨y.turn, y.last, y.last⟩ else none⟩ := rfl
    rw [hE, hS]
    generalize (aSyn nLog D).1 = D' at *
    obtain ⟨e0, he0⟩ : ∃ x, (aSyn nLog D).2 = x := ⟨_, rfl⟩
    rw [he0] at SR ⊢
    clear he0 hE hS h hq o1 o2 HK
    by_cases h0 : e0 = 0
    · subst h0
      rw [if_pos rfl]
      go_enter Tryz.func22, Tryz.ntmps22
      go_wp2_with (first
        | (go_at_call 67; go_loud (refine CK.out.mono ?_; rintro e w2 ⟨rfl, rfl⟩; rw [if_neg (by decide)]))
        | (go_at_call 71; go_loud (refine SR.out.mono ?_; rintro e w3 ⟨rfl, h2, h3, h4, h5⟩)))
      rw [show decide ((0 : Int) ≠ 0) = false from rfl] at h4
      have k2 := h4.c2
      have k3 := h4.c3
      have kz := h4.fz 3
      have d2 : (⟨w3.heap, w3.tape, w3.drawn + 1, w3.os, w3.output⟩ : World).cell? ⟨q, 2, none⟩ = some (.int .i64 (y.last : Int)) := k2
      have d5 : (⟨w3.heap, w3.tape, w3.drawn + 1, w3.os, w3.output⟩ : World).cell? ⟨w.heap.size, 0, none⟩ = some (pt q) := h5
      have HH := Lib.hid (show JTurns R w q g F ⟨D', some ⟨y.turn, y.last, y.last⟩⟩ (w3.drew.setCell ⟨q, 3, none⟩ (.int .i64 (y.last : Int))) from
        JTurns.of (ws_set hD (ws_drew hD h2 h3 1).1 (ws_drew hD h2 h3 1).2 hqF hql 3 _).1 (ws_set hD (ws_drew hD h2 h3 1).1 (ws_drew hD h2 h3 1).2 hqF hql 3 _).2 ((h4.below (Below.refl w3.heap.size w3).drew).set3 y.last) hqF hql (fun e => nomatch e) (fun z e => by injection e with e; subst e; exact ⟨rfl, rfl, rfl, rfl⟩))
      have kz' : w3.drew.frozen? ⟨q, 3, none⟩ = false := kz
      have k3' : w3.drew.cell? ⟨q, 3, none⟩ = some (.int .i64 (y.safe : Int)) := k3
      go_still_tail 7, (by kernel_rfl)
      change wpList _ _ _ _ _ w3.drew
      generalize w3.drew = V at *
      clear d2 d5 k2 k3 kz h2 h3 h4 h5
      go_wp2_with fail
      go_ret
      exact ⟨rfl, HH.out⟩
    · have h0' : (e0 != 0) = true := by simpa using h0
      rw [if_neg h0]
      go_enter Tryz.func22, Tryz.ntmps22
      go_wp2_with (first
        | (go_at_call 67; go_loud (refine CK.out.mono ?_; rintro e w2 ⟨rfl, rfl⟩; rw [if_neg (by decide)]))
        | (go_at_call 71; go_loud (refine SR.out.mono ?_; rintro e w3 ⟨rfl, h2, h3, h4, h5⟩)))
      go_ret
      exact ⟨rfl, JTurns.of h2 h3 h4 hqF hql (fun _ => decide_eq_true h0) (fun z e => nomatch e)⟩
end
end Go.Proofs.YtamglegdgcehaaaGreat
set_option linter.unusedVariables false
namespace Go.Proofs.YtamglegdgcehaaaGreat
open Go.RowKit

section
variable {R : DRep}
theorem At.cells_ {X V : World} {B : Nat} {A : Option Addr} {n : Nat} {xs : List UInt8} (h : At X A n xs) (hk : ∀ a v, B ≤ a.block → X.cell? a = some v → V.cell? a = some v) (hA : 0 < n → InF (fun k => B ≤ k) A) : At V A n xs := by
  refine ⟨h.1, fun h0 => ?_⟩
  obtain ⟨b, o, rfl, hc⟩ := h.2 h0
  exact ⟨b, o, rfl, fun i hi => hk _ _ (hA h0 ⟨b, o, none⟩ rfl) (hc i hi)⟩
theorem own_in {w : World} {B m c : Nat} {A : Option Addr} {l : List UInt8} (h : Own w B (.slice A m c) l) (hl : l.length = m) : 0 < m → InF (fun k => B ≤ k ∧ k < w.heap.size) A := fun h0 a e => by
  obtain ⟨gg, rfl, hg1, hg2⟩ := h.some_' hl h0
  injection e with e
  subst e
  exact ⟨hg1, hg2⟩
set_option maxRecDepth 100000 in
theorem add_run (hD : DiskOk R) (w Y : World) (q g t l s : Nat) (D : Dk) (F : Nat → Prop) (hR : R w g D F) (hq : WObj w q g t l s false) (hqF : ¬ F q) (h h8 k : Nat) (A : Option Addr) (n c : Nat) (xs : List UInt8) (tt : TypeId) (hk : k = Y.heap.size) (hb : Below w.heap.size w Y)
    (e1 : Y.cell? ⟨h, 0, none⟩ = some (pt q)) (e2 : Y.cell? ⟨h8, 0, none⟩ = some (.slice A n c)) (hh : w.heap.size ≤ h) (hh8 : w.heap.size ≤ h8) (hx : At Y A n xs) (hA : 0 < n → InF (fun k => w.heap.size ≤ k ∧ k < Y.heap.size) A) (hn : n ≤ 140000000000000) :
    Calls Tryz.prog 71 #[pt q, .slice (some ⟨k, 0, none⟩) 1 1] (Y.alloc (.cells #[.func (.func 72) #[] #[pt h, pt h8]] tt)) fun e w' => e = .returned (.int .i64 (aApp nLog xs D).2) ∧
      R w' g (aApp nLog xs D).1 (nF F w w') ∧ Grow (fun k => F k ∨ k = q) w w' ∧ WObj w' q g t l s (decide ((aApp nLog xs D).2 ≠ 0)) ∧ w'.cell? ⟨h, 0, none⟩ = some (pt q) := by
  subst hk
  have hYX := nba Y (.cells #[.func (.func 72) #[] #[pt h, pt h8]] tt)
  have hfa := lit_f1 Y 72 #[pt h, pt h8] tt
  have hbs := hb.size
  generalize Y.alloc (.cells #[.func (.func 72) #[] #[pt h, pt h8]] tt) = X at *
  have d1 := bcell hYX e1
  have d2 := bcell hYX e2
  have hxX := hx.below' hYX
  have hs := hYX.size
  have h := workX hD w X q g t l s false D F (some ⟨Y.heap.size, 0, none⟩) 1 1 _ [aApp nLog xs] (hb.trans (hYX.mono hbs)) hR hq hqF hfa (fun a e => by injection e with e; subst e; exact hbs) rfl (by omega)
    (fun i h args W => by match i, h with | 0, _ => rfl) (fun i h0 h2 D V G hV hG hq hc hn2 => by
      match i, h0, h2 with
      | 0, _, _ => exact cAdd1 hD V g D G h h8 q t l s false A n c xs hV (hc _ _ hh d1) (hc _ _ hh8 d2) hq (hxX.cells_ hc (fun h0 a e => (hA h0 a e).1)) (fun h0 a e => (hn2 _ (hA h0 a e).1 (by have := (hA h0 a e).2; omega)).1) hn)
  rw [runA_one] at h
  exact h.mono fun e w' ⟨h1, h2, h3, h4, h5⟩ => ⟨h1, h2, h3, h4, h5 _ _ hh d1⟩
set_option maxRecDepth 100000 in
set_option maxHeartbeats 8000000 in
theorem wAdd (hD : DiskOk R) (w : World) (q g : Nat) (s : Js) (F : Nat → Prop) (A : Option Addr) (n c : Nat) (l : List Op_) (hx : OAt w A n l) (hn : n ≤ 9223372036854775807) (h : JAt R w q g s F) (hmax : ∀ x, s.x = some x → x.last + 1 < 9007199254740991) :
    Calls Tryz.prog 21 #[pt q, .slice A n c] w fun e w' => e = .returned (.tuple #[.int .i64 (((s.add l).2.1 : Nat) : Int), .int .i64 (s.add l).2.2]) ∧ JTurns R w q g F (s.add l).1 w' := by
  obtain ⟨t, ll, k, b, hq, o1, o2⟩ := h.obj
  have hql := hq.lt
  have hqF := h.away
  have CK := Lib.hid (wCheck (w.alloc (.cells #[pt q] 28)) q g t ll k b (hq.below (nba w _)))
  have HK := Lib.hid (fun V hb => JAt.keep (V := V) hD h hb)
  have hxX := hx.below (nba w (.cells #[pt q] 28))
  have CB := Lib.hid (wCheckBatch A n c l _ hxX hn)
  have HQ := Lib.hid hq
  have HR := Lib.hid h.disk
  have hbx := Lib.hid (nba w (.cells #[pt q] 28))
  have HX := Lib.hid hx
  obtain ⟨D, x⟩ := s
  cases x with
  | none =>
    obtain rfl := o1 rfl
    rw [show (Js.add ⟨D, none⟩ l).2.2 = 71 from rfl, show (Js.add ⟨D, none⟩ l).2.1 = 0 from rfl, show (Js.add ⟨D, none⟩ l).1 = ⟨D, none⟩ from rfl]
    clear hq h o2 hx hxX CB
    go_enter Tryz.func21, Tryz.ntmps21
    go_wp2_with (first
      | (go_at_call 67; go_loud (refine CK.out.mono ?_; rintro e w2 ⟨rfl, rfl⟩; rw [if_pos rfl])))
    go_ret2
    exact ⟨rfl, HK.out _ hbx.out⟩
  | some y =>
    obtain ⟨rfl, rfl, rfl, rfl⟩ := o2 y rfl
    have hm := hmax y rfl
    have hm1 : decide ((9007199254740991 : Int) ≤ (y.last : Int) + 1) = false := decide_eq_false (by omega)
    clear hq h o1 o2 hx hxX hmax
    by_cases hops : opsE l = 0
    · obtain ⟨q1, q2, q3, q4⟩ := opsE_ok hops
      have hlen := HX.out.1
      obtain ⟨LB, hLB⟩ : ∃ L, L = batB (y.last + 1) l := ⟨_, rfl⟩
      have hlb : LB.length ≤ 2000000 := by rw [hLB]; exact batB_le _ l (by omega) (by omega) q3
      have BB := Lib.hid (fun V (hb : Below w.heap.size w V) => wBatch (y.last + 1) A n c l V (HX.out.below hb) (by omega) (by omega) q3)
      rw [← hLB] at BB
      have hadd : addE y l = if 65536 < LB.length then 5 else 0 := by unfold addE; rw [if_neg (by rw [hops]; simp), ← hLB]
      rw [hops] at CB
      by_cases hbig : 65536 < LB.length
      · rw [if_pos hbig] at hadd
        have ha : Js.add ⟨D, some y⟩ l = (⟨D, some y⟩, 0, 5) := by
          show (if addE y l ≠ 0 then _ else _) = _
          rw [hadd]
          rfl
        rw [ha]
        clear ha hadd hops hLB q1 q2 q3 q4 hlen
        go_enter Tryz.func21, Tryz.ntmps21
        go_wp2_with (first
          | (go_at_call 67; go_loud (refine CK.out.mono ?_; rintro e w2 ⟨rfl, rfl⟩; rw [if_neg (by decide)]))
          | (go_at_call 68; go_loud (refine CB.out.mono ?_; rintro e w3 ⟨rfl, hb3⟩; have HB3 := Lib.hid (jstep hbx.out hb3); have k2 := (HQ.out.below HB3.out).c2; have kb := bcell hb3 (a := ⟨w.heap.size, 0, none⟩) (v := pt q) (by simp)))
          | (go_at_call 70; go_loud (refine (BB.out _ HB3.out).mono ?_; rintro e w4 ⟨v4, rfl, ho4, hb4⟩; obtain ⟨A4, c4, rfl, hat4, hle4, hcm4, _⟩ := ho4.form; have HB4 := Lib.hid (jstep HB3.out hb4)))
          | (go_at_call 69; go_loud (refine (frame_ok A4 _ c4 LB w4 hat4 hle4 hcm4 (by omega)).mono ?_; rintro e w5 ⟨v5, rfl, ho5, hb5⟩; rw [if_pos hbig] at ho5 ⊢; obtain ⟨A5, c5, rfl, _⟩ := ho5.form; have HB5 := Lib.hid (jstep HB4.out hb5)))
          )
        go_ret2
        exact ⟨rfl, HK.out _ (bal' HB5.out _)⟩
      · rw [if_neg hbig] at hadd
        have ha : Js.add ⟨D, some y⟩ l = (⟨(aApp nLog (fr LB) D).1, if (aApp nLog (fr LB) D).2 = 0 then some ⟨y.turn, y.last + 1, y.safe⟩ else none⟩, (if (aApp nLog (fr LB) D).2 = 0 then y.last + 1 else 0), (aApp nLog (fr LB) D).2) := by
          show (if addE y l ≠ 0 then _ else _) = _
          rw [hadd, hLB]
          rfl
        rw [ha]
        obtain ⟨L1, hL1⟩ : ∃ L, L = fr LB := ⟨_, rfl⟩
        have hl1 : L1.length ≤ 65548 := by rw [hL1]; have := fr_le LB (by omega); omega
        rw [← hL1]
        have HL1 := Lib.hid hL1
        have AR := Lib.hid (fun (Y : World) (h8 k : Nat) (A5 : Option Addr) (c5 : Nat) hk hb e1 e2 hh8 hx hA => add_run hD w Y q g y.turn y.last y.safe D F HR.out HQ.out hqF w.heap.size h8 k A5 L1.length c5 L1 57 hk hb e1 e2 (Nat.le_refl _) hh8 hx hA (by omega))
        generalize (aApp nLog L1 D).1 = D' at *
        obtain ⟨e0, he0⟩ : ∃ x, (aApp nLog L1 D).2 = x := ⟨_, rfl⟩
        rw [he0] at AR ⊢
        clear he0 ha hadd hops hLB q1 q2 q3 q4 hlen hL1
        by_cases h0 : e0 = 0
        · subst h0
          rw [if_pos rfl, if_pos rfl]
          go_enter Tryz.func21, Tryz.ntmps21
          go_wp2_with (first
            | (go_at_call 67; go_loud (refine CK.out.mono ?_; rintro e w2 ⟨rfl, rfl⟩; rw [if_neg (by decide)]))
            | (go_at_call 68; go_loud (refine CB.out.mono ?_; rintro e w3 ⟨rfl, hb3⟩; have HB3 := Lib.hid (jstep hbx.out hb3); have k2 := (HQ.out.below HB3.out).c2; have kb := bcell hb3 (a := ⟨w.heap.size, 0, none⟩) (v := pt q) (by simp)))
            | (go_at_call 70; go_loud (refine (BB.out _ HB3.out).mono ?_; rintro e w4 ⟨v4, rfl, ho4, hb4⟩; obtain ⟨A4, c4, rfl, hat4, hle4, hcm4, _⟩ := ho4.form; have HB4 := Lib.hid (jstep HB3.out hb4); have kb4 := bcell hb4 kb))
            | (go_at_call 69; go_loud (refine (frame_ok A4 _ c4 LB w4 hat4 hle4 hcm4 (by omega)).mono ?_; rintro e w5 ⟨v5, rfl, ho5, hb5⟩; rw [if_neg hbig] at ho5 ⊢; rw [← HL1.out] at ho5; obtain ⟨A5, c5, rfl, hat5, hle5, hcm5, _⟩ := ho5.form; have HO5 := Lib.hid (ho5.base (B' := w.heap.size) HB4.out.size); have HB5 := Lib.hid (jstep HB4.out hb5); have kb5 := bcell hb5 kb4; have kb6 := bcell (nba w5 (.cells #[.slice A5 L1.length c5] 40)) kb5; clear ho5))
            )
          have x2 : (w5.alloc (.cells #[.slice A5 L1.length c5] 40)).cell? ⟨w5.heap.size, 0, none⟩ = some (.slice A5 L1.length c5) := by simp
          have x3 := hat5.below' (nba w5 (.cells #[.slice A5 L1.length c5] 40))
          have x4 : 0 < L1.length → InF (fun k => w.heap.size ≤ k ∧ k < (w5.alloc (.cells #[.slice A5 L1.length c5] 40)).heap.size) A5 := fun h0 a e => wl_in HO5.out h0 e
          refine (AR.out (w5.alloc (.cells #[.slice A5 L1.length c5] 40)) w5.heap.size (w5.heap.size + 1) A5 c5 (by simp) (bal' HB5.out _) kb6 x2 HB5.out.size x3 x4).mono ?_
          rintro e w6 ⟨rfl, h2, h3, h4, h5⟩
          clear x2 x3 x4 kb6 kb5 kb4 kb k2 hb3 hb4 hb5 hat4 hat5 ho4 AR BB CB CK HX HR HQ hbx
          rw [show decide ((0 : Int) ≠ 0) = false from rfl] at h4
          have k2 := h4.c2
          have kz := h4.fz 2
          have HH := Lib.hid (show JTurns R w q g F ⟨D', some ⟨y.turn, y.last + 1, y.safe⟩⟩ (w6.setCell ⟨q, 2, none⟩ (.int .i64 ((y.last + 1 : Nat) : Int))) from
            JTurns.of (ws_set hD h2 h3 hqF hql 2 _).1 (ws_set hD h2 h3 hqF hql 2 _).2 (h4.set2 (y.last + 1)) hqF hql (fun e => nomatch e) (fun z e => by injection e with e; subst e; exact ⟨rfl, rfl, rfl, rfl⟩))
          have k2' : (w6.setCell ⟨q, 2, none⟩ (.int .i64 ((y.last : Int) + 1))).cell? ⟨q, 2, none⟩ = some (.int .i64 ((y.last : Int) + 1)) := (h4.set2 (y.last + 1)).c2
          have k5' : (w6.setCell ⟨q, 2, none⟩ (.int .i64 ((y.last : Int) + 1))).cell? ⟨w.heap.size, 0, none⟩ = some (pt q) := (set_cell w6 (g := q) (i := 2) _ (show w.heap.size ≠ q by omega)).trans h5
          clear h2 h3 h4
          go_wp2_with fail
          go_ret2
          exact ⟨rfl, HH.out⟩
        · have h0' : (e0 != 0) = true := by simpa using h0
          rw [if_neg h0, if_neg h0]
          go_enter Tryz.func21, Tryz.ntmps21
          go_wp2_with (first
            | (go_at_call 67; go_loud (refine CK.out.mono ?_; rintro e w2 ⟨rfl, rfl⟩; rw [if_neg (by decide)]))
            | (go_at_call 68; go_loud (refine CB.out.mono ?_; rintro e w3 ⟨rfl, hb3⟩; have HB3 := Lib.hid (jstep hbx.out hb3); have k2 := (HQ.out.below HB3.out).c2; have kb := bcell hb3 (a := ⟨w.heap.size, 0, none⟩) (v := pt q) (by simp)))
            | (go_at_call 70; go_loud (refine (BB.out _ HB3.out).mono ?_; rintro e w4 ⟨v4, rfl, ho4, hb4⟩; obtain ⟨A4, c4, rfl, hat4, hle4, hcm4, _⟩ := ho4.form; have HB4 := Lib.hid (jstep HB3.out hb4); have kb4 := bcell hb4 kb))
            | (go_at_call 69; go_loud (refine (frame_ok A4 _ c4 LB w4 hat4 hle4 hcm4 (by omega)).mono ?_; rintro e w5 ⟨v5, rfl, ho5, hb5⟩; rw [if_neg hbig] at ho5 ⊢; rw [← HL1.out] at ho5; obtain ⟨A5, c5, rfl, hat5, hle5, hcm5, _⟩ := ho5.form; have HO5 := Lib.hid (ho5.base (B' := w.heap.size) HB4.out.size); have HB5 := Lib.hid (jstep HB4.out hb5); have kb5 := bcell hb5 kb4; have kb6 := bcell (nba w5 (.cells #[.slice A5 L1.length c5] 40)) kb5; clear ho5))
            )
          have x2 : (w5.alloc (.cells #[.slice A5 L1.length c5] 40)).cell? ⟨w5.heap.size, 0, none⟩ = some (.slice A5 L1.length c5) := by simp
          have x3 := hat5.below' (nba w5 (.cells #[.slice A5 L1.length c5] 40))
          have x4 : 0 < L1.length → InF (fun k => w.heap.size ≤ k ∧ k < (w5.alloc (.cells #[.slice A5 L1.length c5] 40)).heap.size) A5 := fun h0 a e => wl_in HO5.out h0 e
          refine (AR.out (w5.alloc (.cells #[.slice A5 L1.length c5] 40)) w5.heap.size (w5.heap.size + 1) A5 c5 (by simp) (bal' HB5.out _) kb6 x2 HB5.out.size x3 x4).mono ?_
          rintro e w6 ⟨rfl, h2, h3, h4, h5⟩
          clear x2 x3 x4 kb6 kb5 kb4 kb k2 hb3 hb4 hb5 hat4 hat5 ho4 AR BB CB CK HX HR HQ hbx
          go_wp2_with fail
          go_ret2
          exact ⟨rfl, JTurns.of h2 h3 h4 hqF hql (fun _ => decide_eq_true h0) (fun z e => nomatch e)⟩
    · have ha : Js.add ⟨D, some y⟩ l = (⟨D, some y⟩, 0, opsE l) := by
        have : addE y l = opsE l := by unfold addE; rw [if_pos hops]
        show (if addE y l ≠ 0 then _ else _) = _
        rw [this, if_pos hops]
      rw [ha]
      have h0' : (opsE l != 0) = true := by simpa using hops
      generalize opsE l = e0 at *
      clear ha
      go_enter Tryz.func21, Tryz.ntmps21
      go_wp2_with (first
        | (go_at_call 67; go_loud (refine CK.out.mono ?_; rintro e w2 ⟨rfl, rfl⟩; rw [if_neg (by decide)]))
        | (go_at_call 68; go_loud (refine CB.out.mono ?_; rintro e w3 ⟨rfl, hb3⟩; have HB3 := Lib.hid (jstep hbx.out hb3))))
      go_ret2
      exact ⟨rfl, HK.out _ HB3.out⟩
end
end Go.Proofs.YtamglegdgcehaaaGreat
set_option linter.unusedVariables false
namespace Go.Proofs.YtamglegdgcehaaaGreat
open Go.RowKit

section
variable {R : DRep}
set_option maxRecDepth 100000 in
theorem ck_run (hD : DiskOk R) (w Y : World) (q g t l s t' : Nat) (D : Dk) (F : Nat → Prop) (hR : R w g D F) (hq : WObj w q g t l s false) (hqF : ¬ F q) (h h7 h8 k : Nat) (A : Option Addr) (n c : Nat) (xs : List UInt8) (tt : TypeId) (hk : k = Y.heap.size) (hb : Below w.heap.size w Y)
    (e1 : Y.cell? ⟨h, 0, none⟩ = some (pt q)) (e7 : Y.cell? ⟨h7, 0, none⟩ = some (.int .i64 (t' : Int))) (e2 : Y.cell? ⟨h8, 0, none⟩ = some (.slice A n c)) (hh : w.heap.size ≤ h) (hh7 : w.heap.size ≤ h7) (hh8 : w.heap.size ≤ h8) (hx : At Y A n xs) (hA : 0 < n → InF (fun k => w.heap.size ≤ k ∧ k < Y.heap.size) A) (hn : n ≤ 140000000000000)
    (ht : t' ≤ 9007199254740991) (hl : l ≤ 9007199254740991) :
    Calls Tryz.prog 71 #[pt q, .slice (some ⟨k, 0, none⟩) 5 5] (Y.alloc (.cells #[.func (.func 76) #[] #[pt h, pt h8], .func (.func 77) #[] #[pt h], .func (.func 78) #[] #[pt h], .func (.func 80) #[] #[pt h], .func (.func 82) #[] #[pt h, pt h7]] tt)) fun e w' => e = .returned (.int .i64 (runA [aApp nNext xs, aSyn nNext, aRen nNext nBase, aRem nLog, writeA t' l] D).2) ∧
      R w' g (runA [aApp nNext xs, aSyn nNext, aRen nNext nBase, aRem nLog, writeA t' l] D).1 (nF F w w') ∧ Grow (fun k => F k ∨ k = q) w w' ∧ WObj w' q g t l s (decide ((runA [aApp nNext xs, aSyn nNext, aRen nNext nBase, aRem nLog, writeA t' l] D).2 ≠ 0)) ∧ w'.cell? ⟨h, 0, none⟩ = some (pt q) ∧ w'.cell? ⟨h7, 0, none⟩ = some (.int .i64 (t' : Int)) := by
  subst hk
  have hYX := nba Y (.cells #[.func (.func 76) #[] #[pt h, pt h8], .func (.func 77) #[] #[pt h], .func (.func 78) #[] #[pt h], .func (.func 80) #[] #[pt h], .func (.func 82) #[] #[pt h, pt h7]] tt)
  have hfa := lit_f5 Y 76 77 78 80 82 #[pt h, pt h8] #[pt h] #[pt h] #[pt h] #[pt h, pt h7] tt
  have hbs := hb.size
  generalize Y.alloc (.cells #[.func (.func 76) #[] #[pt h, pt h8], .func (.func 77) #[] #[pt h], .func (.func 78) #[] #[pt h], .func (.func 80) #[] #[pt h], .func (.func 82) #[] #[pt h, pt h7]] tt) = X at *
  have d1 := bcell hYX e1
  have d2 := bcell hYX e2
  have d7 := bcell hYX e7
  have hxX := hx.below' hYX
  have hs := hYX.size
  have hw := workX hD w X q g t l s false D F (some ⟨Y.heap.size, 0, none⟩) 5 5 _ [aApp nNext xs, aSyn nNext, aRen nNext nBase, aRem nLog, writeA t' l] (hb.trans (hYX.mono hbs)) hR hq hqF hfa (fun a e => by injection e with e; subst e; exact hbs) rfl (by omega)
    (fun i h args W => by match i, h with | 0, _ => rfl | 1, _ => rfl | 2, _ => rfl | 3, _ => rfl | 4, _ => rfl) (fun i h0 h2 D V G hV hG hq hc hn2 => by
      match i, h0, h2 with
      | 0, _, _ => exact cCk1 hD V g D G h h8 q t l s false A n c xs hV (hc _ _ hh d1) (hc _ _ hh8 d2) hq (hxX.cells_ hc (fun h0 a e => (hA h0 a e).1)) (fun h0 a e => (hn2 _ (hA h0 a e).1 (by have := (hA h0 a e).2; omega)).1) hn
      | 1, _, _ => exact cCk2 hD V g D G h q t l s false hV (hc _ _ hh d1) hq
      | 2, _, _ => exact cCk3 hD V g D G h q t l s false hV (hc _ _ hh d1) hq
      | 3, _, _ => exact cCk4 hD V g D G h q t l s false hV (hc _ _ hh d1) hq
      | 4, _, _ => exact cCk5 hD V g D G h h7 q t l s t' false hV (hc _ _ hh d1) (hc _ _ hh7 d7) hq ht hl)
  exact hw.mono fun e w' ⟨h1, h2, h3, h4, h5⟩ => ⟨h1, h2, h3, h4, h5 _ _ hh d1, h5 _ _ hh7 d7⟩
/-- What is there ahead of the works. -/
structure CBx (w : World) (q t' h7 h8 : Nat) (A : Option Addr) (c : Nat) (xs : List UInt8) (V : World) : Prop where
  bel : Below w.heap.size w V
  b1 : V.cell? ⟨w.heap.size, 0, none⟩ = some (pt q)
  b7 : V.cell? ⟨h7, 0, none⟩ = some (.int .i64 (t' : Int))
  b8 : V.cell? ⟨h8, 0, none⟩ = some (.slice A xs.length c)
  l8 : w.heap.size ≤ h8
  own : Own V w.heap.size (.slice A xs.length c) xs
section
variable {w X V z : World} {q t' h7 h8 c : Nat} {A : Option Addr} {xs : List UInt8} {t : TypeId}
theorem CBx.drew (h : CBx w q t' h7 h8 A c xs V) : CBx w q t' h7 h8 A c xs V.drew := ⟨h.bel.drew, h.b1, h.b7, h.b8, h.l8, h.own⟩
theorem CBx.late (hX : Below w.heap.size w X) (x1 : X.cell? ⟨w.heap.size, 0, none⟩ = some (pt q)) (x7 : X.cell? ⟨h7, 0, none⟩ = some (.int .i64 (t' : Int))) (hb : Below X.heap.size X z) (ho : Own z w.heap.size (.slice A xs.length c) xs) :
    CBx w q t' h7 z.heap.size A c xs (z.alloc (.cells #[.slice A xs.length c] t)) := by
  have hbz := hX.trans (hb.mono hX.size)
  exact ⟨bal' hbz _, bcell (jstep hb (nba z _)) x1, bcell (jstep hb (nba z _)) x7, by simp, hbz.size, ho.below (nba z _)⟩
theorem keep3 {a b d i j k n m : Nat} {u va vb vd : Value} (h : V.cell? ⟨a, i, none⟩ = some va ∧ V.cell? ⟨b, j, none⟩ = some vb ∧ V.cell? ⟨d, k, none⟩ = some vd) (na : a ≠ n) (nb : b ≠ n) (nd : d ≠ n) :
    (V.setCell ⟨n, m, none⟩ u).cell? ⟨a, i, none⟩ = some va ∧ (V.setCell ⟨n, m, none⟩ u).cell? ⟨b, j, none⟩ = some vb ∧ (V.setCell ⟨n, m, none⟩ u).cell? ⟨d, k, none⟩ = some vd :=
  ⟨(set_cell V u na).trans h.1, (set_cell V u nb).trans h.2.1, (set_cell V u nd).trans h.2.2⟩
theorem ecell {n : Nat} {u : Value} (hb : Below V.heap.size V z) (h : V.heap[n]? = some (.cells #[u] t (0, 0))) : z.frozen? ⟨n, 0, none⟩ = false ∧ z.cell? ⟨n, 0, none⟩ = some u := by
  have h1 := (hb.block n (Array.getElem?_eq_some_iff.1 h).1).trans h
  exact ⟨rd_frozen h1 0, cell_of_row z n 0 _ _ (0, 0) h1⟩
theorem CBx.early (hX : Below w.heap.size w X) (x1 : X.cell? ⟨w.heap.size, 0, none⟩ = some (pt q)) (x7 : X.cell? ⟨h7, 0, none⟩ = some (.int .i64 (t' : Int))) (hV : Below X.heap.size X V) (hV2 : X.heap.size < V.heap.size) (hrow : V.heap[X.heap.size]? = some (.cells #[.slice none 0 0] t (0, 0))) (hb : Below V.heap.size V z) (ho : Own z V.heap.size (.slice A xs.length c) xs) :
    CBx w q t' h7 X.heap.size A c xs (z.setCell ⟨X.heap.size, 0, none⟩ (.slice A xs.length c)) := by
  have hbz := hX.trans ((jstep hV hb).mono hX.size)
  have hl1 := World.block_lt_of_cell? X _ x1
  have hl7 := World.block_lt_of_cell? X _ x7
  have hz := (hb.block _ hV2).trans hrow
  refine ⟨⟨hbz.os, hbz.tape, hbz.output, by rw [set_size]; exact hbz.size, fun k hk => by rw [set_blk _ _ _ _ (by have := hX.size; omega)]; exact hbz.block k hk⟩, ?_, ?_, ?_, hX.size, ?_⟩
  · rw [World.cell?_of_block (w := z) (set_blk z _ 0 _ (show w.heap.size ≠ X.heap.size from Nat.ne_of_lt hl1))]
    exact bcell (jstep hV hb) x1
  · rw [World.cell?_of_block (w := z) (set_blk z _ 0 _ (show h7 ≠ X.heap.size from Nat.ne_of_lt hl7))]
    exact bcell (jstep hV hb) x7
  · exact cell_of_row _ X.heap.size 0 _ _ (0, 0) (set_row hz 0 _)
  · have h2 := hV.size
    refine (ho.base (Nat.le_trans hX.size h2)).onS fun k hk => set_blk _ _ _ _ (fun e => ?_)
    have := (World.ownsRow.lt ho k hk).1
    omega
end
set_option maxRecDepth 100000 in
set_option maxHeartbeats 8000000 in
theorem wCkp (hD : DiskOk R) (w : World) (q g : Nat) (s : Js) (F : Nat → Prop) (A : Option Addr) (n c : Nat) (l : List Rw) (hx : WAt w A n l) (hn : n ≤ 9223372036854775807) (h : JAt R w q g s F) (hmax : ∀ x, s.x = some x → x.turn < 9007199254740991 ∧ x.last ≤ 9007199254740991) :
    Calls Tryz.prog 23 #[pt q, .slice A n c] w fun e w' => e = .returned (.int .i64 (s.ckp l).2) ∧ JTurns R w q g F (s.ckp l).1 w' := by
  obtain ⟨t, ll, k, b, hq, o1, o2⟩ := h.obj
  have hql := hq.lt
  have hqF := h.away
  have CK := Lib.hid (wCheck (w.alloc (.cells #[pt q] 28)) q g t ll k b (hq.below (nba w _)))
  have HK := Lib.hid (fun V hb => JAt.keep (V := V) hD h hb)
  have hxX := hx.below (nba w (.cells #[pt q] 28))
  have CB := Lib.hid (wCheckRows A n c l _ hxX hn)
  have HQ := Lib.hid hq
  have HR := Lib.hid h.disk
  have hbx := Lib.hid (nba w (.cells #[pt q] 28))
  have HX := Lib.hid hx
  obtain ⟨D, x⟩ := s
  cases x with
  | none =>
    obtain rfl := o1 rfl
    rw [show (Js.ckp ⟨D, none⟩ l).2 = 71 from rfl, show (Js.ckp ⟨D, none⟩ l).1 = ⟨D, none⟩ from rfl]
    clear hq h o2 hx hxX CB
    go_enter Tryz.func23, Tryz.ntmps23
    go_wp2_with (first
      | (go_at_call 67; go_loud (refine CK.out.mono ?_; rintro e w2 ⟨rfl, rfl⟩; rw [if_pos rfl])))
    go_ret
    exact ⟨rfl, HK.out _ hbx.out⟩
  | some y =>
    obtain ⟨rfl, rfl, rfl, rfl⟩ := o2 y rfl
    obtain ⟨hm, hml⟩ := hmax y rfl
    have hm1 : ((y.turn : Int) == 9007199254740991) = false := by simp; omega
    clear hq h o1 o2 hx hxX hmax
    by_cases hops : rowsE l = 0
    · obtain ⟨q1, q2, q3⟩ := rowsE_ok hops
      have hlen := HX.out.1
      obtain ⟨LB, hLB⟩ : ∃ L, L = baseB (y.turn + 1) y.last l := ⟨_, rfl⟩
      have hlb : LB.length ≤ 100000000 := by rw [hLB]; exact baseB_le _ _ l (by omega) (by omega) (by omega) q2
      have BB := Lib.hid (fun V (hb : Below w.heap.size w V) => wBase (y.turn + 1) y.last A n c l V (HX.out.below hb) (by omega) (by omega) hml q2)
      rw [← hLB] at BB
      have ha : Js.ckp ⟨D, some y⟩ l = (⟨(runA [aApp nNext LB, aSyn nNext, aRen nNext nBase, aRem nLog, writeA (y.turn + 1) y.last] D).1, if (runA [aApp nNext LB, aSyn nNext, aRen nNext nBase, aRem nLog, writeA (y.turn + 1) y.last] D).2 = 0 then some ⟨y.turn + 1, y.last, y.last⟩ else none⟩, (runA [aApp nNext LB, aSyn nNext, aRen nNext nBase, aRem nLog, writeA (y.turn + 1) y.last] D).2) := by
        show (if rowsE l ≠ 0 then _ else _) = _
        rw [if_neg (by rw [hops]; simp), hLB]
        rfl
      rw [ha]
      rw [hops] at CB
      have AR := Lib.hid (fun (Y : World) (h7 h8 k : Nat) (A5 : Option Addr) (c5 : Nat) hk hb e1 e7 e2 hh7 hh8 hx hA => ck_run hD w Y q g y.turn y.last y.safe (y.turn + 1) D F HR.out HQ.out hqF w.heap.size h7 h8 k A5 LB.length c5 LB 57 hk hb e1 e7 e2 (Nat.le_refl _) hh7 hh8 hx hA (by omega) (by omega) hml)
      generalize (runA [aApp nNext LB, aSyn nNext, aRen nNext nBase, aRem nLog, writeA (y.turn + 1) y.last] D).1 = D' at *
      obtain ⟨e0, he0⟩ : ∃ x, (runA [aApp nNext LB, aSyn nNext, aRen nNext nBase, aRem nLog, writeA (y.turn + 1) y.last] D).2 = x := ⟨_, rfl⟩
      rw [he0] at AR ⊢
      clear he0 ha hops hLB q1 q2 q3 hlen
      go_enter Tryz.func23, Tryz.ntmps23
      go_wp2_with (first
        | (go_at_call 67; go_loud (refine CK.out.mono ?_; rintro e w2 ⟨rfl, rfl⟩; rw [if_neg (by decide)]))
        | (go_at_call 74; go_loud (refine CB.out.mono ?_; rintro e w3 ⟨rfl, hb3⟩; have HB3 := Lib.hid (jstep hbx.out hb3); have k1 := (HQ.out.below HB3.out).c1; have k2 := (HQ.out.below HB3.out).c2; have kb := bcell hb3 (a := ⟨w.heap.size, 0, none⟩) (v := pt q) (by simp))))
      have hbt : Below w3.heap.size w3 (w3.alloc (.cells #[.int .i64 ((y.turn : Int) + 1)] 3)) := nba w3 _
      have x1 := bcell hbt kb
      have x2 := bcell hbt k2
      have x7 : (w3.alloc (.cells #[.int .i64 ((y.turn : Int) + 1)] 3)).cell? ⟨w3.heap.size, 0, none⟩ = some (.int .i64 (((y.turn + 1 : Nat)) : Int)) := by simp
      have HBX := Lib.hid (jstep HB3.out hbt)
      have l7 := HB3.out.size
      clear hbt kb k1 k2 hb3
      generalize w3.alloc (.cells #[.int .i64 ((y.turn : Int) + 1)] 3) = X at *
      generalize w3.heap.size = h7 at *
      have n1 : w.heap.size ≠ X.heap.size := Nat.ne_of_lt (World.block_lt_of_cell? X _ x1)
      have n7 : h7 ≠ X.heap.size := Nat.ne_of_lt (World.block_lt_of_cell? X _ x7)
      have n2 : q ≠ X.heap.size := Nat.ne_of_lt (World.block_lt_of_cell? X _ x2)
      have m1 := n1.symm
      have m7 := n7.symm
      have m2 := n2.symm
      go_cut [8] from 30 to 36 (fun v wx => ∃ h8 A5 c5, v = pt h8 ∧ Hid (CBx w q (y.turn + 1) h7 h8 A5 c5 LB wx))
      case first =>
        go_region_held3 (fun V => V.cell? ⟨w.heap.size, 0, none⟩ = some (pt q) ∧ V.cell? ⟨h7, 0, none⟩ = some (.int .i64 (((y.turn + 1 : Nat)) : Int)) ∧ V.cell? ⟨q, 2, none⟩ = some (.int .i64 (y.last : Int)))
          (first | with_reducible assumption | go_keep | (refine (set_cell _ _ n1).trans ?_; exact S1.1) | (rw [set_cell _ _ n7]; first | exact S1.2.1 | assumption) | (refine (set_cell _ _ n2).trans ?_; exact S1.2.2))
          (first
            | (go_at_call 75; go_loud (refine (BB.out _ (by repeat (first | assumption | exact HBX.out | with_reducible refine bal' ?_ _ | with_reducible refine Below.drew ?_ | with_reducible refine below_drewN ?_ _))).mono ?_; rintro e z1 ⟨v1, rfl, ho1, hb1⟩; obtain ⟨A5, c5, rfl, _⟩ := ho1.form; have BX1 := jstep (X := X) (by repeat (first | assumption | exact Below.refl _ _ | with_reducible refine bal ?_ _ | with_reducible refine bdr ?_ | with_reducible refine bdrN ?_ _)) hb1; have S1 : z1.cell? ⟨w.heap.size, 0, none⟩ = some (pt q) ∧ z1.cell? ⟨h7, 0, none⟩ = some (.int .i64 (((y.turn + 1 : Nat)) : Int)) ∧ z1.cell? ⟨q, 2, none⟩ = some (.int .i64 (y.last : Int)) := ⟨bcell BX1 x1, bcell BX1 x7, bcell BX1 x2⟩; (first | (have F1 := ecell (n := X.heap.size) (u := .slice none 0 0) (t := 40) hb1 (heap_alloc_new X _); obtain ⟨F1, F2⟩ := F1) | skip))))
        all_goals (try go_wp2_with fail)
        all_goals go_meet
        all_goals first
          | exact ⟨_, _, _, rfl, Lib.hid (CBx.late HBX.out x1 x7 BX1 (ho1.base HBX.out.size))⟩
          | exact ⟨_, _, _, rfl, Lib.hid (CBx.early HBX.out x1 x7 (bdr (nba X _)) (by simp) (heap_alloc_new X _) hb1 ho1)⟩
      case rest =>
        obtain ⟨h8, A5, c5, rfl, HC⟩ := hcut
        obtain ⟨hb5, k1, k7, k8, l8, ho5⟩ := HC.out
        obtain ⟨_, _, hve, hat5, _⟩ := ho5.form
        injection hve with hv1 hv2 hv3
        subst hv1
        subst hv3
        clear hv2 x1 x2 x7 m1 m2 m7 n1 n2 n7 BB
        go_wp2_with fail
        refine (AR.out wc h7 h8 wc.heap.size A5 c5 rfl hb5 k1 k7 k8 l7 l8 hat5 (own_in ho5 rfl)).mono ?_
        rintro e w6 ⟨rfl, h2, h3, h4, h5, h6⟩
        clear AR hb5 k1 k7 k8 l8 ho5 hat5 HC
        by_cases h0 : e0 = 0
        · subst h0
          rw [show decide ((0 : Int) ≠ 0) = false from rfl] at h4
          have s1 := ws_set hD h2 h3 hqF hql 1 (.int .i64 ((y.turn + 1 : Nat) : Int))
          have o1 := h4.set1 (y.turn + 1)
          have kz1 := h4.fz 1
          have kc1 := h4.c1
          have kc5 : (w6.setCell ⟨q, 1, none⟩ (.int .i64 ((y.turn + 1 : Nat) : Int))).cell? ⟨w.heap.size, 0, none⟩ = some (pt q) := (set_cell w6 (g := q) (i := 1) _ (show w.heap.size ≠ q by omega)).trans h5
          rw [show ((y.turn + 1 : Nat) : Int) = (y.turn : Int) + 1 from rfl] at s1 o1 kc5
          clear h2 h3 h4
          go_wp2_with fail
          generalize w6.setCell ⟨q, 1, none⟩ (.int .i64 ((y.turn : Int) + 1)) = w7 at *
          have k2 := o1.c2
          have k3 := o1.c3
          have kz := o1.fz 3
          have d2 : (⟨w7.heap, w7.tape, w7.drawn + 1, w7.os, w7.output⟩ : World).cell? ⟨q, 2, none⟩ = some (.int .i64 (y.last : Int)) := k2
          have d5 : (⟨w7.heap, w7.tape, w7.drawn + 1, w7.os, w7.output⟩ : World).cell? ⟨w.heap.size, 0, none⟩ = some (pt q) := kc5
          have HH := Lib.hid (show JTurns R w q g F ⟨D', some ⟨y.turn + 1, y.last, y.last⟩⟩ (w7.drew.setCell ⟨q, 3, none⟩ (.int .i64 (y.last : Int))) from
            JTurns.of (ws_set hD (ws_drew hD s1.1 s1.2 1).1 (ws_drew hD s1.1 s1.2 1).2 hqF hql 3 _).1 (ws_set hD (ws_drew hD s1.1 s1.2 1).1 (ws_drew hD s1.1 s1.2 1).2 hqF hql 3 _).2 ((o1.below (Below.refl w7.heap.size w7).drew).set3 y.last) hqF hql (fun e => nomatch e) (fun z e => by injection e with e; subst e; exact ⟨rfl, rfl, rfl, rfl⟩))
          have kz' : w7.drew.frozen? ⟨q, 3, none⟩ = false := kz
          have k3' : w7.drew.cell? ⟨q, 3, none⟩ = some (.int .i64 (y.safe : Int)) := k3
          go_still_tail 7, (by kernel_rfl)
          change wpList _ _ _ _ _ w7.drew
          generalize w7.drew = V at *
          clear d2 d5 k2 k3 kz s1 o1
          go_wp2_with fail
          go_ret
          exact ⟨rfl, HH.out⟩
        · have h0' : (e0 != 0) = true := by simpa using h0
          go_wp2_with fail
          go_ret
          exact ⟨rfl, JTurns.of h2 h3 h4 hqF hql (fun _ => decide_eq_true h0) (fun z e => nomatch e)⟩
    · have ha : Js.ckp ⟨D, some y⟩ l = (⟨D, some y⟩, rowsE l) := by
        show (if rowsE l ≠ 0 then _ else _) = _
        rw [if_pos hops]
      rw [ha]
      have h0' : (rowsE l != 0) = true := by simpa using hops
      generalize rowsE l = e0 at *
      clear ha
      go_enter Tryz.func23, Tryz.ntmps23
      go_wp2_with (first
        | (go_at_call 67; go_loud (refine CK.out.mono ?_; rintro e w2 ⟨rfl, rfl⟩; rw [if_neg (by decide)]))
        | (go_at_call 74; go_loud (refine CB.out.mono ?_; rintro e w3 ⟨rfl, hb3⟩; have HB3 := Lib.hid (jstep hbx.out hb3))))
      go_ret
      exact ⟨rfl, HK.out _ HB3.out⟩
end
end Go.Proofs.YtamglegdgcehaaaGreat
