/-
  Layer 8, the code: Open.
  Layer 8, the statements' words: kept, has.
  Layer 8, the walks: a disk, a log on it, and what else the walk holds.
  Layer 8, the walks: the statements' small words (put, gone), and steps with the outcome given.
  Layer 8: the chapter's examples ('works').
-/
import Derived.Test.YtamglegdgcehaaaGreatZ26
import Derived.Test.YtamglegdgcehaaaGreatZ25
import Derived.Handy
import Derived.Test.YtamglegdgcehaaaGreatZ23
import Derived.StillTailTactics
import Derived.Test.YtamglegdgcehaaaGreatZ09
import Derived.Test.YtamglegdgcehaaaGreatZ24
import Derived.Deep.RegionWith
set_option linter.unusedVariables false
namespace Go.Proofs.YtamglegdgcehaaaGreat
open Go.RowKit

/-- What a log has, in memory between two marks. -/
def KIn (w : World) (lo hi : Nat) (v1 v2 : Value) (k : Kp) : Prop :=
  (∃ (V : World) (l : Nat), lo ≤ l ∧ RO V l v1 k.rows ∧ V.heap.size ≤ hi ∧ V.heap.size ≤ w.heap.size ∧ (∀ j, l ≤ j → j < V.heap.size → w.heap[j]? = V.heap[j]?)) ∧
    (∃ (V : World) (l : Nat), lo ≤ l ∧ LB V l v2 k.bats ∧ V.heap.size ≤ hi ∧ V.heap.size ≤ w.heap.size ∧ (∀ j, l ≤ j → j < V.heap.size → w.heap[j]? = V.heap[j]?))
/-- What Open leaves: the object's block stands ahead of what is told, behind that the disk's. -/
def OpenPost (R : DRep) (w : World) (g : Nat) (F : Nat → Prop) (O : Dk × Int × Option (Lg × Kp)) (e : Ending) (w' : World) : Prop :=
  (O.2.2 = none → e = .returned (.tuple #[.pointer none, .agg #[.slice none 0 0, .slice none 0 0], .int .i64 O.2.1]) ∧ Turns R w g F O.1 w') ∧
    (∀ x k, O.2.2 = some (x, k) → ∃ q m v1 v2, e = .returned (.tuple #[pt q, .agg #[v1, v2], .int .i64 0]) ∧ w.heap.size ≤ q ∧ q < m ∧ m ≤ w'.heap.size ∧ JAt R w' q g ⟨O.1, some x⟩ (fun j => F j ∨ (w.heap.size ≤ j ∧ j < q) ∨ (m ≤ j ∧ j < w'.heap.size)) ∧
      KIn w' (q + 1) m v1 v2 k ∧ (∃ A n c, v1 = .slice A n c) ∧ (∃ A n c, v2 = .slice A n c) ∧ Grow F w w')
section
variable {R : DRep}
theorem rm_alive {D : Dk} {nm : ByteArray} (h : (aRm nm D).2 = 0) : (aRm nm D).1.dead = false := by
  unfold aRm at h ⊢
  simp only at h ⊢
  unfold rem
  unfold remE synE at h
  by_cases hn : nmE D nm = 0
  · rw [if_pos hn] at h ⊢
    unfold workE at h
    unfold work
    by_cases hl : D.left = 0
    · rw [if_pos hl] at h; simp at h
    · rw [if_neg hl]
      show D.dead = false
      unfold nmE at hn
      cases hd : D.dead with
      | false => rfl
      | true => rw [hd] at hn; simp at hn
  · rw [if_neg hn] at h ⊢
    unfold nmE at hn h
    cases hd : D.dead with
    | false => rfl
    | true => rw [hd] at h; simp at h
theorem ret_kept {fn : Func} {Q : Ending → World → Prop} {a : Act} {w : World} {p0 p u : Tmp} {g n1 c1 n2 c2 : Nat} {A1 A2 : Option Addr} (hr : fn.results = #[.tmp p0, .cell p 49, .tmp u]) (hp : a.tmps.getD p undef = .pointer (some ⟨g, 0, none⟩))
    (hB : Blk w g 49 #[.slice A1 n1 c1, .slice A2 n2 c2]) (hd : a.defers = []) (hR : Q (.returned (.tuple #[a.tmps.getD p0 undef, .agg #[.slice A1 n1 c1, .slice A2 n2 c2], a.tmps.getD u undef])) w) : bodyPost Tryz.prog fn Q .ret a w := by
  refine bodyPost_ret ?_ hd hR
  have hp' : a.tmps[p]?.getD undef = .pointer (some ⟨g, 0, none⟩) := by simpa using hp
  simp [results, hr, hp', asAddr, run_loadVar_row w g 49 49 _ (0, 0) _ hB Tryz.underlying49 rfl (by kernel_rfl)]
theorem rNum_le (x : Rd) : (rNum x).1 ≤ 9007199254740991 := by
  obtain ⟨r, _, _, _, _, h⟩ := rNum_take x
  exact h
theorem opnBase_le {D : Dk} {t n : Nat} {rows : List Rw} (h : opnBase D = some (t, n, rows)) : t ≤ 9007199254740991 ∧ n ≤ 9007199254740991 := by
  unfold opnBase at h
  split at h
  · rw [rdBaseL_eq] at h
    cases hl : alls (rdB D nBase) with
    | nil => rw [hl] at h; cases h
    | cons p ps =>
      rw [hl, rdBaseL_cons, rdBaseH_eq] at h
      split at h
      · cases h
      · by_cases hb : rDone (baR p) = true ∧ 1 ≤ baA p
        · rw [if_pos hb] at h
          simp only at h
          split at h
          · cases h
          · split at h
            · cases h
            · split at h
              · injection h with h
                injection h with h1 h2
                injection h2 with h2 h3
                subst h1
                subst h2
                exact ⟨rNum_le _, rNum_le _⟩
              · cases h
        · rw [if_neg hb] at h
          cases h
  · injection h with h
    injection h with h1 h2
    injection h2 with h2 h3
    omega
theorem opnLog_some (D : Dk) (t n : Nat) (rows : List Rw) : ((opnLog D t n rows).2.2 = none ∧ (opnLog D t n rows).2.1 ≠ 0) ∨ (∃ x k, (opnLog D t n rows).2.2 = some (x, k) ∧ (opnLog D t n rows).2.1 = 0) := by
  rw [opnLog_eq]
  cases rdLog t n (rdB D nLog) with
  | wrong => exact .inl ⟨rfl, by simp [Found.does]⟩
  | anew =>
    by_cases h : (renewA t n D).2 = 0
    · exact .inr ⟨_, _, by simp only [Found.does]; rw [if_pos h], h⟩
    · exact .inl ⟨by simp only [Found.does]; rw [if_neg h], h⟩
  | goes bs size =>
    by_cases h : (keepA size (rdB D nLog).length D).2 = 0
    · exact .inr ⟨_, _, by simp only [Found.does]; rw [if_pos h], h⟩
    · exact .inl ⟨by simp only [Found.does]; rw [if_neg h], h⟩
/-- The result's block, set. -/
theorem kept_set (hD : DiskOk R) {w V : World} {g b i j : Nat} {D : Dk} {F G : Nat → Prop} {u1 u2 : Value} (hR : R V g D G) (hb : ¬ G b) : R ((V.setCell ⟨b, i, none⟩ u1).setCell ⟨b, j, none⟩ u2) g D G := hD.far (hD.far hR hb u1) hb u2
theorem open_err (hD : DiskOk R) {w V : World} {g : Nat} {F G : Nat → Prop} {D : Dk} (hl : ∀ k, F k → k < w.heap.size) (hR : R V g D G) (hG : ∀ k, G k → F k ∨ (w.heap.size < k ∧ k < V.heap.size)) (hs : w.heap.size < V.heap.size) (hGr : Grow F w V) (u1 u2 : Value) :
    Turns R w g F D ((V.setCell ⟨w.heap.size, 0, none⟩ u1).setCell ⟨w.heap.size, 1, none⟩ u2) := by
  have hnb : ¬ G w.heap.size := fun e => by
    rcases hG _ e with e | e
    · exact absurd (hl _ e) (Nat.lt_irrefl _)
    · omega
  refine ⟨hD.mono (kept_set hD (F := F) (w := w) hR hnb) (fun k e => ?_) (fun k e => ?_), (hGr.set (p := ⟨w.heap.size, 0, none⟩) (.inr (Nat.le_refl _)) _).set (p := ⟨w.heap.size, 1, none⟩) (.inr (Nat.le_refl _)) _⟩
  · rcases hG k e with e | e
    · exact .inl e
    · exact .inr ⟨by omega, by rw [set_size, set_size]; exact e.2⟩
  · rw [set_size, set_size]
    rcases e with e | e
    · have := hl k e; omega
    · have h := e.2; rw [set_size, set_size] at h; exact h
theorem Grow.upon {F G : Nat → Prop} {w V V' : World} (h : Grow F w V) (h2 : Grow G V V') (hG : ∀ k, k < w.heap.size → G k → F k) : Grow F w V' :=
  ⟨h2.os.trans h.os, h2.tape.trans h.tape, h2.output.trans h.output, Nat.le_trans h.size h2.size, fun k hk hn => (h2.block k (Nat.lt_of_lt_of_le hk h.size) (fun e => hn (hG k hk e))).trans (h.block k hk hn)⟩
set_option maxRecDepth 100000 in
set_option maxHeartbeats 16000000 in
theorem wOpen (hD : DiskOk R) (w : World) (g : Nat) (D : Dk) (F : Nat → Prop) (hR : R w g D F) :
    Calls Tryz.prog 19 #[pt g] w fun e w' => OpenPost R w g F (opn D) e w' := by
  have hl := hD.lt hR
  have HL := Lib.hid hl
  have HD := Lib.hid hD
  have HR := Lib.hid hR
  have RM := Lib.hid (fun V (hb : Below w.heap.size w V) => wRemove hD V g D F nNext (hD.below hR hb))
  have hop : opn D = if (aRm nNext D).2 ≠ 0 then ((aRm nNext D).1, (aRm nNext D).2, none) else match opnBase (aRm nNext D).1 with
    | none => ((aRm nNext D).1, 80, none)
    | some (t, n, rows) => opnLog (aRm nNext D).1 t n rows := rfl
  have hal := Lib.hid (fun h => rm_alive (D := D) (nm := nNext) h)
  obtain ⟨O, hO⟩ : ∃ O, opn D = O := ⟨_, rfl⟩
  rw [hO] at hop ⊢
  generalize (aRm nNext D).1 = D1 at *
  obtain ⟨e0, he0⟩ : ∃ x, (aRm nNext D).2 = x := ⟨_, rfl⟩
  rw [he0] at RM hop hal
  have HO := Lib.hid hop
  clear hop hO he0 hl hR
  by_cases h0 : e0 = 0
  · subst h0
    go_enter Tryz.func19, Tryz.ntmps19
    go_wp2_with fail
    refine (RM.out _ (nba w _)).mono ?_
    rintro e w1 ⟨rfl, ht1⟩
    obtain ⟨hR1, hG1⟩ := ht1
    have hs0 : (w.alloc (.cells #[.slice none 0 0, .slice none 0 0] 49)).heap.size = w.heap.size + 1 := by simp
    have hs1 := hG1.size
    have hz := hG1.row_ (heap_alloc_new w (.cells #[.slice none 0 0, .slice none 0 0] 49)) (fun e => absurd (HL.out _ e) (Nat.lt_irrefl _))
    have GW1 := Lib.hid ((Grow.of_below (nba w (.cells #[.slice none 0 0, .slice none 0 0] 49))).trans (hG1.mono (G := nF F w (w.alloc (.cells #[.slice none 0 0, .slice none 0 0] 49))) (fun k e => .inl e)))
    obtain ⟨F1, hF1⟩ : ∃ F1, F1 = nF F (w.alloc (.cells #[.slice none 0 0, .slice none 0 0] 49)) w1 := ⟨_, rfl⟩
    rw [← hF1] at hR1
    have HF1 := Lib.hid (show ∀ k, F1 k → F k ∨ (w.heap.size < k ∧ k < w1.heap.size) from fun k e => by rw [hF1] at e; rcases e with e | e; exact .inl e; exact .inr ⟨by omega, e.2⟩)
    have HF1l := Lib.hid (fun k e => hD.lt hR1 k e)
    rw [hs0] at hs1
    have HDD := Lib.hid (hal.out trivial)
    have hbq := nba w1 (.cells #[pt g, .int .i64 1, .int .i64 0, .int .i64 0, .bool false] 84)
    have hqX : WObj (w1.alloc (.cells #[pt g, .int .i64 1, .int .i64 0, .int .i64 0, .bool false] 84)) w1.heap.size g 1 0 0 false := heap_alloc_new w1 _
    have OB := Lib.hid (wOpenBase hD _ w1.heap.size g D1 F1 (hD.below hR1 hbq) hqX (fun e => absurd (HF1l.out _ e) (Nat.lt_irrefl _)) HDD.out)
    have HR1 := Lib.hid hR1
    have hsX : (w1.alloc (.cells #[pt g, .int .i64 1, .int .i64 0, .int .i64 0, .bool false] 84)).heap.size = w1.heap.size + 1 := by simp
    have HZ := Lib.hid hz
    clear hR1 hG1 hF1 hqX hz RM hal
    have HO1 := Lib.hid (show O = match opnBase D1 with
      | none => (D1, 80, none)
      | some (t, n, rows) => opnLog D1 t n rows from by rw [HO.out]; rfl)
    clear HO
    go_wp2_with fail
    refine OB.out.mono ?_
    rintro e w2 ⟨i1, i2, hG2⟩
    have HG2 := Lib.hid ((Grow.of_below (F := fun k => k = w1.heap.size) hbq).trans (hG2.mono (fun k e => .inl e)))
    have GW2 := Lib.hid (GW1.out.upon HG2.out (fun k hk e => by omega))
    have hs2 := HG2.out.size
    have hs2' := hG2.size
    rw [hsX] at hs2'
    have HR2 := Lib.hid (show R w2 g D1 F1 from hD.on HR1.out hs2 (fun k e => HG2.out.block k (HF1l.out k e) (fun e2 => absurd (HF1l.out k e) (by omega))))
    have HZ2 := Lib.hid (show w2.heap[w.heap.size]? = _ from (HG2.out.block w.heap.size (by omega) (by omega)).trans HZ.out)
    clear OB HR1 HZ hbq
    cases hob : opnBase D1 with
    | none =>
      obtain rfl := i1 hob
      have HO2 := Lib.hid (show O = (D1, 80, none) from by rw [HO1.out, hob])
      have hz := HZ2.out
      have z0 : w2.cell? ⟨w.heap.size, 0, none⟩ = some (.slice none 0 0) := cell_of_row w2 w.heap.size 0 _ _ (0, 0) hz
      have z1 : w2.cell? ⟨w.heap.size, 1, none⟩ = some (.slice none 0 0) := cell_of_row w2 w.heap.size 1 _ _ (0, 0) hz
      have f0 : w2.frozen? ⟨w.heap.size, 0, none⟩ = false := by simp [World.frozen?, hz]
      have f1 : w2.frozen? ⟨w.heap.size, 1, none⟩ = false := by simp [World.frozen?, hz]
      clear i1 i2 HO1
      go_wp2_with fail
      refine ret_kept rfl rfl (Blk.set_ (Blk.set_ hz 0 _) 1 _) rfl ?_
      refine ⟨fun _ => ⟨by rw [HO2.out]; rfl, ?_⟩, fun x k h => by rw [HO2.out] at h; cases h⟩
      rw [HO2.out]
      exact open_err hD HL.out HR2.out (fun k e => by rcases HF1.out k e with e | e; exact .inl e; exact .inr ⟨e.1, by omega⟩) (by omega) GW2.out _ _
    | some tnr =>
      obtain ⟨t, n, rows⟩ := tnr
      obtain ⟨vr, rfl, hro, hq2⟩ := i2 t n rows hob
      obtain ⟨Ar, cr, rfl, _⟩ := hro.form
      obtain ⟨ht, hn⟩ := opnBase_le hob
      have HO2 := Lib.hid (show O = opnLog D1 t n rows from by rw [HO1.out, hob])
      have OL := Lib.hid (wOpenLog hD w2 w1.heap.size g t n rows D1 F1 HR2.out hq2 (fun e => absurd (HF1l.out _ e) (Nat.lt_irrefl _)) HDD.out ht hn)
      have hcase := opnLog_some D1 t n rows
      rw [← HO2.out] at OL hcase
      have HRO := Lib.hid hro
      clear i1 i2 HO1 HO2 hro hq2 hob
      obtain ⟨O1, E, X⟩ := O
      simp only at hcase
      go_wp2_with fail
      refine OL.out.mono ?_
      rintro e w3 ⟨vb, rfl, m, hm1, hm2, hR3, hG3, ⟨Ab, nb, cb, rfl⟩, hlog⟩
      have GW3 := Lib.hid (GW2.out.upon hG3 (fun k hk e => by rcases e with e | e; rcases HF1.out k e with e | e; exact e; omega; omega))
      have hs3 := hG3.size
      have HZ3 := Lib.hid (show w3.heap[w.heap.size]? = _ from (hG3.block w.heap.size (by omega) (fun e => by rcases e with e | e; rcases HF1.out _ e with e | e; exact absurd (HL.out _ e) (Nat.lt_irrefl _); omega; omega)).trans HZ2.out)
      have hz := HZ3.out
      have z0 : w3.cell? ⟨w.heap.size, 0, none⟩ = some (.slice none 0 0) := cell_of_row w3 w.heap.size 0 _ _ (0, 0) hz
      have z1 : w3.cell? ⟨w.heap.size, 1, none⟩ = some (.slice none 0 0) := cell_of_row w3 w.heap.size 1 _ _ (0, 0) hz
      have f0 : w3.frozen? ⟨w.heap.size, 0, none⟩ = false := by simp [World.frozen?, hz]
      have f1 : w3.frozen? ⟨w.heap.size, 1, none⟩ = false := by simp [World.frozen?, hz]
      rcases hcase with ⟨rfl, hE⟩ | ⟨x, k, rfl, rfl⟩
      · have hE' : (E != 0) = true := by simpa using hE
        simp only at hR3
        have HR3 := Lib.hid hR3
        clear hlog OL hR3
        go_wp2_with fail
        refine ret_kept rfl rfl (Blk.set_ (Blk.set_ hz 0 _) 1 _) rfl ?_
        refine ⟨fun _ => ⟨rfl, ?_⟩, fun x k h => by cases h⟩
        exact open_err hD HL.out HR3.out (fun k e => by rcases e with e | e; rcases HF1.out k e with e | e; exact .inl e; exact .inr ⟨e.1, by omega⟩; exact .inr ⟨by omega, e.2⟩) (by omega) GW3.out _ _
      · obtain ⟨hlm, hq3, rfl, hsf, hrows⟩ := hlog x k rfl
        have HR3 := Lib.hid hR3
        have HQ3 := Lib.hid hq3
        have k2 := hq3.c2
        have k3 := hq3.c3
        have f3 := hq3.fz 3
        have HLM := Lib.hid hlm
        have n1 : w.heap.size ≠ w1.heap.size := by omega
        have n2 := n1.symm
        have y0 := (set_cell w3 (g := w1.heap.size) (i := 3) (x := w.heap.size) (j := 0) (.int .i64 (x.last : Int)) n1).trans z0
        have y1 := (set_cell w3 (g := w1.heap.size) (i := 3) (x := w.heap.size) (j := 1) (.int .i64 (x.last : Int)) n1).trans z1
        have hz4 := (set_blk w3 w1.heap.size 3 (.int .i64 (x.last : Int)) n1).trans hz
        have g0 : (w3.setCell ⟨w1.heap.size, 3, none⟩ (.int .i64 (x.last : Int))).frozen? ⟨w.heap.size, 0, none⟩ = false := by simp [World.frozen?, hz4]
        have g1 : (w3.setCell ⟨w1.heap.size, 3, none⟩ (.int .i64 (x.last : Int))).frozen? ⟨w.heap.size, 1, none⟩ = false := by simp [World.frozen?, hz4]
        have HZ4 := Lib.hid hz4
        clear hlog OL hR3 hq3 hlm z0 z1 f0 f1 hz hz4
        go_wp2_with fail
        refine ret_kept rfl rfl (Blk.set_ (Blk.set_ HZ4.out 0 _) 1 _) rfl ?_
        refine ⟨fun h => (by cases h), fun x' k' h => ?_⟩
        injection h with h
        injection h with h1 h2
        subst h1
        subst h2
        have hszZ : (((w3.setCell ⟨w1.heap.size, 3, none⟩ (.int .i64 (x.last : Int))).setCell ⟨w.heap.size, 0, none⟩ (.slice Ar rows.length cr)).setCell ⟨w.heap.size, 1, none⟩ (.slice Ab nb cb)).heap.size = w3.heap.size := by rw [set_size, set_size, set_size]
        have hblk : ∀ j, j ≠ w1.heap.size → j ≠ w.heap.size → (((w3.setCell ⟨w1.heap.size, 3, none⟩ (.int .i64 (x.last : Int))).setCell ⟨w.heap.size, 0, none⟩ (.slice Ar rows.length cr)).setCell ⟨w.heap.size, 1, none⟩ (.slice Ab nb cb)).heap[j]? = w3.heap[j]? := fun j h1 h2 => by
          rw [set_blk _ _ _ _ h2, set_blk _ _ _ _ h2, set_blk _ _ _ _ h1]
        have hnq : ¬ (F1 w1.heap.size ∨ (m ≤ w1.heap.size ∧ w1.heap.size < w3.heap.size)) := fun e => by
          rcases e with e | e
          · exact absurd (HF1l.out _ e) (Nat.lt_irrefl _)
          · omega
        have hnb : ¬ (F1 w.heap.size ∨ (m ≤ w.heap.size ∧ w.heap.size < w3.heap.size)) := fun e => by
          rcases e with e | e
          · rcases HF1.out _ e with e | e
            · exact absurd (HL.out _ e) (Nat.lt_irrefl _)
            · omega
          · omega
        have hRz := hD.far (i := 1) (hD.far (i := 0) (hD.far (i := 3) HR3.out hnq (.int .i64 (x.last : Int))) hnb (.slice Ar rows.length cr)) hnb (.slice Ab nb cb)
        have hGz : Grow F w (((w3.setCell ⟨w1.heap.size, 3, none⟩ (.int .i64 (x.last : Int))).setCell ⟨w.heap.size, 0, none⟩ (.slice Ar rows.length cr)).setCell ⟨w.heap.size, 1, none⟩ (.slice Ab nb cb)) :=
          ((GW3.out.set (p := ⟨w1.heap.size, 3, none⟩) (.inr (by show w.heap.size ≤ w1.heap.size; omega)) _).set (p := ⟨w.heap.size, 0, none⟩) (.inr (Nat.le_refl _)) _).set (p := ⟨w.heap.size, 1, none⟩) (.inr (Nat.le_refl _)) _
        have hqz : WObj (((w3.setCell ⟨w1.heap.size, 3, none⟩ (.int .i64 (x.last : Int))).setCell ⟨w.heap.size, 0, none⟩ (.slice Ar rows.length cr)).setCell ⟨w.heap.size, 1, none⟩ (.slice Ab nb cb)) w1.heap.size g x.turn x.last x.last false :=
          (set_blk _ _ _ _ n2).trans ((set_blk _ _ _ _ n2).trans (HQ3.out.set3 x.last))
        generalize ((w3.setCell ⟨w1.heap.size, 3, none⟩ (.int .i64 (x.last : Int))).setCell ⟨w.heap.size, 0, none⟩ (.slice Ar rows.length cr)).setCell ⟨w.heap.size, 1, none⟩ (.slice Ab nb cb) = Z at *
        have hro := HRO.out
        rw [hsX] at hro
        obtain ⟨V2, hV1, hV2, hV3, hV4⟩ := HLM.out
        refine ⟨w1.heap.size, m, _, _, rfl, by omega, by omega, by omega, ⟨?_, ?_, x.turn, x.last, x.last, false, hqz, (fun e => nomatch e), fun y e => ?_⟩, ⟨⟨w2, w1.heap.size + 1, Nat.le_refl _, by rw [hrows]; exact hro, hm1, by omega, fun j h1 h2 => ?_⟩, ⟨V2, w2.heap.size, hs2', hV1, hV2, by omega, fun j h1 h2 => ?_⟩⟩, ⟨_, _, _, rfl⟩, ⟨_, _, _, rfl⟩, hGz⟩
        · refine hD.mono hRz (fun j e => ?_) (fun j e => ?_)
          · rcases e with e | e
            · rcases HF1.out j e with e | e
              · exact .inl e
              · exact .inr (.inl ⟨by omega, e.2⟩)
            · exact .inr (.inr (by rw [hszZ]; exact e))
          · rcases e with e | e | e
            · have := HL.out j e; omega
            · omega
            · exact e.2
        · rintro (e | e | e)
          · have := HL.out _ e; omega
          · omega
          · omega
        · injection e with e
          subst e
          exact ⟨rfl, rfl, rfl, hsf.symm⟩
        · rw [hblk j (by omega) (by omega)]
          exact hG3.block j h2 (fun e => by rcases e with e | e; exact absurd (HF1l.out _ e) (by omega); omega)
        · rw [hblk j (by omega) (by omega)]
          exact hV4 j h1 h2
  · have h0' : (e0 != 0) = true := by simpa using h0
    have HO2 := Lib.hid (show O = (D1, e0, none) from by rw [HO.out, if_pos h0])
    clear HO
    go_enter Tryz.func19, Tryz.ntmps19
    go_wp2_with fail
    refine (RM.out _ (nba w _)).mono ?_
    rintro e w1 ⟨rfl, ht1⟩
    have hz := ht1.2.row_ (heap_alloc_new w (.cells #[.slice none 0 0, .slice none 0 0] 49)) (fun e => absurd (HL.out _ e) (Nat.lt_irrefl _))
    have z0 : w1.cell? ⟨w.heap.size, 0, none⟩ = some (.slice none 0 0) := cell_of_row w1 w.heap.size 0 _ _ (0, 0) hz
    have z1 : w1.cell? ⟨w.heap.size, 1, none⟩ = some (.slice none 0 0) := cell_of_row w1 w.heap.size 1 _ _ (0, 0) hz
    have f0 : w1.frozen? ⟨w.heap.size, 0, none⟩ = false := by simp [World.frozen?, hz]
    have f1 : w1.frozen? ⟨w.heap.size, 1, none⟩ = false := by simp [World.frozen?, hz]
    go_wp2_with fail
    refine ret_kept rfl rfl (Blk.set_ (Blk.set_ hz 0 _) 1 _) rfl ?_
    refine ⟨fun _ => ⟨by rw [HO2.out]; rfl, ?_⟩, fun x k h => by rw [HO2.out] at h; cases h⟩
    rw [HO2.out]
    have hnb : ¬ nF F (w.alloc (.cells #[.slice none 0 0, .slice none 0 0] 49)) w1 w.heap.size := fun e => by
      rcases e with e | e
      · exact absurd (HL.out _ e) (Nat.lt_irrefl _)
      · have := e.1; simp at this; omega
    have hs1 := ht1.2.size
    have hs0 : (w.alloc (.cells #[.slice none 0 0, .slice none 0 0] 49)).heap.size = w.heap.size + 1 := by simp
    refine ⟨hD.mono (kept_set hD (F := F) (w := w) ht1.1 hnb) (fun k e => ?_) (fun k e => ?_), ?_⟩
    · rcases e with e | e
      · exact .inl e
      · exact .inr ⟨by omega, by rw [set_size, set_size]; exact e.2⟩
    · rw [set_size, set_size]
      rcases e with e | e
      · have := HL.out k e; omega
      · have h := e.2; rw [set_size, set_size] at h; exact h
    · exact (((Grow.of_below (nba w _)).trans (ht1.2.mono (fun k e => .inl e))).set (p := ⟨w.heap.size, 0, none⟩) (.inr (Nat.le_refl _)) _).set (p := ⟨w.heap.size, 1, none⟩) (.inr (Nat.le_refl _)) _
end
end Go.Proofs.YtamglegdgcehaaaGreat
set_option linter.unusedVariables false
namespace Go.Proofs.YtamglegdgcehaaaGreat
open Go.RowKit

theorem ret_kept8 {fn : Func} {Q : Ending → World → Prop} {a : Act} {w : World} {p : Tmp} {g n1 c1 n2 c2 : Nat} {A1 A2 : Option Addr} (hr : fn.results = #[.cell p 88]) (hp : a.tmps.getD p undef = .pointer (some ⟨g, 0, none⟩))
    (hB : Blk w g 88 #[.slice A1 n1 c1, .slice A2 n2 c2]) (hd : a.defers = []) (hR : Q (.returned (.agg #[.slice A1 n1 c1, .slice A2 n2 c2])) w) : bodyPost Tryz.prog fn Q .ret a w := by
  refine bodyPost_ret ?_ hd hR
  have hp' : a.tmps[p]?.getD undef = .pointer (some ⟨g, 0, none⟩) := by simpa using hp
  simp [results, hr, hp', asAddr, run_loadVar_row w g 88 88 _ (0, 0) _ hB Tryz.underlying88 rfl (by kernel_rfl)]
set_option maxRecDepth 100000 in
set_option maxHeartbeats 4000000 in
theorem wKept (A1 A2 : Option Addr) (n1 n2 c1 c2 : Nat) (w : World) :
    Calls Tryz.prog 41 #[.agg #[.slice A1 n1 c1, .slice A2 n2 c2]] w fun e w' => e = .returned (.agg #[.slice A1 n1 c1, .slice A2 n2 c2]) ∧ Below w.heap.size w w' := by
  go_enter Tryz.func41, Tryz.ntmps41
  go_wp2
  have hb := bal (bal (Below.refl w.heap.size w) (.cells #[.slice A1 n1 c1, .slice A2 n2 c2] 49)) (.cells #[.slice A1 n1 c1, .slice A2 n2 c2] 88)
  refine ret_kept8 rfl rfl (?_ : Blk _ (w.heap.size + 1) _ _) rfl ⟨rfl, hb⟩
  have h1 := heap_alloc_new (w.alloc (.cells #[.slice A1 n1 c1, .slice A2 n2 c2] 49)) (.cells #[.slice A1 n1 c1, .slice A2 n2 c2] 88)
  have h2 : (w.alloc (.cells #[.slice A1 n1 c1, .slice A2 n2 c2] 49)).heap.size = w.heap.size + 1 := by simp
  rw [h2] at h1
  exact h1
set_option maxRecDepth 100000 in
set_option maxHeartbeats 4000000 in
theorem wHas (A1 A2 B1 B2 : Option Addr) (n1 n2 m1 m2 c1 c2 d1 d2 : Nat) (r1 r2 : List Rw) (b1 b2 : List (List Op_)) (w : World) (hr1 : WAt w A1 n1 r1) (hr2 : WAt w B1 m1 r2) (hb1 : BAt w A2 n2 b1) (hb2 : BAt w B2 m2 b2)
    (hn1 : n1 ≤ 9223372036854775807) (hn2 : n2 ≤ 9223372036854775807) (hm1 : m1 ≤ 9223372036854775807) (hm2 : m2 ≤ 9223372036854775807) :
    Calls Tryz.prog 33 #[.agg #[.slice A1 n1 c1, .slice A2 n2 c2], .slice B1 m1 d1, .slice B2 m2 d2] w fun e w' => e = .returned (.bool (decide (r1 = r2 ∧ b1 = b2))) ∧ Below w.heap.size w w' := by
  have SM := Lib.hid (fun V (hb : Below w.heap.size w V) => wSame A1 A2 B1 B2 n1 n2 m1 m2 c1 c2 d1 d2 r1 r2 b1 b2 V (hr1.below hb) (hr2.below hb) (hb1.below hb) (hb2.below hb) hn1 hn2 hm1 hm2)
  have hb0 := nba w (.cells #[.slice A1 n1 c1, .slice A2 n2 c2] 49)
  have h1 := heap_alloc_new w (.cells #[.slice A1 n1 c1, .slice A2 n2 c2] 49)
  have hk : ∃ q, q = w.heap.size := ⟨_, rfl⟩
  have HB0 := Lib.hid hb0
  have HN := Lib.hid h1
  clear hr1 hr2 hb1 hb2 hb0 h1
  go_enter Tryz.func33, Tryz.ntmps33
  go_wp2_with fail
  generalize w.alloc (.cells #[.slice A1 n1 c1, .slice A2 n2 c2] 49) = X at *
  go_at_call 41
  refine (wKept A1 A2 n1 n2 c1 c2 X).mono ?_
  rintro e w2 ⟨rfl, hb2⟩
  have HB2 := Lib.hid (jstep HB0.out hb2)
  have S2 := Lib.hid (SM.out w2 HB2.out)
  clear SM hb2
  go_wp2_with fail
  refine S2.out.mono ?_
  rintro e w3 ⟨rfl, hb3⟩
  go_wp2_with fail
  go_ret
  exact ⟨by simp, jstep HB2.out hb3⟩
end Go.Proofs.YtamglegdgcehaaaGreat
set_option linter.unusedVariables false
namespace Go.Proofs.YtamglegdgcehaaaGreat
open Go.RowKit

/-- What holds in each world that has the blocks of M. -/
def Fix (M : Nat → Prop) (V : World) (P : World → Prop) : Prop := (∀ k, M k → k < V.heap.size) ∧ ∀ X : World, V.heap.size ≤ X.heap.size → (∀ k, M k → X.heap[k]? = V.heap[k]?) → P X
/-- A disk of the walk's own; nothing older has changed; what is held (P). -/
def DW (R : DRep) (w : World) (g : Nat) (D : Dk) (P : World → Prop) (V : World) : Prop :=
  ∃ F M, R V g D F ∧ (∀ k, F k → ¬ M k) ∧ (∀ k, k < w.heap.size → M k) ∧ Below w.heap.size w V ∧ Fix M V P
/-- A log of the walk's own, on its disk. -/
def LW (R : DRep) (w : World) (q g : Nat) (s : Js) (P : World → Prop) (V : World) : Prop :=
  ∃ F M, JAt R V q g s F ∧ (∀ k, F k → ¬ M k) ∧ ¬ M q ∧ (∀ k, k < w.heap.size → M k) ∧ Below w.heap.size w V ∧ Fix M V P
section
variable {R : DRep} {w V V' : World} {q g : Nat} {s s' : Js} {D D' : Dk} {M N F : Nat → Prop} {P P' : World → Prop}
theorem Fix.now (h : Fix M V P) : P V := h.2 V (Nat.le_refl _) (fun _ _ => rfl)
theorem Fix.on (h : Fix M V P) (hs : V.heap.size ≤ V'.heap.size) (hk : ∀ k, M k → V'.heap[k]? = V.heap[k]?) : Fix M V' P :=
  ⟨fun k e => Nat.lt_of_lt_of_le (h.1 k e) hs, fun X hX hM => h.2 X (Nat.le_trans hs hX) (fun k e => (hM k e).trans (hk k e))⟩
theorem Fix.below (h : Fix M V P) (hb : Below V.heap.size V V') : Fix M V' P := h.on hb.size (fun k e => hb.block k (h.1 k e))
theorem Fix.and (h : Fix M V P) (h2 : Fix N V P') : Fix (fun k => M k ∨ N k) V (fun X => P X ∧ P' X) :=
  ⟨fun k e => by rcases e with e | e; exact h.1 k e; exact h2.1 k e, fun X hX hM => ⟨h.2 X hX (fun k e => hM k (.inl e)), h2.2 X hX (fun k e => hM k (.inr e))⟩⟩
theorem Fix.imp (h : Fix M V P) (hp : ∀ X, P X → P' X) : Fix M V P' := ⟨h.1, fun X a b => hp X (h.2 X a b)⟩
theorem Fix.grow (h : Fix M V P) (hG : Grow F V V') (hF : ∀ k, M k → ¬ F k) : Fix M V' P := h.on hG.size (fun k e => hG.block k (h.1 k e) (hF k e))

theorem DW.now (h : DW R w g D P V) : P V := by obtain ⟨F, M, _, _, _, _, h5⟩ := h; exact h5.now
theorem DW.bel (h : DW R w g D P V) : Below w.heap.size w V := by obtain ⟨F, M, _, _, _, h4, _⟩ := h; exact h4
theorem DW.imp (h : DW R w g D P V) (hp : ∀ X, P X → P' X) : DW R w g D P' V := by obtain ⟨F, M, h1, h2, h3, h4, h5⟩ := h; exact ⟨F, M, h1, h2, h3, h4, h5.imp hp⟩
theorem DW.ok (hD : DiskOk R) (h : DW R w g D P V) : D.ok := by obtain ⟨F, M, h1, _⟩ := h; exact hD.ok h1
theorem LW.now (h : LW R w q g s P V) : P V := by obtain ⟨F, M, _, _, _, _, _, h5⟩ := h; exact h5.now
theorem LW.bel (h : LW R w q g s P V) : Below w.heap.size w V := by obtain ⟨F, M, _, _, _, _, h4, _⟩ := h; exact h4
theorem LW.imp (h : LW R w q g s P V) (hp : ∀ X, P X → P' X) : LW R w q g s P' V := by obtain ⟨F, M, h1, h2, h3, h4, h5, h6⟩ := h; exact ⟨F, M, h1, h2, h3, h4, h5, h6.imp hp⟩
theorem LW.dw (h : LW R w q g s P V) : DW R w g s.D P V := by obtain ⟨F, M, h1, h2, h3, h4, h5, h6⟩ := h; exact ⟨F, M, h1.disk, h2, h4, h5, h6⟩
theorem DW.keep (hD : DiskOk R) (h : DW R w g D P V) (hb : Below V.heap.size V V') : DW R w g D P V' := by
  obtain ⟨F, M, h1, h2, h3, h4, h5⟩ := h
  exact ⟨F, M, hD.below h1 hb, h2, h3, jstep h4 hb, h5.below hb⟩
theorem LW.keep (hD : DiskOk R) (h : LW R w q g s P V) (hb : Below V.heap.size V V') : LW R w q g s P V' := by
  obtain ⟨F, M, h1, h2, h3, h4, h5, h6⟩ := h
  refine ⟨F, M, ⟨hD.below h1.disk hb, h1.away, ?_⟩, h2, h3, h4, jstep h5 hb, h6.below hb⟩
  obtain ⟨t, l, k, b, e1, e2⟩ := h1.obj
  exact ⟨t, l, k, b, e1.below hb, e2⟩
/-- New memory is held as well. -/
theorem DW.more (hD : DiskOk R) (h : DW R w g D P V) (hb : Below V.heap.size V V') (h2 : Fix (fun k => V.heap.size ≤ k ∧ k < V'.heap.size) V' P') : DW R w g D (fun X => P X ∧ P' X) V' := by
  obtain ⟨F, M, h1, h2', h3, h4, h5⟩ := h
  refine ⟨F, _, hD.below h1 hb, fun k e e2 => ?_, fun k e => .inl (h3 k e), jstep h4 hb, (h5.below hb).and h2⟩
  rcases e2 with e2 | e2
  · exact h2' k e e2
  · have := hD.lt h1 k e; omega
theorem LW.more (hD : DiskOk R) (h : LW R w q g s P V) (hb : Below V.heap.size V V') (h2 : Fix (fun k => V.heap.size ≤ k ∧ k < V'.heap.size) V' P') : LW R w q g s (fun X => P X ∧ P' X) V' := by
  obtain ⟨F, M, h1, h2', h3, h4, h5, h6⟩ := h
  refine ⟨F, _, ⟨hD.below h1.disk hb, h1.away, ?_⟩, fun k e e2 => ?_, fun e => ?_, fun k e => .inl (h4 k e), jstep h5 hb, (h6.below hb).and h2⟩
  · obtain ⟨t, l, k, b, e1, e2⟩ := h1.obj
    exact ⟨t, l, k, b, e1.below hb, e2⟩
  · rcases e2 with e2 | e2
    · exact h2' k e e2
    · have := hD.lt h1.disk k e; omega
  · rcases e with e | e
    · exact h3 e
    · exact absurd h1.lt (by omega)
theorem Grow.below' {F : Nat → Prop} (h : Grow F V V') (h4 : Below w.heap.size w V) (hF : ∀ k, F k → w.heap.size ≤ k) : Below w.heap.size w V' := h.below h4 h4.size hF
/-- A call of the disk's. -/
theorem DW.turn (h : DW R w g D P V) {f : FuncId} {args : Array Value} {v : Value} (hc : ∀ F, R V g D F → Calls Tryz.prog f args V fun e w' => e = .returned v ∧ Turns R V g F D' w') :
    Calls Tryz.prog f args V fun e w' => e = .returned v ∧ DW R w g D' P w' := by
  obtain ⟨F, M, h1, h2, h3, h4, h5⟩ := h
  refine (hc F h1).mono ?_
  rintro e w' ⟨rfl, ht, hG⟩
  have hF : ∀ k, F k → w.heap.size ≤ k := fun k e => by
    rcases Nat.lt_or_ge k w.heap.size with hlt | hge
    · exact absurd (h3 k hlt) (h2 k e)
    · exact hge
  refine ⟨rfl, _, M, ht, fun k e e2 => ?_, h3, hG.below' h4 hF, h5.grow hG (fun k e e2 => h2 k e2 e)⟩
  rcases e with e | e
  · exact h2 k e e2
  · exact absurd (h5.1 k e2) (by have := e.1; omega)
/-- A call of the log's. -/
theorem LW.turn (h : LW R w q g s P V) {f : FuncId} {args : Array Value} {v : Value} (hc : ∀ F, JAt R V q g s F → Calls Tryz.prog f args V fun e w' => e = .returned v ∧ JTurns R V q g F s' w') :
    Calls Tryz.prog f args V fun e w' => e = .returned v ∧ LW R w q g s' P w' := by
  obtain ⟨F, M, h1, h2, h3, h4, h5, h6⟩ := h
  refine (hc F h1).mono ?_
  rintro e w' ⟨rfl, ht, hG⟩
  have hF : ∀ k, F k ∨ k = q → ¬ M k := fun k e => by
    rcases e with e | e
    · exact h2 k e
    · rw [e]; exact h3
  have hW : ∀ k, F k ∨ k = q → w.heap.size ≤ k := fun k e => by
    rcases Nat.lt_or_ge k w.heap.size with hlt | hge
    · exact absurd (h4 k hlt) (hF k e)
    · exact hge
  refine ⟨rfl, _, M, ht, fun k e e2 => ?_, h3, h4, hG.below' h5 hW, h6.grow hG (fun k e e2 => hF k e2 e)⟩
  rcases e with e | e
  · exact h2 k e e2
  · exact absurd (h6.1 k e2) (by have := e.1; omega)
/-- A call of the disk's, with a log on it. -/
theorem LW.turnD (h : LW R w q g s P V) (hD : DiskOk R) {f : FuncId} {args : Array Value} {v : Value} (hc : ∀ F, R V g s.D F → Calls Tryz.prog f args V fun e w' => e = .returned v ∧ Turns R V g F D' w') :
    Calls Tryz.prog f args V fun e w' => e = .returned v ∧ LW R w q g ⟨D', s.x⟩ P w' := by
  refine h.turn (fun F hJ => (hc F hJ.disk).mono ?_)
  rintro e w' ⟨rfl, ht, hG⟩
  refine ⟨rfl, ⟨ht, notF hJ.away hJ.lt, ?_⟩, hG.mono (fun k e => .inl e)⟩
  obtain ⟨t, l, k, b, e1, e2⟩ := hJ.obj
  exact ⟨t, l, k, b, (hG.block q hJ.lt hJ.away).trans e1, e2⟩
theorem LW.last (h : LW R w q g s P V) : Calls Tryz.prog 30 #[pt q] V fun e w' => e = .returned (.int .i64 (s.last : Int)) ∧ w' = V := by
  obtain ⟨F, M, h1, _⟩ := h
  obtain ⟨t, l, k, b, e1, e2, e3⟩ := h1.obj
  refine (wLast V q g t l k b e1).mono ?_
  rintro e w' ⟨rfl, rfl⟩
  refine ⟨?_, rfl⟩
  unfold Js.last
  cases hx : s.x with
  | none => rw [e2 hx]; rfl
  | some x => obtain ⟨rfl, _, rfl, _⟩ := e3 x hx; rfl
theorem LW.synced (h : LW R w q g s P V) : Calls Tryz.prog 29 #[pt q] V fun e w' => e = .returned (.int .i64 (s.safe : Int)) ∧ w' = V := by
  obtain ⟨F, M, h1, _⟩ := h
  obtain ⟨t, l, k, b, e1, e2, e3⟩ := h1.obj
  refine (wSynced V q g t l k b e1).mono ?_
  rintro e w' ⟨rfl, rfl⟩
  refine ⟨?_, rfl⟩
  unfold Js.safe
  cases hx : s.x with
  | none => rw [e2 hx]; rfl
  | some x => obtain ⟨rfl, _, _, rfl⟩ := e3 x hx; rfl
theorem LW.sync (hD : DiskOk R) (h : LW R w q g s P V) : Calls Tryz.prog 22 #[pt q] V fun e w' => e = .returned (.int .i64 s.sync.2) ∧ LW R w q g s.sync.1 P w' :=
  h.turn (fun F hJ => wSync hD V q g s F hJ)
theorem LW.add (hD : DiskOk R) (h : LW R w q g s P V) {A : Option Addr} {n : Nat} (c : Nat) {l : List Op_} (hx : OAt V A n l) (hn : n ≤ 9223372036854775807) (hmax : ∀ x, s.x = some x → x.last + 1 < 9007199254740991) :
    Calls Tryz.prog 21 #[pt q, .slice A n c] V fun e w' => e = .returned (.tuple #[.int .i64 (((s.add l).2.1 : Nat) : Int), .int .i64 (s.add l).2.2]) ∧ LW R w q g (s.add l).1 P w' :=
  h.turn (fun F hJ => wAdd hD V q g s F A n c l hx hn hJ hmax)
theorem LW.ckp (hD : DiskOk R) (h : LW R w q g s P V) {A : Option Addr} {n : Nat} (c : Nat) {l : List Rw} (hx : WAt V A n l) (hn : n ≤ 9223372036854775807) (hmax : ∀ x, s.x = some x → x.turn < 9007199254740991 ∧ x.last ≤ 9007199254740991) :
    Calls Tryz.prog 23 #[pt q, .slice A n c] V fun e w' => e = .returned (.int .i64 (s.ckp l).2) ∧ LW R w q g (s.ckp l).1 P w' :=
  h.turn (fun F hJ => wCkp hD V q g s F A n c l hx hn hJ hmax)
/-- What a log has, in memory. -/
def KAt (A1 A2 : Option Addr) (k : Kp) (X : World) : Prop := WAt X A1 k.rows.length k.rows ∧ BAt X A2 k.bats.length k.bats ∧ k.rows.length ≤ 9223372036854775807 ∧ k.bats.length ≤ 9223372036854775807
theorem KIn.fix {lo hi : Nat} {v1 v2 : Value} {k : Kp} (h : KIn V lo hi v1 v2 k) (hh : hi ≤ V.heap.size) : ∃ A1 c1 A2 c2, v1 = .slice A1 k.rows.length c1 ∧ v2 = .slice A2 k.bats.length c2 ∧ Fix (fun j => lo ≤ j ∧ j < hi) V (KAt A1 A2 k) := by
  obtain ⟨⟨V1, l1, a1, a2, a3, a4, a5⟩, ⟨V2, l2, b1, b2, b3, b4, b5⟩⟩ := h
  obtain ⟨A1, c1, rfl, _, hc1, hm1, _⟩ := a2.form
  obtain ⟨A2, c2, rfl, _, hc2, hm2, _⟩ := b2.form
  refine ⟨A1, c1, A2, c2, rfl, rfl, fun j e => by have := e.2; omega, fun X hX hM => ⟨?_, ?_, by omega, by omega⟩⟩
  · have hr : RO X l1 (.slice A1 k.rows.length c1) k.rows := row_onS a2 (fun j e => by
      have := a2.lt j e
      exact (hM j ⟨by omega, by omega⟩).trans (a5 j this.1 this.2))
    obtain ⟨A, c, e, h1, _⟩ := hr.form
    injection e with e1 e2 e3
    subst e1
    exact h1
  · have hr : LB X l2 (.slice A2 k.bats.length c2) k.bats := b2.onB (fun j e1 e2 => (hM j ⟨by omega, by omega⟩).trans (b5 j e1 e2))
    obtain ⟨A, c, e, h1, _⟩ := hr.form
    injection e with e1 e2 e3
    subst e1
    exact h1
/-- Open, and what is told. -/
theorem DW.open_ (hD : DiskOk R) (h : DW R w g D P V) : Calls Tryz.prog 19 #[pt g] V fun e w' =>
    ((opn D).2.2 = none → e = .returned (.tuple #[.pointer none, .agg #[.slice none 0 0, .slice none 0 0], .int .i64 (opn D).2.1]) ∧ DW R w g (opn D).1 P w') ∧
    (∀ x k, (opn D).2.2 = some (x, k) → ∃ q A1 c1 A2 c2, e = .returned (.tuple #[pt q, .agg #[.slice A1 k.rows.length c1, .slice A2 k.bats.length c2], .int .i64 0]) ∧ LW R w q g ⟨(opn D).1, some x⟩ (fun X => P X ∧ KAt A1 A2 k X) w') := by
  obtain ⟨F, M, h1, h2, h3, h4, h5⟩ := h
  have hl := hD.lt h1
  have hF : ∀ k, F k → w.heap.size ≤ k := fun k e => by
    rcases Nat.lt_or_ge k w.heap.size with hlt | hge
    · exact absurd (h3 k hlt) (h2 k e)
    · exact hge
  refine (wOpen hD V g D F h1).mono ?_
  rintro e w' ⟨i1, i2⟩
  refine ⟨fun hn => ?_, fun x k hk => ?_⟩
  · obtain ⟨rfl, ht, hG⟩ := i1 hn
    refine ⟨rfl, _, M, ht, fun k e e2 => ?_, h3, hG.below' h4 hF, h5.grow hG (fun k e e2 => h2 k e2 e)⟩
    rcases e with e | e
    · exact h2 k e e2
    · exact absurd (h5.1 k e2) (by have := e.1; omega)
  · obtain ⟨q, m, v1, v2, rfl, hq, hqm, hm, hJ, hK, _, _, hG⟩ := i2 x k hk
    obtain ⟨A1, c1, A2, c2, rfl, rfl, hfx⟩ := hK.fix hm
    refine ⟨q, A1, c1, A2, c2, rfl, _, _, hJ, fun j e e2 => ?_, fun e => ?_, fun j e => .inl (h3 j e), hG.below' h4 hF, (h5.grow hG (fun k e e2 => h2 k e2 e)).and hfx⟩
    · rcases e2 with e2 | e2
      · have := h5.1 j e2
        rcases e with e | e | e
        · exact h2 j e e2
        · omega
        · omega
      · rcases e with e | e | e
        · have := hl j e
          omega
        · omega
        · omega
    · rcases e with e | e
      · exact absurd (h5.1 q e) (by omega)
      · omega
theorem DW.new (hD : DiskOk R) (hw : Below w.heap.size w V) : Calls Tryz.prog 10 #[] V fun e w' => ∃ g, e = .returned (pt g) ∧ DW R w g dk0 (fun _ => True) w' := by
  refine (hD.new V).mono ?_
  rintro e w' ⟨g, rfl, hg, hR, hb⟩
  refine ⟨g, rfl, _, fun k => k < V.heap.size, hR, fun k e e2 => absurd e2 (by have := e.1; omega), fun k e => Nat.lt_of_lt_of_le e hw.size, jstep hw hb, fun k e => Nat.lt_of_lt_of_le e hb.size, fun _ _ _ => trivial⟩
end
end Go.Proofs.YtamglegdgcehaaaGreat
set_option linter.unusedVariables false
namespace Go.Proofs.YtamglegdgcehaaaGreat
open Go.RowKit

theorem ret_op {fn : Func} {Q : Ending → World → Prop} {a : Act} {w : World} {p : Tmp} {g : Nat} {k v : ByteArray} {d : Bool} (hr : fn.results = #[.cell p 73]) (hp : a.tmps.getD p undef = .pointer (some ⟨g, 0, none⟩))
    (hB : Blk w g 73 #[.string k, .string v, .bool d]) (hd : a.defers = []) (hR : Q (.returned (.agg #[.string k, .string v, .bool d])) w) : bodyPost Tryz.prog fn Q .ret a w := by
  refine bodyPost_ret ?_ hd hR
  have hp' : a.tmps[p]?.getD undef = .pointer (some ⟨g, 0, none⟩) := by simpa using hp
  simp [results, hr, hp', asAddr, run_loadVar_row w g 73 73 _ (0, 0) _ hB Tryz.underlying73 rfl (by kernel_rfl)]
set_option maxRecDepth 100000 in
set_option maxHeartbeats 4000000 in
theorem wPut (k v : ByteArray) (w : World) :
    Calls Tryz.prog 38 #[.string k, .string v] w fun e w' => e = .returned (.agg #[.string k, .string v, .bool false]) ∧ Below w.heap.size w w' := by
  have h1 := heap_alloc_new w (.cells #[.string k, .string v, .bool false] 73)
  have hb := nba w (.cells #[.string k, .string v, .bool false] 73)
  go_enter Tryz.func38, Tryz.ntmps38
  go_wp2
  exact ret_op rfl rfl h1 rfl ⟨rfl, hb⟩
set_option maxRecDepth 100000 in
set_option maxHeartbeats 4000000 in
theorem wGone (k : ByteArray) (w : World) :
    Calls Tryz.prog 50 #[.string k] w fun e w' => e = .returned (.agg #[.string k, .string ⟨#[]⟩, .bool true]) ∧ Below w.heap.size w w' := by
  have h1 := heap_alloc_new w (.cells #[.string k, .string ⟨#[]⟩, .bool true] 73)
  have hb := nba w (.cells #[.string k, .string ⟨#[]⟩, .bool true] 73)
  go_enter Tryz.func50, Tryz.ntmps50
  go_wp2
  exact ret_op rfl rfl h1 rfl ⟨rfl, hb⟩
section
variable {R : DRep} {w V V' : World} {q g : Nat} {s s' : Js} {D D' : Dk} {P P' : World → Prop}
/-- A block that is laid is held. -/
theorem LW.row (hD : DiskOk R) (h : LW R w q g s P V) (o : Obj) : LW R w q g s (fun X => P X ∧ X.heap[V.heap.size]? = some o) (V.alloc o) :=
  h.more hD (nba V o) ⟨fun k e => e.2, fun X hX hM => (hM V.heap.size ⟨Nat.le_refl _, by simp⟩).trans (heap_alloc_new V o)⟩
theorem DW.row (hD : DiskOk R) (h : DW R w g D P V) (o : Obj) : DW R w g D (fun X => P X ∧ X.heap[V.heap.size]? = some o) (V.alloc o) :=
  h.more hD (nba V o) ⟨fun k e => e.2, fun X hX hM => (hM V.heap.size ⟨Nat.le_refl _, by simp⟩).trans (heap_alloc_new V o)⟩
theorem OAt.nil (X : World) : OAt X none 0 [] := ⟨rfl, fun h => absurd h (Nat.lt_irrefl _)⟩
theorem WAt.nil (X : World) : WAt X none 0 [] := ⟨rfl, fun h => absurd h (Nat.lt_irrefl _)⟩
theorem BAt.nil (X : World) : BAt X none 0 [] := ⟨rfl, fun h => absurd h (Nat.lt_irrefl _)⟩
theorem OAt.row1 {X : World} {b : Nat} {k v : ByteArray} {d : Bool} {t : TypeId} (h : X.heap[b]? = some (.cells #[.string k, .string v, .bool d] t (0, 0))) : OAt X (some ⟨b, 0, none⟩) 1 [⟨k, v, d⟩] := by
  refine ⟨rfl, fun _ => ⟨b, 0, rfl, fun i hi => ?_⟩⟩
  obtain rfl : i = 0 := by simp at hi; omega
  exact ⟨cell_of_row X b 0 _ _ (0, 0) h, cell_of_row X b 1 _ _ (0, 0) h, cell_of_row X b 2 _ _ (0, 0) h⟩
theorem OAt.row2 {X : World} {b : Nat} {k v k' v' : ByteArray} {d d' : Bool} {t : TypeId} (h : X.heap[b]? = some (.cells #[.string k, .string v, .bool d, .string k', .string v', .bool d'] t (0, 0))) : OAt X (some ⟨b, 0, none⟩) 2 [⟨k, v, d⟩, ⟨k', v', d'⟩] := by
  refine ⟨rfl, fun _ => ⟨b, 0, rfl, fun i hi => ?_⟩⟩
  match i, hi with
  | 0, _ => exact ⟨cell_of_row X b 0 _ _ (0, 0) h, cell_of_row X b 1 _ _ (0, 0) h, cell_of_row X b 2 _ _ (0, 0) h⟩
  | 1, _ => exact ⟨cell_of_row X b 3 _ _ (0, 0) h, cell_of_row X b 4 _ _ (0, 0) h, cell_of_row X b 5 _ _ (0, 0) h⟩
theorem WAt.row1 {X : World} {b : Nat} {k v : ByteArray} {t : TypeId} (h : X.heap[b]? = some (.cells #[.string k, .string v] t (0, 0))) : WAt X (some ⟨b, 0, none⟩) 1 [⟨k, v⟩] := by
  refine ⟨rfl, fun _ => ⟨b, 0, rfl, fun i hi => ?_⟩⟩
  obtain rfl : i = 0 := by simp at hi; omega
  exact ⟨cell_of_row X b 0 _ _ (0, 0) h, cell_of_row X b 1 _ _ (0, 0) h⟩
theorem BAt.row1 {X : World} {b c : Nat} {A : Option Addr} {l : List Op_} {t : TypeId} (h : X.heap[b]? = some (.cells #[.slice A l.length c] t (0, 0))) (hl : OAt X A l.length l) (h1 : l.length ≤ c) (h2 : c ≤ 9223372036854775807) : BAt X (some ⟨b, 0, none⟩) 1 [l] := by
  refine ⟨rfl, fun _ => ⟨b, 0, rfl, fun i hi => ?_⟩⟩
  obtain rfl : i = 0 := by simp at hi; omega
  exact ⟨A, c, cell_of_row X b 0 _ _ (0, 0) h, hl, h1, h2⟩
theorem BAt.row2 {X : World} {b c c' : Nat} {A A' : Option Addr} {l l' : List Op_} {t : TypeId} (h : X.heap[b]? = some (.cells #[.slice A l.length c, .slice A' l'.length c'] t (0, 0))) (hl : OAt X A l.length l) (h1 : l.length ≤ c) (h2 : c ≤ 9223372036854775807)
    (hl' : OAt X A' l'.length l') (h1' : l'.length ≤ c') (h2' : c' ≤ 9223372036854775807) : BAt X (some ⟨b, 0, none⟩) 2 [l, l'] := by
  refine ⟨rfl, fun _ => ⟨b, 0, rfl, fun i hi => ?_⟩⟩
  match i, hi with
  | 0, _ => exact ⟨A, c, cell_of_row X b 0 _ _ (0, 0) h, hl, h1, h2⟩
  | 1, _ => exact ⟨A', c', cell_of_row X b 1 _ _ (0, 0) h, hl', h1', h2'⟩
theorem DW.openN (hD : DiskOk R) (h : DW R w g D P V) {x : Lg} {k : Kp} (e : opn D = (D', 0, some (x, k))) : Calls Tryz.prog 19 #[pt g] V fun e w' =>
    ∃ q A1 c1 A2 c2, e = .returned (.tuple #[pt q, .agg #[.slice A1 k.rows.length c1, .slice A2 k.bats.length c2], .int .i64 0]) ∧ LW R w q g ⟨D', some x⟩ (fun X => P X ∧ KAt A1 A2 k X) w' := by
  refine (h.open_ hD).mono ?_
  rintro e2 w' ⟨_, h2⟩
  rw [e] at h2
  exact h2 x k rfl
theorem LW.addN (hD : DiskOk R) (h : LW R w q g s P V) {A : Option Addr} {n : Nat} (c : Nat) {l : List Op_} (hx : OAt V A n l) (hn : n ≤ 9223372036854775807) (hmax : ∀ x, s.x = some x → x.last + 1 < 9007199254740991) {m : Nat} {E : Int} (e : s.add l = (s', m, E)) :
    Calls Tryz.prog 21 #[pt q, .slice A n c] V fun e w' => e = .returned (.tuple #[.int .i64 (m : Int), .int .i64 E]) ∧ LW R w q g s' P w' := by
  have h2 := h.add hD c hx hn hmax
  rw [e] at h2
  exact h2
theorem LW.syncN (hD : DiskOk R) (h : LW R w q g s P V) {E : Int} (e : s.sync = (s', E)) : Calls Tryz.prog 22 #[pt q] V fun e w' => e = .returned (.int .i64 E) ∧ LW R w q g s' P w' := by
  have h2 := h.sync hD
  rw [e] at h2
  exact h2
theorem LW.ckpN (hD : DiskOk R) (h : LW R w q g s P V) {A : Option Addr} {n : Nat} (c : Nat) {l : List Rw} (hx : WAt V A n l) (hn : n ≤ 9223372036854775807) (hmax : ∀ x, s.x = some x → x.turn < 9007199254740991 ∧ x.last ≤ 9007199254740991) {E : Int} (e : s.ckp l = (s', E)) :
    Calls Tryz.prog 23 #[pt q, .slice A n c] V fun e w' => e = .returned (.int .i64 E) ∧ LW R w q g s' P w' := by
  have h2 := h.ckp hD c hx hn hmax
  rw [e] at h2
  exact h2
theorem LW.lastN (h : LW R w q g s P V) {m : Nat} (e : s.last = m) : Calls Tryz.prog 30 #[pt q] V fun e w' => e = .returned (.int .i64 (m : Int)) ∧ w' = V := by
  have h2 := h.last
  rw [e] at h2
  exact h2
theorem LW.syncedN (h : LW R w q g s P V) {m : Nat} (e : s.safe = m) : Calls Tryz.prog 29 #[pt q] V fun e w' => e = .returned (.int .i64 (m : Int)) ∧ w' = V := by
  have h2 := h.synced
  rw [e] at h2
  exact h2
/-- Crash, without numbers. -/
theorem LW.crash0 (hD : DiskOk R) (h : LW R w q g s P V) (c : Nat) (hc : c ≤ 9223372036854775807) : Calls Tryz.prog 25 #[pt g, .slice none 0 c] V fun e w' => e = .returned (.tuple #[]) ∧ LW R w q g ⟨crash s.D [], s.x⟩ P w' :=
  h.turnD hD (fun F hR => hD.crash V g s.D F none 0 c [] hR (IAt.nil V none) (fun h0 => absurd h0 (Nat.lt_irrefl _)) (Nat.zero_le _) hc)
theorem LW.boot (hD : DiskOk R) (h : LW R w q g s P V) : Calls Tryz.prog 27 #[pt g] V fun e w' => e = .returned (.tuple #[]) ∧ LW R w q g ⟨boot s.D, s.x⟩ P w' :=
  h.turnD hD (fun F hR => hD.boot V g s.D F hR)
end
end Go.Proofs.YtamglegdgcehaaaGreat
set_option linter.unusedVariables false
namespace Go.Proofs.YtamglegdgcehaaaGreat
open Go.RowKit

abbrev arr1 : Obj := .cells #[.string kA, .string k1, .bool false] 73
abbrev arr2 : Obj := .cells #[.string kB, .string k2, .bool false, .string kA, .string kE, .bool true] 73
abbrev arr3 : Obj := .cells #[.string kC, .string k3, .bool false] 73
abbrev arr4 : Obj := .cells #[.string kB, .string k2] 75
theorem maxL {g : Lg} (h : g.last + 1 < 9007199254740991) : ∀ x, some g = some x → x.last + 1 < 9007199254740991 := fun x e => by injection e with e; rw [← e]; exact h
theorem maxT {g : Lg} (h : g.turn < 9007199254740991 ∧ g.last ≤ 9007199254740991) : ∀ x, some g = some x → x.turn < 9007199254740991 ∧ x.last ≤ 9007199254740991 := fun x e => by injection e with e; rw [← e]; exact h
section
variable {R : DRep} {w V V' : World} {q g : Nat} {s s' : Js} {P P' : World → Prop}
theorem works_has (hD : DiskOk R) {a4 a6 a10 : Nat} {B1 B2 : Option Addr} {d1 d2 : Nat} (h : LW R w q g s (fun X => (((True ∧ X.heap[a4]? = some arr1) ∧ X.heap[a6]? = some arr2) ∧ X.heap[a10]? = some arr3) ∧ KAt B1 B2 ⟨[], [one, two]⟩ X) V) :
    Calls Tryz.prog 33 #[.agg #[.slice B1 0 d1, .slice B2 2 d2], .slice none 0 0, .slice (some ⟨V.heap.size + 1, 0, none⟩) 2 2]
      ((V.alloc (.cells #[.slice B1 0 d1, .slice B2 2 d2] 49)).alloc (.cells #[.slice (some ⟨a4, 0, none⟩) 1 1, .slice (some ⟨a6, 0, none⟩) 2 2] 34)) fun e w' =>
      e = .returned (.bool true) ∧ LW R w q g s (fun X => X.heap[a4]? = some arr1) w' := by
  have h2 := (h.row hD (.cells #[.slice B1 0 d1, .slice B2 2 d2] 49)).row hD (.cells #[.slice (some ⟨a4, 0, none⟩) 1 1, .slice (some ⟨a6, 0, none⟩) 2 2] 34)
  obtain ⟨⟨⟨⟨⟨⟨_, r4⟩, r6⟩, _⟩, k1, k2, _⟩, _⟩, ra⟩ := h2.now
  have hz : (V.alloc (.cells #[.slice B1 0 d1, .slice B2 2 d2] 49)).heap.size = V.heap.size + 1 := by simp
  rw [hz] at ra
  have o1 : OAt _ _ one.length one := OAt.row1 r4
  have o2 : OAt _ _ two.length two := OAt.row2 r6
  refine (wHas B1 B2 none (some ⟨V.heap.size + 1, 0, none⟩) 0 2 0 2 d1 d2 0 2 [] [] [one, two] [one, two] _ k1 (WAt.nil _) k2 (BAt.row2 ra o1 (by decide) (by decide) o2 (by decide) (by decide)) (by omega) (by omega) (by omega) (by omega)).mono ?_
  rintro e w' ⟨rfl, hb⟩
  exact ⟨by simp, (h2.imp (fun X hx => hx.1.1.1.1.1.2)).keep hD hb⟩
theorem works_has2 (hD : DiskOk R) {a4 a17 : Nat} {B1 B2 : Option Addr} {d1 d2 : Nat} (h : LW R w q g s (fun X => (X.heap[a4]? = some arr1 ∧ X.heap[a17]? = some arr4) ∧ KAt B1 B2 ⟨row, [one]⟩ X) V) :
    Calls Tryz.prog 33 #[.agg #[.slice B1 1 d1, .slice B2 1 d2], .slice (some ⟨a17, 0, none⟩) 1 1, .slice (some ⟨V.heap.size + 1, 0, none⟩) 1 1]
      ((V.alloc (.cells #[.slice B1 1 d1, .slice B2 1 d2] 49)).alloc (.cells #[.slice (some ⟨a4, 0, none⟩) 1 1] 34)) fun e w' =>
      e = .returned (.bool true) ∧ LW R w q g s (fun _ => True) w' := by
  have h2 := (h.row hD (.cells #[.slice B1 1 d1, .slice B2 1 d2] 49)).row hD (.cells #[.slice (some ⟨a4, 0, none⟩) 1 1] 34)
  obtain ⟨⟨⟨⟨r4, r17⟩, k1, k2, _⟩, _⟩, ra⟩ := h2.now
  have hz : (V.alloc (.cells #[.slice B1 1 d1, .slice B2 1 d2] 49)).heap.size = V.heap.size + 1 := by simp
  rw [hz] at ra
  have o1 : OAt _ _ one.length one := OAt.row1 r4
  refine (wHas B1 B2 (some ⟨a17, 0, none⟩) (some ⟨V.heap.size + 1, 0, none⟩) 1 1 1 1 d1 d2 1 1 row row [one] [one] _ k1 (WAt.row1 r17) k2 (BAt.row1 ra o1 (by decide) (by decide)) (by omega) (by omega) (by omega) (by omega)).mono ?_
  rintro e w' ⟨rfl, hb⟩
  exact ⟨by simp, (h2.imp (fun X hx => trivial)).keep hD hb⟩
end
set_option maxRecDepth 100000 in
set_option maxHeartbeats 8000000 in
theorem works_w {R : DRep} (hD : DiskOk R) (w : World) :
    Calls Tryz.prog 14 #[] w fun e w' => e = .returned (.bool true) ∧ Below w.heap.size w w' := by
  have HD := Lib.hid hD
  obtain ⟨D1, D2, D3, D4, D5, D7, D8, D9, D10, D11, hm⟩ := works_m
  have HM := Lib.hid hm
  clear hm
  go_enter Tryz.func14, Tryz.ntmps14
  go_wp2_with (first
    | (go_at_call 10; refine (DW.new HD.out (Below.refl _ w)).mono ?_; rintro e1 w1 ⟨g, rfl, h1⟩)
    | (go_at_call 19; refine (h1.openN HD.out HM.out.a).mono ?_; rintro e2 w2 ⟨q, A1, c1, A2, c2, rfl, h2⟩; clear h1)
    | (go_at_call 33; refine (wHas A1 A2 none none 0 0 0 0 c1 c2 0 0 [] [] [] [] _ (h2.now.2.1.below (nba w2 _)) (WAt.nil _) (h2.now.2.2.1.below (nba w2 _)) (BAt.nil _) (by omega) (by omega) (by omega) (by omega)).mono ?_; rintro e3 w3 ⟨rfl, hb3⟩; have h3 := (h2.imp (P' := fun _ => True) (fun _ _ => trivial)).keep HD.out (jstep (nba w2 _) hb3); clear h2 hb3)
    | (go_at_call 30; refine (h3.lastN (m := 0) rfl).mono ?_; rintro e3 w3 ⟨rfl, rfl⟩)
    | (go_at_call 29; refine (h3.syncedN (m := 0) rfl).mono ?_; rintro e3 w3 ⟨rfl, rfl⟩)
    | (go_at_call 38; refine (wPut _ _ _).mono ?_; rintro e4 w4 ⟨rfl, hb4⟩; have h4 := h3.keep HD.out hb4; clear h3 hb4)
    | (go_at_call 38; refine (wPut _ _ _).mono ?_; rintro e5 w5 ⟨rfl, hb5⟩; have h5 := (h4.row HD.out arr1).keep HD.out hb5; clear h4 hb5)
    | (go_at_call 50; refine (wGone _ _).mono ?_; rintro e6 w6 ⟨rfl, hb6⟩; have h6 := h5.keep HD.out hb6; clear h5 hb6)
    | (go_at_call 21; have h6r := h6.row HD.out arr2; refine (h6r.addN HD.out 1 (OAt.row1 h6r.now.1.2) (by omega) (maxL (by decide)) HM.out.b).mono ?_; rintro e7 w7 ⟨rfl, h7⟩; clear h6 h6r)
    | (go_at_call 21; refine (h7.addN HD.out 2 (OAt.row2 h7.now.2) (by omega) (maxL (by decide)) HM.out.c).mono ?_; rintro e8 w8 ⟨rfl, h8⟩; clear h7)
    | (go_at_call 22; refine (h8.syncN HD.out HM.out.d).mono ?_; rintro e9 w9 ⟨rfl, h9⟩; clear h8)
    | (go_at_call 38; refine (wPut _ _ _).mono ?_; rintro e10 w10 ⟨rfl, hb10⟩; have h10 := h9.keep HD.out hb10; clear h9 hb10)
    | (go_at_call 21; have h10r := h10.row HD.out arr3; refine (h10r.addN HD.out 1 (OAt.row1 h10r.now.2) (by omega) (maxL (by decide)) HM.out.e).mono ?_; rintro e11 w11 ⟨rfl, h11⟩; clear h10 h10r)
    | (go_at_call 29; refine (h11.syncedN (m := 2) rfl).mono ?_; rintro e12 w12 ⟨rfl, rfl⟩)
    | (go_at_call 25; refine (h11.crash0 HD.out 0 (by omega)).mono ?_; rintro e13 w13 ⟨rfl, h13⟩; clear h11)
    | (go_at_call 27; refine (h13.boot HD.out).mono ?_; rintro e14 w14 ⟨rfl, h14⟩; clear h13)
    | (go_at_call 19; refine (h14.dw.openN HD.out HM.out.f).mono ?_; rintro e15 w15 ⟨q2, B1, d1, B2, d2, rfl, h15⟩; clear h14)
    | (go_at_call 33; refine (works_has HD.out h15).mono ?_; rintro e16 w16 ⟨rfl, h16⟩; clear h15)
    | (go_at_call 23; have h17 := h16.row HD.out arr4; refine (h17.ckpN HD.out 1 (WAt.row1 h17.now.2) (by omega) (maxT (by decide)) HM.out.g).mono ?_; rintro e18 w18 ⟨rfl, h18⟩; clear h16 h17)
    | (go_at_call 21; refine (h18.addN HD.out 1 (OAt.row1 h18.now.1) (by omega) (maxL (by decide)) HM.out.h).mono ?_; rintro e19 w19 ⟨rfl, h19⟩; clear h18)
    | (go_at_call 22; refine (h19.syncN HD.out HM.out.i).mono ?_; rintro e20 w20 ⟨rfl, h20⟩; clear h19)
    | (go_at_call 19; refine (h20.dw.openN HD.out HM.out.j).mono ?_; rintro e21 w21 ⟨q3, C1, f1, C2, f2, rfl, h21⟩; clear h20)
    | (go_at_call 33; refine (works_has2 HD.out h21).mono ?_; rintro e22 w22 ⟨rfl, h22⟩; clear h21)
    | (go_at_call 30; refine (h22.lastN (m := 3) rfl).mono ?_; rintro e23 w23 ⟨rfl, rfl⟩))
  go_ret
  exact ⟨rfl, h22.bel⟩
end Go.Proofs.YtamglegdgcehaaaGreat
