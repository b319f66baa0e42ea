/-
  Layer 8, the code: works on the disk, one behind the other; a log's object.
  Layer 8, the code: what records say: a head.
  Layer 8, the code: what records say: a batch.
  Layer 8, the code: what records say: batches.
  Layer 8, the statements' words: whether what two logs have is the same.
-/
import Derived.Test.YtamglegdgcehaaaGreatZ17
import Derived.Test.YtamglegdgcehaaaGreatZ10
import Derived.Test.YtamglegdgcehaaaGreatZ18
import Derived.Test.YtamglegdgcehaaaGreatZ07
import Derived.BigQuiet
set_option linter.unusedVariables false
namespace Go.Proofs.YtamglegdgcehaaaGreat
open Go.RowKit

section
variable {R : DRep} {w V V' X : World} {g q : Nat} {D D' : Dk} {F : Nat → Prop}
theorem DiskOk.turn1 (hR : DiskOk R) (h : R V g D F) (hb : Below V.heap.size V V') : Turns R V g F D V' :=
  ⟨hR.mono (hR.below h hb) (fun k e => .inl e) (fun k e => by rcases e with e | e; exact Nat.lt_of_lt_of_le (hR.lt h k e) hb.size; exact e.2), Grow.of_below hb⟩
theorem DiskOk.under1 (hR : DiskOk R) (hb : Below w.heap.size w V) (h : Turns R V g F D V') (hl : ∀ k, F k → k < w.heap.size) : Turns R w g F D V' :=
  ⟨hR.mono h.1 (fun k e => by rcases e with e | e; exact .inl e; exact .inr ⟨by have := hb.size; omega, e.2⟩) (fun k e => by rcases e with e | e; exact Nat.lt_of_lt_of_le (hl k e) (Nat.le_trans hb.size h.2.size); exact e.2), (Grow.of_below hb).trans (h.2.mono (fun k e => .inl e))⟩
theorem Grow.cell_ (h : Grow F X V) {a : Addr} {v : Value} (hc : X.cell? a = some v) (hF : ¬ F a.block) : V.cell? a = some v :=
  (World.cell?_of_block (h.block _ (World.block_lt_of_cell? X _ hc) hF)).trans hc
theorem Grow.row_ (h : Grow F X V) {k : Nat} {o : Obj} (hc : X.heap[k]? = some o) (hF : ¬ F k) : V.heap[k]? = some o := (h.block _ (Array.getElem?_eq_some_iff.1 hc).1 hF).trans hc
theorem FAt.grow {A : Option Addr} {n : Nat} {fs : List (Nat × Array Value)} (h : FAt X A n fs) (hg : Grow F X V) (hA : InF (fun k => ¬ F k) A) : FAt V A n fs := by
  refine ⟨h.1, fun h0 => ?_⟩
  obtain ⟨b, o, rfl, hc⟩ := h.2 h0
  exact ⟨b, o, rfl, fun i hi => hg.cell_ (hc i hi) (hA ⟨b, o, none⟩ rfl)⟩
theorem bal' {w V : World} (h : Below w.heap.size w V) (o : Obj) : Below w.heap.size w (V.alloc o) := h.alloc h.size o
theorem lit_two' (V : World) (q x y : Nat) (t : TypeId) (hq : q = V.heap.size) : IAt (V.alloc (.cells #[.int .i64 (x : Int), .int .i64 (y : Int)] t)) (some ⟨q, 0, none⟩) 2 ([x, y].map Int.ofNat) := by
  subst hq
  exact lit_two V x y t
theorem lit_f1 (V : World) (f1 : Nat) (c1 : Array Value) (t : TypeId) : FAt (V.alloc (.cells #[.func (.func f1) #[] c1] t)) (some ⟨V.heap.size, 0, none⟩) 1 [(f1, c1)] := by
  refine ⟨rfl, fun _ => ⟨_, 0, rfl, fun i hi => ?_⟩⟩
  match i, hi with
  | 0, _ => simp
theorem lit_f2 (V : World) (f1 f2 : Nat) (c1 c2 : Array Value) (t : TypeId) : FAt (V.alloc (.cells #[.func (.func f1) #[] c1, .func (.func f2) #[] c2] t)) (some ⟨V.heap.size, 0, none⟩) 2 [(f1, c1), (f2, c2)] := by
  refine ⟨rfl, fun _ => ⟨_, 0, rfl, fun i hi => ?_⟩⟩
  match i, hi with
  | 0, _ => simp
  | 1, _ => simp
theorem lit_f5 (V : World) (f1 f2 f3 f4 f5 : Nat) (c1 c2 c3 c4 c5 : Array Value) (t : TypeId) : FAt (V.alloc (.cells #[.func (.func f1) #[] c1, .func (.func f2) #[] c2, .func (.func f3) #[] c3, .func (.func f4) #[] c4, .func (.func f5) #[] c5] t)) (some ⟨V.heap.size, 0, none⟩) 5 [(f1, c1), (f2, c2), (f3, c3), (f4, c4), (f5, c5)] := by
  refine ⟨rfl, fun _ => ⟨_, 0, rfl, fun i hi => ?_⟩⟩
  match i, hi with
  | 0, _ => simp
  | 1, _ => simp
  | 2, _ => simp
  | 3, _ => simp
  | 4, _ => simp
/-- Works on a disk, one behind the other. -/
theorem inTurn_disk (hD : DiskOk R) (X : World) (g : Nat) (D : Dk) (F : Nat → Prop) (A : Option Addr) (n c : Nat) (fs : List (Nat × Array Value)) (acts : List Doing) (hR : R X g D F) (hfa : FAt X A n fs) (hA : InF (fun k => ¬ F k) A) (hlen : acts.length = n) (hn : n ≤ 1000)
    (hent : ∀ i (h : i < fs.length), ∀ args W, (callFunc (fs[i]'h).1 args).run Tryz.prog W = .ok (.enter (fs[i]'h).1 args) W)
    (step : ∀ i (h : i < fs.length) (h2 : i < acts.length) D V, R V g D (nF F X V) → Grow F X V → Calls Tryz.prog (fs[i]'h).1 (fs[i]'h).2 V fun e w' => e = .returned (.int .i64 ((acts[i]'h2) D).2) ∧ Turns R V g (nF F X V) ((acts[i]'h2) D).1 w') :
    Calls Tryz.prog 131 #[.slice A n c] X fun e w' => e = .returned (.int .i64 (runA acts D).2) ∧ Turns R X g F (runA acts D).1 w' :=
  inTurn_ok A n c fs (fun D V => Turns R X g F D V) acts hlen hn hent (fun D V h => hfa.grow h.2 hA)
    (fun i h h2 D V ht => (step i h h2 D V ht.1 ht.2).mono fun e w' ⟨h1, h3⟩ => ⟨h1, Turns.trans (D1 := D) ht.2 h3⟩) D X (hD.turn1 hR (Below.refl _ _))
end

section
variable {R : DRep}
set_option maxRecDepth 100000 in
theorem cWL1 (hD : DiskOk R) (w : World) (g : Nat) (D : Dk) (F : Nat → Prop) (h1 h2 : Nat) (A : Option Addr) (n c : Nat) (xs : List UInt8) (hR : R w g D F) (c1 : w.cell? ⟨h1, 0, none⟩ = some (pt g)) (c2 : w.cell? ⟨h2, 0, none⟩ = some (.slice A n c)) (hx : At w A n xs) (hA : 0 < n → InF (fun k => ¬ F k) A) (hn : n ≤ 140000000000000) :
    Calls Tryz.prog 135 #[pt h1, pt h2] w fun e w' => e = .returned (.int .i64 (aApp nLog xs D).2) ∧ Turns R w g F (aApp nLog xs D).1 w' := by
  have HA := Lib.hid (hD.append w g D F nLog A n c xs hR hx hA hn)
  clear hx
  go_enter Tryz.func135, Tryz.ntmps135
  go_wp2_with (first
    | (go_at_call 15; go_loud (refine HA.out.mono ?_; rintro e w2 ⟨rfl, ht⟩)))
  go_ret
  exact ⟨rfl, ht⟩
set_option maxRecDepth 100000 in
theorem cWL2 (hD : DiskOk R) (w : World) (g : Nat) (D : Dk) (F : Nat → Prop) (h1 : Nat) (hR : R w g D F) (c1 : w.cell? ⟨h1, 0, none⟩ = some (pt g)) :
    Calls Tryz.prog 136 #[pt h1] w fun e w' => e = .returned (.int .i64 (aSyn nLog D).2) ∧ Turns R w g F (aSyn nLog D).1 w' := by
  have HA := Lib.hid (hD.sync w g D F nLog hR)
  go_enter Tryz.func136, Tryz.ntmps136
  go_wp2_with (first
    | (go_at_call 16; go_loud (refine HA.out.mono ?_; rintro e w2 ⟨rfl, ht⟩)))
  go_ret
  exact ⟨rfl, ht⟩
theorem At.grow {X V : World} {F : Nat → Prop} {A : Option Addr} {n : Nat} {xs : List UInt8} (h : At X A n xs) (hg : Grow F X V) (hA : 0 < n → InF (fun k => ¬ F k) A) : At V A n xs := by
  refine ⟨h.1, fun h0 => ?_⟩
  obtain ⟨b, o, rfl, hc⟩ := h.2 h0
  exact ⟨b, o, rfl, fun i hi => hg.cell_ (hc i hi) (hA h0 ⟨b, o, none⟩ rfl)⟩
theorem wl_in {w : World} {B c : Nat} {A : Option Addr} {l : List UInt8} {o : Obj} (h : Own w B (.slice A l.length c) l) (h0 : 0 < l.length) {a : Addr} (e : A = some a) : B ≤ a.block ∧ a.block < (w.alloc o).heap.size := by
  obtain ⟨gg, rfl, hg1, hg2⟩ := h.some_' rfl h0
  injection e with e
  subst e
  exact ⟨hg1, Nat.lt_of_lt_of_le hg2 (nba w o).size⟩
theorem notF {F : Nat → Prop} {X V : World} {k : Nat} (h : ¬ F k) (hk : k < X.heap.size) : ¬ nF F X V k := fun e => by rcases e with e | e; exact h e; omega
set_option maxRecDepth 100000 in
theorem wl_run (hD : DiskOk R) (w Y : World) (g : Nat) (D : Dk) (F : Nat → Prop) (h1 h2 k : Nat) (A : Option Addr) (n c : Nat) (xs : List UInt8) (t : TypeId) (hk : k = Y.heap.size) (hb : Below w.heap.size w Y) (hR : R w g D F) (c1 : Y.cell? ⟨h1, 0, none⟩ = some (pt g)) (c2 : Y.cell? ⟨h2, 0, none⟩ = some (.slice A n c))
    (hh1 : w.heap.size ≤ h1) (hh2 : w.heap.size ≤ h2) (hx : At Y A n xs) (hA : 0 < n → InF (fun k => w.heap.size ≤ k ∧ k < Y.heap.size) A) (hn : n ≤ 140000000000000) :
    Calls Tryz.prog 131 #[.slice (some ⟨k, 0, none⟩) 2 2] (Y.alloc (.cells #[.func (.func 135) #[] #[pt h1, pt h2], .func (.func 136) #[] #[pt h1]] t)) fun e w' => e = .returned (.int .i64 (runA [aApp nLog xs, aSyn nLog] D).2) ∧ Turns R w g F (runA [aApp nLog xs, aSyn nLog] D).1 w' := by
  subst hk
  have hl := hD.lt hR
  have hbX := hb.trans ((nba Y (.cells #[.func (.func 135) #[] #[pt h1, pt h2], .func (.func 136) #[] #[pt h1]] t)).mono hb.size)
  have hYX := nba Y (.cells #[.func (.func 135) #[] #[pt h1, pt h2], .func (.func 136) #[] #[pt h1]] t)
  have hfa := lit_f2 Y 135 136 #[pt h1, pt h2] #[pt h1] t
  generalize Y.alloc (.cells #[.func (.func 135) #[] #[pt h1, pt h2], .func (.func 136) #[] #[pt h1]] t) = X at *
  have hs := hYX.size
  have hF : ∀ k, w.heap.size ≤ k → ¬ F k := fun k hk e => by have := hl k e; omega
  have d1 := bcell hYX c1
  have d2 := bcell hYX c2
  have hxX := hx.below' hYX
  have l1 := World.block_lt_of_cell? X _ d1
  have l2 := World.block_lt_of_cell? X _ d2
  refine (inTurn_disk hD X g D F (some ⟨Y.heap.size, 0, none⟩) 2 2 _ [aApp nLog xs, aSyn nLog] (hD.below hR hbX) hfa (fun a e => by injection e with e; subst e; exact hF _ hb.size) rfl (by omega)
    (fun i h args W => by match i, h with | 0, _ => rfl | 1, _ => rfl) (fun i h h2' D V hV hG => ?_)).mono ?_
  · match i, h, h2' with
    | 0, _, _ => exact cWL1 hD V g D (nF F X V) h1 h2 A n c xs hV (hG.cell_ d1 (hF _ hh1)) (hG.cell_ d2 (hF _ hh2)) (hxX.grow hG (fun h0 a e => hF _ (hA h0 a e).1)) (fun h0 a e => notF (hF _ (hA h0 a e).1) (by have := (hA h0 a e).2; omega)) hn
    | 1, _, _ => exact cWL2 hD V g D (nF F X V) h1 hV (hG.cell_ d1 (hF _ hh1))
  · rintro e w' ⟨rfl, ht⟩
    exact ⟨rfl, hD.under1 hbX ht hl⟩
set_option maxRecDepth 100000 in
set_option maxHeartbeats 4000000 in
theorem wWriteLog (hD : DiskOk R) (w : World) (g : Nat) (D : Dk) (F : Nat → Prop) (t n : Nat) (hR : R w g D F) (ht : t ≤ 9007199254740991) (hn : n ≤ 9007199254740991) :
    Calls Tryz.prog 83 #[pt g, .int .i64 (t : Int), .int .i64 (n : Int)] w fun e w' => e = .returned (.int .i64 (writeA t n D).2) ∧ Turns R w g F (writeA t n D).1 w' := by
  have hl := hD.lt hR
  have HD := Lib.hid hD
  have HR := Lib.hid hR
  obtain ⟨L0, hL0⟩ : ∃ L0, L0 = headB t n := ⟨_, rfl⟩
  have hL0' : L0 = ([t, n].map enc).flatten := by rw [hL0]; simp [headB]
  have hl0 : L0.length ≤ 16 := by
    rw [hL0']
    have := flat_enc_le [t, n] (by intro x hx; simp at hx; rcases hx with rfl | rfl <;> omega)
    simpa using this
  have HL0 := Lib.hid hL0'
  obtain ⟨L1, hL1⟩ : ∃ L1, L1 = fr L0 := ⟨_, rfl⟩
  have hl1 : L1.length ≤ 40 := by
    rw [hL1, fr_len]
    have := enc_len L0.length (by omega)
    omega
  have HL1 := Lib.hid hL1
  have HWA := Lib.hid (show writeA t n = runA [aApp nLog L1, aSyn nLog] from by rw [hL1, hL0]; rfl)
  rw [HWA.out]
  clear hL0 hL0' hL1 hR hD
  go_enter Tryz.func83, Tryz.ntmps83
  go_wp2_with (first
    | (go_at_call 129; go_loud (refine (wNums _ 2 2 [t, n] _ (lit_two' _ _ t n _ (by simp)) (by omega) (by intro x hx; simp at hx; rcases hx with rfl | rfl <;> omega)).mono ?_; rintro e w2 ⟨v2, rfl, ho2, hb2⟩; rw [← HL0.out] at ho2; obtain ⟨A2, c2, rfl, hat2, hle2, hcm2, _⟩ := ho2.form; have HB2 := Lib.hid (jstep (X := w) (bal (bal (Below.refl _ _) _) _) hb2); have hc2 := bcell (X := w.alloc (.cells #[pt g] 24)) (a := ⟨w.heap.size, 0, none⟩) (v := pt g) (jstep (bal (Below.refl _ _) _) hb2) (by simp); clear ho2 hb2))
    | (go_at_call 132; go_loud (refine (wRec A2 _ c2 L0 w2 hat2 hle2 hcm2 (by omega)).mono ?_; rintro e w3 ⟨v3, rfl, ho3, hb3⟩; rw [← HL1.out] at ho3; obtain ⟨A3, c3, rfl, hat3, hle3, hcm3, _⟩ := ho3.form; have HO3 := Lib.hid (ho3.base (B' := w.heap.size) HB2.out.size); have HB3 := Lib.hid (jstep HB2.out hb3); have hc3 := bcell hb3 hc2; clear ho3 hb3 hat2)))
  have x1 := bcell (nba w3 (.cells #[.slice A3 L1.length c3] 40)) hc3
  have x2 : (w3.alloc (.cells #[.slice A3 L1.length c3] 40)).cell? ⟨w3.heap.size, 0, none⟩ = some (.slice A3 L1.length c3) := by simp
  have x3 := hat3.below' (nba w3 (.cells #[.slice A3 L1.length c3] 40))
  have x4 : 0 < L1.length → InF (fun k => w.heap.size ≤ k ∧ k < (w3.alloc (.cells #[.slice A3 L1.length c3] 40)).heap.size) A3 := fun h0 a e => wl_in HO3.out h0 e
  have x5 := wl_run HD.out w _ g D F w.heap.size w3.heap.size (w3.heap.size + 1) A3 L1.length c3 L1 57 (by simp) (bal' HB3.out _) HR.out x1 x2 (Nat.le_refl _) HB3.out.size x3 x4 (by omega)
  refine x5.mono ?_
  rintro e w4 ⟨rfl, ht4⟩
  go_wp2_with fail
  go_ret
  exact ⟨rfl, ht4⟩
end
end Go.Proofs.YtamglegdgcehaaaGreat
set_option linter.unusedVariables false
namespace Go.Proofs.YtamglegdgcehaaaGreat
open Go.RowKit

section
variable {w V V' : World} {B : Nat}
theorem LO.get {A : Option Addr} {n c : Nat} {ls : List (List UInt8)} (h : LO w B (.slice A n c) ls) (j : Nat) (hj : j < ls.length) :
    ∃ g A' c', A = some ⟨g, 0, none⟩ ∧ w.cell? ⟨g, j, none⟩ = some (.slice A' (ls[j]'hj).length c') ∧ Own w B (.slice A' (ls[j]'hj).length c') (ls[j]'hj) := by
  obtain ⟨us, h1, h2⟩ := h
  have hju : j < us.length := by rw [h2.1]; exact hj
  have ho := h2.2 j _ _ (List.getElem?_eq_getElem hju) (List.getElem?_eq_getElem hj)
  obtain ⟨A', c', hu, _⟩ := ho.form
  rcases h1.2 with ⟨e, hn0⟩ | ⟨q, cap, cur, e, hq, hh, hnc, hcm, hcs, htk⟩
  · omega
  · injection e with e1 e2 e3
    refine ⟨q, A', c', e1, ?_, hu ▸ ho⟩
    subst e1
    subst e2
    have := h1.cellAt j (by have := h2.1; omega)
    rw [List.getElem?_eq_getElem hju, hu] at this
    exact this
theorem LO.len {A : Option Addr} {n c : Nat} {ls : List (List UInt8)} (h : LO w B (.slice A n c) ls) : ls.length = n := by
  obtain ⟨A', c', e, h1, _⟩ := h.form
  injection e with e1 e2 e3
  exact e2.symm
/-- A new reader. -/
theorem rd_new {u : Value} {l : List UInt8} (h : Own w B u l) : RdAt (w.alloc (.cells #[u, .bool false] 183)) w.heap.size ⟨l, false⟩ := by
  obtain ⟨A, c, rfl, hat, h1, h2, h3⟩ := h.form
  refine ⟨A, l.length, c, heap_alloc_new w _, hat.below' (nba w _), h1, h2, fun h0 a e => ?_⟩
  obtain ⟨g, rfl, hg1, hg2⟩ := h.some_' rfl h0
  injection e with e
  subst e
  exact hg2
theorem only_below {q : Nat} (hO : Only q V V') (hq : w.heap.size ≤ q) (hb : Below w.heap.size w V) : Below w.heap.size w V' :=
  Grow.below hb hb.size (fun k e => by rw [e]; exact hq) hO
theorem only_cell {q : Nat} (hO : Only q V V') {a : Addr} {v : Value} (hc : V.cell? a = some v) (hq : a.block ≠ q) : V'.cell? a = some v := Grow.cell_ hO hc hq
end
def hdA (p : List UInt8) : Nat := (rNum ⟨p, false⟩).1
def hdB (p : List UInt8) : Nat := (rNum (rNum ⟨p, false⟩).2).1
def hdR (p : List UInt8) : Rd := (rNum (rNum ⟨p, false⟩).2).2
theorem rdHead_eq (p : List UInt8) : rdHead p = if (rDone (hdR p) && decide (1 ≤ hdA p)) = true then some (hdA p, hdB p) else none := by
  unfold rdHead hdR hdA hdB
  simp only [Bool.and_eq_true, decide_eq_true_eq]
theorem results_tmp4 {fn : Func} {t u v x : Tmp} (h : fn.results = #[.tmp t, .tmp u, .tmp v, .tmp x]) (tmps : Array Value) (P : Program) (w : World) :
    (results fn tmps).run P w = .ok (.tuple #[tmps.getD t undef, tmps.getD u undef, tmps.getD v undef, tmps.getD x undef]) w := by
  simp [results, h]
set_option maxRecDepth 100000 in
set_option maxHeartbeats 4000000 in
theorem wHead (w : World) (B : Nat) (A : Option Addr) (n c : Nat) (ls : List (List UInt8)) (hL : LO w B (.slice A n c) ls) :
    Calls Tryz.prog 124 #[.slice A n c] w fun e w' => (ls = [] → e = .returned (.tuple #[.int .i64 0, .int .i64 0, .bool false])) ∧ (∀ p r, ls = p :: r → e = .returned (.tuple #[.int .i64 (hdA p : Nat), .int .i64 (hdB p : Nat), .bool (rDone (hdR p) && decide (1 ≤ hdA p))])) ∧ Below w.heap.size w w' := by
  have hn := hL.len
  cases ls with
  | nil =>
    obtain rfl : n = 0 := hn.symm
    clear hL
    go_enter Tryz.func124, Tryz.ntmps124
    go_wp2
    go_ret3
    exact ⟨fun _ => rfl, (fun p r e => nomatch e), Below.refl _ _⟩
  | cons p r =>
    obtain ⟨g, A', c', rfl, hc, ho⟩ := hL.get 0 (by simp)
    have hl : n = r.length + 1 := by rw [← hn]; rfl
    simp only [List.getElem_cons_zero] at hc ho
    have HR := Lib.hid (rd_new ho)
    have HB := Lib.hid (nba w (.cells #[.slice A' p.length c', .bool false] 183))
    have N1 := Lib.hid (fun V (h : RdAt V w.heap.size ⟨p, false⟩) => wNumber V _ _ h)
    have N2 := Lib.hid (fun V (h : RdAt V w.heap.size (rNum ⟨p, false⟩).2) => wNumber V _ _ h)
    have ND := Lib.hid (fun V (h : RdAt V w.heap.size (hdR p)) => wDone V _ _ h)
    have hr : (rNum (rNum ⟨p, false⟩).2).2 = hdR p := rfl
    rw [hr] at N2
    rw [show (rNum (rNum ⟨p, false⟩).2).1 = hdB p from rfl] at N2
    rw [show (rNum ⟨p, false⟩).1 = hdA p from rfl] at N1
    suffices H : Calls Tryz.prog 124 #[.slice (some ⟨g, 0, none⟩) n c] w fun e w' => e = .returned (.tuple #[.int .i64 (hdA p : Nat), .int .i64 (hdB p : Nat), .bool (rDone (hdR p) && decide (1 ≤ hdA p))]) ∧ Below w.heap.size w w' by
      exact H.mono fun e w' h => ⟨(fun e0 => nomatch e0), fun p' r' e0 => by injection e0 with e1 e2; subst e1; exact h.1, h.2⟩
    generalize rDone (hdR p) = dn at *
    generalize hdA p = a at *
    generalize hdB p = b at *
    clear hr hL hn
    cases dn with
    | true =>
      go_enter Tryz.func124, Tryz.ntmps124
      go_wp2_with (first
        | (go_at_call 156; go_loud (refine (N1.out _ HR.out).mono ?_; rintro e w1 ⟨rfl, r1, o1⟩))
        | (go_at_call 156; go_loud (refine (N2.out _ r1).mono ?_; rintro e w2 ⟨rfl, r2, o2⟩))
        | (go_at_call 157; go_loud (refine (ND.out _ r2).mono ?_; rintro e w3 ⟨rfl, b3⟩)))
      go_ret3
      have e1 : decide ((1 : Int) ≤ (a : Int)) = decide (1 ≤ a) := decide_eq_decide.2 (by omega)
      exact ⟨by rw [Bool.true_and, ← e1]; rfl, jstep (only_below o2 (Nat.le_refl _) (only_below o1 (Nat.le_refl _) HB.out)) b3⟩
    | false =>
      go_enter Tryz.func124, Tryz.ntmps124
      go_wp2_with (first
        | (go_at_call 156; go_loud (refine (N1.out _ HR.out).mono ?_; rintro e w1 ⟨rfl, r1, o1⟩))
        | (go_at_call 156; go_loud (refine (N2.out _ r1).mono ?_; rintro e w2 ⟨rfl, r2, o2⟩))
        | (go_at_call 157; go_loud (refine (ND.out _ r2).mono ?_; rintro e w3 ⟨rfl, b3⟩)))
      go_ret3
      exact ⟨rfl, jstep (only_below o2 (Nat.le_refl _) (only_below o1 (Nat.le_refl _) HB.out)) b3⟩
end Go.Proofs.YtamglegdgcehaaaGreat
set_option linter.unusedVariables false
namespace Go.Proofs.YtamglegdgcehaaaGreat
open Go.RowKit

theorem infoOp : ∃ z, (Tryz.prog.info? 73).map (fun i => (i.zero, i.size, i.bytes)) = some (some z, 3, 40) ∧ z.cells.size = 3 := ⟨.agg #[.string ⟨#[]⟩, .string ⟨#[]⟩, .bool false], by kernel_rfl, by kernel_rfl⟩
def opVals (o : Op_) : List Value := [.string o.key, .string o.value, .bool o.del]
/-- Changes of one's own. -/
def OO (w : World) (B : Nat) (v : Value) (l : List Op_) : Prop := w.ownsRow B 73 3 v l.length (l.flatMap opVals)
section
variable {w V : World} {B : Nat} {v : Value} {l : List Op_}
theorem OO.nil (w : World) (B : Nat) : OO w B (.slice none 0 0) [] := World.ownsRow_nil _ _ _ _
theorem OO.below (h : OO w B v l) (hb : Below w.heap.size w V) : OO V B v l :=
  World.ownsRow.kept h (row := none) ⟨hb.os, hb.tape, hb.output, hb.size, fun k hk _ => hb.block k hk⟩ (by
    cases hv : v.ownBlock with
    | none => exact .inl rfl
    | some q => exact .inr (by simp))
theorem OO.only {q : Nat} (h : OO w B v l) (hO : Only q w V) (hq : v.ownBlock ≠ some q) : OO V B v l :=
  World.ownsRow.kept h (row := some q) ⟨hO.os, hO.tape, hO.output, hO.size, fun k hk hn => hO.block k hk (fun e => hn (by rw [e]))⟩ (.inr hq)
theorem flatMap_len (l : List Op_) : (l.flatMap opVals).length = l.length * 3 := by
  induction l with
  | nil => rfl
  | cons o l ih =>
    rw [List.flatMap_cons, List.length_append, ih, List.length_cons]
    show 3 + l.length * 3 = _
    omega
theorem flatMap_get : ∀ (l : List Op_) (i : Nat) (h : i < l.length), (l.flatMap opVals)[i * 3]? = some (.string (l[i]'h).key) ∧ (l.flatMap opVals)[i * 3 + 1]? = some (.string (l[i]'h).value) ∧ (l.flatMap opVals)[i * 3 + 2]? = some (.bool (l[i]'h).del)
  | o :: l, 0, _ => ⟨rfl, rfl, rfl⟩
  | o :: l, i + 1, h => by
    have hi : i < l.length := by simpa using h
    obtain ⟨h1, h2, h3⟩ := flatMap_get l i hi
    have e : ∀ j, ((o :: l).flatMap opVals)[j + 3]? = (l.flatMap opVals)[j]? := fun j => by
      rw [List.flatMap_cons, List.getElem?_append_right (by show 3 ≤ j + 3; omega)]
      rfl
    refine ⟨?_, ?_, ?_⟩
    · rw [show (i + 1) * 3 = i * 3 + 3 from by omega, e, h1]; rfl
    · rw [show (i + 1) * 3 + 1 = (i * 3 + 1) + 3 from by omega, e, h2]; rfl
    · rw [show (i + 1) * 3 + 2 = (i * 3 + 2) + 3 from by omega, e, h3]; rfl
theorem OO.form (h : OO w B v l) : ∃ A c, v = .slice A l.length c ∧ OAt w A l.length l ∧ l.length ≤ c ∧ c ≤ 9223372036854775807 ∧ (0 < l.length → InF (fun k => B ≤ k ∧ k < w.heap.size) A) := by
  unfold OO at h
  rcases h.2 with ⟨rfl, hn0⟩ | ⟨q, cap, cur, rfl, hq, hh, hnc, hcm, hcs, htk⟩
  · obtain rfl : l = [] := List.eq_nil_of_length_eq_zero hn0
    exact ⟨none, 0, rfl, ⟨rfl, fun h => absurd h (by simp)⟩, by simp, by omega, fun h => absurd h (by simp)⟩
  · refine ⟨_, cap, rfl, ⟨rfl, fun _ => ⟨q, 0, rfl, fun j hj => ?_⟩⟩, hnc, hcm, fun _ a e => ?_⟩
    · obtain ⟨h1, h2, h3⟩ := flatMap_get l j hj
      refine ⟨?_, ?_, ?_⟩
      · rw [Nat.zero_add, h.cellAt (j * 3) (by omega), h1]
      · rw [Nat.zero_add, h.cellAt (j * 3 + 1) (by omega), h2]
      · rw [Nat.zero_add, h.cellAt (j * 3 + 2) (by omega), h3]
    · injection e with e
      subst e
      exact ⟨hq, lt_of_some hh⟩
theorem OO.base {B' : Nat} (h : OO w B v l) (hB : B' ≤ B) : OO w B' v l := by
  unfold OO at *
  refine ⟨h.1, ?_⟩
  rcases h.2 with e | ⟨q, cap, cur, e, hq, r⟩
  · exact .inl e
  · exact .inr ⟨q, cap, cur, e, Nat.le_trans hB hq, r⟩
theorem OO.lt (h : OO w B v l) : ∀ k, v.ownBlock = some k → B ≤ k ∧ k < w.heap.size := World.ownsRow.lt h
end

theorem flatMap_snoc (l : List Op_) (o : Op_) : (l ++ [o]).flatMap opVals = l.flatMap opVals ++ opVals o := by simp
theorem wpList_appO {w : World} {ops : Array Oper} {rest : List Oper} {o : Oper} {a : Act} {Q : Exit → Act → World → Prop} (hgd : o.guard = none) (s x : Operand)
    (ho : o.op = .call { callee := .builtin .append, args := #[s, x], argTypes := #[34, 34] })
    (B : Nat) (v : Value) (l : List Op_) (hs : a.eval s = v) (hown : OO w B v l) (g c : Nat) (op : Op_) (hx : a.eval x = .slice (some ⟨g, 0, none⟩) 1 c) (hn : ∀ j u, (opVals op)[j]? = some u → w.cell? ⟨g, j, none⟩ = some u)
    (hsz : l.length ≤ 1000000) (hbase : B ≤ w.heap.size)
    (h : ∀ v' w', OO w' B v' (l ++ [op]) → w.grownBy w' v.ownBlock → wpList Tryz.prog ops Q rest (a.put o.dst v') w') :
    wpList Tryz.prog ops Q (o :: rest) a w := by
  obtain ⟨z, hinfo, hzc⟩ := infoOp
  obtain ⟨i, hi, hz, hsz1, hby⟩ := info_parts hinfo
  refine wpList_appV hgd s x 34 ho B 73 i z 3 40 Tryz.underlying34 hi hz hsz1 hby hzc (by omega) v l.length _ hs hown (some ⟨g, 0, none⟩) 1 c (opVals op) hx rfl
    (fun _ => ⟨g, 0, rfl, fun j u hj => by rw [Nat.zero_add]; exact hn j u hj⟩) (fun u hu => by simp only [opVals, List.mem_cons, List.not_mem_nil, or_false] at hu; rcases hu with rfl | rfl | rfl <;> rfl) (by unfold maxLen; omega) (by omega) hbase (fun v' w' hr hg => h v' w' ?_ hg)
  unfold OO
  rw [flatMap_snoc, List.length_append]
  exact hr
theorem oo_grown {w0 w w' : World} {B : Nat} {v : Value} {l : List Op_} (h : OO w B v l) (hb : Below B w0 w) (hB : B ≤ w.heap.size) (hg : w.grownBy w' v.ownBlock) : Below B w0 w' :=
  hb.trans ⟨hg.os, hg.tape, hg.output, hg.size, fun k hk => hg.block k (by omega) (fun e => by have := (h.lt k e.symm).1; omega)⟩
theorem rd_grown {w w' : World} {B q : Nat} {v : Value} {l : List Op_} {x : Rd} (h : RdAt w q x) (ho : OO w B v l) (hg : w.grownBy w' v.ownBlock) (hq : q < B) : RdAt w' q x := by
  obtain ⟨A, n, c, h1, h2, h3, h4, h5⟩ := h
  have keep : ∀ k, k < B → k < w.heap.size → w'.heap[k]? = w.heap[k]? := fun k hk hk2 => hg.block k hk2 (fun e => by have := (ho.lt k e.symm).1; omega)
  refine ⟨A, n, c, (keep q hq (lt_of_some h1)).trans h1, ⟨h2.1, fun h0 => ?_⟩, h3, h4, h5⟩
  obtain ⟨b, o, e, hc⟩ := h2.2 h0
  have hb : b < q := h5 h0 _ e
  exact ⟨b, o, e, fun i hi => (World.cell?_of_block (a := ⟨b, o + i, none⟩) (keep b (by omega) (Nat.lt_trans hb (lt_of_some h1)))).trans (hc i hi)⟩

/-! ### what a batch's record tells, whatever number it has -/
def bN (p : List UInt8) : Nat := (rNum ⟨p, false⟩).1
def bC (p : List UInt8) : Nat := (rNum (rNum ⟨p, false⟩).2).1
def bR (p : List UInt8) : Rd := (rNum (rNum ⟨p, false⟩).2).2
def rdB0 (p : List UInt8) : Option (List Op_) :=
  if 128 < bC p then none else match rdOps (bC p) (bR p) with
    | none => none
    | some (l, r) => if rDone r = true ∧ opsE l = 0 then some l else none
theorem rdBatch_eq (p : List UInt8) (k : Nat) : rdBatch p k = if bN p = k then rdB0 p else none := by
  unfold rdBatch rdB0 bN bC bR
  simp only
  by_cases h1 : (rNum ⟨p, false⟩).1 = k
  · by_cases h2 : 128 < (rNum (rNum ⟨p, false⟩).2).1
    · rw [if_pos (.inl h2), if_pos h1, if_pos h2]
    · rw [if_neg (by rintro (h | h); exact h2 h; exact h h1), if_pos h1, if_neg h2]
      cases rdOps (rNum (rNum ⟨p, false⟩).2).1 (rNum (rNum ⟨p, false⟩).2).2 with
      | none => rfl
      | some x => rfl
  · rw [if_pos (.inr h1), if_neg h1]
/-- One change: the reader, the flag, the texts. -/
theorem rdOps_succ (k : Nat) (r : Rd) : rdOps (k + 1) r = if 1 < (rNum r).1 then none else match rdOps k (rStr (rStr (rNum r).2).2).2 with
      | none => none
      | some (l, r') => some (⟨(rStr (rNum r).2).1, (rStr (rStr (rNum r).2).2).1, decide ((rNum r).1 = 1)⟩ :: l, r') := rfl
/-- How the loop stands: so many are taken, so many are left. -/
def Ahead (p : List UInt8) (k : Nat) (l : List Op_) (r : Rd) : Prop := rdOps (bC p) (bR p) = match rdOps k r with
  | none => none
  | some (l2, r2) => some (l ++ l2, r2)
theorem Ahead.start (p : List UInt8) : Ahead p (bC p) [] (bR p) := by
  unfold Ahead
  cases rdOps (bC p) (bR p) with
  | none => rfl
  | some x => rfl
theorem Ahead.next {p : List UInt8} {k : Nat} {l : List Op_} {r : Rd} (h : Ahead p (k + 1) l r) (h1 : (rNum r).1 ≤ 1) :
    Ahead p k (l ++ [⟨(rStr (rNum r).2).1, (rStr (rStr (rNum r).2).2).1, decide ((rNum r).1 = 1)⟩]) (rStr (rStr (rNum r).2).2).2 := by
  unfold Ahead at *
  rw [h, rdOps_succ, if_neg (by omega)]
  cases rdOps k (rStr (rStr (rNum r).2).2).2 with
  | none => rfl
  | some x => simp
theorem Ahead.bad {p : List UInt8} {k : Nat} {l : List Op_} {r : Rd} (h : Ahead p (k + 1) l r) (h1 : 1 < (rNum r).1) : rdB0 p = none := by
  unfold Ahead at h
  rw [rdOps_succ, if_pos h1] at h
  unfold rdB0
  rw [h]
  split <;> rfl
theorem Ahead.ends {p : List UInt8} {l : List Op_} {r : Rd} (h : Ahead p 0 l r) (h2 : bC p ≤ 128) : rdB0 p = if rDone r = true ∧ opsE l = 0 then some l else none := by
  unfold Ahead at h
  rw [show rdOps 0 r = some ([], r) from rfl] at h
  simp only [List.append_nil] at h
  unfold rdB0
  rw [if_neg (by omega), h]
set_option maxRecDepth 100000 in
set_option maxHeartbeats 4000000 in
theorem wBatchR (w : World) (B : Nat) (A : Option Addr) (c : Nat) (p : List UInt8) (ho : Own w B (.slice A p.length c) p) :
    Calls Tryz.prog 162 #[.slice A p.length c] w fun e w' => ∃ k v is, e = .returned (.tuple #[.int .i64 (k : Nat), v, .bool is]) ∧ (is = false → rdB0 p = none) ∧ (is = true → k = bN p ∧ ∃ l, rdB0 p = some l ∧ OO w' w.heap.size v l) ∧ (∃ A' n' c', v = .slice A' n' c') ∧ Below w.heap.size w w' := by
  have HR := Lib.hid (rd_new ho)
  have HB := Lib.hid (nba w (.cells #[.slice A p.length c, .bool false] 183))
  have N1 := Lib.hid (fun V (h : RdAt V w.heap.size ⟨p, false⟩) => wNumber V _ _ h)
  have N2 := Lib.hid (fun V (h : RdAt V w.heap.size (rNum ⟨p, false⟩).2) => wNumber V _ _ h)
  have hr : (rNum (rNum ⟨p, false⟩).2).2 = bR p := rfl
  rw [hr] at N2
  rw [show (rNum (rNum ⟨p, false⟩).2).1 = bC p from rfl] at N2
  rw [show (rNum ⟨p, false⟩).1 = bN p from rfl] at N1
  obtain ⟨C, hC⟩ : ∃ C, bC p = C := ⟨_, rfl⟩
  obtain ⟨N, hN⟩ : ∃ C, bN p = C := ⟨_, rfl⟩
  rw [hC] at N2
  rw [hN] at N1
  have HC := Lib.hid hC
  have HN := Lib.hid hN
  rw [hN]
  clear hr ho hC hN
  by_cases hbig : 128 < C
  · have H0 := Lib.hid (show rdB0 p = none from by unfold rdB0; rw [HC.out, if_pos hbig])
    go_enter Tryz.func162, Tryz.ntmps162
    go_wp2_with (first
      | (go_at_call 156; go_loud (refine (N1.out _ HR.out).mono ?_; rintro e w1 ⟨rfl, r1, o1⟩))
      | (go_at_call 156; go_loud (refine (N2.out _ r1).mono ?_; rintro e w2 ⟨rfl, r2, o2⟩)))
    go_ret3
    exact ⟨0, _, _, rfl, (fun _ => H0.out), (fun e => nomatch e), ⟨none, 0, 0, rfl⟩, only_below o2 (Nat.le_refl _) (only_below o1 (Nat.le_refl _) HB.out)⟩
  · go_enter Tryz.func162, Tryz.ntmps162
    go_wp2_with (first
      | (go_at_call 156; go_loud (refine (N1.out _ HR.out).mono ?_; rintro e w1 ⟨rfl, r1, o1⟩))
      | (go_at_call 156; go_loud (refine (N2.out _ r1).mono ?_; rintro e w2 ⟨rfl, r2, o2⟩)))
    have B2 := Lib.hid (only_below o2 (Nat.le_refl _) (only_below o1 (Nat.le_refl _) HB.out))
    have R2 := Lib.hid r2
    have A2 := Lib.hid (Ahead.start p)
    clear r2 r1 o1 o2 N1 N2
    have HRT := Lib.hid (fun V x (h : RdAt V w.heap.size x) => h.lt)
    clear HR HB
    go_loopw [2, 3, 17] (fun un v i wr => ∃ (j : Nat) (l : List Op_) (r : Rd), un = .int .i64 (N : Int) ∧ j ≤ C ∧ i = .int .i64 j ∧ Hid (l.length = j) ∧ Hid (Ahead p (C - j) l r) ∧ Hid (OO wr (w.heap.size + 1) v l) ∧ Hid (RdAt wr w.heap.size r) ∧ Hid (Below w.heap.size w wr)) (fun _ _ i _ => C - (intOf i).toNat)
    case atStart => exact ⟨0, [], bR p, rfl, Nat.zero_le _, rfl, Lib.hid rfl, by rw [HC.out] at A2; exact A2, Lib.hid (OO.nil _ _), R2, B2⟩
    case round =>
      clear A2 R2 B2
      obtain ⟨j, l, r, rfl, hj, rfl, HLL, HA, HO, HRr, HBr⟩ := hrel
      have hlb : l.length ≤ 128 := by rw [HLL.out]; omega
      have hqs := HRr.out.lt
      obtain ⟨Al, cl, rfl⟩ : ∃ A c, u3 = .slice A l.length c := by obtain ⟨A, c, h, _⟩ := HO.out.form; exact ⟨A, c, h⟩
      by_cases hlt : j < C
      · have hA' := HA.out
        rw [show C - j = (C - (j + 1)) + 1 from by omega] at hA'
        have AN := Lib.hid (fun h1 => hA'.next h1)
        have AB := Lib.hid (fun h1 => hA'.bad h1)
        have C1 := Lib.hid (wNumber wr _ r HRr.out)
        have C2 := Lib.hid (fun V (h : RdAt V w.heap.size (rNum r).2) => wText V _ _ h)
        have C3 := Lib.hid (fun V (h : RdAt V w.heap.size (rStr (rNum r).2).2) => wText V _ _ h)
        generalize (rStr (rStr (rNum r).2).2).2 = x3 at *
        generalize (rStr (rStr (rNum r).2).2).1 = value at *
        generalize (rStr (rNum r).2).2 = x2 at *
        generalize (rStr (rNum r).2).1 = key at *
        generalize (rNum r).2 = x1 at *
        generalize (rNum r).1 = f at *
        clear hA' HA
        by_cases hf1 : f ≤ 1
        · have AN2 := Lib.hid (AN.out hf1)
          have H3 := Lib.hid (fun V (h : Below wr.heap.size wr V) => HO.out.below h)
          clear AN AB
          have hne : (Value.slice Al l.length cl).ownBlock ≠ some w.heap.size := fun e => absurd (HO.out.lt _ e).1 (by omega)
          have hf : f = 0 ∨ f = 1 := by omega
          rcases hf with rfl | rfl
          · have AN3 := Lib.hid (show Ahead p (C - (j + 1)) (l ++ [⟨key, value, false⟩]) x3 from by have h := AN2.out; simpa using h)
            clear AN2
            go_wp2_with (first
              | (go_at_call 156; refine C1.out.mono ?_; rintro e w3 ⟨rfl, r3, o3⟩)
              | (go_at_call 158; refine (C2.out _ r3).mono ?_; rintro e w4 ⟨rfl, r4, o4⟩)
              | (go_at_call 158; refine (C3.out _ r4).mono ?_; rintro e w5 ⟨rfl, r5, o5⟩; have hb5 := only_below o5 (Nat.le_refl _) (only_below o4 (Nat.le_refl _) (only_below o3 (Nat.le_refl _) HBr.out)); have hs5 := r5.lt)
              | (at_builtin; go_loud (refine wpList_appO rfl _ _ rfl (w.heap.size + 1) (.slice Al l.length cl) l rfl ((((HO.out.only o3 hne).only o4 hne).only o5 hne).below (nba w5 _)) w5.heap.size 1 ⟨key, value, false⟩ rfl (fun i u hi => by match i with | 0 => simp [opVals] at hi; subst hi; simp | 1 => simp [opVals] at hi; subst hi; simp | 2 => simp [opVals] at hi; subst hi; simp | (i + 3) => simp [opVals] at hi) (by omega) (by simp; omega) ?_; intro v6 w6 h6 hg6; have H6 := Lib.hid h6; have HR6 := Lib.hid (rd_grown (r5.below (nba w5 _)) ((((HO.out.only o3 hne).only o4 hne).only o5 hne).below (nba w5 _)) hg6 (Nat.lt_succ_self _)); have HB6 := Lib.hid ((oo_grown ((((HO.out.only o3 hne).only o4 hne).only o5 hne).below (nba w5 (.cells #[.string key, .string value, .bool false] 73))) (Below.refl (w.heap.size + 1) _) (by simp; omega) hg6)); have HC6 := Lib.hid ((bal' hb5 (.cells #[.string key, .string value, .bool false] 73)).trans ((HB6.out.mono (Nat.le_succ _)))); clear h6 hg6)))
            go_roundw
            case rel => exact ⟨j + 1, _, x3, rfl, by omega, by go_num, Lib.hid (by simp [HLL.out]), AN3, H6, HR6, HC6⟩
            case measure => simp [intOf]; omega
          · have AN3 := Lib.hid (show Ahead p (C - (j + 1)) (l ++ [⟨key, value, true⟩]) x3 from by have h := AN2.out; simpa using h)
            clear AN2
            go_wp2_with (first
              | (go_at_call 156; refine C1.out.mono ?_; rintro e w3 ⟨rfl, r3, o3⟩)
              | (go_at_call 158; refine (C2.out _ r3).mono ?_; rintro e w4 ⟨rfl, r4, o4⟩)
              | (go_at_call 158; refine (C3.out _ r4).mono ?_; rintro e w5 ⟨rfl, r5, o5⟩; have hb5 := only_below o5 (Nat.le_refl _) (only_below o4 (Nat.le_refl _) (only_below o3 (Nat.le_refl _) HBr.out)); have hs5 := r5.lt)
              | (at_builtin; go_loud (refine wpList_appO rfl _ _ rfl (w.heap.size + 1) (.slice Al l.length cl) l rfl ((((HO.out.only o3 hne).only o4 hne).only o5 hne).below (nba w5 _)) w5.heap.size 1 ⟨key, value, true⟩ rfl (fun i u hi => by match i with | 0 => simp [opVals] at hi; subst hi; simp | 1 => simp [opVals] at hi; subst hi; simp | 2 => simp [opVals] at hi; subst hi; simp | (i + 3) => simp [opVals] at hi) (by omega) (by simp; omega) ?_; intro v6 w6 h6 hg6; have H6 := Lib.hid h6; have HR6 := Lib.hid (rd_grown (r5.below (nba w5 _)) ((((HO.out.only o3 hne).only o4 hne).only o5 hne).below (nba w5 _)) hg6 (Nat.lt_succ_self _)); have HB6 := Lib.hid ((oo_grown ((((HO.out.only o3 hne).only o4 hne).only o5 hne).below (nba w5 (.cells #[.string key, .string value, .bool true] 73))) (Below.refl (w.heap.size + 1) _) (by simp; omega) hg6)); have HC6 := Lib.hid ((bal' hb5 (.cells #[.string key, .string value, .bool true] 73)).trans ((HB6.out.mono (Nat.le_succ _)))); clear h6 hg6)))
            go_roundw
            case rel => exact ⟨j + 1, _, x3, rfl, by omega, by go_num, Lib.hid (by simp [HLL.out]), AN3, H6, HR6, HC6⟩
            case measure => simp [intOf]; omega
        · have H0 := Lib.hid (AB.out (by omega))
          have hg1 : ((f : Int) != 0) = true := by simp; omega
          have hg2 : ((f : Int) != 1) = true := by simp; omega
          clear AN AB
          go_wp2_with (first
            | (go_at_call 156; refine C1.out.mono ?_; rintro e w3 ⟨rfl, r3, o3⟩)
            | (go_at_call 158; refine (C2.out _ r3).mono ?_; rintro e w4 ⟨rfl, r4, o4⟩)
            | (go_at_call 158; refine (C3.out _ r4).mono ?_; rintro e w5 ⟨rfl, r5, o5⟩))
          go_ret3
          exact ⟨0, _, _, rfl, (fun _ => H0.out), (fun e => nomatch e), ⟨none, 0, 0, rfl⟩, only_below o5 (Nat.le_refl _) (only_below o4 (Nat.le_refl _) (only_below o3 (Nat.le_refl _) HBr.out))⟩
      · obtain rfl : j = C := by omega
        have hA := HA.out
        rw [Nat.sub_self] at hA
        have hE := hA.ends (by rw [HC.out]; omega)
        have HE := Lib.hid hE
        obtain ⟨_, _, hv, hoat, hle, hcm, _⟩ := HO.out.form
        injection hv with hv1 hv2 hv3
        subst hv1
        subst hv3
        have CB := Lib.hid (fun V (hb : Below wr.heap.size wr V) => wCheckBatch Al l.length cl l V (hoat.below hb) (by omega))
        have CD := Lib.hid (wDone wr _ r HRr.out)
        have HOB := Lib.hid (fun V (hb : Below wr.heap.size wr V) => (HO.out.below hb).base (Nat.le_succ _))
        obtain ⟨E, hEq⟩ : ∃ E, opsE l = E := ⟨_, rfl⟩
        rw [hEq] at CB HE
        clear hA HA hE hoat hv2 HC
        cases hd : rDone r with
        | false =>
          rw [hd] at CD HE
          have H0 := Lib.hid (show rdB0 p = none from by rw [HE.out]; rfl)
          go_wp2_with (first
            | (go_at_call 157; refine CD.out.mono ?_; rintro e w3 ⟨rfl, b3⟩))
          go_ret3
          exact ⟨N, _, _, rfl, (fun _ => H0.out), (fun e => nomatch e), ⟨_, _, _, rfl⟩, jstep HBr.out b3⟩
        | true =>
          rw [hd] at CD HE
          by_cases hz : E = 0
          · subst hz
            have H0 := Lib.hid (show rdB0 p = some l from by rw [HE.out]; rfl)
            go_wp2_with (first
              | (go_at_call 157; refine CD.out.mono ?_; rintro e w3 ⟨rfl, b3⟩)
              | (go_at_call 68; refine (CB.out _ b3).mono ?_; rintro e w4 ⟨rfl, b4⟩))
            go_ret3
            exact ⟨N, _, _, rfl, (fun e => nomatch e), (fun _ => ⟨rfl, l, H0.out, HOB.out _ (jstep b3 b4)⟩), ⟨_, _, _, rfl⟩, jstep HBr.out (jstep b3 b4)⟩
          · have H0 := Lib.hid (show rdB0 p = none from by rw [HE.out, if_neg (fun h => hz h.2)])
            have hz' : (E == 0) = false := by simpa using hz
            go_wp2_with (first
              | (go_at_call 157; refine CD.out.mono ?_; rintro e w3 ⟨rfl, b3⟩)
              | (go_at_call 68; refine (CB.out _ b3).mono ?_; rintro e w4 ⟨rfl, b4⟩))
            go_ret3
            exact ⟨N, _, _, rfl, (fun _ => H0.out), (fun e => nomatch e), ⟨_, _, _, rfl⟩, jstep HBr.out (jstep b3 b4)⟩
end Go.Proofs.YtamglegdgcehaaaGreat
set_option linter.unusedVariables false
namespace Go.Proofs.YtamglegdgcehaaaGreat
open Go.RowKit

/-- Pieces, wherever the list of them lies. -/
def PAt (w : World) (B : Nat) (A : Option Addr) (n : Nat) (ls : List (List UInt8)) : Prop :=
  ls.length = n ∧ (0 < n → ∃ b o, A = some ⟨b, o, none⟩ ∧ ∀ i (h : i < ls.length), ∃ Ai ci, w.cell? ⟨b, o + i, none⟩ = some (.slice Ai (ls[i]'h).length ci) ∧ Own w B (.slice Ai (ls[i]'h).length ci) (ls[i]'h))
theorem PAt.below {w V : World} {B n : Nat} {A : Option Addr} {ls : List (List UInt8)} (h : PAt w B A n ls) (hb : Below w.heap.size w V) : PAt V B A n ls := by
  refine ⟨h.1, fun h0 => ?_⟩
  obtain ⟨b, o, e, hc⟩ := h.2 h0
  refine ⟨b, o, e, fun i hi => ?_⟩
  obtain ⟨Ai, ci, h1, h2⟩ := hc i hi
  exact ⟨Ai, ci, bcell hb h1, h2.below hb⟩
theorem LO.tail {w : World} {B n c : Nat} {A : Option Addr} {p : List UInt8} {r : List (List UInt8)} (h : LO w B (.slice A n c) (p :: r)) : PAt w B (cutA A c 1) (n - 1) r := by
  have hl := h.len
  have hl2 : r.length + 1 = n := hl
  refine ⟨by omega, fun h0 => ?_⟩
  obtain ⟨g, A', c', e, _⟩ := h.get 0 (by simp)
  obtain ⟨A2, c2, e2, _, hle, _⟩ := h.form
  injection e2 with _ _ e3
  subst e
  refine ⟨g, 1, ?_, fun i hi => ?_⟩
  · unfold cutA
    rw [if_neg (by simp only [List.length_cons] at hle; omega)]
    rfl
  · obtain ⟨g', A', c', e', h1, h2⟩ := h.get (i + 1) (by simp; omega)
    injection e' with e'
    injection e' with e'
    subst e'
    rw [Nat.add_comm 1 i]
    exact ⟨A', c', h1, h2⟩
theorem sll_size (w : World) : (sizeOf 40).run Tryz.prog w = .ok 1 w := by kernel_rfl
theorem sll_elem : Tryz.prog.elem 42 = 40 := by kernel_rfl
theorem sll_under : Tryz.prog.underlying 42 = some (.slice (Tryz.prog.elem 42)) := by rw [sll_elem]; exact Tryz.underlying42
theorem sll_l (A : Option Addr) (n c : Nat) (kl : IntKind) (l : Int) (w : World) (h0 : 0 ≤ l) (h1 : l ≤ n) :
    (Instr.slice 42 (.slice A n c) (some (.int kl l)) none none).run Tryz.prog w = .ok (.slice (cutA A c l.toNat) (n - l.toNat) (c - l.toNat)) w := by
  rw [run_slice_l w 42 A n c sll_under kl l h0 h1, sll_elem, sll_size]
  simp only [Result.andThen, sliced_cutA]

theorem infoLB : ∃ z, (Tryz.prog.info? 34).map (fun i => (i.zero, i.size, i.bytes)) = some (some z, 1, 24) ∧ z.cells.size = 1 := ⟨.slice none 0 0, by kernel_rfl, by kernel_rfl⟩
/-- Batches of one's own. -/
def LB (w : World) (B : Nat) (v : Value) (bs : List (List Op_)) : Prop := ∃ us, w.ownsRow B 34 1 v bs.length us ∧ us.length = bs.length ∧ ∀ (i : Nat) u l, us[i]? = some u → bs[i]? = some l → OO w B u l
/-- Batches in memory. -/
def BAt (w : World) (A : Option Addr) (n : Nat) (bs : List (List Op_)) : Prop :=
  bs.length = n ∧ (0 < n → ∃ b o, A = some ⟨b, o, none⟩ ∧ ∀ i (h : i < bs.length), ∃ Ai ci, w.cell? ⟨b, o + i, none⟩ = some (.slice Ai (bs[i]'h).length ci) ∧ OAt w Ai (bs[i]'h).length (bs[i]'h) ∧ (bs[i]'h).length ≤ ci ∧ ci ≤ 9223372036854775807)
section
variable {w V : World} {B : Nat} {v : Value} {bs : List (List Op_)}
theorem LB.nil (w : World) (B : Nat) : LB w B (.slice none 0 0) [] := ⟨[], World.ownsRow_nil _ _ _ _, rfl, fun i u l h => by simp at h⟩
theorem LB.below (h : LB w B v bs) (hb : Below w.heap.size w V) : LB V B v bs := by
  obtain ⟨us, h1, h2, h3⟩ := h
  exact ⟨us, World.ownsRow.kept h1 (row := none) ⟨hb.os, hb.tape, hb.output, hb.size, fun k hk _ => hb.block k hk⟩ (by
    cases hv : v.ownBlock with
    | none => exact .inl rfl
    | some q => exact .inr (by simp)), h2, fun i u l e1 e2 => (h3 i u l e1 e2).below hb⟩
theorem LB.form (h : LB w B v bs) : ∃ A c, v = .slice A bs.length c ∧ BAt w A bs.length bs ∧ bs.length ≤ c ∧ c ≤ 9223372036854775807 ∧ (0 < bs.length → InF (fun k => B ≤ k ∧ k < w.heap.size) A) := by
  obtain ⟨us, h1, h2, h3⟩ := h
  rcases h1.2 with ⟨rfl, hn0⟩ | ⟨q, cap, cur, rfl, hq, hh, hnc, hcm, hcs, htk⟩
  · obtain rfl : bs = [] := List.eq_nil_of_length_eq_zero hn0
    exact ⟨none, 0, rfl, ⟨rfl, fun h => absurd h (by simp)⟩, by simp, by omega, fun h => absurd h (by simp)⟩
  · refine ⟨_, cap, rfl, ⟨rfl, fun _ => ⟨q, 0, rfl, fun j hj => ?_⟩⟩, hnc, hcm, fun _ a e => ?_⟩
    · have hju : j < us.length := by rw [h2]; exact hj
      obtain ⟨A, c, hu, hat, hle, hcm, _⟩ := (h3 j _ _ (List.getElem?_eq_getElem hju) (List.getElem?_eq_getElem hj)).form
      refine ⟨A, c, ?_, hat, hle, hcm⟩
      rw [Nat.zero_add, h1.cellAt j (by omega), List.getElem?_eq_getElem hju, hu]
    · injection e with e
      subst e
      exact ⟨hq, lt_of_some hh⟩
theorem LB.lt (h : LB w B v bs) : ∀ k, v.ownBlock = some k → B ≤ k ∧ k < w.heap.size := by
  obtain ⟨us, h1, _⟩ := h
  exact World.ownsRow.lt h1
theorem oo_apart {B' n : Nat} {u : Value} {xs : List Value} {l : List Op_} (h : w.ownsRow B 34 1 v n xs) (ho : OO w B' u l) {k : Nat} (hk : u.ownBlock = some k) : v.ownBlock ≠ some k := by
  intro e
  unfold OO at ho
  rcases ho.2 with ⟨rfl, _⟩ | ⟨q, cap, cur, rfl, _, hh, _⟩
  · cases hk
  · have : q = k := by injection hk
    subst this
    rcases h.2 with ⟨rfl, _⟩ | ⟨q', cap', cur', rfl, _, hh', _⟩
    · cases e
    · have : q' = q := by injection e
      subst this
      rw [hh] at hh'
      injection hh' with hh'
      injection hh' with _ hh' _
      exact absurd hh' (by decide)
theorem OO.onS {l : List Op_} (h : OO w B v l) (hk : ∀ k, v.ownBlock = some k → V.heap[k]? = w.heap[k]?) : OO V B v l := by
  unfold OO at h ⊢
  refine ⟨h.1, ?_⟩
  rcases h.2 with ⟨e, h0⟩ | ⟨q, cap, cur, e, hq, hh, r⟩
  · exact .inl ⟨e, h0⟩
  · subst e
    exact .inr ⟨q, cap, cur, rfl, hq, (hk q rfl).trans hh, r⟩
end
theorem wpList_appB {w : World} {ops : Array Oper} {rest : List Oper} {o : Oper} {a : Act} {Q : Exit → Act → World → Prop} (hgd : o.guard = none) (s x : Operand)
    (ho : o.op = .call { callee := .builtin .append, args := #[s, x], argTypes := #[47, 47] })
    (B : Nat) (v : Value) (bs : List (List Op_)) (hs : a.eval s = v) (hown : LB w B v bs) (g c : Nat) (u : Value) (l : List Op_) (hx : a.eval x = .slice (some ⟨g, 0, none⟩) 1 c) (hn : w.cell? ⟨g, 0, none⟩ = some u) (hu : OO w B u l)
    (hsz : bs.length ≤ 1000000000) (hbase : B ≤ w.heap.size)
    (h : ∀ v' w', LB w' B v' (bs ++ [l]) → w.grownBy w' v.ownBlock → wpList Tryz.prog ops Q rest (a.put o.dst v') w') :
    wpList Tryz.prog ops Q (o :: rest) a w := by
  obtain ⟨z, hinfo, hzc⟩ := infoLB
  obtain ⟨i, hi, hz, hsz1, hby⟩ := info_parts hinfo
  obtain ⟨us, h1, h2, h3⟩ := hown
  obtain ⟨Au, cu, rfl, _⟩ := hu.form
  refine wpList_appV hgd s x 47 ho B 34 i z 1 24 Tryz.underlying47 hi hz hsz1 hby hzc (by omega) v bs.length us hs h1 (some ⟨g, 0, none⟩) 1 c [.slice Au l.length cu] hx rfl
    (fun _ => ⟨g, 0, rfl, fun j u hj => by cases j with | zero => simp at hj; subst hj; exact hn | succ j => simp at hj⟩) (fun u hu => by rw [List.mem_singleton.1 hu]; rfl) (by unfold maxLen; omega) (by omega) hbase (fun v' w' hr hg => ?_)
  have hon : ∀ u l, OO w B u l → OO w' B u l := fun u l ho => ho.onS fun k hk => hg.block k (ho.lt k hk).2 (fun e => oo_apart h1 ho hk e.symm)
  refine h v' w' ⟨us ++ [.slice Au l.length cu], by rw [List.length_append]; exact hr, by simp [h2], fun i u' l' e1 e2 => ?_⟩ hg
  by_cases hi : i < us.length
  · rw [List.getElem?_append_left hi] at e1
    rw [List.getElem?_append_left (by rw [← h2]; exact hi)] at e2
    exact hon _ _ (h3 i u' l' e1 e2)
  · rw [List.getElem?_append_right (by omega)] at e1
    rw [List.getElem?_append_right (by rw [← h2]; omega), ← h2] at e2
    cases hk : i - us.length with
    | zero => rw [hk] at e1 e2; simp at e1 e2; subst e1; subst e2; exact hon _ _ hu
    | succ k => rw [hk] at e1; simp at e1
theorem lb_grown {w0 w w' : World} {B : Nat} {v : Value} {bs : List (List Op_)} (h : LB w B v bs) (hb : Below B w0 w) (hB : B ≤ w.heap.size) (hg : w.grownBy w' v.ownBlock) : Below B w0 w' :=
  hb.trans ⟨hg.os, hg.tape, hg.output, hg.size, fun k hk => hg.block k (by omega) (fun e => by have := (h.lt k e.symm).1; omega)⟩

/-! ### batches, numbered on -/
def AheadB (ps : List (List UInt8)) (n k : Nat) (bs : List (List Op_)) : Prop := rdBatches n ps = match rdBatches (n + k) (ps.drop k) with
  | none => none
  | some b2 => some (bs ++ b2)
theorem AheadB.start (ps : List (List UInt8)) (n : Nat) : AheadB ps n 0 [] := by
  unfold AheadB
  rw [List.drop_zero, Nat.add_zero]
  cases rdBatches n ps with
  | none => rfl
  | some x => rfl
theorem rdBatches_cons (n : Nat) (p : List UInt8) (ps : List (List UInt8)) : rdBatches n (p :: ps) = match rdBatch p (n + 1) with
    | none => none
    | some b => match rdBatches (n + 1) ps with
      | none => none
      | some bs => some (b :: bs) := rfl
theorem AheadB.next {ps : List (List UInt8)} {n k : Nat} {bs : List (List Op_)} (h : AheadB ps n k bs) (hk : k < ps.length) {b : List Op_} (hb : rdBatch (ps[k]'hk) (n + k + 1) = some b) : AheadB ps n (k + 1) (bs ++ [b]) := by
  unfold AheadB at *
  rw [h, List.drop_eq_getElem_cons hk, rdBatches_cons, hb, show n + k + 1 = n + (k + 1) from by omega]
  cases rdBatches (n + (k + 1)) (ps.drop (k + 1)) with
  | none => rfl
  | some x => simp
theorem AheadB.bad {ps : List (List UInt8)} {n k : Nat} {bs : List (List Op_)} (h : AheadB ps n k bs) (hk : k < ps.length) (hb : rdBatch (ps[k]'hk) (n + k + 1) = none) : rdBatches n ps = none := by
  unfold AheadB at h
  rw [h, List.drop_eq_getElem_cons hk, rdBatches_cons, hb]
theorem AheadB.ends {ps : List (List UInt8)} {n : Nat} {bs : List (List Op_)} (h : AheadB ps n ps.length bs) : rdBatches n ps = some bs := by
  unfold AheadB at h
  rw [h, List.drop_length]
  simp [rdBatches]
set_option maxRecDepth 100000 in
set_option maxHeartbeats 4000000 in
theorem wBatches (w : World) (B : Nat) (A : Option Addr) (n c last : Nat) (ps : List (List UInt8)) (hP : PAt w B A n ps) (hn : n ≤ 1000000000) (hl : last ≤ 9007199254740991) :
    Calls Tryz.prog 125 #[.slice A n c, .int .i64 (last : Int)] w fun e w' => ∃ v is, e = .returned (.tuple #[v, .bool is]) ∧ (is = false → rdBatches last ps = none) ∧ (is = true → ∃ bs, rdBatches last ps = some bs ∧ LB w' w.heap.size v bs) ∧ (∃ A' n' c', v = .slice A' n' c') ∧ Below w.heap.size w w' := by
  have hpl := hP.1
  have HPL := Lib.hid hpl
  have HP := Lib.hid hP
  have A0 := Lib.hid (AheadB.start ps last)
  clear hP hpl
  go_enter Tryz.func125, Tryz.ntmps125
  go_wp2
  go_loopw [4, 13] (fun v i wr => ∃ (j : Nat) (bs : List (List Op_)), j ≤ n ∧ i = .int .i64 j ∧ Hid (bs.length = j) ∧ Hid (AheadB ps last j bs) ∧ Hid (LB wr w.heap.size v bs) ∧ Hid (Below w.heap.size w wr)) (fun _ i _ => n - (intOf i).toNat)
  case atStart => exact ⟨0, [], Nat.zero_le _, rfl, Lib.hid rfl, A0, Lib.hid (LB.nil _ _), Lib.hid (Below.refl _ _)⟩
  case round =>
    clear A0
    obtain ⟨j, bs, hj, rfl, HLL, HA, HO, HBr⟩ := hrel
    have hbs := HBr.out.size
    have hlb : bs.length ≤ 1000000000 := by rw [HLL.out]; omega
    by_cases hlt : j < n
    · obtain ⟨b, o, rfl, hc⟩ := (HP.out.below HBr.out).2 (by omega)
      have hjp : j < ps.length := by rw [HPL.out]; exact hlt
      obtain ⟨Ai, ci, hcell, hown⟩ := hc j hjp
      have AN := Lib.hid (fun b h => HA.out.next (b := b) hjp h)
      have AB := Lib.hid (fun h => HA.out.bad hjp h)
      have hbe := rdBatch_eq (ps[j]'hjp) (last + j + 1)
      generalize ps[j]'hjp = p at *
      have BR := Lib.hid (fun V (hb : Below wr.heap.size wr V) => wBatchR V B Ai ci p (hown.below hb))
      have HBE := Lib.hid hbe
      have HN := Lib.hid (show (bN p = last + j + 1 ∨ ¬ bN p = last + j + 1) from by omega)
      obtain ⟨Al, cl, rfl⟩ : ∃ A c, u4 = .slice A bs.length c := by obtain ⟨A, c, h, _⟩ := HO.out.form; exact ⟨A, c, h⟩
      clear hbe hown hc HA
      go_wp2_with fail
      refine (BR.out _ (Below.refl _ _)).mono ?_
      rintro e w3 ⟨k, v3, is, rfl, i1, i2, ⟨A3, n3, c3, rfl⟩, hb3⟩
      cases is with
      | false =>
        have h0 := i1 rfl
        go_wp2_with fail
        go_ret2
        exact ⟨_, false, rfl, (fun _ => AB.out (by rw [HBE.out, h0]; split <;> rfl)), (fun e => nomatch e), ⟨none, 0, 0, rfl⟩, jstep HBr.out hb3⟩
      | true =>
        obtain ⟨rfl, l, hl0, hoo⟩ := i2 rfl
        have hs3 := hb3.size
        have HOO := Lib.hid (hoo.base (B' := w.heap.size) hbs)
        have HO3 := Lib.hid (HO.out.below hb3)
        have HB3 := Lib.hid (jstep HBr.out hb3)
        have HL0 := Lib.hid hl0
        clear hoo i1 i2 hl0 HO BR
        rcases HN.out with hN | hN
        · have hz : ((bN p : Int) != (last : Int) + 1 + (j : Int)) = false := by simp; omega
          have AN2 := Lib.hid (AN.out l (by rw [HBE.out, if_pos hN]; exact HL0.out))
          clear AN AB HBE HN hN
          generalize bN p = bn at *
          go_wp2_with (first
            | (at_builtin; go_loud (refine wpList_appB rfl _ _ rfl w.heap.size (.slice Al bs.length cl) bs rfl (HO3.out.below (nba w3 _)) w3.heap.size 1 (.slice A3 n3 c3) l rfl (by simp) (HOO.out.below (nba w3 _)) hlb (by simp; omega) ?_; intro v6 w6 h6 hg6; have H6 := Lib.hid h6; have HB6 := Lib.hid (lb_grown (HO3.out.below (nba w3 (.cells #[.slice A3 n3 c3] 34))) (bal' HB3.out _) (by simp; omega) hg6); clear h6 hg6)))
          go_roundw
          case rel => exact ⟨j + 1, bs ++ [l], by omega, by go_num, Lib.hid (by simp [HLL.out]), AN2, H6, HB6⟩
          case measure => simp [intOf]; omega
        · have hz : ((bN p : Int) != (last : Int) + 1 + (j : Int)) = true := by simp; omega
          have AB2 := Lib.hid (AB.out (by rw [HBE.out, if_neg hN]))
          clear AN AB HBE HN hN
          generalize bN p = bn at *
          go_wp2_with fail
          go_ret2
          exact ⟨_, false, rfl, (fun _ => AB2.out), (fun e => nomatch e), ⟨none, 0, 0, rfl⟩, HB3.out⟩
    · obtain rfl : j = n := by omega
      have hA := HA.out
      rw [← HPL.out] at hA
      have HE := Lib.hid hA.ends
      obtain ⟨Al, cl, rfl⟩ : ∃ A c, u4 = .slice A bs.length c := by obtain ⟨A, c, h, _⟩ := HO.out.form; exact ⟨A, c, h⟩
      clear hA HA
      go_wp2
      go_ret2
      exact ⟨_, true, rfl, (fun e => nomatch e), (fun _ => ⟨bs, HE.out, HO.out⟩), ⟨_, _, _, rfl⟩, HBr.out⟩
end Go.Proofs.YtamglegdgcehaaaGreat
set_option linter.unusedVariables false
namespace Go.Proofs.YtamglegdgcehaaaGreat
open Go.RowKit

instance decOp : DecidableEq Op_ := fun a b => by
  cases a; cases b
  simp only [Op_.mk.injEq]
  infer_instance
instance decRw : DecidableEq Rw := fun a b => by
  cases a; cases b
  simp only [Rw.mk.injEq]
  infer_instance
theorem takeSuccEq {α : Type} {l1 l2 : List α} {k : Nat} (h1 : k < l1.length) (h2 : k < l2.length) (h : l1.take k = l2.take k) (hk : l1[k]'h1 = l2[k]'h2) : l1.take (k + 1) = l2.take (k + 1) := by
  rw [List.take_succ_eq_append_getElem h1, List.take_succ_eq_append_getElem h2, h, hk]
theorem bdr' {w V : World} (h : Below w.heap.size w V) : Below w.heap.size w V.drew := h.drew
theorem run_neOp (ka va kb vb : ByteArray) (da db : Bool) (V : World) : (binOp .neq 73 (.agg #[.string ka, .string va, .bool da]) (.agg #[.string kb, .string vb, .bool db])).run Tryz.prog V = .ok (.bool (decide ((⟨ka, va, da⟩ : Op_) ≠ ⟨kb, vb, db⟩))) V := by
  go_simp
  by_cases h1 : ka = kb
  · subst h1
    by_cases h2 : va = vb
    · subst h2
      by_cases h3 : da = db
      · subst h3; simp
      · simp [h3]
    · have h2' : ¬ va.toList = vb.toList := fun e => h2 (toList_inj e)
      simp [h2, h2']
  · have h1' : ¬ ka.toList = kb.toList := fun e => h1 (toList_inj e)
    simp [h1, h1']
theorem run_neRw (ka va kb vb : ByteArray) (V : World) : (binOp .neq 75 (.agg #[.string ka, .string va]) (.agg #[.string kb, .string vb])).run Tryz.prog V = .ok (.bool (decide ((⟨ka, va⟩ : Rw) ≠ ⟨kb, vb⟩))) V := by
  go_simp
  by_cases h1 : ka = kb
  · subst h1
    by_cases h2 : va = vb
    · subst h2; simp
    · have h2' : ¬ va.toList = vb.toList := fun e => h2 (toList_inj e)
      simp [h2, h2']
  · have h1' : ¬ ka.toList = kb.toList := fun e => h1 (toList_inj e)
    simp [h1, h1']
set_option maxRecDepth 100000 in
set_option maxHeartbeats 4000000 in
theorem wSameOps (A B : Option Addr) (n m c d : Nat) (l1 l2 : List Op_) (w : World) (h1 : OAt w A n l1) (h2 : OAt w B m l2) (hn : n ≤ 9223372036854775807) (hm : m ≤ 9223372036854775807) :
    Calls Tryz.prog 106 #[.slice A n c, .slice B m d] w fun e w' => e = .returned (.bool (decide (l1 = l2))) ∧ Below w.heap.size w w' := by
  have hl1 := h1.1
  have hl2 := h2.1
  have H1 := Lib.hid h1
  have H2 := Lib.hid h2
  have HL1 := Lib.hid hl1
  have HL2 := Lib.hid hl2
  clear h1 h2 hl1 hl2
  by_cases hnm : n = m
  · subst hnm
    go_enter Tryz.func106, Tryz.ntmps106
    go_wp2
    go_loopw [5] (fun i wr => ∃ k : Nat, k ≤ n ∧ i = .int .i64 k ∧ Hid (l1.take k = l2.take k) ∧ Hid (Below w.heap.size w wr)) (fun i _ => n - (intOf i).toNat)
    case atStart => exact ⟨0, Nat.zero_le _, rfl, Lib.hid rfl, Lib.hid (Below.refl _ _)⟩
    case round =>
      obtain ⟨k, hk, rfl, HT, HB⟩ := hrel
      by_cases hlt : k < n
      · obtain ⟨b1, o1, rfl, hc1⟩ := (H1.out.below HB.out).2 (by omega)
        obtain ⟨b2, o2, rfl, hc2⟩ := (H2.out.below HB.out).2 (by omega)
        have e1 : k < l1.length := by rw [HL1.out]; exact hlt
        have e2 : k < l2.length := by rw [HL2.out]; exact hlt
        obtain ⟨x0, x1, x2⟩ := hc1 k e1
        obtain ⟨y0, y1, y2⟩ := hc2 k e2
        have TS := Lib.hid (fun h => takeSuccEq e1 e2 HT.out h)
        have NE := Lib.hid (fun (h : l1[k]'e1 ≠ l2[k]'e2) (h2 : l1 = l2) => h (by subst h2; rfl))
        generalize l1[k]'e1 = a at *
        generalize l2[k]'e2 = b at *
        obtain ⟨ka, va, da⟩ := a
        obtain ⟨kb, vb, db⟩ := b
        have NB := fun V => run_neOp ka va kb vb da db V
        clear hc1 hc2
        by_cases hab : (⟨ka, va, da⟩ : Op_) = ⟨kb, vb, db⟩
        · have HT2 := Lib.hid (TS.out hab)
          rw [decide_eq_false (fun h => h hab)] at NB
          clear TS NE hab
          go_wp2_with fail
          go_region
          all_goals
            go_wp2_with fail
            go_roundw
            case rel => exact ⟨k + 1, by omega, by go_num, HT2, Lib.hid (bdr' HB.out)⟩
            case measure => simp [intOf]; omega
        · have hd : decide (l1 = l2) = false := decide_eq_false (NE.out hab)
          rw [decide_eq_true hab] at NB
          have HD := Lib.hid hd
          clear TS NE hab hd
          go_wp2_with fail
          go_region
          all_goals
            go_wp2_with fail
            go_ret
            exact ⟨by rw [HD.out]; rfl, bdr' HB.out⟩
      · obtain rfl : k = n := by omega
        have ht := HT.out
        rw [List.take_of_length_le (by rw [HL1.out]; omega), List.take_of_length_le (by rw [HL2.out]; omega)] at ht
        have HD := Lib.hid (decide_eq_true ht)
        clear ht HT
        go_wp2_with fail
        go_ret
        exact ⟨by rw [HD.out]; rfl, HB.out⟩
  · have hd : decide (l1 = l2) = false := decide_eq_false (fun e => hnm (by rw [← HL1.out, ← HL2.out, e]))
    have hz : ((n : Int) != (m : Int)) = true := by simp; omega
    rw [hd]
    go_enter Tryz.func106, Tryz.ntmps106
    go_wp2_with fail
    go_ret
    exact ⟨rfl, Below.refl _ _⟩
end Go.Proofs.YtamglegdgcehaaaGreat
