/-
  Layer 16, the code: reckon's state; what its loops keep.
-/
import Derived.Test.YtdpdokgbockmbaaSpEnds
import Derived.Test.YtdpdokgbockmbaaBlk
import Derived.Test.YtdpdokgbockmbaaGrow
set_option linter.unusedVariables false
set_option linter.unusedSimpArgs false
set_option maxRecDepth 100000
namespace Go.Proofs.Ytdpdokgbockmbaa
open Go.RowKit

/-! ### plain -/
theorem gl_len (k : ByteArray) : ∀ (es : List En) (x y : Int), (gl k es x y).1.length ≤ es.length
  | [], x, y => Nat.le_refl _
  | e :: es, x, y => by
    rw [gl]
    split
    · have := gl_len k es (x + put1 0 e) (y + put1 1 e)
      simp only [List.length_cons]
      omega
    · exact Nat.le_refl _
structure RkB (D : Nat) (r : List En) (x y : Int) : Prop where
  mem : ∀ e ∈ r, (e.li = 0 ∨ e.li = 1) ∧ (e.mo = 1 ∨ e.mo = -1) ∧ e.k.size ≤ 33
  len : r.length ≤ D
  bx : -((D : Int) - r.length) ≤ x ∧ x ≤ (D : Int) - r.length
  by_ : -((D : Int) - r.length) ≤ y ∧ y ≤ (D : Int) - r.length
theorem RkB.step {D : Nat} {e : En} {es : List En} {x y : Int} (h : RkB D (e :: es) x y) : RkB D es (x + put1 0 e) (y + put1 1 e) := by
  have h1 := h.mem e (by simp)
  have h2 := h.len
  have h3 := h.bx
  have h4 := h.by_
  rw [List.length_cons] at h2 h3 h4
  refine ⟨fun u hu => h.mem u (by simp [hu]), by omega, ?_, ?_⟩
  · unfold put1
    rcases h1.1 with h | h <;> rcases h1.2.1 with h5 | h5 <;> simp [h, h5] <;> omega
  · unfold put1
    rcases h1.1 with h | h <;> rcases h1.2.1 with h5 | h5 <;> simp [h, h5] <;> omega
/-- What the outer loop keeps. -/
structure RkS (W : Bool → Bool → Bool) (RES : List Sn) (D : Nat) (r : List En) (x y : Int) (fr : ByteArray) (op : Bool) (out : List Sn) : Prop where
  b : RkB D r x y
  eq : ∃ n, r.length ≤ n ∧ rk W n r x y fr op out = RES
  fs : fr.size ≤ 33
  cnt : out.length + r.length ≤ D
theorem RkS.done {W : Bool → Bool → Bool} {RES : List Sn} {D : Nat} {x y : Int} {fr : ByteArray} {op : Bool} {out : List Sn} (h : RkS W RES D [] x y fr op out) : out = RES := by
  obtain ⟨n, _, hn⟩ := h.eq
  cases n <;> exact hn
theorem RkS.step {W : Bool → Bool → Bool} {RES : List Sn} {D : Nat} {e : En} {es r : List En} {x y X Y : Int} {fr : ByteArray} {op : Bool} {out : List Sn} (h : RkS W RES D (e :: es) x y fr op out)
    (hb : RkB D r X Y) (hg : gl e.k (e :: es) x y = (r, X, Y)) (w : Bool) (hw : W (decide (0 < X)) (decide (0 < Y)) = w) :
    r.length ≤ es.length ∧ RkS W RES D r X Y (if w && !op then e.k else fr) w (if !w && op then out ++ [⟨fr, e.k⟩] else out) := by
  have hl : r.length ≤ es.length := by
    have h1 := gl_len e.k es (x + put1 0 e) (y + put1 1 e)
    rw [gl, if_pos rfl] at hg
    rw [hg] at h1
    exact h1
  obtain ⟨n, hn, he⟩ := h.eq
  have hc := h.cnt
  rw [List.length_cons] at hn hc
  obtain ⟨m, rfl⟩ : ∃ m, n = m + 1 := ⟨n - 1, by omega⟩
  rw [rk, hg] at he
  simp only [hw] at he
  refine ⟨hl, hb, ⟨m, by omega, he⟩, ?_, ?_⟩
  · split
    · exact (h.b.mem e (by simp)).2.2
    · exact h.fs
  · split
    · rw [List.length_append, List.length_singleton]; omega
    · omega
theorem endsL_mem {i : Int} : ∀ {l : List Sn}, MaySp l → ∀ e ∈ endsL i l, e.li = i ∧ (e.mo = 1 ∨ e.mo = -1) ∧ e.k.size ≤ 33
  | [], _, e, he => by cases he
  | s :: l, h, e, he => by
    have h1 := chkS_le (h s (by simp))
    rw [endsL_cons] at he
    rcases List.mem_cons.1 he with rfl | he
    · exact ⟨rfl, .inl rfl, h1.1⟩
    · rcases List.mem_cons.1 he with rfl | he
      · exact ⟨rfl, .inr rfl, h1.2⟩
      · exact endsL_mem (fun u hu => h u (by simp [hu])) e he
theorem RkS.start (W : Bool → Bool → Bool) {a b : List Sn} (ha : MaySp a) (hb : MaySp b) {D : List En} (hp : D.Perm (endsAB a b)) : RkS W (rk W D.length D 0 0 ⟨#[]⟩ false []) D.length D 0 0 ⟨#[]⟩ false [] := by
  refine ⟨⟨fun e he => ?_, Nat.le_refl _, by omega, by omega⟩, ⟨_, Nat.le_refl _, rfl⟩, by decide, by simp⟩
  rcases List.mem_append.1 (hp.mem_iff.1 he) with h | h
  · have := endsL_mem ha e h
    exact ⟨.inl this.1, this.2⟩
  · have := endsL_mem hb e h
    exact ⟨.inr this.1, this.2⟩

/-! ### memory -/
/-- What the loops have in memory: how many spans have what is behind the ends so far. -/
structure RkM (w V0 : World) (G : Nat) (x y : Int) (V : World) : Prop where
  hv : Blk V G 65 #[.int .i64 x, .int .i64 y]
  gr : Grow (fun k => k = G) V0 V
  bel : Below w.heap.size w V
  lo : w.heap.size ≤ G
  in0 : G < V0.heap.size
theorem RkM.keep {w V0 V V' : World} {G : Nat} {x y : Int} (h : RkM w V0 G x y V) (hb : Below V.heap.size V V') : RkM w V0 G x y V' :=
  ⟨h.hv.below hb h.hv.lt, h.gr.trans (Grow.of_below hb), bst h.bel hb, h.lo, h.in0⟩
theorem RkM.set0 {w V0 V : World} {G : Nat} {x y z : Int} (h : RkM w V0 G x y V) : RkM w V0 G z y (V.setCell ⟨G, 0, none⟩ (.int .i64 z)) :=
  ⟨h.hv.set_ 0 _, h.gr.set (.inl rfl) _, (Grow.refl (fun k => k = G) V).set (.inl rfl) _ |>.below h.bel h.bel.size (fun k e => by rw [e]; exact h.lo), h.lo, h.in0⟩
theorem RkM.set1 {w V0 V : World} {G : Nat} {x y z : Int} (h : RkM w V0 G x y V) : RkM w V0 G x z (V.setCell ⟨G, 1, none⟩ (.int .i64 z)) :=
  ⟨h.hv.set_ 1 _, h.gr.set (.inl rfl) _, (Grow.refl (fun k => k = G) V).set (.inl rfl) _ |>.below h.bel h.bel.size (fun k e => by rw [e]; exact h.lo), h.lo, h.in0⟩
theorem RkM.drewN {w V0 V : World} {G : Nat} {x y : Int} (h : RkM w V0 G x y V) (n : Nat) : RkM w V0 G x y (V.drewN n) := h.keep ⟨rfl, rfl, rfl, Nat.le_refl _, fun _ _ => rfl⟩
theorem RkM.drew {w V0 V : World} {G : Nat} {x y : Int} (h : RkM w V0 G x y V) : RkM w V0 G x y V.drew := h.drewN 1
theorem RkM.grown {w V0 V V' : World} {G : Nat} {x y : Int} (h : RkM w V0 G x y V) {row : Option Nat} (hg : V.grownBy V' row) (hr : ∀ g, row = some g → V0.heap.size ≤ g) : RkM w V0 G x y V' := by
  have hs := h.gr.size
  refine ⟨?_, ⟨hg.os.trans h.gr.os, hg.tape.trans h.gr.tape, hg.output.trans h.gr.output, Nat.le_trans hs hg.size, fun k hk hn => ?_⟩, ?_, h.lo, h.in0⟩
  · exact (hg.block G h.hv.lt (fun e => by have := hr G e.symm; have := h.in0; omega)).trans h.hv
  · exact (hg.block k (by omega) (fun e => by have := hr k e.symm; omega)).trans (h.gr.block k hk hn)
  · exact h.bel.grown hg h.bel.size (fun g e => by have := hr g e; have := h.in0; have := h.lo; omega)
/-- Ends that lie in memory, apart from that. -/
def EnK (V0 : World) (G : Nat) (E : Option Addr) (N C : Nat) (r : List En) : Prop := EnAt V0 E N r ∧ (0 < N → ∀ a, E = some a → a.block ≠ G) ∧ N ≤ C ∧ C ≤ 9223372036854775807
theorem EnK.at_ {w V0 V : World} {G : Nat} {x y : Int} {E : Option Addr} {N C : Nat} {r : List En} (h : EnK V0 G E N C r) (hm : RkM w V0 G x y V) : EnAt V E N r := by
  refine ⟨h.1.1, fun hn => ?_⟩
  obtain ⟨b, o, e, hc⟩ := h.1.2 hn
  have hne : b ≠ G := h.2.1 hn _ e
  have hk : ∀ j v, V0.cell? ⟨b, j, none⟩ = some v → V.cell? ⟨b, j, none⟩ = some v := fun j v hv => by
    have hlt := World.block_lt_of_cell? V0 _ hv
    have := hm.gr.block b hlt hne
    unfold World.cell? at hv ⊢
    rw [this]
    exact hv
  exact ⟨b, o, e, fun i hi => ⟨hk _ _ (hc i hi).1, hk _ _ (hc i hi).2.1, hk _ _ (hc i hi).2.2⟩⟩
theorem EnK.tail {V0 : World} {G : Nat} {E : Option Addr} {N C : Nat} {e : En} {r : List En} (h : EnK V0 G E N C (e :: r)) : EnK V0 G (cutEn E C 1) (N - 1) (C - 1) r := by
  have hN := h.1.1
  rw [List.length_cons] at hN
  have ht := h.1.tail (p := 1) (c := C) (by omega) h.2.2.1
  refine ⟨ht, fun hn a ha => ?_, by have := h.2.2.1; omega, by have := h.2.2.2; omega⟩
  have hC := h.2.2.1
  unfold cutEn at ha
  rw [if_neg (by omega)] at ha
  obtain ⟨b, o, rfl, _⟩ := h.1.2 (by omega)
  simp only [Option.map_some, Option.some.injEq] at ha
  have h3 := h.2.1 (by omega) ⟨b, o, none⟩ rfl
  rw [Go.WideShapes.add_plain] at ha
  rw [← ha]
  exact h3
theorem EnK.first {V0 : World} {G : Nat} {E : Option Addr} {N C : Nat} {r : List En} (h : EnAt V0 E N r) (hG : Blk V0 G 65 #[.int .i64 0, .int .i64 0]) (hc : N ≤ C) (hm : C ≤ 9223372036854775807) : EnK V0 G E N C r := by
  refine ⟨h, fun hn a ha => ?_, hc, hm⟩
  obtain ⟨b, o, rfl, hcc⟩ := h.2 hn
  injection ha with ha
  subst ha
  intro e
  simp only at e
  subst e
  have h0 := (hcc 0 (by rw [h.1]; exact hn)).1
  rw [hG.cell] at h0
  simp only [Nat.zero_mul, Nat.add_zero] at h0
  rcases (show o = 0 ∨ o = 1 ∨ 2 ≤ o from by omega) with rfl | rfl | h2
  · simp at h0
  · simp at h0
  · rw [Array.getElem?_eq_none (by simpa using h2)] at h0
    cases h0
end Go.Proofs.Ytdpdokgbockmbaa
