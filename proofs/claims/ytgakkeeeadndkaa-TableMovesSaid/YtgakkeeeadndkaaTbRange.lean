/-
  A range over an iterator whose rounds may turn what it tells of: the caller's law, in the plain walk (as Range).
-/
import Derived.Test.YtgakkeeeadndkaaTbTour
set_option linter.unusedVariables false
namespace Go.Proofs.Ytgakkeeeadndkaa
open Go.RowKit Go.Shelf

/-- How a round may be left. -/
def tourEnd (B : Nat) (Nx : World → Prop) (Ix : Code → World → Prop) (W : World) : Exit → Act → World → Prop
  | .normal, _, W' => KeepsFrom B W W' ∧ Nx W'
  | .ret, _, W' => KeepsFrom B W W' ∧ Ix .ret W'
  | .exit id, _, W' => KeepsFrom B W W' ∧ Ix (.exit id) W'
  | .goto t, _, W' => KeepsFrom B W W' ∧ Ix (.goto t) W'
  | _, _, _ => False
section
variable {P : Program} {ps : Array Tmp} {assign body : Code} {w : World}
theorem wp_tours {g : Operand} {Q : Exit → Act → World → Prop} {a : Act} {gf : Nat} {lb : Array Value} (hg : a.eval g = .func (.func gf) #[] lb) (eg : ∀ args w, (callFunc gf args).run P w = .ok (.enter gf args) w)
    {nx : List Rw → ByteArray → Option Rw} {aft : ByteArray → ByteArray} {a0 : ByteArray} {RD : List Rw → World → Prop} (hseq : Tours P gf lb nx aft a0 RD) (hps : 2 = ps.size) (N : Nat)
    (I : ByteArray → List Rw → Nat → World → Prop) (Ix : Code → World → Prop)
    (hI : ∀ b r n X Y, I b r n X → w.heap.size ≤ X.heap.size → Firm w.heap.size X Y → I b r n Y) (hIx : ∀ c X Y, Ix c X → w.heap.size ≤ X.heap.size → Firm w.heap.size X Y → Ix c Y)
    (hRD : ∀ b r n X, I b r n X → RD r X ∧ n ≤ N) (r0 : List Rw) (h0 : I a0 r0 0 w) (a₁ : Rw → Act)
    (hassign : ∀ (l : Nat) (x : Rw) (W : World) (K : Act → World → Prop), K (a₁ x) W →
      assign.wpIn (Fence.wide.inRound l) 2 P (Exit.then K (fun _ _ _ => False)) { tmps := (ps.zip #[.string x.key, .string x.value]).foldl (fun t (p, v) => t.setIfInBounds p v) a.tmps, defers := [] } W)
    (hbody : ∀ (l : Nat) (b : ByteArray) (r : List Rw) (n : Nat) (x : Rw) (W : World), w.heap.size ≤ W.heap.size → I b r n W → nx r b = some x → body.wpIn (Fence.wide.inRound l) 2 P (tourEnd w.heap.size (fun W' => ∃ r', I (aft x.key) r' (n + 1) W') Ix W) (a₁ x) W)
    (hdone : ∀ (D : Nat) (b : ByteArray) (r : List Rw) (n : Nat) (W : World), w.heap.size ≤ D → w.heap.size ≤ W.heap.size → nx r b = none → I b r n W → W.heap[D]? = some (.deferred (some [])) → Q .normal { a with defers := { target := .collected D, args := #[] } :: a.defers } W)
    (hstop : ∀ (D : Nat) (c : Code) (W : World), w.heap.size ≤ D → w.heap.size ≤ W.heap.size → Ix c W → W.heap[D]? = some (.deferred (some [])) → c.wp P Q { a with defers := { target := .collected D, args := #[] } :: a.defers } W) :
    (Code.rangeFunc g ps assign body).wp P Q a w := by
  refine (wpIn_wide (n := 4)).1 (wpIn_rangeFunc fun fn _ => ?_)
  obtain ⟨r, hr⟩ : ∃ r : Loop, r = { state := .ready, pending := none, fn, tmps := a.tmps, params := ps, assign, body, defers := w.heap.size } := ⟨_, rfl⟩
  have hr0 : ({ r with state := .ready, pending := none } : Loop) = r := by rw [hr]
  obtain ⟨w1, hw1⟩ : ∃ w1, w1 = (w.alloc (.deferred (some []))).alloc (.loop r) := ⟨_, rfl⟩
  have hbk : Book r (w.heap.size + 1) w.heap.size .ready none w1 := by
    constructor
    · rw [hr0, hw1]
      have := World.alloc_heap_new (w.alloc (.deferred (some []))) (.loop r)
      rwa [World.size_alloc] at this
    · rw [hw1]
      exact (Below.heap_alloc _ _ _ (by simp)).trans (World.alloc_heap_new w _)
  have hb1 : Below w.heap.size w w1 := by
    rw [hw1]
    exact ((Below.refl _ w).alloc (Nat.le_refl _) _).alloc (by simp) _
  refine ⟨w.heap.size + 1, [{ target := .collected w.heap.size, args := #[] }], w1, { target := .fn (.func gf) lb, args := #[.func (.yield (w.heap.size + 1)) #[] #[]] }, w1, gf,
    #[.func (.yield (w.heap.size + 1)) #[] #[]] ++ lb, w1, ?_, ?_, fun _ _ => trivial, ?_, (fun _ => by omega), ?_⟩
  · rw [hw1, hr]
    exact run_enterLoop_outer _ _ _ _ _
  · simp only [resolve, hg]
    simp [go_sem]
  · simp [invoke, go_sem, eg]
  · refine (hseq (w.heap.size + 1) N (fun b s n W => w.heap.size ≤ W.heap.size ∧ I b s n W ∧ Book r (w.heap.size + 1) w.heap.size .ready none W)
      (fun W => w.heap.size ≤ W.heap.size ∧ ∃ c, Ix c W ∧ Book r (w.heap.size + 1) w.heap.size .done (some c) W) r0 w1
      (fun b s n X Y h hb => ⟨Nat.le_trans h.1 hb.size, hI b s n X Y h.2.1 h.1 (.of_below hb), h.2.2.below hb⟩)
      (fun b s n X h => hRD b s n X h.2.1)
      ?_ ⟨hb1.size, hI a0 r0 0 w w1 h0 (Nat.le_refl _) (.of_below hb1), hbk⟩).mono ?_
    · rintro b s n x W ⟨hs, hi, hbo⟩ hx
      have hl := hbo.1
      have hy := run_yield (P := P) (args := #[.string x.key, .string x.value]) hl (by rw [hr]; exact hps)
      rw [hr] at hy
      refine ⟨fn, _, assign, body, hy, roundIn_of_wpIn trivial (hassign _ x W _ ⟨_, run_beginRound hl rfl, ?_⟩)⟩
      have hf : Firm w.heap.size W (W.putObj (w.heap.size + 1) (.loop { r with state := .busy, pending := none })) := .put _ _ (Nat.le_succ _) hl rfl
      have hbu := hbo.turn (by omega) .busy none
      have hs2 := Nat.le_trans hs hf.size
      refine wpIn_mono (hbody _ b s n x _ hs2 (hI _ _ _ _ _ hi hs hf) hx) ?_
      intro e a3 W3 hp
      have fin := fun (hk : KeepsFrom w.heap.size (W.putObj (w.heap.size + 1) (.loop { r with state := .busy, pending := none })) W3) (j : Option Code) =>
        hbu.ends (P := P) hk (Nat.le_succ _) (Nat.le_refl _) (by omega) j
      cases e with
      | normal =>
        obtain ⟨hk, s', hi3⟩ := hp
        obtain ⟨W4, h1, h2, h3⟩ := fin hk none
        have hs3 := Nat.le_trans hs2 hk.size
        exact ⟨_, W4, h1, .inl ⟨rfl, s', Nat.le_trans hs3 h2.size, hI _ _ _ _ _ hi3 hs3 h2, h3⟩⟩
      | ret =>
        obtain ⟨hk, hi3⟩ := hp
        obtain ⟨W4, h1, h2, h3⟩ := fin hk (some .ret)
        have hs3 := Nat.le_trans hs2 hk.size
        exact ⟨_, W4, h1, .inr ⟨rfl, Nat.le_trans hs3 h2.size, _, hIx _ _ _ hi3 hs3 h2, h3⟩⟩
      | exit id =>
        obtain ⟨hk, hi3⟩ := hp
        obtain ⟨W4, h1, h2, h3⟩ := fin hk (some (.exit id))
        have hs3 := Nat.le_trans hs2 hk.size
        exact ⟨_, W4, h1, .inr ⟨rfl, Nat.le_trans hs3 h2.size, _, hIx _ _ _ hi3 hs3 h2, h3⟩⟩
      | goto t =>
        obtain ⟨hk, hi3⟩ := hp
        obtain ⟨W4, h1, h2, h3⟩ := fin hk (some (.goto t))
        have hs3 := Nat.le_trans hs2 hk.size
        exact ⟨_, W4, h1, .inr ⟨rfl, Nat.le_trans hs3 h2.size, _, hIx _ _ _ hi3 hs3 h2, h3⟩⟩
      | panic ch => exact hp.elim
      | outgrown => exact hp.elim
    · rintro e W2 ⟨⟨v, rfl⟩, (⟨b, s, n, hS, hs, hi, hbo⟩ | ⟨hs, c, hi, hbo⟩)⟩
      · refine ⟨none, _, run_endLoop hbo.1 (by simp), hdone _ b s n _ (Nat.le_refl _) (Nat.le_trans hs (Nat.le_of_eq World.putObj_size.symm)) hS (hI _ _ _ _ _ hi hs (.put _ _ (Nat.le_succ _) hbo.1 rfl)) ((World.putObj_heap_other (by omega)).trans hbo.2)⟩
      · refine ⟨some c, _, run_endLoop hbo.1 (by simp), (wpIn_wide (n := 4)).2 (hstop _ c _ (Nat.le_refl _) (Nat.le_trans hs (Nat.le_of_eq World.putObj_size.symm)) (hIx _ _ _ hi hs (.put _ _ (Nat.le_succ _) hbo.1 rfl)) ((World.putObj_heap_other (by omega)).trans hbo.2))⟩
end
end Go.Proofs.Ytgakkeeeadndkaa
