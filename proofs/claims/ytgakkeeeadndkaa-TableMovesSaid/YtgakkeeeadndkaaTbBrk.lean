/-
  A range over an iterator whose rounds may turn what it tells of, left by break: as wp_range_brk.
-/
import Derived.Test.YtgakkeeeadndkaaTbMadeH
import Derived.Test.YtgakkeeeadndkaaBring
import Derived.LoopN
set_option linter.unusedVariables false
namespace Go.Proofs.Ytgakkeeeadndkaa
open Go.RowKit Go.Shelf
attribute [local go_sem] Oper.semAt_some

theorem below_put {B g i : Nat} {u : Value} {w W : World} (h : Below B w W) (hg : B ≤ g) : Below B w (W.setCell ⟨g, i, none⟩ u) := by
  refine ⟨h.os, h.tape, h.output, ?_, fun k hk => ?_⟩
  · simpa [World.setCell] using h.size
  · rw [← h.block k hk]
    simp only [World.setCell, Array.getElem?_modify]
    rw [if_neg (by omega)]
theorem from_put {B g i : Nat} {u : Value} {t : TypeId} {cs : Array Value} {W : World} (h : Blk W g t cs) : KeepsFrom B W (W.setCell ⟨g, i, none⟩ u) := by
  refine ⟨by simp [World.setCell], fun k o _ hk ho => ?_⟩
  have hne : g ≠ k := by
    rintro rfl
    unfold Blk at h
    rw [h] at hk
    cases hk
    cases ho
  simp only [World.setCell, Array.getElem?_modify]
  rw [if_neg hne, hk]
theorem below_obj {n l : Nat} {o : Obj} {w W : World} (h : Below n w W) (hl : n ≤ l) : Below n w (W.putObj l o) :=
  ⟨h.os, h.tape, h.output, by rw [World.putObj_size]; exact h.size, fun k hk => (World.putObj_heap_other (by omega)).trans (h.block k hk)⟩
theorem blk_put_ne {W : World} {g h i : Nat} {u : Value} {t : TypeId} {cs : Array Value} (hb : Blk W g t cs) (hne : h ≠ g) : Blk (W.setCell ⟨h, i, none⟩ u) g t cs := by
  unfold Blk at *
  simp only [World.setCell, Array.getElem?_modify]
  rw [if_neg hne, hb]
/-- All but one block of X's are the same. -/
def Bt (g : Nat) (X W : World) : Prop := X.heap.size ≤ W.heap.size ∧ ∀ i, i ≠ g → i < X.heap.size → W.heap[i]? = X.heap[i]?
theorem Bt.refl (g : Nat) (X : World) : Bt g X X := ⟨Nat.le_refl _, fun _ _ _ => rfl⟩
theorem Bt.firm {g : Nat} {X W Y : World} (h : Bt g X W) (hX : X.heap.size ≤ W.heap.size) (hf : Firm X.heap.size W Y) : Bt g X Y := by
  have hb := hf.below (Nat.le_refl _) hX
  exact ⟨Nat.le_trans hX hb.size, fun i hi hl => (hb.block i hl).trans (h.2 i hi hl)⟩
theorem Bt.put {g i : Nat} {u : Value} {X W : World} (h : Bt g X W) : Bt g X (W.setCell ⟨g, i, none⟩ u) := by
  refine ⟨by simpa [World.setCell] using h.1, fun k hk hl => ?_⟩
  rw [← h.2 k hk hl]
  simp only [World.setCell, Array.getElem?_modify]
  rw [if_neg (fun e => hk e.symm)]
section
variable {P : Program} {ps : Array Tmp} {assign body : Code} {w : World}
theorem tours_brk {g : Operand} {id : Nat} {Q : Exit → Act → World → Prop} {a : Act} {gf : Nat} {lb : Array Value} (hg : a.eval g = .func (.func gf) #[] lb) (eg : ∀ args w, (callFunc gf args).run P w = .ok (.enter gf args) w)
    {nx : List Rw → ByteArray → Option Rw} {aft : ByteArray → ByteArray} {a0 : ByteArray} {RD : List Rw → World → Prop} (hseq : Tours P gf lb nx aft a0 RD) (hps : 2 = ps.size) (N : Nat)
    (I : ByteArray → List Rw → Nat → World → Prop) (E : World → Prop)
    (hI : ∀ b r n X Y, I b r n X → w.heap.size ≤ X.heap.size → Firm w.heap.size X Y → I b r n Y) (hE : ∀ X Y, E X → w.heap.size ≤ X.heap.size → Firm w.heap.size X Y → E Y)
    (hIE : ∀ b r n W, nx r b = none → I b r n W → E W)
    (hRD : ∀ b r n X, I b r n X → RD r X ∧ n ≤ N) (r0 : List Rw) (h0 : I a0 r0 0 w) (a₁ : Rw → Act)
    (hassign : ∀ (l : Nat) (x : Rw) (W : World) (K : Act → World → Prop), K (a₁ x) W →
      assign.wpIn (Fence.wide.inRound l) 2 P (Exit.then K (fun _ _ _ => False)) { tmps := (ps.zip #[.string x.key, .string x.value]).foldl (fun t (p, v) => t.setIfInBounds p v) a.tmps, defers := [] } W)
    (hbody : ∀ (l : Nat) (b : ByteArray) (r : List Rw) (n : Nat) (x : Rw) (W : World), w.heap.size ≤ W.heap.size → I b r n W → nx r b = some x → body.wpIn (Fence.wide.inRound l) 2 P (tourEnd w.heap.size (fun W' => ∃ r', I (aft x.key) r' (n + 1) W') (fun c W => c = .exit id ∧ E W) W) (a₁ x) W)
    (hfin : ∀ (D : Nat) (W : World), w.heap.size ≤ D → w.heap.size ≤ W.heap.size → E W → W.heap[D]? = some (.deferred (some [])) → Q .normal { a with defers := { target := .collected D, args := #[] } :: a.defers } W) :
    (Code.rangeFunc g ps assign body).wp P (Exit.inBlock id Q) a w := by
  refine wp_tours hg eg hseq hps N I (fun c W => c = .exit id ∧ E W) hI (fun c X Y h hX hf => ⟨h.1, hE X Y h.2 hX hf⟩) hRD r0 h0 a₁ hassign hbody ?_ ?_
  · intro D b r n W hD hs hno hi hK
    exact hfin D W hD hs (hIE b r n W hno hi) hK
  · rintro D c W hD hs ⟨rfl, he⟩ hK
    have := hfin D W hD hs he hK
    refine wp_exit ?_
    simpa [Exit.inBlock] using this
end
end Go.Proofs.Ytgakkeeeadndkaa
