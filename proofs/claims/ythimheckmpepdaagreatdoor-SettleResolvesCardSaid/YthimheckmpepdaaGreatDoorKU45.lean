/-
  Layer 14, the statements: a record's copy (written by wip/gencpy.py).
-/
import Derived.Test.YthimheckmpepdaaGreatDoorKU44
import Derived.Test.YthimheckmpepdaaGreatDoorKU25
set_option linter.unusedVariables false
set_option linter.unusedSimpArgs false
set_option maxRecDepth 100000
namespace Go.Proofs.YthimheckmpepdaaGreatDoor
open Go.RowKit

set_option maxHeartbeats 4000000 in
theorem rCopyR2_c (x : Rc) (A : Option Addr) (n c : Nat) (w : World) (hx : WtAt w A n x.l) (hn : n * 24 ≤ 140737488351232) :
    Calls Tryz.prog 19 #[rcv x (.slice A n c)] w fun e w' => ∃ A' c', e = .returned (rcv x (.slice A' n c')) ∧ WtAt w' A' n x.l ∧ Below w.heap.size w w' ∧ ∀ a, A' = some a → w.heap.size ≤ a.block := by
  obtain ⟨id, ep, st, pr, an, sw, sl, bw, bl, l⟩ := x
  have g0 := nbl w (.cells (rcc ⟨id, ep, st, pr, an, sw, sl, bw, bl, l⟩ (.slice A n c)) 64)
  have g1 := bsa g0 (.cells #[.int .i64 0, .int .i64 0, .int .i64 0, .int .i64 0, .string ⟨#[]⟩, .int .i64 0, .int .i64 0, .int .i64 0, .int .i64 0, .slice none 0 0] 64)
  have hX := (Blk.new w 64 (rcc ⟨id, ep, st, pr, an, sw, sl, bw, bl, l⟩ (.slice A n c))).below (nbl _ (.cells #[.int .i64 0, .int .i64 0, .int .i64 0, .int .i64 0, .string ⟨#[]⟩, .int .i64 0, .int .i64 0, .int .i64 0, .int .i64 0, .slice none 0 0] 64)) (by simp)
  have hY := Blk.new (w.alloc (.cells (rcc ⟨id, ep, st, pr, an, sw, sl, bw, bl, l⟩ (.slice A n c)) 64)) 64 #[.int .i64 0, .int .i64 0, .int .i64 0, .int .i64 0, .string ⟨#[]⟩, .int .i64 0, .int .i64 0, .int .i64 0, .int .i64 0, .slice none 0 0]
  have hz : (w.alloc (.cells (rcc ⟨id, ep, st, pr, an, sw, sl, bw, bl, l⟩ (.slice A n c)) 64)).heap.size = w.heap.size + 1 := by simp
  rw [hz] at hY
  have HL := Lib.hid (hx.below g1)
  have hx8 := hX.cell 9
  simp at hx8
  have HX := Lib.hid hX
  have HY := Lib.hid hY
  have G1 := Lib.hid g1
  clear hX hY g0 g1 hx hz
  go_enter Tryz.func19, Tryz.ntmps19
  go_wp2_with (first
    | (at_builtin; refine wpList_appWt rfl _ _ rfl (w.heap.size + 2) (.slice none 0 0) 0 [] l rfl (World.ownsRow_nil _ _ _ _) A n c rfl HL.out (by omega) (by simp) ?_; intro v' w2 hown hg
       have bel : Below _ _ w2 := (Below.refl _ _).grown hg (Nat.le_refl _) (fun k e => nomatch e)
       rw [List.nil_append, Nat.zero_add] at hown
       obtain ⟨A', c', rfl, hat, hge⟩ := Wt_own hown
       have kx := HX.out.below bel HX.out.lt
       have ky := HY.out.below bel HY.out.lt
       have bel2 := bst G1.out bel
       have c0 := kx.cell 0
       have f0 := ky.frozen 0
       have y0 := ky.cell 0
       have c1 := kx.cell 1
       have f1 := ky.frozen 1
       have y1 := ky.cell 1
       have c2 := kx.cell 2
       have f2 := ky.frozen 2
       have y2 := ky.cell 2
       have c3 := kx.cell 3
       have f3 := ky.frozen 3
       have y3 := ky.cell 3
       have c4 := kx.cell 4
       have f4 := ky.frozen 4
       have y4 := ky.cell 4
       have c5 := kx.cell 5
       have f5 := ky.frozen 5
       have y5 := ky.cell 5
       have c6 := kx.cell 6
       have f6 := ky.frozen 6
       have y6 := ky.cell 6
       have c7 := kx.cell 7
       have f7 := ky.frozen 7
       have y7 := ky.cell 7
       have c8 := kx.cell 8
       have f8 := ky.frozen 8
       have y8 := ky.cell 8
       have c9 := kx.cell 9
       have f9 := ky.frozen 9
       have y9 := ky.cell 9
       have fx := kx.frozen 9
       simp at c0 y0 c1 y1 c2 y2 c3 y3 c4 y4 c5 y5 c6 y6 c7 y7 c8 y8 c9 y9
       have KY := Lib.hid ky
       have HAT := Lib.hid hat
       have HGE := Lib.hid hge
       clear hown hg kx ky hat hge))
  have hY3 : Blk (w2.setCell ⟨w.heap.size, 9, none⟩ (.slice A' n c')) (w.heap.size + 1) 64 #[.int .i64 0, .int .i64 0, .int .i64 0, .int .i64 0, .string ⟨#[]⟩, .int .i64 0, .int .i64 0, .int .i64 0, .int .i64 0, .slice none 0 0] := by
    have := KY.out
    unfold Blk at this ⊢
    rw [World.setCell, Array.getElem?_modify, if_neg (by simp)]
    exact this
  have bel3 := bel2.setCell (p := ⟨w.heap.size, 9, none⟩) (by simp) (.slice A' n c')
  refine ret_cpR rfl rfl hY3.all10 rfl rfl ⟨A', ⟨c', rfl⟩, ?_, (((((((((((bel3)).setCell (Nat.le_succ _) _).setCell (Nat.le_succ _) _).setCell (Nat.le_succ _) _).setCell (Nat.le_succ _) _).setCell (Nat.le_succ _) _).setCell (Nat.le_succ _) _).setCell (Nat.le_succ _) _).setCell (Nat.le_succ _) _).setCell (Nat.le_succ _) _).setCell (Nat.le_succ _) _, fun a ha => by have := HGE.out a ha; omega⟩
  refine HAT.out.keep fun a ha j z hz => ?_
  have h1 := HGE.out a ha
  simp only [World.cell?, World.setCell, Array.getElem?_modify] at hz ⊢
  have h2 : ¬ w.heap.size = a.block := by omega
  have h3 : ¬ w.heap.size + 1 = a.block := by omega
  simpa [h2, h3] using hz
/-- Writes that lie somewhere, as a thing. -/
def wtA (A : Option Addr) (n : Nat) (l : List Wt) : As where
  p V F := WtAt V A n l ∧ ∀ k, F k ↔ (0 < n ∧ ∃ a, A = some a ∧ a.block = k)
  on {V V' F} h hs hk := by
    refine ⟨⟨h.1.1, fun h0 => ?_⟩, h.2⟩
    obtain ⟨b, o, rfl, hc⟩ := h.1.2 h0
    refine ⟨b, o, rfl, fun i hi => ?_⟩
    obtain ⟨c1, c2⟩ := hc i hi
    have hb := hk b ((h.2 b).2 ⟨h0, _, rfl, rfl⟩)
    exact ⟨(World.cell?_of_block hb).trans c1, (World.cell?_of_block hb).trans c2⟩
  lt {V F} h k e := by
    obtain ⟨h0, a, rfl, rfl⟩ := (h.2 k).1 e
    obtain ⟨b, o, e2, hc⟩ := h.1.2 h0
    injection e2 with e2
    subst e2
    exact World.block_lt_of_cell? V _ (hc 0 (by have := h.1.1; omega)).1
theorem Has.newWt {w V V' : World} {l : List As} {A : Option Addr} {n : Nat} {L : List Wt} (h : Has w l V) (hb : Below V.heap.size V V') (hw : WtAt V' A n L) (hA : ∀ a, A = some a → V.heap.size ≤ a.block) : Has w (wtA A n L :: l) V' :=
  h.new (F := fun k => 0 < n ∧ ∃ a, A = some a ∧ a.block = k) hb ⟨hw, fun k => Iff.rfl⟩ (fun k e => by obtain ⟨_, a, ha, rfl⟩ := e; exact hA a ha)
theorem Has.wt {w V : World} {l : List As} {A : Option Addr} {n : Nat} {L : List Wt} (h : Has w l V) (hm : wtA A n L ∈ l) : WtAt V A n L := by
  obtain ⟨F, hF, _⟩ := h.at_ hm
  exact hF.1
end Go.Proofs.YthimheckmpepdaaGreatDoor
