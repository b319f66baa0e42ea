/-
  Layer 10, the code: New, put, change, checkBatch, Apply, Get, Len.
-/
import Derived.Test.YtgakkeeeadndkaaTbRep
import Derived.Test.YtgakkeeeadndkaaShelf
import Derived.Deep.RegionHeld3
import Derived.StillTailTactics
set_option linter.unusedVariables false
namespace Go.Proofs.Ytgakkeeeadndkaa
open Go.RowKit

set_option maxRecDepth 100000 in
theorem tb_drawing (seed : Int) (w : World) : Calls Try.prog 34 #[.int .i64 seed] w fun e w' => e = .returned (fnT w.heap.size) ∧ ∃ m, w' = w.alloc (.cells #[.int .u64 m] 79) := by
  go_enter Try.func34, Try.ntmps34
  go_wp2_with fail
  go_ret
  exact ⟨rfl, _, rfl⟩
set_option maxRecDepth 100000 in
theorem tb_list (p q : Nat) (w : World) (h : w.cell? ⟨p, 0, none⟩ = some (pt q)) : Calls Try.prog 40 #[pt p] w fun e w' => e = .returned (pt q) ∧ w' = w := by
  go_enter Try.func40, Try.ntmps40
  go_wp2_with fail
  go_ret
  exact ⟨rfl, rfl⟩
set_option maxRecDepth 100000 in
theorem tb_isNone (p q : Nat) (w : World) (h : w.cell? ⟨p, 0, none⟩ = some (pt q)) : Calls Try.prog 35 #[pt p] w fun e w' => e = .returned (.bool false) ∧ w' = w := by
  have LI := Lib.hid (tb_list p q w h)
  clear h
  go_enter Try.func35, Try.ntmps35
  go_wp2_with (first | (go_at_call 40; refine LI.out.mono ?_; rintro e w2 ⟨rfl, hw⟩; obtain rfl : w = w2 := hw.symm))
  go_ret
  exact ⟨rfl, rfl⟩
set_option maxRecDepth 100000 in
set_option maxHeartbeats 4000000 in
theorem tb_new (seed : Int) (w : World) : Calls Try.prog 12 #[.int .i64 seed] w fun e w' => ∃ p F, e = .returned (pt p) ∧ (tbA p []).p w' F ∧ (∀ k, F k → w.heap.size ≤ k) ∧ Below w.heap.size w w' := by
  have SN := Lib.hid (sk_new w)
  go_enter Try.func12, Try.ntmps12
  go_wp2_with (first
    | (go_at_call 33; refine SN.out.mono ?_; rintro e w2 ⟨rfl, hR, hb, hs⟩; have HR := Lib.hid hR; have HB := Lib.hid hb; have HS := Lib.hid hs; clear hR hb hs)
    | (go_at_call 34; refine (tb_drawing _ _).mono ?_; rintro e w3 ⟨rfl, m, hw3⟩; have HX := Lib.hid hw3; clear hw3))
  go_ret
  have hs := HS.out
  have b1 := nbl w2 (.cells #[.int .u64 m] 79)
  have hk2 : Blk (w2.alloc (.cells #[.int .u64 m] 79)) w2.heap.size 79 #[.int .u64 m] := Blk.new w2 _ _
  have hR1 := HR.out.below b1
  have hX := HX.out
  rw [← hX] at b1 hk2 hR1
  have hsX : w3.heap.size = w2.heap.size + 1 := by rw [hX]; simp
  clear HX hX
  have b2 := nbl w3 (.cells #[pt (w.heap.size + 1), fnT w2.heap.size] 65)
  have hk3 := Blk.new w3 65 #[pt (w.heap.size + 1), fnT w2.heap.size]
  have hk2b := hk2.below b2 hk2.lt
  have hR2 := hR1.below b2
  refine ⟨w3.heap.size, _, rfl, ⟨w.heap.size + 1, w2.heap.size, _, [], skF (w.heap.size + 1) w.heap.size [], ⟨hk3, hk2b, ⟨_, [], _, hR2, rfl, fun k => Iff.rfl⟩, fun x hx => (nomatch hx), by omega, fun k e => ?_⟩, rfl, fun k => Iff.rfl⟩, fun k e => ?_, bst (bst HB.out b1) b2⟩
  · rcases e with e | e | e
    · omega
    · omega
    · cases e
  · rcases e with e | e | e
    · omega
    · omega
    · rcases e with e | e | e
      · omega
      · omega
      · cases e
section
variable {V V' w : World} {p q s : Nat} {m : Int} {l l' : List Kv} {F F2 F2' : Nat → Prop}
/-- Where put stands. -/
def PS (V0 : World) (p q s : Nat) (F2 : Nat → Prop) (l : List Kv) (V : World) : Prop := ∃ m, TbP V p q s m l F2 ∧ Grow (tbF p s F2) V0 V
theorem PS.cells {V0 : World} (h : PS V0 p q s F2 l V) : V.cell? ⟨p, 0, none⟩ = some (pt q) ∧ V.cell? ⟨p, 1, none⟩ = some (fnT s) := by
  obtain ⟨m, h1, _⟩ := h
  exact ⟨h1.obj.cell 0, h1.obj.cell 1⟩
theorem PS.draw {V0 : World} (h : PS V0 p q s F2 l V) : Calls Try.prog 49 #[pt s] V fun e w' => ∃ n : Int, e = .returned (.int .i64 n) ∧ (1 ≤ n ∧ n ≤ 16) ∧ PS V0 p q s F2 l w' ∧ (w'.cell? ⟨p, 0, none⟩ = some (pt q) ∧ w'.cell? ⟨p, 1, none⟩ = some (fnT s)) := by
  obtain ⟨m, h1, h2⟩ := h
  refine (tb_draw s m V h1.st).mono ?_
  rintro e w' ⟨n, m', rfl, hn, rfl⟩
  have h3 : PS V0 p q s F2 l (V.setCell ⟨s, 0, none⟩ (.int .u64 m')) := ⟨m', (h1.setM m').1, h2.set (.inl (.inr (.inl rfl))) _⟩
  exact ⟨n, rfl, hn, h3, h3.cells⟩
theorem PS.put {V0 : World} (h : PS V0 p q s F2 l V) (k v : ByteArray) (n : Int) (hl : l.length ≤ 1000000000) (hn : 1 ≤ n ∧ n ≤ 16) (hks : k.size ≤ 281474976710656) :
    Calls Try.prog 56 #[pt q, .string k, .string v, .int .i64 n] V fun e w' => (∃ u, e = .returned u) ∧ TbTurns p (rone (tab l) ⟨k, v, false⟩) (tbF p s F2) V0 w' ∧ (w'.cell? ⟨p, 0, none⟩ = some (pt q) ∧ w'.cell? ⟨p, 1, none⟩ = some (fnT s)) := by
  obtain ⟨m, h1, h2⟩ := h
  refine (skA_put h1.sk v n hl (by omega) (by omega) hks).mono ?_
  rintro e w' ⟨hu, F', hp, hg, hN⟩
  have he : kputI l k (.string v) n = kput l k (.string v) n.toNat := by unfold kputI; rw [if_pos hn]
  rw [he] at hp
  obtain ⟨h3, h4, h5⟩ := h1.turn hg hp hN (h1.strs.put k v _)
  refine ⟨hu, ⟨tbF p s F', ⟨q, s, m, _, F', h3, by rw [tab_put], fun k => Iff.rfl⟩, h2.trans (h4.mono (fun k e => .inl e)), fun k e => ?_⟩, h3.obj.cell 0, h3.obj.cell 1⟩
  rcases h5 k e with e | e
  · exact .inl e
  · exact .inr ⟨Nat.le_trans h2.size e.1, e.2⟩
set_option maxRecDepth 100000 in
set_option maxHeartbeats 4000000 in
theorem tb_put (h : TbP V p q s m l F2) (k v : ByteArray) (hl : l.length ≤ 1000000000) (hks : k.size ≤ 281474976710656) :
    Calls Try.prog 46 #[pt p, .string k, .string v] V fun e w' => (∃ u, e = .returned u) ∧ TbTurns p (rone (tab l) ⟨k, v, false⟩) (tbF p s F2) V w' ∧ w'.cell? ⟨p, 0, none⟩ = some (pt q) := by
  have hP : PS V p q s F2 l V.drew := ⟨m, h.below ⟨rfl, rfl, rfl, Nat.le_refl _, fun _ _ => rfl⟩, (Grow.refl _ _).drewN 1⟩
  have hS := hP.cells
  have c0 : V.cell? ⟨p, 0, none⟩ = some (pt q) := h.obj.cell 0
  have c1 : V.cell? ⟨p, 1, none⟩ = some (fnT s) := h.obj.cell 1
  have HL := Lib.hid hl
  have HK := Lib.hid hks
  clear h hl hks
  go_enter Try.func46, Try.ntmps46
  go_region_held3 (fun W => W.cell? ⟨p, 0, none⟩ = some (pt q) ∧ W.cell? ⟨p, 1, none⟩ = some (fnT s))
    (first | with_reducible assumption | with_reducible exact hS)
    (first
      | (go_at_call 49; (with_reducible refine (PS.draw (by with_reducible assumption)).mono ?_); rintro e w8 ⟨n8, rfl, hn8, hP8, hS8⟩)
      | (go_at_call 56; (with_reducible refine (PS.put (by with_reducible assumption) _ _ _ HL.out (by with_reducible assumption) HK.out).mono ?_); rintro e w9 ⟨⟨u9, rfl⟩, hT9, hS9⟩))
  all_goals
    go_wp2_with fail
    go_end0
    exact ⟨⟨_, rfl⟩, hT9, hS9.1⟩
end
end Go.Proofs.Ytgakkeeeadndkaa
