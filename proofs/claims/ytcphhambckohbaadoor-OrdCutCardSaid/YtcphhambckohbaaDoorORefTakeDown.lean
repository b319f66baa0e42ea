/-
  Layer 2: TakeDown of the document.
-/
import Derived.Test.YtcphhambckohbaaDoorOTakeDown
set_option linter.unusedVariables false
namespace Go.Proofs.YtcphhambckohbaaDoor
open Go.RowKit

set_option maxHeartbeats 4000000 in
theorem refTakeDown_short (t : ByteArray) (w : World) (h : t.size < 9) :
    Calls Tryd.prog 22 #[.string t] w fun e w' => e = TdAns (.error 3) ∧ Below w.heap.size w w' := by
  go_enter Tryd.func22, Tryd.ntmps22
  go_wp2
  go_returns
  exact ⟨rfl, (Below.refl _ _).alloc (Nat.le_refl _) _⟩

set_option maxHeartbeats 4000000 in
theorem refTakeDown_long (t : ByteArray) (w : World) (h : 9 ≤ t.size) (hs : t.size ≤ 150000000000000) :
    Calls Tryd.prog 22 #[.string t] w fun e w' => e = TdAns (tdown (sb t)) ∧ Below w.heap.size w w' := by
  obtain ⟨s1, s2, e1, e2, b1, b2⟩ := nine t h
  have hT : tdown (sb t) = if may (1099511627776 - wval ((sb t).take 6)) (1048575 - wval (((sb t).drop 6).take 3)) then .ok (1099511627776 - wval ((sb t).take 6), 1048575 - wval (((sb t).drop 6).take 3), (sb t).drop 9) else .error 4 := by
    unfold tdown
    rw [if_neg (by rw [sb_len]; omega)]
  obtain ⟨x, hx⟩ : ∃ x, x = wval ((sb t).take 6) := ⟨_, rfl⟩
  obtain ⟨y, hy⟩ : ∃ y, y = wval (((sb t).drop 6).take 3) := ⟨_, rfl⟩
  rw [← hx] at hT e1 b1
  rw [← hy] at hT e2 b2
  have c1 := fun V => refNumber (t.extract 0 6) V s1
  have c2 := fun V => refNumber (t.extract 6 9) V s2
  rw [e1] at c1
  rw [e2] at c2
  have C1 := Lib.hid c1
  have C2 := Lib.hid c2
  have HT := Lib.hid hT
  have h6 : (6 : Int) ≤ (t.size : Int) := by omega
  have hw1 : IntKind.i64.wrap (1099511627776 - (x : Int)) = 1099511627776 - (x : Int) := by rw [IntKind.wrap_i64]; omega
  have hw2 : IntKind.i64.wrap (1048575 - (y : Int)) = 1048575 - (y : Int) := by rw [IntKind.wrap_i64]; omega
  have hA := Lib.hid (show Blk ((w.alloc (.cells #[.int .i64 0, .int .i64 0] 31)).alloc (.cells #[.int .i64 (1099511627776 - (x : Int)), .int .i64 (1048575 - (y : Int))] 31)).drew w.heap.size 31 #[.int .i64 0, .int .i64 0] from
    (Blk.new w _ _).below (((Below.refl (w.alloc (.cells #[.int .i64 0, .int .i64 0] 31)).heap.size _).alloc (Nat.le_refl _) _).drew) (by simp))
  have hB := Lib.hid (show Blk ((w.alloc (.cells #[.int .i64 0, .int .i64 0] 31)).alloc (.cells #[.int .i64 (1099511627776 - (x : Int)), .int .i64 (1048575 - (y : Int))] 31)).drew (w.heap.size + 1) 31 #[.int .i64 (1099511627776 - (x : Int)), .int .i64 (1048575 - (y : Int))] from by
    have := Blk.new (w.alloc (.cells #[.int .i64 0, .int .i64 0] 31)) 31 #[.int .i64 (1099511627776 - (x : Int)), .int .i64 (1048575 - (y : Int))]
    rw [show (w.alloc (.cells #[.int .i64 0, .int .i64 0] 31)).heap.size = w.heap.size + 1 from by simp] at this
    exact this)
  have hC := Lib.hid (show Below w.heap.size w ((w.alloc (.cells #[.int .i64 0, .int .i64 0] 31)).alloc (.cells #[.int .i64 (1099511627776 - (x : Int)), .int .i64 (1048575 - (y : Int))] 31)).drew from
    (((Below.refl _ _).alloc (Nat.le_refl _) _).alloc (by simp) _).drew)
  clear hT c1 c2 e1 e2 hx hy s1 s2
  have hb0 : Below w.heap.size w (w.alloc (.cells #[.int .i64 0, .int .i64 0] 31)) := (Below.refl _ _).alloc (Nat.le_refl _) _
  go_enter Tryd.func22, Tryd.ntmps22
  go_wp2_with fail
  go_region_held3 (fun w' => w'.cell? ⟨w.heap.size, 0, none⟩ = some (.int .i64 0)) (first | assumption | go_keep)
    (first
      | (go_at_call_of 36 (Value.string (t.extract 0 6)); refine (C1.out _).mono ?_; rintro e w2 ⟨rfl, rfl⟩)
      | (go_at_call_of 36 (Value.string (t.extract 6 9)); refine (C2.out _).mono ?_; rintro e w2 ⟨rfl, rfl⟩))
  all_goals (
    revert hA hB hC
    generalize ((w.alloc (.cells #[.int .i64 0, .int .i64 0] 31)).alloc (.cells #[.int .i64 (1099511627776 - (x : Int)), .int .i64 (1048575 - (y : Int))] 31)).drew = V
    intro hA hB hC
    have f0 : V.cell? ⟨w.heap.size + 1, 0, none⟩ = some (.int .i64 (1099511627776 - (x : Int))) := by rw [hB.out.cell]; rfl
    have f1 : V.cell? ⟨w.heap.size + 1, 1, none⟩ = some (.int .i64 (1048575 - (y : Int))) := by rw [hB.out.cell]; rfl
    go_wp2_with fail
    refine (refMay _ _ _).mono ?_
    rintro e w3 ⟨rfl, hb3⟩
    have hA3 := hA.out.below hb3 hA.out.lt
    have hB3 := hB.out.below hb3 hB.out.lt
    have hw3 := hC.out.trans (hb3.mono hC.out.size)
    clear hb3 hA hB hC f0 f1
    have g0 : w3.cell? ⟨w.heap.size, 0, none⟩ = some (.int .i64 0) := by rw [hA3.cell]; rfl
    have g1 : w3.cell? ⟨w.heap.size, 1, none⟩ = some (.int .i64 0) := by rw [hA3.cell]; rfl
    have g2 : w3.frozen? ⟨w.heap.size, 0, none⟩ = false := hA3.frozen _
    have g3 : w3.frozen? ⟨w.heap.size, 1, none⟩ = false := hA3.frozen _
    have g4 : w3.cell? ⟨w.heap.size + 1, 0, none⟩ = some (.int .i64 (1099511627776 - (x : Int))) := by rw [hB3.cell]; rfl
    have g5 : w3.cell? ⟨w.heap.size + 1, 1, none⟩ = some (.int .i64 (1048575 - (y : Int))) := by rw [hB3.cell]; rfl
    by_cases hm : may (1099511627776 - (x : Int)) (1048575 - (y : Int)) = true
    · rw [hm] at HT ⊢
      rw [if_pos rfl] at HT
      have h9 : (9 : Int) ≤ (t.size : Int) := by omega
      go_wp2_with fail
      go_region
      all_goals go_wp2
      all_goals exact ret_stamp rfl rfl ((hA3.set_ 0 _).set_ 1 _) rfl ⟨by rw [HT.out, TdAns_ok]; rfl, ((hw3.setCell (Nat.le_refl _) _).setCell (Nat.le_refl _) _).drew⟩
    · have hm' : may (1099511627776 - (x : Int)) (1048575 - (y : Int)) = false := by simpa using hm
      rw [hm'] at HT ⊢
      clear hm hm'
      go_wp2
      exact ret_stamp rfl rfl ((hA3.set_ 0 _).set_ 1 _) rfl ⟨by rw [HT.out]; rfl, (hw3.setCell (Nat.le_refl _) _).setCell (Nat.le_refl _) _⟩)

end Go.Proofs.YtcphhambckohbaaDoor
