/-
  Layer 2: TakeDown, of the code and of the document.
-/
import Derived.Test.YtcphhambckohbaaDoorORefDown
import Derived.Handy
set_option linter.unusedVariables false
namespace Go.Proofs.YtcphhambckohbaaDoor
open Go.RowKit

/-- What is taken: the stamp and what is behind, or the error's number. -/
def tdown (l : List UInt8) : Except Nat (Int × Int × List UInt8) :=
  if l.length < 9 then .error 3
  else if may (1099511627776 - wval (l.take 6)) (1048575 - wval ((l.drop 6).take 3)) then .ok (1099511627776 - wval (l.take 6), 1048575 - wval ((l.drop 6).take 3), l.drop 9)
  else .error 4
def TdAns (r : Except Nat (Int × Int × List UInt8)) : Ending :=
  match r with
  | .ok (a, b, l) => .returned (.tuple #[.agg #[.int .i64 a, .int .i64 b], .string ⟨l.toArray⟩, .int .i64 0])
  | .error n => .returned (.tuple #[.agg #[.int .i64 0, .int .i64 0], .string ⟨#[]⟩, .int .i64 n])

theorem TdAns_ok (a b : Int) (t : ByteArray) (k : Nat) : TdAns (.ok (a, b, (sb t).drop k)) = .returned (.tuple #[.agg #[.int .i64 a, .int .i64 b], .string (t.extract k t.size), .int .i64 0]) := by
  rw [← sb_end]
  show Ending.returned (.tuple #[.agg #[.int .i64 a, .int .i64 b], .string ⟨(sb (t.extract k t.size)).toArray⟩, .int .i64 0]) = _
  rw [mk_sb]

/-- A return whose first result is a stamp's variable. -/
theorem ret_stamp {fn : Func} {R : Ending → World → Prop} {a : Act} {w : World} {p u v : Tmp} {g : Nat} {x y : Int} (hr : fn.results = #[.cell p 31, .tmp u, .tmp v]) (hp : a.tmps.getD p undef = .pointer (some ⟨g, 0, none⟩))
    (hB : Blk w g 31 #[.int .i64 x, .int .i64 y]) (hd : a.defers = []) (hR : R (.returned (.tuple #[.agg #[.int .i64 x, .int .i64 y], a.tmps.getD u undef, a.tmps.getD v undef])) w) : bodyPost Tryd.prog fn R .ret a w := by
  refine bodyPost_ret ?_ hd hR
  have hp' : a.tmps[p]?.getD undef = .pointer (some ⟨g, 0, none⟩) := by simpa using hp
  simp [results, hr, hp', asAddr, run_loadVar_row w g 31 31 _ (0, 0) _ hB Tryd.underlying31 rfl (by kernel_rfl)]

theorem zeros (w : World) : (Instr.build 31 #[]).run Tryd.prog w = .ok (.agg #[.int .i64 0, .int .i64 0]) w := by kernel_rfl

set_option maxHeartbeats 4000000 in
theorem takeDown_short (t : ByteArray) (w : World) (h : t.size < 9) :
    Calls Tryd.prog 21 #[.string t] w fun e w' => e = TdAns (.error 3) ∧ Below w.heap.size w w' := by
  go_enter Tryd.func21, Tryd.ntmps21
  go_wp2
  go_returns
  exact ⟨rfl, (Below.refl _ _).alloc (Nat.le_refl _) _⟩

/-- The numbers in the first nine bytes. -/
theorem nine (t : ByteArray) (h : 9 ≤ t.size) : (t.extract 0 6).size ≤ 6 ∧ (t.extract 6 9).size ≤ 6 ∧ wval (sb (t.extract 0 6)) = wval ((sb t).take 6) ∧ wval (sb (t.extract 6 9)) = wval (((sb t).drop 6).take 3) ∧
    wval ((sb t).take 6) < 281474976710656 ∧ wval (((sb t).drop 6).take 3) < 16777216 := by
  refine ⟨by rw [ByteArray.size_extract]; omega, by rw [ByteArray.size_extract]; omega, ?_, ?_, ?_, ?_⟩
  · rw [sb_ext]; rfl
  · rw [sb_ext]
  · have h1 := wval_lt ((sb t).take 6)
    rw [List.length_take, sb_len, Nat.min_eq_left (by omega)] at h1
    have : (256 : Nat) ^ 6 = 281474976710656 := by decide
    omega
  · have h1 := wval_lt (((sb t).drop 6).take 3)
    rw [List.length_take, List.length_drop, sb_len, Nat.min_eq_left (by omega)] at h1
    have : (256 : Nat) ^ 3 = 16777216 := by decide
    omega

set_option maxHeartbeats 4000000 in
theorem takeDown_long (t : ByteArray) (w : World) (h : 9 ≤ t.size) (hs : t.size ≤ 150000000000000) :
    Calls Tryd.prog 21 #[.string t] w fun e w' => e = TdAns (tdown (sb t)) ∧ Below w.heap.size w w' := by
  obtain ⟨s1, s2, e1, e2, b1, b2⟩ := nine t h
  have hT : tdown (sb t) = if may (1099511627776 - wval ((sb t).take 6)) (1048575 - wval (((sb t).drop 6).take 3)) then .ok (1099511627776 - wval ((sb t).take 6), 1048575 - wval (((sb t).drop 6).take 3), (sb t).drop 9) else .error 4 := by
    unfold tdown
    rw [if_neg (by rw [sb_len]; omega)]
  obtain ⟨x, hx⟩ : ∃ x, x = wval ((sb t).take 6) := ⟨_, rfl⟩
  obtain ⟨y, hy⟩ : ∃ y, y = wval (((sb t).drop 6).take 3) := ⟨_, rfl⟩
  rw [← hx] at hT e1 b1
  rw [← hy] at hT e2 b2
  have c1 := fun V => codeNumber (t.extract 0 6) V s1
  have c2 := fun V => codeNumber (t.extract 6 9) V s2
  rw [e1] at c1
  rw [e2] at c2
  have C1 := Lib.hid c1
  have C2 := Lib.hid c2
  have HT := Lib.hid hT
  clear hT c1 c2 e1 e2 hx hy s1 s2
  have hb0 : Below w.heap.size w (w.alloc (.cells #[.int .i64 0, .int .i64 0] 31)) := (Below.refl _ _).alloc (Nat.le_refl _) _
  have hB0 := Blk.new w 31 #[.int .i64 0, .int .i64 0]
  go_enter Tryd.func21, Tryd.ntmps21
  go_wp2_with fail
  refine (C1.out _).mono ?_
  rintro e w1 ⟨rfl, hb1⟩
  have hB1 := hB0.below hb1 (by simp)
  have hw1 := hb0.trans (hb1.mono (by simp))
  have f0 : ∃ u, w1.cell? ⟨w.heap.size, 0, none⟩ = some u := ⟨_, by rw [hB1.cell]; rfl⟩
  obtain ⟨u0, f0⟩ := f0
  have f1 : w1.frozen? ⟨w.heap.size, 0, none⟩ = false := hB1.frozen _
  clear hb1 hB0 hb0
  go_wp2_with fail
  refine (C2.out _).mono ?_
  rintro e w2 ⟨rfl, hb2⟩
  have hB2 : Blk w2 w.heap.size 31 #[.int .i64 (1099511627776 - (x : Int)), .int .i64 0] := (hB1.set_ 0 _).below hb2 (by have := hB1.lt; simpa using this)
  have hw2 : Below w.heap.size w w2 := (hw1.setCell (Nat.le_refl _) _).trans (hb2.mono (by have := hw1.size; simpa using this))
  have f2 : w2.cell? ⟨w.heap.size, 0, none⟩ = some (.int .i64 (1099511627776 - (x : Int))) := by rw [hB2.cell]; rfl
  have f3 : w2.cell? ⟨w.heap.size, 1, none⟩ = some (.int .i64 0) := by rw [hB2.cell]; rfl
  have f4 : w2.frozen? ⟨w.heap.size, 1, none⟩ = false := hB2.frozen _
  clear hb2 hB1 hw1 f0 f1
  go_wp2_with fail
  refine (isStamp _ _ _).mono ?_
  rintro e w3 ⟨rfl, hb3⟩
  have hB3 : Blk w3 w.heap.size 31 #[.int .i64 (1099511627776 - (x : Int)), .int .i64 (1048575 - (y : Int))] := (hB2.set_ 1 _).below hb3 (by have := hB2.lt; simpa using this)
  have hw3 : Below w.heap.size w w3 := (hw2.setCell (Nat.le_refl _) _).trans (hb3.mono (by have := hw2.size; simpa using this))
  clear hb3 hB2 hw2 f2 f3 f4
  have g0 : w3.cell? ⟨w.heap.size, 0, none⟩ = some (.int .i64 (1099511627776 - (x : Int))) := by rw [hB3.cell]; rfl
  have g1 : w3.cell? ⟨w.heap.size, 1, none⟩ = some (.int .i64 (1048575 - (y : Int))) := by rw [hB3.cell]; rfl
  have g2 : w3.frozen? ⟨w.heap.size, 0, none⟩ = false := hB3.frozen _
  have g3 : w3.frozen? ⟨w.heap.size, 1, none⟩ = false := hB3.frozen _
  by_cases hm : may (1099511627776 - (x : Int)) (1048575 - (y : Int)) = true
  · rw [hm] at HT ⊢
    rw [if_pos rfl] at HT
    have HB := Lib.hid (fun (w4 : World) (h : Below w3.heap.size w3 w4) => hB3.below h hB3.lt)
    have HW := Lib.hid (fun (w4 : World) (h : Below w3.heap.size w3 w4) => hw3.trans (h.mono hw3.size))
    clear hB3
    go_wp2_with fail
    go_region_with (go_at_call 30; refine (behind t 9 _ h hs).mono ?_; rintro e w4 ⟨rfl, hb4⟩; have hB4 := HB.out w4 ⟨hb4.os, hb4.tape, hb4.output, hb4.size, hb4.block⟩; have hw4 := HW.out w4 ⟨hb4.os, hb4.tape, hb4.output, hb4.size, hb4.block⟩; have k0 : w4.cell? ⟨w.heap.size, 0, none⟩ = some (.int .i64 (1099511627776 - (x : Int))) := (by rw [hB4.cell]; rfl); have k1 : w4.cell? ⟨w.heap.size, 1, none⟩ = some (.int .i64 (1048575 - (y : Int))) := (by rw [hB4.cell]; rfl); have k2 : w4.frozen? ⟨w.heap.size, 0, none⟩ = false := hB4.frozen _; have k3 : w4.frozen? ⟨w.heap.size, 1, none⟩ = false := hB4.frozen _; clear hb4)
    all_goals go_wp2
    all_goals exact ret_stamp rfl rfl ((hB4.set_ 0 _).set_ 1 _) rfl ⟨by rw [HT.out, TdAns_ok]; rfl, (hw4.setCell (Nat.le_refl _) _).setCell (Nat.le_refl _) _⟩
  · have hm' : may (1099511627776 - (x : Int)) (1048575 - (y : Int)) = false := by simpa using hm
    rw [hm'] at HT ⊢
    clear hm hm'
    go_wp2
    exact ret_stamp rfl rfl ((hB3.set_ 0 _).set_ 1 _) rfl ⟨by rw [HT.out]; rfl, (hw3.setCell (Nat.le_refl _) _).setCell (Nat.le_refl _) _⟩

end Go.Proofs.YtcphhambckohbaaDoor
