/-
  Layer 2: TakeDown, of the code and of the document.
  Layer 2: TakeDown of the document.
  Layer 2: the statements' helpers: stamp, key, works.
  Layer 2: the contracts in one form each.
  Layer 2: what the laws need of the plain words.
  Layer 11, plain: intents, records, their texts; what is written is read as it was, and what can be read is written so.
-/
import Derived.Test.YtgccichmdddbpaaGreatDoorPL22
import Derived.Handy
import Derived.Test.YtgccichmdddbpaaGreatDoorPL01
import Derived.Test.YtgccichmdddbpaaGreatDoorPL18
import Derived.Test.YtgccichmdddbpaaGreatDoorPL19
set_option linter.unusedVariables false
set_option maxRecDepth 100000
namespace Go.Proofs.YtgccichmdddbpaaGreatDoor
open Go.RowKit

/-- What is taken: the stamp and what is behind, or the error's number. -/
def tdown (l : List UInt8) : Except Nat (Int × Int × List UInt8) :=
  if l.length < 9 then .error 3
  else if may (1099511627776 - wval (l.take 6)) (1048575 - wval ((l.drop 6).take 3)) then .ok (1099511627776 - wval (l.take 6), 1048575 - wval ((l.drop 6).take 3), l.drop 9)
  else .error 4
def TdAns (r : Except Nat (Int × Int × List UInt8)) : Ending :=
  match r with
  | .ok (a, b, l) => .returned (.tuple #[.agg #[.int .i64 a, .int .i64 b], .string ⟨l.toArray⟩, .int .i64 0])
  | .error n => .returned (.tuple #[.agg #[.int .i64 0, .int .i64 0], .string ⟨#[]⟩, .int .i64 n])

theorem TdAns_ok (a b : Int) (t : ByteArray) (k : Nat) : TdAns (.ok (a, b, (ob t).drop k)) = .returned (.tuple #[.agg #[.int .i64 a, .int .i64 b], .string (t.extract k t.size), .int .i64 0]) := by
  rw [← sb_end]
  show Ending.returned (.tuple #[.agg #[.int .i64 a, .int .i64 b], .string ⟨(ob (t.extract k t.size)).toArray⟩, .int .i64 0]) = _
  rw [mk_sb]

/-- A return whose first result is a stamp's variable. -/
theorem ret_stamp {fn : Func} {R : Ending → World → Prop} {a : Act} {w : World} {p u v : Tmp} {g : Nat} {x y : Int} (hr : fn.results = #[.cell p 26, .tmp u, .tmp v]) (hp : a.tmps.getD p undef = .pointer (some ⟨g, 0, none⟩))
    (hB : Blk w g 26 #[.int .i64 x, .int .i64 y]) (hd : a.defers = []) (hR : R (.returned (.tuple #[.agg #[.int .i64 x, .int .i64 y], a.tmps.getD u undef, a.tmps.getD v undef])) w) : bodyPost Tryz.prog fn R .ret a w := by
  refine bodyPost_ret ?_ hd hR
  have hp' : a.tmps[p]?.getD undef = .pointer (some ⟨g, 0, none⟩) := by simpa using hp
  simp [results, hr, hp', asAddr, run_loadVar_row w g 26 26 _ (0, 0) _ hB Tryz.underlying26 rfl (by kernel_rfl)]

set_option maxHeartbeats 4000000 in
theorem takeDown_short (t : ByteArray) (w : World) (h : t.size < 9) :
    Calls Tryz.prog 193 #[.string t] w fun e w' => e = TdAns (.error 3) ∧ Below w.heap.size w w' := by
  go_enter Tryz.func193, Tryz.ntmps193
  go_wp2
  go_returns
  exact ⟨rfl, (Below.refl _ _).alloc (Nat.le_refl _) _⟩

/-- The numbers in the first nine bytes. -/
theorem nine (t : ByteArray) (h : 9 ≤ t.size) : (t.extract 0 6).size ≤ 6 ∧ (t.extract 6 9).size ≤ 6 ∧ wval (ob (t.extract 0 6)) = wval ((ob t).take 6) ∧ wval (ob (t.extract 6 9)) = wval (((ob t).drop 6).take 3) ∧
    wval ((ob t).take 6) < 281474976710656 ∧ wval (((ob t).drop 6).take 3) < 16777216 := by
  refine ⟨by rw [ByteArray.size_extract]; omega, by rw [ByteArray.size_extract]; omega, ?_, ?_, ?_, ?_⟩
  · rw [sb_ext]; rfl
  · rw [sb_ext]
  · have h1 := wval_lt ((ob t).take 6)
    rw [List.length_take, ob_len, Nat.min_eq_left (by omega)] at h1
    have : (256 : Nat) ^ 6 = 281474976710656 := by decide
    omega
  · have h1 := wval_lt (((ob t).drop 6).take 3)
    rw [List.length_take, List.length_drop, ob_len, Nat.min_eq_left (by omega)] at h1
    have : (256 : Nat) ^ 3 = 16777216 := by decide
    omega

set_option maxHeartbeats 4000000 in
theorem takeDown_long (t : ByteArray) (w : World) (h : 9 ≤ t.size) (hs : t.size ≤ 150000000000000) :
    Calls Tryz.prog 193 #[.string t] w fun e w' => e = TdAns (tdown (ob t)) ∧ Below w.heap.size w w' := by
  obtain ⟨s1, s2, e1, e2, b1, b2⟩ := nine t h
  have hT : tdown (ob t) = if may (1099511627776 - wval ((ob t).take 6)) (1048575 - wval (((ob t).drop 6).take 3)) then .ok (1099511627776 - wval ((ob t).take 6), 1048575 - wval (((ob t).drop 6).take 3), (ob t).drop 9) else .error 4 := by
    unfold tdown
    rw [if_neg (by rw [ob_len]; omega)]
  obtain ⟨x, hx⟩ : ∃ x, x = wval ((ob t).take 6) := ⟨_, rfl⟩
  obtain ⟨y, hy⟩ : ∃ y, y = wval (((ob t).drop 6).take 3) := ⟨_, rfl⟩
  rw [← hx] at hT e1 b1
  rw [← hy] at hT e2 b2
  have c1 := fun V => codeNumber (t.extract 0 6) V s1
  have c2 := fun V => codeNumber (t.extract 6 9) V s2
  rw [e1] at c1
  rw [e2] at c2
  have C1 := Lib.hid c1
  have C2 := Lib.hid c2
  have HT := Lib.hid hT
  clear hT c1 c2 e1 e2 hx hy s1 s2
  have hb0 : Below w.heap.size w (w.alloc (.cells #[.int .i64 0, .int .i64 0] 26)) := (Below.refl _ _).alloc (Nat.le_refl _) _
  have hB0 := Blk.new w 26 #[.int .i64 0, .int .i64 0]
  go_enter Tryz.func193, Tryz.ntmps193
  go_wp2_with fail
  refine (C1.out _).mono ?_
  rintro e w1 ⟨rfl, hb1⟩
  have hB1 := hB0.below hb1 (by simp)
  have hw1 := hb0.trans (hb1.mono (by simp))
  have f0 : ∃ u, w1.cell? ⟨w.heap.size, 0, none⟩ = some u := ⟨_, by rw [hB1.cell]; rfl⟩
  obtain ⟨u0, f0⟩ := f0
  have f1 : w1.frozen? ⟨w.heap.size, 0, none⟩ = false := hB1.frozen _
  clear hb1 hB0 hb0
  go_wp2_with fail
  refine (C2.out _).mono ?_
  rintro e w2 ⟨rfl, hb2⟩
  have hB2 : Blk w2 w.heap.size 26 #[.int .i64 (1099511627776 - (x : Int)), .int .i64 0] := (hB1.set_ 0 _).below hb2 (by have := hB1.lt; simpa using this)
  have hw2 : Below w.heap.size w w2 := (hw1.setCell (Nat.le_refl _) _).trans (hb2.mono (by have := hw1.size; simpa using this))
  have f2 : w2.cell? ⟨w.heap.size, 0, none⟩ = some (.int .i64 (1099511627776 - (x : Int))) := by rw [hB2.cell]; rfl
  have f3 : w2.cell? ⟨w.heap.size, 1, none⟩ = some (.int .i64 0) := by rw [hB2.cell]; rfl
  have f4 : w2.frozen? ⟨w.heap.size, 1, none⟩ = false := hB2.frozen _
  clear hb2 hB1 hw1 f0 f1
  go_wp2_with fail
  refine (isStamp _ _ _).mono ?_
  rintro e w3 ⟨rfl, hb3⟩
  have hB3 : Blk w3 w.heap.size 26 #[.int .i64 (1099511627776 - (x : Int)), .int .i64 (1048575 - (y : Int))] := (hB2.set_ 1 _).below hb3 (by have := hB2.lt; simpa using this)
  have hw3 : Below w.heap.size w w3 := (hw2.setCell (Nat.le_refl _) _).trans (hb3.mono (by have := hw2.size; simpa using this))
  clear hb3 hB2 hw2 f2 f3 f4
  have g0 : w3.cell? ⟨w.heap.size, 0, none⟩ = some (.int .i64 (1099511627776 - (x : Int))) := by rw [hB3.cell]; rfl
  have g1 : w3.cell? ⟨w.heap.size, 1, none⟩ = some (.int .i64 (1048575 - (y : Int))) := by rw [hB3.cell]; rfl
  have g2 : w3.frozen? ⟨w.heap.size, 0, none⟩ = false := hB3.frozen _
  have g3 : w3.frozen? ⟨w.heap.size, 1, none⟩ = false := hB3.frozen _
  by_cases hm : may (1099511627776 - (x : Int)) (1048575 - (y : Int)) = true
  · rw [hm] at HT ⊢
    rw [if_pos rfl] at HT
    have HB := Lib.hid (fun (w4 : World) (h : Below w3.heap.size w3 w4) => hB3.below h hB3.lt)
    have HW := Lib.hid (fun (w4 : World) (h : Below w3.heap.size w3 w4) => hw3.trans (h.mono hw3.size))
    clear hB3
    go_wp2_with fail
    go_region_with (go_at_call 215; refine (behind t 9 _ h hs).mono ?_; rintro e w4 ⟨rfl, hb4⟩; have hB4 := HB.out w4 ⟨hb4.os, hb4.tape, hb4.output, hb4.size, hb4.block⟩; have hw4 := HW.out w4 ⟨hb4.os, hb4.tape, hb4.output, hb4.size, hb4.block⟩; have k0 : w4.cell? ⟨w.heap.size, 0, none⟩ = some (.int .i64 (1099511627776 - (x : Int))) := (by rw [hB4.cell]; rfl); have k1 : w4.cell? ⟨w.heap.size, 1, none⟩ = some (.int .i64 (1048575 - (y : Int))) := (by rw [hB4.cell]; rfl); have k2 : w4.frozen? ⟨w.heap.size, 0, none⟩ = false := hB4.frozen _; have k3 : w4.frozen? ⟨w.heap.size, 1, none⟩ = false := hB4.frozen _; clear hb4)
    all_goals go_wp2
    all_goals exact ret_stamp rfl rfl ((hB4.set_ 0 _).set_ 1 _) rfl ⟨by rw [HT.out, TdAns_ok]; rfl, (hw4.setCell (Nat.le_refl _) _).setCell (Nat.le_refl _) _⟩
  · have hm' : may (1099511627776 - (x : Int)) (1048575 - (y : Int)) = false := by simpa using hm
    rw [hm'] at HT ⊢
    clear hm hm'
    go_wp2
    exact ret_stamp rfl rfl ((hB3.set_ 0 _).set_ 1 _) rfl ⟨by rw [HT.out]; rfl, (hw3.setCell (Nat.le_refl _) _).setCell (Nat.le_refl _) _⟩

end Go.Proofs.YtgccichmdddbpaaGreatDoor
set_option linter.unusedVariables false
set_option maxRecDepth 100000
namespace Go.Proofs.YtgccichmdddbpaaGreatDoor
open Go.RowKit

set_option maxHeartbeats 4000000 in
theorem refTakeDown_short (t : ByteArray) (w : World) (h : t.size < 9) :
    Calls Tryz.prog 113 #[.string t] w fun e w' => e = TdAns (.error 3) ∧ Below w.heap.size w w' := by
  go_enter Tryz.func113, Tryz.ntmps113
  go_wp2
  go_returns
  exact ⟨rfl, (Below.refl _ _).alloc (Nat.le_refl _) _⟩

set_option maxHeartbeats 4000000 in
theorem refTakeDown_long (t : ByteArray) (w : World) (h : 9 ≤ t.size) (hs : t.size ≤ 150000000000000) :
    Calls Tryz.prog 113 #[.string t] w fun e w' => e = TdAns (tdown (ob t)) ∧ Below w.heap.size w w' := by
  obtain ⟨s1, s2, e1, e2, b1, b2⟩ := nine t h
  have hT : tdown (ob t) = if may (1099511627776 - wval ((ob t).take 6)) (1048575 - wval (((ob t).drop 6).take 3)) then .ok (1099511627776 - wval ((ob t).take 6), 1048575 - wval (((ob t).drop 6).take 3), (ob t).drop 9) else .error 4 := by
    unfold tdown
    rw [if_neg (by rw [ob_len]; omega)]
  obtain ⟨x, hx⟩ : ∃ x, x = wval ((ob t).take 6) := ⟨_, rfl⟩
  obtain ⟨y, hy⟩ : ∃ y, y = wval (((ob t).drop 6).take 3) := ⟨_, rfl⟩
  rw [← hx] at hT e1 b1
  rw [← hy] at hT e2 b2
  have c1 := fun V => refNumber (t.extract 0 6) V s1
  have c2 := fun V => refNumber (t.extract 6 9) V s2
  rw [e1] at c1
  rw [e2] at c2
  have C1 := Lib.hid c1
  have C2 := Lib.hid c2
  have HT := Lib.hid hT
  have h6 : (6 : Int) ≤ (t.size : Int) := by omega
  have hw1 : IntKind.i64.wrap (1099511627776 - (x : Int)) = 1099511627776 - (x : Int) := by rw [IntKind.wrap_i64]; omega
  have hw2 : IntKind.i64.wrap (1048575 - (y : Int)) = 1048575 - (y : Int) := by rw [IntKind.wrap_i64]; omega
  have hA := Lib.hid (show Blk ((w.alloc (.cells #[.int .i64 0, .int .i64 0] 26)).alloc (.cells #[.int .i64 (1099511627776 - (x : Int)), .int .i64 (1048575 - (y : Int))] 26)).drew w.heap.size 26 #[.int .i64 0, .int .i64 0] from
    (Blk.new w _ _).below (((Below.refl (w.alloc (.cells #[.int .i64 0, .int .i64 0] 26)).heap.size _).alloc (Nat.le_refl _) _).drew) (by simp))
  have hB := Lib.hid (show Blk ((w.alloc (.cells #[.int .i64 0, .int .i64 0] 26)).alloc (.cells #[.int .i64 (1099511627776 - (x : Int)), .int .i64 (1048575 - (y : Int))] 26)).drew (w.heap.size + 1) 26 #[.int .i64 (1099511627776 - (x : Int)), .int .i64 (1048575 - (y : Int))] from by
    have := Blk.new (w.alloc (.cells #[.int .i64 0, .int .i64 0] 26)) 26 #[.int .i64 (1099511627776 - (x : Int)), .int .i64 (1048575 - (y : Int))]
    rw [show (w.alloc (.cells #[.int .i64 0, .int .i64 0] 26)).heap.size = w.heap.size + 1 from by simp] at this
    exact this)
  have hC := Lib.hid (show Below w.heap.size w ((w.alloc (.cells #[.int .i64 0, .int .i64 0] 26)).alloc (.cells #[.int .i64 (1099511627776 - (x : Int)), .int .i64 (1048575 - (y : Int))] 26)).drew from
    (((Below.refl _ _).alloc (Nat.le_refl _) _).alloc (by simp) _).drew)
  clear hT c1 c2 e1 e2 hx hy s1 s2
  have hb0 : Below w.heap.size w (w.alloc (.cells #[.int .i64 0, .int .i64 0] 26)) := (Below.refl _ _).alloc (Nat.le_refl _) _
  go_enter Tryz.func113, Tryz.ntmps113
  go_wp2_with fail
  go_region_held3 (fun w' => w'.cell? ⟨w.heap.size, 0, none⟩ = some (.int .i64 0)) (first | assumption | go_keep)
    (first
      | (go_at_call_of 165 (Value.string (t.extract 0 6)); refine (C1.out _).mono ?_; rintro e w2 ⟨rfl, rfl⟩)
      | (go_at_call_of 165 (Value.string (t.extract 6 9)); refine (C2.out _).mono ?_; rintro e w2 ⟨rfl, rfl⟩))
  all_goals (
    revert hA hB hC
    generalize ((w.alloc (.cells #[.int .i64 0, .int .i64 0] 26)).alloc (.cells #[.int .i64 (1099511627776 - (x : Int)), .int .i64 (1048575 - (y : Int))] 26)).drew = V
    intro hA hB hC
    have f0 : V.cell? ⟨w.heap.size + 1, 0, none⟩ = some (.int .i64 (1099511627776 - (x : Int))) := by rw [hB.out.cell]; rfl
    have f1 : V.cell? ⟨w.heap.size + 1, 1, none⟩ = some (.int .i64 (1048575 - (y : Int))) := by rw [hB.out.cell]; rfl
    go_wp2_with fail
    refine (refMay _ _ _).mono ?_
    rintro e w3 ⟨rfl, hb3⟩
    have hA3 := hA.out.below hb3 hA.out.lt
    have hB3 := hB.out.below hb3 hB.out.lt
    have hw3 := hC.out.trans (hb3.mono hC.out.size)
    clear hb3 hA hB hC f0 f1
    have g0 : w3.cell? ⟨w.heap.size, 0, none⟩ = some (.int .i64 0) := by rw [hA3.cell]; rfl
    have g1 : w3.cell? ⟨w.heap.size, 1, none⟩ = some (.int .i64 0) := by rw [hA3.cell]; rfl
    have g2 : w3.frozen? ⟨w.heap.size, 0, none⟩ = false := hA3.frozen _
    have g3 : w3.frozen? ⟨w.heap.size, 1, none⟩ = false := hA3.frozen _
    have g4 : w3.cell? ⟨w.heap.size + 1, 0, none⟩ = some (.int .i64 (1099511627776 - (x : Int))) := by rw [hB3.cell]; rfl
    have g5 : w3.cell? ⟨w.heap.size + 1, 1, none⟩ = some (.int .i64 (1048575 - (y : Int))) := by rw [hB3.cell]; rfl
    by_cases hm : may (1099511627776 - (x : Int)) (1048575 - (y : Int)) = true
    · rw [hm] at HT ⊢
      rw [if_pos rfl] at HT
      have h9 : (9 : Int) ≤ (t.size : Int) := by omega
      go_wp2_with fail
      go_region
      all_goals go_wp2
      all_goals exact ret_stamp rfl rfl ((hA3.set_ 0 _).set_ 1 _) rfl ⟨by rw [HT.out, TdAns_ok]; rfl, ((hw3.setCell (Nat.le_refl _) _).setCell (Nat.le_refl _) _).drew⟩
    · have hm' : may (1099511627776 - (x : Int)) (1048575 - (y : Int)) = false := by simpa using hm
      rw [hm'] at HT ⊢
      clear hm hm'
      go_wp2
      exact ret_stamp rfl rfl ((hA3.set_ 0 _).set_ 1 _) rfl ⟨by rw [HT.out]; rfl, (hw3.setCell (Nat.le_refl _) _).setCell (Nat.le_refl _) _⟩)

end Go.Proofs.YtgccichmdddbpaaGreatDoor
set_option linter.unusedVariables false
namespace Go.Proofs.YtgccichmdddbpaaGreatDoor
open Go.RowKit






end Go.Proofs.YtgccichmdddbpaaGreatDoor
set_option linter.unusedVariables false
set_option maxRecDepth 100000
namespace Go.Proofs.YtgccichmdddbpaaGreatDoor
open Go.RowKit

def kS (s : ByteArray) : ByteArray := if s.size ≤ 1000 then ⟨(okey (ob s)).toArray⟩ else ⟨#[]⟩
def kE (s : ByteArray) : Int := if s.size ≤ 1000 then 0 else 5
theorem refKeyAny (s : ByteArray) (w : World) :
    Calls Tryz.prog 102 #[.string s] w fun e w' => e = .returned (.tuple #[.string (kS s), .int .i64 (kE s)]) ∧ Below w.heap.size w w' := by
  by_cases h : s.size ≤ 1000
  · rw [show kS s = _ from if_pos h, show kE s = _ from if_pos h]
    exact refKey s w h
  · rw [show kS s = _ from if_neg h, show kE s = _ from if_neg h]
    exact (refKey_no s w (by omega)).mono fun e w' ⟨h1, h2⟩ => ⟨h1, h2 ▸ Below.refl _ _⟩

def dS (a b : Int) : ByteArray := if may a b then ⟨(odown a b).toArray⟩ else ⟨#[]⟩
def dE (a b : Int) : Int := if may a b then 0 else 2
theorem refDownAny (a b : Int) (w : World) :
    Calls Tryz.prog 127 #[.agg #[.int .i64 a, .int .i64 b]] w fun e w' => e = .returned (.tuple #[.string (dS a b), .int .i64 (dE a b)]) ∧ Below w.heap.size w w' := by
  by_cases h : may a b = true
  · rw [show dS a b = _ from if_pos h, show dE a b = _ from if_pos h]
    exact refDown a b w h
  · rw [show dS a b = _ from if_neg h, show dE a b = _ from if_neg h]
    exact refDown_no a b w (by simpa using h)

def tdA (r : Except Nat (Int × Int × List UInt8)) : Int := match r with | .ok (a, _, _) => a | .error _ => 0
def tdB (r : Except Nat (Int × Int × List UInt8)) : Int := match r with | .ok (_, b, _) => b | .error _ => 0
def tdR (r : Except Nat (Int × Int × List UInt8)) : ByteArray := match r with | .ok (_, _, l) => ⟨l.toArray⟩ | .error _ => ⟨#[]⟩
def tdE (r : Except Nat (Int × Int × List UInt8)) : Int := match r with | .ok _ => 0 | .error n => n
theorem TdAns_any (r : Except Nat (Int × Int × List UInt8)) : TdAns r = .returned (.tuple #[.agg #[.int .i64 (tdA r), .int .i64 (tdB r)], .string (tdR r), .int .i64 (tdE r)]) := by
  cases r with
  | ok p => obtain ⟨a, b, l⟩ := p; rfl
  | error n => rfl
theorem tdown_short (t : ByteArray) (h : t.size < 9) : tdown (ob t) = .error 3 := by
  unfold tdown
  rw [if_pos (by rw [ob_len]; exact h)]

theorem takeDownAny (t : ByteArray) (w : World) (hs : t.size ≤ 150000000000000) :
    Calls Tryz.prog 193 #[.string t] w fun e w' => e = .returned (.tuple #[.agg #[.int .i64 (tdA (tdown (ob t))), .int .i64 (tdB (tdown (ob t)))], .string (tdR (tdown (ob t))), .int .i64 (tdE (tdown (ob t)))]) ∧ Below w.heap.size w w' := by
  rw [← TdAns_any]
  by_cases h : t.size < 9
  · rw [tdown_short t h]
    exact takeDown_short t w h
  · exact takeDown_long t w (by omega) hs
end Go.Proofs.YtgccichmdddbpaaGreatDoor
set_option linter.unusedVariables false
set_option maxRecDepth 100000
namespace Go.Proofs.YtgccichmdddbpaaGreatDoor
open Go.RowKit

/-- A stamp that was written is read as it was. -/
theorem tdown_odown (a b : Int) (l : List UInt8) (h : may a b = true) : tdown (odown a b ++ l) = .ok (a, b, l) := by
  obtain ⟨h1, h2, h3, h4⟩ := of_decide_eq_true h
  have e1 : (odown a b ++ l).take 6 = wide 6 (1099511627776 - a).toNat := by
    unfold odown
    rw [List.append_assoc, List.take_append_of_le_length (by rw [wide_len]; exact Nat.le_refl _), List.take_of_length_le (by rw [wide_len]; exact Nat.le_refl _)]
  have e2 : (odown a b ++ l).drop 6 = wide 3 (1048575 - b).toNat ++ l := by
    unfold odown
    rw [List.append_assoc, List.drop_append_of_le_length (by rw [wide_len]; exact Nat.le_refl _), List.drop_of_length_le (by rw [wide_len]; exact Nat.le_refl _), List.nil_append]
  have e3 : ((odown a b ++ l).drop 6).take 3 = wide 3 (1048575 - b).toNat := by
    rw [e2, List.take_append_of_le_length (by rw [wide_len]; exact Nat.le_refl _), List.take_of_length_le (by rw [wide_len]; exact Nat.le_refl _)]
  have e4 : (odown a b ++ l).drop 9 = l := by
    rw [List.drop_append_of_le_length (by rw [odown_len]; exact Nat.le_refl _), List.drop_of_length_le (by rw [odown_len]; exact Nat.le_refl _), List.nil_append]
  have v1 : wval (wide 6 (1099511627776 - a).toNat) = (1099511627776 - a).toNat := wval_wide _ _ (by omega)
  have v2 : wval (wide 3 (1048575 - b).toNat) = (1048575 - b).toNat := wval_wide _ _ (by omega)
  unfold tdown
  rw [e1, e3, e4, v1, v2, if_neg (by rw [List.length_append, odown_len]; omega)]
  have q1 : 1099511627776 - ((1099511627776 - a).toNat : Int) = a := by omega
  have q2 : 1048575 - ((1048575 - b).toNat : Int) = b := by omega
  rw [q1, q2, h]
  rfl

/-- What can be read is written so. -/
theorem odown_tdown (l r : List UInt8) (a b : Int) (h : tdown l = .ok (a, b, r)) : may a b = true ∧ odown a b ++ r = l := by
  unfold tdown at h
  by_cases h9 : l.length < 9
  · rw [if_pos h9] at h
    cases h
  · rw [if_neg h9] at h
    split at h
    · rename_i hm
      injection h with h
      injection h with h1 h
      injection h with h2 h3
      subst h1
      subst h2
      subst h3
      refine ⟨hm, ?_⟩
      have q1 : (1099511627776 - (1099511627776 - (wval (l.take 6) : Int))).toNat = wval (l.take 6) := by omega
      have q2 : (1048575 - (1048575 - (wval ((l.drop 6).take 3) : Int))).toNat = wval ((l.drop 6).take 3) := by omega
      have l1 : (l.take 6).length = 6 := by rw [List.length_take]; omega
      have l2 : ((l.drop 6).take 3).length = 3 := by rw [List.length_take, List.length_drop]; omega
      have w1 := wide_wval (l.take 6)
      have w2 := wide_wval ((l.drop 6).take 3)
      rw [l1] at w1
      rw [l2] at w2
      unfold odown
      rw [q1, q2, w1, w2]
      have e : l.drop 9 = (l.drop 6).drop 3 := by rw [List.drop_drop]
      rw [e, List.append_assoc, List.take_append_drop, List.take_append_drop]
    · cases h

end Go.Proofs.YtgccichmdddbpaaGreatDoor
set_option linter.unusedVariables false
namespace Go.Proofs.YtgccichmdddbpaaGreatDoor
open Go.RowKit

theorem tb_mk (l : List UInt8) : sb ⟨l.toArray⟩ = l := rfl
theorem mk_tb (s : ByteArray) : (⟨(sb s).toArray⟩ : ByteArray) = s := mk_sb s
theorem tb_inj {s t : ByteArray} (h : sb s = sb t) : s = t := sb_inj h
theorem ob_sb (s : ByteArray) : ob s = sb s := rfl

/-- A change, a write, an intent, a record. -/
structure Ch where
  q : Int
  s : ByteArray
  d : Bool
structure Wt where
  k : ByteArray
  q : Int
structure It where
  id : Int
  ep : Int
  pr : Int
  an : ByteArray
  sw : Int
  sl : Int
  bw : Int
  bl : Int
  l : List Ch
structure Rc where
  id : Int
  ep : Int
  st : Int
  pr : Int
  an : ByteArray
  sw : Int
  sl : Int
  bw : Int
  bl : Int
  l : List Wt

def isN (n : Int) : Bool := decide (0 ≤ n ∧ n ≤ 9007199254740991)
def isI (n : Int) : Bool := decide (1 ≤ n ∧ n ≤ 9007199254740991)
def isP (n : Int) : Bool := decide (1 ≤ n ∧ n ≤ 1000)
def isK (s : ByteArray) : Bool := decide (1 ≤ s.size ∧ s.size ≤ 32)
def isV (s : ByteArray) (b : Bool) : Bool := decide (s.size ≤ 64 ∧ (b = true ∨ s.size = 0))
theorem isN_iff {n : Int} : isN n = true ↔ 0 ≤ n ∧ n ≤ 9007199254740991 := decide_eq_true_iff
theorem isI_iff {n : Int} : isI n = true ↔ 1 ≤ n ∧ n ≤ 9007199254740991 := decide_eq_true_iff
theorem isP_iff {n : Int} : isP n = true ↔ 1 ≤ n ∧ n ≤ 1000 := decide_eq_true_iff
theorem isK_iff {s : ByteArray} : isK s = true ↔ 1 ≤ s.size ∧ s.size ≤ 32 := decide_eq_true_iff
theorem isV_iff {s : ByteArray} {b : Bool} : isV s b = true ↔ s.size ≤ 64 ∧ (b = true ∨ s.size = 0) := decide_eq_true_iff
/-- What intents and records have alike. -/
def hdr (id ep pr : Int) (an : ByteArray) : Bool := isI id && isN ep && isP pr && isK an
def okCh (a : Int) (c : Ch) : Bool := decide (a < c.q) && isI c.q && isV c.s (!c.d)
def rise : Int → List Ch → Bool
  | _, [] => true
  | a, c :: l => okCh a c && rise c.q l
def mayI (x : It) : Bool := hdr x.id x.ep x.pr x.an && may x.sw x.sl && may x.bw x.bl && decide (1 ≤ x.l.length ∧ x.l.length ≤ 16) && rise 0 x.l
/-! ### texts -/
def nbs (n : Int) : List UInt8 := enc n.toNat
def tbs (s : ByteArray) : List UInt8 := enc s.size ++ sb s
def fbs (b : Bool) : List UInt8 := enc (if b then 1 else 0)
def txC (c : Ch) : List UInt8 := nbs c.q ++ (fbs c.d ++ tbs c.s)
def txS (a b : Int) : List UInt8 := nbs a ++ nbs b
def txI (x : It) : List UInt8 := nbs x.id ++ (nbs x.ep ++ (nbs x.pr ++ (tbs x.an ++ (nbs x.sw ++ (nbs x.sl ++ (nbs x.bw ++ (nbs x.bl ++ (nbs x.l.length ++ x.l.flatMap txC))))))))
def txV (s : ByteArray) (b : Bool) : List UInt8 := fbs b ++ if b then tbs s else []

/-! ### what is read -/
abbrev Rst := Option (List UInt8)
def pn : Rst → Nat × Rst
  | none => (0, none)
  | some b => if (tk b).2.2 = 0 then ((tk b).1, some (tk b).2.1) else (0, none)
def ps : Rst → ByteArray × Rst
  | none => (⟨#[]⟩, none)
  | some b => if (tsx b 64).2.2 = 0 then (⟨(tsx b 64).1.toArray⟩, some (tsx b 64).2.1) else (⟨#[]⟩, none)
def pf (s : Rst) : Bool × Rst := (decide ((pn s).1 = 1), if 1 < (pn s).1 then none else (pn s).2)
def pC (s : Rst) : Ch × Rst :=
  let a := pn s
  let b := pf a.2
  let c := ps b.2
  (⟨a.1, c.1, b.1⟩, c.2)
def many {α : Type} (f : Rst → α × Rst) : Nat → Rst → List α × Rst
  | 0, s => ([], s)
  | _ + 1, none => ([], none)
  | k + 1, some b => ((f (some b)).1 :: (many f k (f (some b)).2).1, (many f k (f (some b)).2).2)

theorem ps_none : ps none = (⟨#[]⟩, none) := rfl
theorem pn_back {s : Rst} {v : Nat} {r : List UInt8} (h : pn s = (v, some r)) : s = some (enc v ++ r) ∧ v ≤ 9007199254740991 := by
  cases s with
  | none => cases h
  | some b =>
    unfold pn at h
    simp only at h
    split at h
    · rename_i h0
      rcases tk_cases b with e | e | ⟨l, rest, e1, e2, e3, e4, e5⟩
      · rw [e] at h0; cases h0
      · rw [e] at h0; cases h0
      · rw [e5] at h
        injection h with h1 h2
        injection h2 with h2
        simp only at h1 h2
        subst h1 h2
        refine ⟨?_, e4⟩
        rw [e1]
        unfold enc
        rw [digs_val l e3]
        rfl
    · cases h
theorem ts_back {b t r : List UInt8} {m : Int} (h : tsx b m = (t, r, 0)) : b = enc t.length ++ (t ++ r) ∧ (t.length : Int) ≤ m ∧ t.length ≤ 9007199254740991 := by
  unfold tsx at h
  split at h
  · cases h
  · unfold ts at h
    rcases htk : tk b with ⟨v, rest, x⟩
    rw [htk] at h
    simp only at h
    split at h
    · injection h with h1 h2
      injection h2 with h2 h3
      rename_i hx
      exact absurd h3 hx
    · rename_i hx
      split at h
      · cases h
      · split at h
        · cases h
        · injection h with h1 h2
          injection h2 with h2 h3
          have hp : pn (some b) = (v, some rest) := by
            unfold pn
            simp only [htk]
            rw [if_pos (by simpa using hx)]
          obtain ⟨e1, e2⟩ := pn_back hp
          injection e1 with e1
          have hl : t.length = v := by rw [← h1, List.length_take]; omega
          refine ⟨?_, by omega, by omega⟩
          rw [e1, hl, ← h1, ← h2, List.take_append_drop]
theorem ps_back {s : Rst} {v : ByteArray} {r : List UInt8} (h : ps s = (v, some r)) : s = some (tbs v ++ r) ∧ v.size ≤ 64 := by
  cases s with
  | none => cases h
  | some b =>
    unfold ps at h
    simp only at h
    split at h
    · rename_i h0
      injection h with h1 h2
      injection h2 with h2
      rcases ht : tsx b 64 with ⟨t, r', x⟩
      rw [ht] at h0 h1 h2
      simp only at h0 h1 h2
      subst h0 h1 h2
      obtain ⟨e1, e2, e3⟩ := ts_back ht
      have hz : (⟨t.toArray⟩ : ByteArray).size = t.length := by rw [← sb_len]
      refine ⟨?_, by rw [hz]; omega⟩
      unfold tbs
      rw [hz, List.append_assoc, tb_mk]
      exact congrArg some e1
    · cases h
theorem pf_back {s : Rst} {v : Bool} {r : List UInt8} (h : pf s = (v, some r)) : s = some (fbs v ++ r) := by
  unfold pf at h
  rcases hp : pn s with ⟨n, o⟩
  rw [hp] at h
  simp only at h
  injection h with h1 h2
  split at h2
  · cases h2
  · rename_i hn
    subst h2
    obtain ⟨e1, _⟩ := pn_back hp
    rw [e1]
    unfold fbs
    have : n = 0 ∨ n = 1 := by omega
    rcases this with rfl | rfl
    · subst h1; rfl
    · subst h1; rfl

theorem pC_back {s : Rst} {c : Ch} {r : List UInt8} (h : pC s = (c, some r)) : s = some (txC c ++ r) ∧ 0 ≤ c.q := by
  unfold pC at h
  simp only at h
  injection h with h1 h2
  rcases e1 : pn s with ⟨v1, o1⟩
  rw [e1] at h1 h2
  simp only at h1 h2
  rcases e2 : pf o1 with ⟨v2, o2⟩
  rw [e2] at h1 h2
  simp only at h1 h2
  rcases e3 : ps o2 with ⟨v3, o3⟩
  rw [e3] at h1 h2
  simp only at h1 h2
  subst h2
  obtain ⟨rfl, _⟩ := ps_back e3
  obtain rfl := pf_back e2
  obtain ⟨rfl, _⟩ := pn_back e1
  subst h1
  refine ⟨?_, by simp⟩
  unfold txC nbs
  simp only [List.append_assoc, Int.toNat_natCast]
theorem many_back {α : Type} {f : Rst → α × Rst} {t : α → List UInt8} (hf : ∀ s x r, f s = (x, some r) → s = some (t x ++ r)) (hn : ∀ x, f none = (x, none) ∨ True) :
    ∀ (k : Nat) (s : Rst) (l : List α) (r : List UInt8), many f k s = (l, some r) → s = some (l.flatMap t ++ r) ∧ l.length = k
  | 0, s, l, r, h => by
    rw [many] at h
    cases h
    exact ⟨rfl, rfl⟩
  | k + 1, none, l, r, h => by
    rw [many] at h
    cases h
  | k + 1, some b, l, r, h => by
    rw [many] at h
    injection h with h1 h2
    rcases e : f (some b) with ⟨x, o⟩
    rw [e] at h1 h2
    simp only at h1 h2
    rcases e2 : many f k o with ⟨l', o2⟩
    rw [e2] at h1 h2
    simp only at h1 h2
    subst h2
    obtain ⟨e3, e4⟩ := many_back hf hn k o l' r e2
    subst e3
    have e5 := hf _ _ _ e
    subst h1
    refine ⟨?_, by simp [e4]⟩
    rw [e5, List.flatMap_cons, List.append_assoc]
theorem many_none {α : Type} (f : Rst → α × Rst) (k : Nat) : many f k none = ([], none) := by cases k <;> rfl

/-- An intent, as it is read; what is left. -/
def rdI (b : List UInt8) : It × Rst :=
  let a1 := pn (some b)
  let a2 := pn a1.2
  let a3 := pn a2.2
  let a4 := ps a3.2
  let a5 := pn a4.2
  let a6 := pn a5.2
  let a7 := pn a6.2
  let a8 := pn a7.2
  let a9 := pn a8.2
  let b0 := many pC a9.1 a9.2
  (⟨a1.1, a2.1, a3.1, a4.1, a5.1, a6.1, a7.1, a8.1, b0.1⟩, b0.2)
def tkI (b : List UInt8) : Option It := if (rdI b).2 = some [] ∧ mayI (rdI b).1 = true then some (rdI b).1 else none
def tkV (b : List UInt8) : Option (ByteArray × Bool) :=
  let a := pf (some b)
  if a.1 then (let c := ps a.2; if c.2 = some [] then some (c.1, true) else none) else if a.2 = some [] then some (⟨#[]⟩, false) else none
theorem rise_all : ∀ {l : List Ch} {a : Int}, rise a l = true → ∀ c ∈ l, 0 ≤ c.q ∧ c.q ≤ 9007199254740991 ∧ c.s.size ≤ 64
  | [], _, _, c, hc => (nomatch hc)
  | x :: l, a, h, c, hc => by
    simp only [rise, okCh, Bool.and_eq_true] at h
    rcases List.mem_cons.1 hc with rfl | hc
    · have h1 := isI_iff.1 h.1.1.2
      have h2 := isV_iff.1 h.1.2
      exact ⟨by omega, h1.2, h2.1⟩
    · exact rise_all h.2 c hc
theorem may_le {a b : Int} (h : may a b = true) : 0 ≤ a ∧ a ≤ 9007199254740991 ∧ 0 ≤ b ∧ b ≤ 9007199254740991 := by
  have := may_iff.1 h
  omega
theorem num_nat (n : Nat) : nbs (n : Int) = enc n := by unfold nbs; rw [Int.toNat_natCast]
theorem rdI_back {b r : List UInt8} {x : It} (h : rdI b = (x, some r)) : b = txI x ++ r := by
  unfold rdI at h
  simp only at h
  injection h with h1 h2
  rcases e1 : pn (some b) with ⟨v1, o1⟩
  rw [e1] at h1 h2; simp only at h1 h2
  rcases e2 : pn o1 with ⟨v2, o2⟩
  rw [e2] at h1 h2; simp only at h1 h2
  rcases e3 : pn o2 with ⟨v3, o3⟩
  rw [e3] at h1 h2; simp only at h1 h2
  rcases e4 : ps o3 with ⟨v4, o4⟩
  rw [e4] at h1 h2; simp only at h1 h2
  rcases e5 : pn o4 with ⟨v5, o5⟩
  rw [e5] at h1 h2; simp only at h1 h2
  rcases e6 : pn o5 with ⟨v6, o6⟩
  rw [e6] at h1 h2; simp only at h1 h2
  rcases e7 : pn o6 with ⟨v7, o7⟩
  rw [e7] at h1 h2; simp only at h1 h2
  rcases e8 : pn o7 with ⟨v8, o8⟩
  rw [e8] at h1 h2; simp only at h1 h2
  rcases e9 : pn o8 with ⟨v9, o9⟩
  rw [e9] at h1 h2; simp only at h1 h2
  rcases e0 : many pC v9 o9 with ⟨l, o0⟩
  rw [e0] at h1 h2; simp only at h1 h2
  subst h2
  obtain ⟨rfl, hl⟩ := many_back (f := pC) (t := txC) (fun s c r h => (pC_back h).1) (fun _ => .inr trivial) _ _ _ _ e0
  obtain ⟨rfl, _⟩ := pn_back e9
  obtain ⟨rfl, _⟩ := pn_back e8
  obtain ⟨rfl, _⟩ := pn_back e7
  obtain ⟨rfl, _⟩ := pn_back e6
  obtain ⟨rfl, _⟩ := pn_back e5
  obtain ⟨rfl, _⟩ := ps_back e4
  obtain ⟨rfl, _⟩ := pn_back e3
  obtain ⟨rfl, _⟩ := pn_back e2
  obtain ⟨e, _⟩ := pn_back e1
  injection e with e
  rw [e, ← h1]
  unfold txI
  simp only [num_nat, hl, List.append_assoc]
/-! ### the laws -/
theorem tkI_back {b : List UInt8} {x : It} (h : tkI b = some x) : mayI x = true ∧ b = txI x := by
  unfold tkI at h
  split at h
  · rename_i hh
    injection h with h
    subst h
    refine ⟨hh.2, ?_⟩
    have := rdI_back (b := b) (x := (rdI b).1) (r := []) (by rw [← hh.1])
    simpa using this
  · cases h
theorem tkV_back {b : List UInt8} {s : ByteArray} {v : Bool} (h : tkV b = some (s, v)) : isV s v = true ∧ b = txV s v := by
  unfold tkV at h
  simp only at h
  rcases e1 : pf (some b) with ⟨v1, o1⟩
  rw [e1] at h
  simp only at h
  cases v1 with
  | true =>
    simp only [if_true] at h
    split at h
    · rename_i h0
      injection h with h
      injection h with h1 h2
      rcases e2 : ps o1 with ⟨v2, o2⟩
      rw [e2] at h0 h1
      simp only at h0 h1
      subst h0 h1 h2
      obtain ⟨rfl, hs⟩ := ps_back e2
      have e := pf_back e1
      injection e with e
      refine ⟨isV_iff.2 ⟨hs, .inl rfl⟩, ?_⟩
      rw [e]
      unfold txV
      simp
    · cases h
  | false =>
    simp only [Bool.false_eq_true, if_false] at h
    split at h
    · rename_i h0
      injection h with h
      injection h with h1 h2
      subst h0 h1 h2
      have e := pf_back e1
      injection e with e
      refine ⟨isV_iff.2 ⟨by decide, .inr (by decide)⟩, ?_⟩
      rw [e]
      unfold txV
      simp
    · cases h
/-! ### lengths -/
theorem num_len {n : Int} (h : n ≤ 9007199254740991) : (nbs n).length ≤ 8 := enc_len _ (by omega)
theorem str_len {s : ByteArray} {m : Nat} (h : s.size ≤ m) (hm : m ≤ 64) : (tbs s).length ≤ 8 + m := by
  have := enc_len s.size (by omega)
  unfold tbs
  rw [List.length_append, sb_len]
  omega
theorem fl_len (b : Bool) : (fbs b).length ≤ 8 := enc_len _ (by cases b <;> simp)
theorem flat_len {α : Type} {t : α → List UInt8} {m : Nat} : ∀ {l : List α}, (∀ x ∈ l, (t x).length ≤ m) → (l.flatMap t).length ≤ m * l.length
  | [], _ => by simp
  | x :: l, h => by
    have h1 := h x List.mem_cons_self
    have h2 := flat_len (l := l) fun y hy => h y (List.mem_cons_of_mem _ hy)
    rw [List.flatMap_cons, List.length_append, List.length_cons, Nat.mul_succ]
    omega
theorem txI_len (x : It) (h : mayI x = true) : (txI x).length ≤ 2048 := by
  simp only [mayI, hdr, Bool.and_eq_true] at h
  obtain ⟨⟨⟨⟨⟨⟨⟨h1, h2⟩, h3⟩, h4⟩, h5⟩, h6⟩, h7⟩, h8⟩ := h
  have h1 := num_len (isI_iff.1 h1).2
  have h2 := num_len (isN_iff.1 h2).2
  have h3 := num_len (n := x.pr) (by have := (isP_iff.1 h3).2; omega)
  have h4 := str_len (isK_iff.1 h4).2 (by omega)
  have a5 := num_len (may_le h5).2.1
  have b5 := num_len (may_le h5).2.2.2
  have a6 := num_len (may_le h6).2.1
  have b6 := num_len (may_le h6).2.2.2
  have h7 := of_decide_eq_true h7
  have n7 := num_len (n := x.l.length) (by omega)
  have h9 := flat_len (t := txC) (m := 88) (l := x.l) fun c hc => by
    obtain ⟨q1, q2, q3⟩ := rise_all h8 c hc
    have r1 := num_len q2
    have r2 := fl_len c.d
    have r3 := str_len q3 (Nat.le_refl _)
    unfold txC
    simp only [List.length_append]
    omega
  unfold txI
  simp only [List.length_append]
  omega
theorem txV_len (s : ByteArray) (b : Bool) (h : isV s b = true) : (txV s b).length ≤ 2048 := by
  have h := isV_iff.1 h
  have r2 := fl_len b
  have r3 := str_len h.1 (Nat.le_refl _)
  unfold txV
  cases b <;> simp [List.length_append] <;> omega
/-- Longer texts say nothing. -/
theorem tkI_long {b : List UInt8} (h : 2048 < b.length) : tkI b = none := by
  cases e : tkI b with
  | none => rfl
  | some x =>
    obtain ⟨h1, rfl⟩ := tkI_back e
    have := txI_len x h1
    omega
theorem tkV_long {b : List UInt8} (h : 2048 < b.length) : tkV b = none := by
  cases e : tkV b with
  | none => rfl
  | some x =>
    obtain ⟨h1, rfl⟩ := tkV_back e
    have := txV_len x.1 x.2 h1
    omega
end Go.Proofs.YtgccichmdddbpaaGreatDoor
