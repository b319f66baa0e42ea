/-
  Layer 2: TakeDown, of the code and of the document.
  Layer 2: TakeDown of the document.
  Layer 2: the statements' helpers: stamp, key, works.
  Layer 2: the contracts in one form each.
  Layer 2: what the laws need of the plain words.
-/
import Derived.Test.YtdaecfgjfdikbaaGreatDoorZ22
import Derived.Handy
import Derived.Test.YtdaecfgjfdikbaaGreatDoorZ01
set_option linter.unusedVariables false
set_option maxRecDepth 100000
namespace Go.Proofs.YtdaecfgjfdikbaaGreatDoor
open Go.RowKit

/-- What is taken: the stamp and what is behind, or the error's number. -/
def tdown (l : List UInt8) : Except Nat (Int × Int × List UInt8) :=
  if l.length < 9 then .error 3
  else if may (1099511627776 - wval (l.take 6)) (1048575 - wval ((l.drop 6).take 3)) then .ok (1099511627776 - wval (l.take 6), 1048575 - wval ((l.drop 6).take 3), l.drop 9)
  else .error 4
def TdAns (r : Except Nat (Int × Int × List UInt8)) : Ending :=
  match r with
  | .ok (a, b, l) => .returned (.tuple #[.agg #[.int .i64 a, .int .i64 b], .string ⟨l.toArray⟩, .int .i64 0])
  | .error n => .returned (.tuple #[.agg #[.int .i64 0, .int .i64 0], .string ⟨#[]⟩, .int .i64 n])

theorem TdAns_ok (a b : Int) (t : ByteArray) (k : Nat) : TdAns (.ok (a, b, (ob t).drop k)) = .returned (.tuple #[.agg #[.int .i64 a, .int .i64 b], .string (t.extract k t.size), .int .i64 0]) := by
  rw [← sb_end]
  show Ending.returned (.tuple #[.agg #[.int .i64 a, .int .i64 b], .string ⟨(ob (t.extract k t.size)).toArray⟩, .int .i64 0]) = _
  rw [mk_sb]

/-- A return whose first result is a stamp's variable. -/
theorem ret_stamp {fn : Func} {R : Ending → World → Prop} {a : Act} {w : World} {p u v : Tmp} {g : Nat} {x y : Int} (hr : fn.results = #[.cell p 26, .tmp u, .tmp v]) (hp : a.tmps.getD p undef = .pointer (some ⟨g, 0, none⟩))
    (hB : Blk w g 26 #[.int .i64 x, .int .i64 y]) (hd : a.defers = []) (hR : R (.returned (.tuple #[.agg #[.int .i64 x, .int .i64 y], a.tmps.getD u undef, a.tmps.getD v undef])) w) : bodyPost Tryz.prog fn R .ret a w := by
  refine bodyPost_ret ?_ hd hR
  have hp' : a.tmps[p]?.getD undef = .pointer (some ⟨g, 0, none⟩) := by simpa using hp
  simp [results, hr, hp', asAddr, run_loadVar_row w g 26 26 _ (0, 0) _ hB Tryz.underlying26 rfl (by kernel_rfl)]

theorem zeros (w : World) : (Instr.build 26 #[]).run Tryz.prog w = .ok (.agg #[.int .i64 0, .int .i64 0]) w := by kernel_rfl

set_option maxHeartbeats 4000000 in
theorem takeDown_short (t : ByteArray) (w : World) (h : t.size < 9) :
    Calls Tryz.prog 201 #[.string t] w fun e w' => e = TdAns (.error 3) ∧ Below w.heap.size w w' := by
  go_enter Tryz.func201, Tryz.ntmps201
  go_wp2
  go_returns
  exact ⟨rfl, (Below.refl _ _).alloc (Nat.le_refl _) _⟩

/-- The numbers in the first nine bytes. -/
theorem nine (t : ByteArray) (h : 9 ≤ t.size) : (t.extract 0 6).size ≤ 6 ∧ (t.extract 6 9).size ≤ 6 ∧ wval (ob (t.extract 0 6)) = wval ((ob t).take 6) ∧ wval (ob (t.extract 6 9)) = wval (((ob t).drop 6).take 3) ∧
    wval ((ob t).take 6) < 281474976710656 ∧ wval (((ob t).drop 6).take 3) < 16777216 := by
  refine ⟨by rw [ByteArray.size_extract]; omega, by rw [ByteArray.size_extract]; omega, ?_, ?_, ?_, ?_⟩
  · rw [sb_ext]; rfl
  · rw [sb_ext]
  · have h1 := wval_lt ((ob t).take 6)
    rw [List.length_take, ob_len, Nat.min_eq_left (by omega)] at h1
    have : (256 : Nat) ^ 6 = 281474976710656 := by decide
    omega
  · have h1 := wval_lt (((ob t).drop 6).take 3)
    rw [List.length_take, List.length_drop, ob_len, Nat.min_eq_left (by omega)] at h1
    have : (256 : Nat) ^ 3 = 16777216 := by decide
    omega

set_option maxHeartbeats 4000000 in
theorem takeDown_long (t : ByteArray) (w : World) (h : 9 ≤ t.size) (hs : t.size ≤ 150000000000000) :
    Calls Tryz.prog 201 #[.string t] w fun e w' => e = TdAns (tdown (ob t)) ∧ Below w.heap.size w w' := by
  obtain ⟨s1, s2, e1, e2, b1, b2⟩ := nine t h
  have hT : tdown (ob t) = if may (1099511627776 - wval ((ob t).take 6)) (1048575 - wval (((ob t).drop 6).take 3)) then .ok (1099511627776 - wval ((ob t).take 6), 1048575 - wval (((ob t).drop 6).take 3), (ob t).drop 9) else .error 4 := by
    unfold tdown
    rw [if_neg (by rw [ob_len]; omega)]
  obtain ⟨x, hx⟩ : ∃ x, x = wval ((ob t).take 6) := ⟨_, rfl⟩
  obtain ⟨y, hy⟩ : ∃ y, y = wval (((ob t).drop 6).take 3) := ⟨_, rfl⟩
  rw [← hx] at hT e1 b1
  rw [← hy] at hT e2 b2
  have c1 := fun V => codeNumber (t.extract 0 6) V s1
  have c2 := fun V => codeNumber (t.extract 6 9) V s2
  rw [e1] at c1
  rw [e2] at c2
  have C1 := Lib.hid c1
  have C2 := Lib.hid c2
  have HT := Lib.hid hT
  clear hT c1 c2 e1 e2 hx hy s1 s2
  have hb0 : Below w.heap.size w (w.alloc (.cells #[.int .i64 0, .int .i64 0] 26)) := (Below.refl _ _).alloc (Nat.le_refl _) _
  have hB0 := Blk.new w 26 #[.int .i64 0, .int .i64 0]
  go_enter Tryz.func201, Tryz.ntmps201
  go_wp2_with fail
  refine (C1.out _).mono ?_
  rintro e w1 ⟨rfl, hb1⟩
  have hB1 := hB0.below hb1 (by simp)
  have hw1 := hb0.trans (hb1.mono (by simp))
  have f0 : ∃ u, w1.cell? ⟨w.heap.size, 0, none⟩ = some u := ⟨_, by rw [hB1.cell]; rfl⟩
  obtain ⟨u0, f0⟩ := f0
  have f1 : w1.frozen? ⟨w.heap.size, 0, none⟩ = false := hB1.frozen _
  clear hb1 hB0 hb0
  go_wp2_with fail
  refine (C2.out _).mono ?_
  rintro e w2 ⟨rfl, hb2⟩
  have hB2 : Blk w2 w.heap.size 26 #[.int .i64 (1099511627776 - (x : Int)), .int .i64 0] := (hB1.set_ 0 _).below hb2 (by have := hB1.lt; simpa using this)
  have hw2 : Below w.heap.size w w2 := (hw1.setCell (Nat.le_refl _) _).trans (hb2.mono (by have := hw1.size; simpa using this))
  have f2 : w2.cell? ⟨w.heap.size, 0, none⟩ = some (.int .i64 (1099511627776 - (x : Int))) := by rw [hB2.cell]; rfl
  have f3 : w2.cell? ⟨w.heap.size, 1, none⟩ = some (.int .i64 0) := by rw [hB2.cell]; rfl
  have f4 : w2.frozen? ⟨w.heap.size, 1, none⟩ = false := hB2.frozen _
  clear hb2 hB1 hw1 f0 f1
  go_wp2_with fail
  refine (isStamp _ _ _).mono ?_
  rintro e w3 ⟨rfl, hb3⟩
  have hB3 : Blk w3 w.heap.size 26 #[.int .i64 (1099511627776 - (x : Int)), .int .i64 (1048575 - (y : Int))] := (hB2.set_ 1 _).below hb3 (by have := hB2.lt; simpa using this)
  have hw3 : Below w.heap.size w w3 := (hw2.setCell (Nat.le_refl _) _).trans (hb3.mono (by have := hw2.size; simpa using this))
  clear hb3 hB2 hw2 f2 f3 f4
  have g0 : w3.cell? ⟨w.heap.size, 0, none⟩ = some (.int .i64 (1099511627776 - (x : Int))) := by rw [hB3.cell]; rfl
  have g1 : w3.cell? ⟨w.heap.size, 1, none⟩ = some (.int .i64 (1048575 - (y : Int))) := by rw [hB3.cell]; rfl
  have g2 : w3.frozen? ⟨w.heap.size, 0, none⟩ = false := hB3.frozen _
  have g3 : w3.frozen? ⟨w.heap.size, 1, none⟩ = false := hB3.frozen _
  by_cases hm : may (1099511627776 - (x : Int)) (1048575 - (y : Int)) = true
  · rw [hm] at HT ⊢
    rw [if_pos rfl] at HT
    have HB := Lib.hid (fun (w4 : World) (h : Below w3.heap.size w3 w4) => hB3.below h hB3.lt)
    have HW := Lib.hid (fun (w4 : World) (h : Below w3.heap.size w3 w4) => hw3.trans (h.mono hw3.size))
    clear hB3
    go_wp2_with fail
    go_region_with (go_at_call 220; refine (behind t 9 _ h hs).mono ?_; rintro e w4 ⟨rfl, hb4⟩; have hB4 := HB.out w4 ⟨hb4.os, hb4.tape, hb4.output, hb4.size, hb4.block⟩; have hw4 := HW.out w4 ⟨hb4.os, hb4.tape, hb4.output, hb4.size, hb4.block⟩; have k0 : w4.cell? ⟨w.heap.size, 0, none⟩ = some (.int .i64 (1099511627776 - (x : Int))) := (by rw [hB4.cell]; rfl); have k1 : w4.cell? ⟨w.heap.size, 1, none⟩ = some (.int .i64 (1048575 - (y : Int))) := (by rw [hB4.cell]; rfl); have k2 : w4.frozen? ⟨w.heap.size, 0, none⟩ = false := hB4.frozen _; have k3 : w4.frozen? ⟨w.heap.size, 1, none⟩ = false := hB4.frozen _; clear hb4)
    all_goals go_wp2
    all_goals exact ret_stamp rfl rfl ((hB4.set_ 0 _).set_ 1 _) rfl ⟨by rw [HT.out, TdAns_ok]; rfl, (hw4.setCell (Nat.le_refl _) _).setCell (Nat.le_refl _) _⟩
  · have hm' : may (1099511627776 - (x : Int)) (1048575 - (y : Int)) = false := by simpa using hm
    rw [hm'] at HT ⊢
    clear hm hm'
    go_wp2
    exact ret_stamp rfl rfl ((hB3.set_ 0 _).set_ 1 _) rfl ⟨by rw [HT.out]; rfl, (hw3.setCell (Nat.le_refl _) _).setCell (Nat.le_refl _) _⟩

end Go.Proofs.YtdaecfgjfdikbaaGreatDoor
set_option linter.unusedVariables false
set_option maxRecDepth 100000
namespace Go.Proofs.YtdaecfgjfdikbaaGreatDoor
open Go.RowKit

set_option maxHeartbeats 4000000 in
theorem refTakeDown_short (t : ByteArray) (w : World) (h : t.size < 9) :
    Calls Tryz.prog 127 #[.string t] w fun e w' => e = TdAns (.error 3) ∧ Below w.heap.size w w' := by
  go_enter Tryz.func127, Tryz.ntmps127
  go_wp2
  go_returns
  exact ⟨rfl, (Below.refl _ _).alloc (Nat.le_refl _) _⟩

set_option maxHeartbeats 4000000 in
theorem refTakeDown_long (t : ByteArray) (w : World) (h : 9 ≤ t.size) (hs : t.size ≤ 150000000000000) :
    Calls Tryz.prog 127 #[.string t] w fun e w' => e = TdAns (tdown (ob t)) ∧ Below w.heap.size w w' := by
  obtain ⟨s1, s2, e1, e2, b1, b2⟩ := nine t h
  have hT : tdown (ob t) = if may (1099511627776 - wval ((ob t).take 6)) (1048575 - wval (((ob t).drop 6).take 3)) then .ok (1099511627776 - wval ((ob t).take 6), 1048575 - wval (((ob t).drop 6).take 3), (ob t).drop 9) else .error 4 := by
    unfold tdown
    rw [if_neg (by rw [ob_len]; omega)]
  obtain ⟨x, hx⟩ : ∃ x, x = wval ((ob t).take 6) := ⟨_, rfl⟩
  obtain ⟨y, hy⟩ : ∃ y, y = wval (((ob t).drop 6).take 3) := ⟨_, rfl⟩
  rw [← hx] at hT e1 b1
  rw [← hy] at hT e2 b2
  have c1 := fun V => refNumber (t.extract 0 6) V s1
  have c2 := fun V => refNumber (t.extract 6 9) V s2
  rw [e1] at c1
  rw [e2] at c2
  have C1 := Lib.hid c1
  have C2 := Lib.hid c2
  have HT := Lib.hid hT
  have h6 : (6 : Int) ≤ (t.size : Int) := by omega
  have hw1 : IntKind.i64.wrap (1099511627776 - (x : Int)) = 1099511627776 - (x : Int) := by rw [IntKind.wrap_i64]; omega
  have hw2 : IntKind.i64.wrap (1048575 - (y : Int)) = 1048575 - (y : Int) := by rw [IntKind.wrap_i64]; omega
  have hA := Lib.hid (show Blk ((w.alloc (.cells #[.int .i64 0, .int .i64 0] 26)).alloc (.cells #[.int .i64 (1099511627776 - (x : Int)), .int .i64 (1048575 - (y : Int))] 26)).drew w.heap.size 26 #[.int .i64 0, .int .i64 0] from
    (Blk.new w _ _).below (((Below.refl (w.alloc (.cells #[.int .i64 0, .int .i64 0] 26)).heap.size _).alloc (Nat.le_refl _) _).drew) (by simp))
  have hB := Lib.hid (show Blk ((w.alloc (.cells #[.int .i64 0, .int .i64 0] 26)).alloc (.cells #[.int .i64 (1099511627776 - (x : Int)), .int .i64 (1048575 - (y : Int))] 26)).drew (w.heap.size + 1) 26 #[.int .i64 (1099511627776 - (x : Int)), .int .i64 (1048575 - (y : Int))] from by
    have := Blk.new (w.alloc (.cells #[.int .i64 0, .int .i64 0] 26)) 26 #[.int .i64 (1099511627776 - (x : Int)), .int .i64 (1048575 - (y : Int))]
    rw [show (w.alloc (.cells #[.int .i64 0, .int .i64 0] 26)).heap.size = w.heap.size + 1 from by simp] at this
    exact this)
  have hC := Lib.hid (show Below w.heap.size w ((w.alloc (.cells #[.int .i64 0, .int .i64 0] 26)).alloc (.cells #[.int .i64 (1099511627776 - (x : Int)), .int .i64 (1048575 - (y : Int))] 26)).drew from
    (((Below.refl _ _).alloc (Nat.le_refl _) _).alloc (by simp) _).drew)
  clear hT c1 c2 e1 e2 hx hy s1 s2
  have hb0 : Below w.heap.size w (w.alloc (.cells #[.int .i64 0, .int .i64 0] 26)) := (Below.refl _ _).alloc (Nat.le_refl _) _
  go_enter Tryz.func127, Tryz.ntmps127
  go_wp2_with fail
  go_region_held3 (fun w' => w'.cell? ⟨w.heap.size, 0, none⟩ = some (.int .i64 0)) (first | assumption | go_keep)
    (first
      | (go_at_call_of 175 (Value.string (t.extract 0 6)); refine (C1.out _).mono ?_; rintro e w2 ⟨rfl, rfl⟩)
      | (go_at_call_of 175 (Value.string (t.extract 6 9)); refine (C2.out _).mono ?_; rintro e w2 ⟨rfl, rfl⟩))
  all_goals (
    revert hA hB hC
    generalize ((w.alloc (.cells #[.int .i64 0, .int .i64 0] 26)).alloc (.cells #[.int .i64 (1099511627776 - (x : Int)), .int .i64 (1048575 - (y : Int))] 26)).drew = V
    intro hA hB hC
    have f0 : V.cell? ⟨w.heap.size + 1, 0, none⟩ = some (.int .i64 (1099511627776 - (x : Int))) := by rw [hB.out.cell]; rfl
    have f1 : V.cell? ⟨w.heap.size + 1, 1, none⟩ = some (.int .i64 (1048575 - (y : Int))) := by rw [hB.out.cell]; rfl
    go_wp2_with fail
    refine (refMay _ _ _).mono ?_
    rintro e w3 ⟨rfl, hb3⟩
    have hA3 := hA.out.below hb3 hA.out.lt
    have hB3 := hB.out.below hb3 hB.out.lt
    have hw3 := hC.out.trans (hb3.mono hC.out.size)
    clear hb3 hA hB hC f0 f1
    have g0 : w3.cell? ⟨w.heap.size, 0, none⟩ = some (.int .i64 0) := by rw [hA3.cell]; rfl
    have g1 : w3.cell? ⟨w.heap.size, 1, none⟩ = some (.int .i64 0) := by rw [hA3.cell]; rfl
    have g2 : w3.frozen? ⟨w.heap.size, 0, none⟩ = false := hA3.frozen _
    have g3 : w3.frozen? ⟨w.heap.size, 1, none⟩ = false := hA3.frozen _
    have g4 : w3.cell? ⟨w.heap.size + 1, 0, none⟩ = some (.int .i64 (1099511627776 - (x : Int))) := by rw [hB3.cell]; rfl
    have g5 : w3.cell? ⟨w.heap.size + 1, 1, none⟩ = some (.int .i64 (1048575 - (y : Int))) := by rw [hB3.cell]; rfl
    by_cases hm : may (1099511627776 - (x : Int)) (1048575 - (y : Int)) = true
    · rw [hm] at HT ⊢
      rw [if_pos rfl] at HT
      have h9 : (9 : Int) ≤ (t.size : Int) := by omega
      go_wp2_with fail
      go_region
      all_goals go_wp2
      all_goals exact ret_stamp rfl rfl ((hA3.set_ 0 _).set_ 1 _) rfl ⟨by rw [HT.out, TdAns_ok]; rfl, ((hw3.setCell (Nat.le_refl _) _).setCell (Nat.le_refl _) _).drew⟩
    · have hm' : may (1099511627776 - (x : Int)) (1048575 - (y : Int)) = false := by simpa using hm
      rw [hm'] at HT ⊢
      clear hm hm'
      go_wp2
      exact ret_stamp rfl rfl ((hA3.set_ 0 _).set_ 1 _) rfl ⟨by rw [HT.out]; rfl, (hw3.setCell (Nat.le_refl _) _).setCell (Nat.le_refl _) _⟩)

end Go.Proofs.YtdaecfgjfdikbaaGreatDoor
set_option linter.unusedVariables false
namespace Go.Proofs.YtdaecfgjfdikbaaGreatDoor
open Go.RowKit






end Go.Proofs.YtdaecfgjfdikbaaGreatDoor
set_option linter.unusedVariables false
set_option maxRecDepth 100000
namespace Go.Proofs.YtdaecfgjfdikbaaGreatDoor
open Go.RowKit

def kS (s : ByteArray) : ByteArray := if s.size ≤ 1000 then ⟨(okey (ob s)).toArray⟩ else ⟨#[]⟩
def kE (s : ByteArray) : Int := if s.size ≤ 1000 then 0 else 5
theorem keyAny (s : ByteArray) (w : World) (hm : MaxL w) :
    Calls Tryz.prog 146 #[.string s] w fun e w' => e = .returned (.tuple #[.string (kS s), .int .i64 (kE s)]) ∧ Below w.heap.size w w' := by
  by_cases h : s.size ≤ 1000
  · rw [show kS s = _ from if_pos h, show kE s = _ from if_pos h]
    exact key s w h hm
  · rw [show kS s = _ from if_neg h, show kE s = _ from if_neg h]
    exact (key_no s w (by omega)).mono fun e w' ⟨h1, h2⟩ => ⟨h1, h2 ▸ Below.refl _ _⟩
theorem refKeyAny (s : ByteArray) (w : World) :
    Calls Tryz.prog 114 #[.string s] w fun e w' => e = .returned (.tuple #[.string (kS s), .int .i64 (kE s)]) ∧ Below w.heap.size w w' := by
  by_cases h : s.size ≤ 1000
  · rw [show kS s = _ from if_pos h, show kE s = _ from if_pos h]
    exact refKey s w h
  · rw [show kS s = _ from if_neg h, show kE s = _ from if_neg h]
    exact (refKey_no s w (by omega)).mono fun e w' ⟨h1, h2⟩ => ⟨h1, h2 ▸ Below.refl _ _⟩

def dS (a b : Int) : ByteArray := if may a b then ⟨(odown a b).toArray⟩ else ⟨#[]⟩
def dE (a b : Int) : Int := if may a b then 0 else 2
theorem downAny (a b : Int) (w : World) :
    Calls Tryz.prog 199 #[.agg #[.int .i64 a, .int .i64 b]] w fun e w' => e = .returned (.tuple #[.string (dS a b), .int .i64 (dE a b)]) ∧ Below w.heap.size w w' := by
  by_cases h : may a b = true
  · rw [show dS a b = _ from if_pos h, show dE a b = _ from if_pos h]
    exact down a b w h
  · rw [show dS a b = _ from if_neg h, show dE a b = _ from if_neg h]
    exact down_no a b w (by simpa using h)
theorem refDownAny (a b : Int) (w : World) :
    Calls Tryz.prog 115 #[.agg #[.int .i64 a, .int .i64 b]] w fun e w' => e = .returned (.tuple #[.string (dS a b), .int .i64 (dE a b)]) ∧ Below w.heap.size w w' := by
  by_cases h : may a b = true
  · rw [show dS a b = _ from if_pos h, show dE a b = _ from if_pos h]
    exact refDown a b w h
  · rw [show dS a b = _ from if_neg h, show dE a b = _ from if_neg h]
    exact refDown_no a b w (by simpa using h)

def tdA (r : Except Nat (Int × Int × List UInt8)) : Int := match r with | .ok (a, _, _) => a | .error _ => 0
def tdB (r : Except Nat (Int × Int × List UInt8)) : Int := match r with | .ok (_, b, _) => b | .error _ => 0
def tdR (r : Except Nat (Int × Int × List UInt8)) : ByteArray := match r with | .ok (_, _, l) => ⟨l.toArray⟩ | .error _ => ⟨#[]⟩
def tdE (r : Except Nat (Int × Int × List UInt8)) : Int := match r with | .ok _ => 0 | .error n => n
theorem TdAns_any (r : Except Nat (Int × Int × List UInt8)) : TdAns r = .returned (.tuple #[.agg #[.int .i64 (tdA r), .int .i64 (tdB r)], .string (tdR r), .int .i64 (tdE r)]) := by
  cases r with
  | ok p => obtain ⟨a, b, l⟩ := p; rfl
  | error n => rfl
theorem tdown_short (t : ByteArray) (h : t.size < 9) : tdown (ob t) = .error 3 := by
  unfold tdown
  rw [if_pos (by rw [ob_len]; exact h)]

theorem takeDownAny (t : ByteArray) (w : World) (hs : t.size ≤ 150000000000000) :
    Calls Tryz.prog 201 #[.string t] w fun e w' => e = .returned (.tuple #[.agg #[.int .i64 (tdA (tdown (ob t))), .int .i64 (tdB (tdown (ob t)))], .string (tdR (tdown (ob t))), .int .i64 (tdE (tdown (ob t)))]) ∧ Below w.heap.size w w' := by
  rw [← TdAns_any]
  by_cases h : t.size < 9
  · rw [tdown_short t h]
    exact takeDown_short t w h
  · exact takeDown_long t w (by omega) hs
theorem refTakeDownAny (t : ByteArray) (w : World) (hs : t.size ≤ 150000000000000) :
    Calls Tryz.prog 127 #[.string t] w fun e w' => e = .returned (.tuple #[.agg #[.int .i64 (tdA (tdown (ob t))), .int .i64 (tdB (tdown (ob t)))], .string (tdR (tdown (ob t))), .int .i64 (tdE (tdown (ob t)))]) ∧ Below w.heap.size w w' := by
  rw [← TdAns_any]
  by_cases h : t.size < 9
  · rw [tdown_short t h]
    exact refTakeDown_short t w h
  · exact refTakeDown_long t w (by omega) hs

end Go.Proofs.YtdaecfgjfdikbaaGreatDoor
set_option linter.unusedVariables false
set_option maxRecDepth 100000
namespace Go.Proofs.YtdaecfgjfdikbaaGreatDoor
open Go.RowKit

theorem may_of (a b : Int) : may (a % 1099511627777) (b % 1048576) = true := by
  unfold may
  apply decide_eq_true
  have h1 := Int.emod_nonneg a (b := 1099511627777) (by decide)
  have h2 := Int.emod_lt_of_pos a (b := 1099511627777) (by decide)
  have h3 := Int.emod_nonneg b (b := 1048576) (by decide)
  have h4 := Int.emod_lt_of_pos b (b := 1048576) (by decide)
  omega

/-- A stamp that was written is read as it was. -/
theorem tdown_odown (a b : Int) (l : List UInt8) (h : may a b = true) : tdown (odown a b ++ l) = .ok (a, b, l) := by
  obtain ⟨h1, h2, h3, h4⟩ := of_decide_eq_true h
  have e1 : (odown a b ++ l).take 6 = wide 6 (1099511627776 - a).toNat := by
    unfold odown
    rw [List.append_assoc, List.take_append_of_le_length (by rw [wide_len]; exact Nat.le_refl _), List.take_of_length_le (by rw [wide_len]; exact Nat.le_refl _)]
  have e2 : (odown a b ++ l).drop 6 = wide 3 (1048575 - b).toNat ++ l := by
    unfold odown
    rw [List.append_assoc, List.drop_append_of_le_length (by rw [wide_len]; exact Nat.le_refl _), List.drop_of_length_le (by rw [wide_len]; exact Nat.le_refl _), List.nil_append]
  have e3 : ((odown a b ++ l).drop 6).take 3 = wide 3 (1048575 - b).toNat := by
    rw [e2, List.take_append_of_le_length (by rw [wide_len]; exact Nat.le_refl _), List.take_of_length_le (by rw [wide_len]; exact Nat.le_refl _)]
  have e4 : (odown a b ++ l).drop 9 = l := by
    rw [List.drop_append_of_le_length (by rw [odown_len]; exact Nat.le_refl _), List.drop_of_length_le (by rw [odown_len]; exact Nat.le_refl _), List.nil_append]
  have v1 : wval (wide 6 (1099511627776 - a).toNat) = (1099511627776 - a).toNat := wval_wide _ _ (by omega)
  have v2 : wval (wide 3 (1048575 - b).toNat) = (1048575 - b).toNat := wval_wide _ _ (by omega)
  unfold tdown
  rw [e1, e3, e4, v1, v2, if_neg (by rw [List.length_append, odown_len]; omega)]
  have q1 : 1099511627776 - ((1099511627776 - a).toNat : Int) = a := by omega
  have q2 : 1048575 - ((1048575 - b).toNat : Int) = b := by omega
  rw [q1, q2, h]
  rfl

/-- What can be read is written so. -/
theorem odown_tdown (l r : List UInt8) (a b : Int) (h : tdown l = .ok (a, b, r)) : may a b = true ∧ odown a b ++ r = l := by
  unfold tdown at h
  by_cases h9 : l.length < 9
  · rw [if_pos h9] at h
    cases h
  · rw [if_neg h9] at h
    split at h
    · rename_i hm
      injection h with h
      injection h with h1 h
      injection h with h2 h3
      subst h1
      subst h2
      subst h3
      refine ⟨hm, ?_⟩
      have q1 : (1099511627776 - (1099511627776 - (wval (l.take 6) : Int))).toNat = wval (l.take 6) := by omega
      have q2 : (1048575 - (1048575 - (wval ((l.drop 6).take 3) : Int))).toNat = wval ((l.drop 6).take 3) := by omega
      have l1 : (l.take 6).length = 6 := by rw [List.length_take]; omega
      have l2 : ((l.drop 6).take 3).length = 3 := by rw [List.length_take, List.length_drop]; omega
      have w1 := wide_wval (l.take 6)
      have w2 := wide_wval ((l.drop 6).take 3)
      rw [l1] at w1
      rw [l2] at w2
      unfold odown
      rw [q1, q2, w1, w2]
      have e : l.drop 9 = (l.drop 6).drop 3 := by rw [List.drop_drop]
      rw [e, List.append_assoc, List.take_append_drop, List.take_append_drop]
    · cases h

theorem odown_cut (a b : Int) (k : Nat) (h : k < 9) : tdown ((odown a b).take k) = .error 3 := by
  unfold tdown
  rw [if_pos (by rw [List.length_take]; omega)]

theorem cut1000 (s : ByteArray) : (s.extract 0 (min (s.size : Int) 1000).toNat).size ≤ 1000 := by
  rw [ByteArray.size_extract]
  omega

theorem ba_app (x y : ByteArray) : ob (x ++ y) = ob x ++ ob y := by
  unfold ob
  rw [ByteArray.data_append, Array.toList_append]

end Go.Proofs.YtdaecfgjfdikbaaGreatDoor
