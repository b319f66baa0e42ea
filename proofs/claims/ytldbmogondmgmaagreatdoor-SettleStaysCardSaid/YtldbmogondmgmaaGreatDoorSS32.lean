/-
  Layer 12, the statements' helpers: a thing as a change.
  Layer 12, the statements' helpers: things laid as changes; tables that have them.
  Layer 12, plain: a transaction, what is found, what is read under a key; how they lie in memory.
  How arguments are opened: a transaction, a change, things.
  How arguments of layer 14's statements are opened: things, questions (written by wip/genseopen.py).
  Layer 10, plain: who is there, and what has it, behind a change.
  Layer 14, plain: what becomes of intents.
  Layer 12, the code: a key's intent; what is read in an own one.
-/
import Derived.Test.YtldbmogondmgmaaGreatDoorSS30
import Derived.Test.YtldbmogondmgmaaGreatDoorSS31
import Derived.Test.YtldbmogondmgmaaGreatDoorSS26
import Derived.Test.YtldbmogondmgmaaGreatDoorSS13
set_option linter.unusedVariables false
set_option linter.unusedSimpArgs false
set_option maxRecDepth 100000
namespace Go.Proofs.YtldbmogondmgmaaGreatDoor
open Go.RowKit

theorem kS_sz (s : ByteArray) : (kS s).size ≤ 2002 := by
  unfold kS
  split
  · exact okey_le (ob s) (by show s.size ≤ _; assumption)
  · decide
theorem dS_sz (a b : Int) : (dS a b).size ≤ 9 := by
  unfold dS
  split
  · exact odown_le a b
  · decide
theorem vk_cat (s : ByteArray) (a b : Int) (h : s.size ≤ 1000) (hm : may a b = true) : (⟨#[118]⟩ : ByteArray) ++ kS s ++ dS a b = vkS s a b := by
  unfold vkS kS dS
  rw [if_pos h, if_pos hm, if_pos ⟨h, hm⟩]
  apply ByteArray.ext
  simp [bs, vkey, ob_sb]
theorem ik_cat (s : ByteArray) (h : s.size ≤ 1000) : (⟨#[105]⟩ : ByteArray) ++ kS s = ikS s := by
  unfold ikS kS
  rw [if_pos h, if_pos h]
  apply ByteArray.ext
  simp [bs, ikey, ob_sb]
def vkE (s : ByteArray) (a b : Int) : Int := if s.size ≤ 1000 ∧ may a b = true then 0 else 2
def ikE (s : ByteArray) : Int := if s.size ≤ 1000 then 0 else 2
theorem rVersionKey (s : ByteArray) (a b : Int) (w : World) : Calls Tryz.prog 76 #[.string s, sv a b] w fun e w' => e = .returned (.tuple #[.string (vkS s a b), .int .i64 (vkE s a b)]) ∧ Below w.heap.size w w' := by
  have hX := Blk.new w 26 #[.int .i64 a, .int .i64 b]
  have g0 := nbl w (.cells #[.int .i64 a, .int .i64 b] 26)
  have HK := Lib.hid (fun V => refKeyAny s V)
  have HD := Lib.hid (fun V => refDownAny a b V)
  have z1 := kS_sz s
  have z2 := dS_sz a b
  have HX := Lib.hid hX
  have G0 := Lib.hid g0
  have hE : kE s = if s.size ≤ 1000 then 0 else 5 := rfl
  have hF : dE a b = if may a b = true then 0 else 2 := rfl
  rw [hE] at HK
  rw [hF] at HD
  clear hX g0 hE hF
  by_cases h1 : s.size ≤ 1000
  · rw [if_pos h1] at HK
    cases h2 : may a b
    · rw [h2] at HD
      simp only [Bool.false_eq_true, if_false] at HD
      have hR := Lib.hid (show vkS s a b = ⟨#[]⟩ ∧ vkE s a b = 2 by unfold vkS vkE; rw [if_neg (by rw [h2]; simp), if_neg (by rw [h2]; simp)]; exact ⟨rfl, rfl⟩)
      rw [hR.out.1, hR.out.2]
      clear h2
      go_enter Tryz.func76, Tryz.ntmps76
      go_wp2_with (first
        | (go_at_call 141; refine (HK.out _).mono ?_; rintro e w1 ⟨rfl, b1⟩
           have k := HX.out.below b1 HX.out.lt
           have x0 := k.cell 0
           have x1 := k.cell 1
           simp at x0 x1
           have c1 := Lib.hid (bst G0.out b1)
           clear k)
        | (go_at_call 142; refine (HD.out _).mono ?_; rintro e w2 ⟨rfl, b2⟩))
      go_ret2
      exact ⟨rfl, bst c1.out b2⟩
    · rw [h2] at HD
      simp only [if_true] at HD
      have hR := Lib.hid (show vkE s a b = 0 by unfold vkE; rw [if_pos ⟨h1, h2⟩])
      have hC := Lib.hid (vk_cat s a b h1 h2)
      rw [hR.out]
      generalize vkS s a b = rs at *
      generalize kS s = k1 at *
      generalize dS a b = k2 at *
      have zz : ¬ 9223372036854775807 < 1 + k1.size := by omega
      have hq : (⟨#[118]⟩ ++ k1 : ByteArray).size = 1 + k1.size := by rw [ByteArray.size_append]; rfl
      obtain ⟨k3, hk3⟩ : ∃ k3, (⟨#[118]⟩ ++ k1 : ByteArray) = k3 := ⟨_, rfl⟩
      have zy : ¬ 9223372036854775807 < k3.size + k2.size := by rw [← hk3, hq]; omega
      have hC3 := hC.out
      rw [hk3] at hC3 hq
      clear h2
      go_enter Tryz.func76, Tryz.ntmps76
      go_wp2_with (first
        | (go_at_call 141; refine (HK.out _).mono ?_; rintro e w1 ⟨rfl, b1⟩
           have k := HX.out.below b1 HX.out.lt
           have x0 := k.cell 0
           have x1 := k.cell 1
           simp at x0 x1
           have c1 := Lib.hid (bst G0.out b1)
           clear k)
        | (go_at_call 142; refine (HD.out _).mono ?_; rintro e w2 ⟨rfl, b2⟩))
      go_ret2
      exact ⟨rfl, bst c1.out b2⟩
  · rw [if_neg h1] at HK
    have hR := Lib.hid (show vkS s a b = ⟨#[]⟩ ∧ vkE s a b = 2 by unfold vkS vkE; rw [if_neg (fun h => h1 h.1), if_neg (fun h => h1 h.1)]; exact ⟨rfl, rfl⟩)
    rw [hR.out.1, hR.out.2]
    go_enter Tryz.func76, Tryz.ntmps76
    go_wp2_with (first
      | (go_at_call 141; refine (HK.out _).mono ?_; rintro e w1 ⟨rfl, b1⟩
         have k := HX.out.below b1 HX.out.lt
         have x0 := k.cell 0
         have x1 := k.cell 1
         simp at x0 x1
         have c1 := Lib.hid (bst G0.out b1)
         clear k)
      | (go_at_call 142; refine (HD.out _).mono ?_; rintro e w2 ⟨rfl, b2⟩))
    all_goals go_ret2
    all_goals exact ⟨rfl, bst c1.out b2⟩
theorem rIntentKey (s : ByteArray) (w : World) : Calls Tryz.prog 79 #[.string s] w fun e w' => e = .returned (.tuple #[.string (ikS s), .int .i64 (ikE s)]) ∧ Below w.heap.size w w' := by
  have HK := Lib.hid (fun V => refKeyAny s V)
  have z1 := kS_sz s
  have hE : kE s = if s.size ≤ 1000 then 0 else 5 := rfl
  rw [hE] at HK
  clear hE
  by_cases h1 : s.size ≤ 1000
  · rw [if_pos h1] at HK
    have hR := Lib.hid (show ikE s = 0 by unfold ikE; rw [if_pos h1])
    have hC := ik_cat s h1
    rw [hR.out]
    generalize ikS s = rs at *
    generalize kS s = k1 at *
    have zz : ¬ 9223372036854775807 < 1 + k1.size := by omega
    go_enter Tryz.func79, Tryz.ntmps79
    go_wp2_with (go_at_call 141; refine (HK.out _).mono ?_; rintro e w1 ⟨rfl, b1⟩)
    go_ret2
    exact ⟨rfl, b1⟩
  · rw [if_neg h1] at HK
    have hR := Lib.hid (show ikS s = ⟨#[]⟩ ∧ ikE s = 2 by unfold ikS ikE; rw [if_neg h1, if_neg h1]; exact ⟨rfl, rfl⟩)
    rw [hR.out.1, hR.out.2]
    go_enter Tryz.func79, Tryz.ntmps79
    go_wp2_with (go_at_call 141; refine (HK.out _).mono ?_; rintro e w1 ⟨rfl, b1⟩)
    go_ret2
    exact ⟨rfl, b1⟩
theorem ret_op12 {fn : Func} {Q : Ending → World → Prop} {a : Act} {w : World} {p u : Tmp} {g : Nat} {k v : ByteArray} {d : Bool} (hr : fn.results = #[.cell p 98, .tmp u]) (hp : a.tmps.getD p undef = .pointer (some ⟨g, 0, none⟩))
    (hB : Blk w g 98 #[.string k, .string v, .bool d]) (hd : a.defers = []) (hR : Q (.returned (.tuple #[.agg #[.string k, .string v, .bool d], a.tmps.getD u undef])) w) : bodyPost Tryz.prog fn Q .ret a w := by
  refine bodyPost_ret ?_ hd hR
  have hp' : a.tmps[p]?.getD undef = .pointer (some ⟨g, 0, none⟩) := by simpa using hp
  simp [results, hr, hp', asAddr, run_loadVar_row w g 98 98 _ (0, 0) _ hB Tryz.underlying98 rfl (by kernel_rfl)]
theorem Blk.all3 {w : World} {g : Nat} {t : TypeId} {c0 c1 c2 v0 v1 v2 : Value} (h : Blk w g t #[c0, c1, c2]) : Blk (((w.setCell ⟨g, 0, none⟩ v0).setCell ⟨g, 1, none⟩ v1).setCell ⟨g, 2, none⟩ v2) g t #[v0, v1, v2] := by
  have := ((h.set_ 0 v0).set_ 1 v1).set_ 2 v2
  simpa using this
theorem ansT_form (ok : Bool) (l : List UInt8) : ansT ok l = .returned (.tuple #[.string (if ok then bs l else ⟨#[]⟩), .int .i64 (if ok then 0 else 2)]) := rfl
/-- What op answers: the change, and whether it can stand there. -/
def ThP (x : Th) (w : World) (e : Ending) (w' : World) : Prop := ∃ k v, e = .returned (.tuple #[.agg #[.string k, .string v, .bool false], .bool (opOf x).isSome]) ∧ (∀ o, opOf x = some o → o = ⟨k, v, false⟩) ∧ Below w.heap.size w w'
theorem ThP.mk {x : Th} {w w' : World} {k v : ByteArray} {b : Bool} (hs : opOf x = if b then some ⟨k, v, false⟩ else none) (hb : Below w.heap.size w w') : ThP x w (.returned (.tuple #[.agg #[.string k, .string v, .bool false], .bool b])) w' := by
  refine ⟨k, v, ?_, fun o ho => ?_, hb⟩
  · rw [hs]; cases b <;> rfl
  · rw [hs] at ho
    cases b
    · cases ho
    · injection ho with ho
      exact ho.symm
end Go.Proofs.YtldbmogondmgmaaGreatDoor
set_option linter.unusedVariables false
set_option linter.unusedSimpArgs false
set_option maxRecDepth 100000
namespace Go.Proofs.YtldbmogondmgmaaGreatDoor
open Go.RowKit

theorem ORow.keep {w w' : World} {B n : Nat} {v : Value} {l : List Op_} (h : ORow w B v n l) (hb : Below w.heap.size w w') : ORow w' B v n l :=
  World.ownsRow.kept h (row := none) ⟨hb.os, hb.tape, hb.output, hb.size, fun k hk _ => hb.block k hk⟩ (by
    cases hv : v.ownBlock with
    | none => exact .inl rfl
    | some q => exact .inr (by simp))
theorem ORow.lt {w : World} {B n : Nat} {v : Value} {l : List Op_} (h : ORow w B v n l) (k : Nat) (e : v.ownBlock = some k) : B ≤ k ∧ k < w.heap.size := World.ownsRow.lt h k e
section
variable {w V V' : World} {l T : List As} {A2 : As} {p b : Nat} {r : List Rw}
theorem Has.newRt (h : Has w T V) : Has w (rtA V.heap.size [] :: T) (V.alloc (.cells #[.slice none 0 0] 96)) := by
  refine h.new (F := rtF V.heap.size (.slice none 0 0)) (nbl V _) ⟨_, ⟨Blk.new V 96 #[.slice none 0 0], World.ownsRow_nil _ _ _ _, (fun k e => nomatch e)⟩, fun k => Iff.rfl⟩ (fun k e => ?_)
  rcases e with e | e
  · omega
  · cases e
theorem Has.rtApplyB (h : Has w (rtA b r :: A2 :: T) V) (hr : r.length ≤ 999999000) (A : Option Addr) (n c : Nat) (ops : List Op_) (ho : ∀ W F2, A2.p W F2 → OAt W A n ops) (hn : n ≤ 9223372036854775807) :
    Calls Tryz.prog 36 #[pt b, .slice A n c] V fun e w' => e = .returned (.int .i64 (chk ops)) ∧ Has w (rtA b (rapp r ops) :: A2 :: T) w' := by
  obtain ⟨F, h1, h1b, h2, h3⟩ := h.step2
  refine (rt_apply h1 A n c ops (fun W hg => by obtain ⟨F2, h4⟩ := h2 W hg; exact ho W F2 h4) hn hr).mono ?_
  rintro e w' ⟨hq, F', h4, h5, h6⟩
  exact ⟨hq, h3 w' _ F' h5 h4 h6⟩
end
end Go.Proofs.YtldbmogondmgmaaGreatDoor
set_option linter.unusedVariables false
set_option linter.unusedSimpArgs false
set_option maxRecDepth 100000
namespace Go.Proofs.YtldbmogondmgmaaGreatDoor
open Go.RowKit

structure Tx where
  id : Int
  ep : Int
  pr : Int
  an : ByteArray
  rw : Int
  rl : Int
  ww : Int
  wl : Int
  lw : Int
  ll : Int
  bw : Int
  bl : Int
abbrev txc (x : Tx) : Array Value := #[.int .i64 x.id, .int .i64 x.ep, .int .i64 x.pr, .string x.an, .int .i64 x.rw, .int .i64 x.rl, .int .i64 x.ww, .int .i64 x.wl, .int .i64 x.lw, .int .i64 x.ll, .int .i64 x.bw, .int .i64 x.bl]
abbrev txv (x : Tx) : Value := .agg (txc x)
def idOk (x : Tx) : Bool := decide (1 ≤ x.id ∧ x.id ≤ 9007199254740991 ∧ 0 ≤ x.ep ∧ x.ep ≤ 9007199254740991)
def mayX (x : Tx) : Bool := idOk x && (may x.rw x.rl && may x.lw x.ll)
def topX (x : Tx) : Int × Int := two (x.rw, x.rl) (x.lw, x.ll)
/-- What is found: 'it' is what is in the way. -/
structure Fd where
  key : ByteArray
  value : ByteArray
  is_ : Bool
  own : Bool
  sw : Int
  sl : Int
  it : It
def zF : Fd := ⟨⟨#[]⟩, ⟨#[]⟩, false, false, 0, 0, zI⟩
abbrev fdc (f : Fd) (v : Value) : Array Value := #[.string f.key, .string f.value, .bool f.is_, .bool f.own, .int .i64 f.sw, .int .i64 f.sl, .int .i64 f.it.id, .int .i64 f.it.ep, .int .i64 f.it.pr, .string f.it.an, .int .i64 f.it.sw, .int .i64 f.it.sl, .int .i64 f.it.bw, .int .i64 f.it.bl, v]
abbrev fdv (f : Fd) (v : Value) : Value := .agg (fdc f v)
/-- What a table's key says, if it is a version's. -/
def rdVK (k : List UInt8) : Option (List UInt8 × Int × Int) :=
  match rk 118 k with
  | none => none
  | some (s, r) => match tdown r with
    | .ok (a, b, []) => some (s, a, b)
    | _ => none
/-- A version: its stamp, value, and whether there is something. -/
abbrev Ver := Int × Int × ByteArray × Bool
def vrow (x : Rw) : Option Ver :=
  match rdVK (sb x.key), tkV (sb x.value) with
  | some (_, a, b), some (v, i) => some (a, b, v, i)
  | _, _ => none
def behK (s : ByteArray) : ByteArray := bs (vkey (sb s) 0 0) ++ zr
/-- The code's: the first row of those between that can be read. -/
def pverC (r : List Rw) (key : ByteArray) (t : Int × Int) : Option Ver := (btw r (bs (vkey (sb key) t.1 t.2)) (behK key)).findSome? vrow
def verF (key : ByteArray) : Option Ver → Fd
  | none => ⟨key, ⟨#[]⟩, false, false, 0, 0, zI⟩
  | some (a, b, v, i) => ⟨key, v, i, false, a, b, zI⟩
/-- A key's intent. -/
def pint (r : List Rw) (key : ByteArray) : Option It := tkI (sb (rval r (bs (ikey (sb key)))))
def ownF (key : ByteArray) (y : It) : Fd := ⟨key, (y.l.getLast?.map Ch.s).getD ⟨#[]⟩, !((y.l.getLast?.map Ch.d).getD false), true, y.sw, y.sl, zI⟩
def newF (v : Option Ver) (key : ByteArray) (x : Tx) : Fd × Int :=
  if lt ((verF key v).sw, (verF key v).sl) (x.rw, x.rl) = false then (⟨key, ⟨#[]⟩, false, false, (verF key v).sw, (verF key v).sl, zI⟩, 121) else (verF key v, 0)
/-- What is read, of an intent and a version. -/
def preadW (y : Option It) (v : Option Ver) (key : ByteArray) (x : Tx) : Fd × Int :=
  match y with
  | none => newF v key x
  | some y =>
    if y.id = x.id ∧ x.ep < y.ep then (zF, 201)
    else if y.id = x.id ∧ y.ep = x.ep then (ownF key y, 0)
    else if ¬ y.id = x.id ∧ lt (topX x) (y.sw, y.sl) = false then (⟨key, ⟨#[]⟩, false, false, 0, 0, y⟩, 120)
    else newF v key x
def preadC (r : List Rw) (key : ByteArray) (x : Tx) : Fd × Int := preadW (pint r key) (pverC r key (topX x)) key x
/-- Get's. -/
def pgetW (ok : Bool) (low : Int × Int) (x : Tx) (o : Fd × Int) : Fd × Int :=
  if (ok && mayX x && may low.1 low.2) = false then (zF, 2)
  else if lt low (x.rw, x.rl) = false then (zF, 122)
  else o
def pgetC (r : List Rw) (key : ByteArray) (x : Tx) (low : Int × Int) : Fd × Int := pgetW (isK key) low x (preadC r key x)
def chkP (ok : Bool) (x : Tx) (low : Int × Int) : Int :=
  if (ok && mayX x && may low.1 low.2) = false then 2 else if lt low (x.rw, x.rl) = false then 122 else 0
theorem pget_chk (ok : Bool) (low : Int × Int) (x : Tx) (o : Fd × Int) : pgetW ok low x o = if chkP ok x low = 0 then o else (zF, chkP ok x low) := by
  unfold pgetW chkP
  split
  · rfl
  · split <;> rfl

/-! ### forms -/
theorem ret_fd {fn : Func} {Q : Ending → World → Prop} {a : Act} {w : World} {p : Tmp} {g : Nat} {cs : Array Value} (hr : fn.results = #[.cell p 60]) (hp : a.tmps.getD p undef = .pointer (some ⟨g, 0, none⟩))
    (hB : Blk w g 60 cs) (hs : cs.size = 15) (hd : a.defers = []) (hR : Q (.returned (.agg cs)) w) : bodyPost Tryz.prog fn Q .ret a w := by
  refine bodyPost_ret ?_ hd hR
  have hp' : a.tmps[p]?.getD undef = .pointer (some ⟨g, 0, none⟩) := by simpa using hp
  simp [results, hr, hp', asAddr, run_loadVar_row w g 60 60 _ (0, 0) _ hB Tryz.underlying60 rfl (by rw [hs]; kernel_rfl)]
theorem ret_fd2 {fn : Func} {Q : Ending → World → Prop} {a : Act} {w : World} {p u : Tmp} {g : Nat} {cs : Array Value} (hr : fn.results = #[.cell p 60, .tmp u]) (hp : a.tmps.getD p undef = .pointer (some ⟨g, 0, none⟩))
    (hB : Blk w g 60 cs) (hs : cs.size = 15) (hd : a.defers = []) (hR : Q (.returned (.tuple #[.agg cs, a.tmps.getD u undef])) w) : bodyPost Tryz.prog fn Q .ret a w := by
  refine bodyPost_ret ?_ hd hR
  have hp' : a.tmps[p]?.getD undef = .pointer (some ⟨g, 0, none⟩) := by simpa using hp
  simp [results, hr, hp', asAddr, run_loadVar_row w g 60 60 _ (0, 0) _ hB Tryz.underlying60 rfl (by rw [hs]; kernel_rfl)]
theorem results_fd {fn : Func} {tmps : Array Value} {w : World} {p : Tmp} {g : Nat} {cs : Array Value} (hr : fn.results = #[.cell p 60]) (hp : tmps.getD p undef = .pointer (some ⟨g, 0, none⟩))
    (hB : Blk w g 60 cs) (hs : cs.size = 15) : (results fn tmps).run Tryz.prog w = .ok (.agg cs) w := by
  have hp' : tmps[p]?.getD undef = .pointer (some ⟨g, 0, none⟩) := by simpa using hp
  simp [results, hr, hp', asAddr, run_loadVar_row w g 60 60 _ (0, 0) _ hB Tryz.underlying60 rfl (by rw [hs]; kernel_rfl)]
theorem Blk.all15 {w : World} {g : Nat} {t : TypeId} {c0 c1 c2 c3 c4 c5 c6 c7 c8 c9 c10 c11 c12 c13 c14 v0 v1 v2 v3 v4 v5 v6 v7 v8 v9 v10 v11 v12 v13 v14 : Value} (h : Blk w g t #[c0, c1, c2, c3, c4, c5, c6, c7, c8, c9, c10, c11, c12, c13, c14]) : Blk (((((((((((((((w.setCell ⟨g, 0, none⟩ v0).setCell ⟨g, 1, none⟩ v1).setCell ⟨g, 2, none⟩ v2).setCell ⟨g, 3, none⟩ v3).setCell ⟨g, 4, none⟩ v4).setCell ⟨g, 5, none⟩ v5).setCell ⟨g, 6, none⟩ v6).setCell ⟨g, 7, none⟩ v7).setCell ⟨g, 8, none⟩ v8).setCell ⟨g, 9, none⟩ v9).setCell ⟨g, 10, none⟩ v10).setCell ⟨g, 11, none⟩ v11).setCell ⟨g, 12, none⟩ v12).setCell ⟨g, 13, none⟩ v13).setCell ⟨g, 14, none⟩ v14) g t #[v0, v1, v2, v3, v4, v5, v6, v7, v8, v9, v10, v11, v12, v13, v14] := by
  have := (((((((((((((((h.set_ 0 v0).set_ 1 v1).set_ 2 v2).set_ 3 v3).set_ 4 v4).set_ 5 v5).set_ 6 v6).set_ 7 v7).set_ 8 v8).set_ 9 v9).set_ 10 v10).set_ 11 v11).set_ 12 v12).set_ 13 v13).set_ 14 v14)
  simpa using this
end Go.Proofs.YtldbmogondmgmaaGreatDoor
set_option linter.unusedVariables false
set_option linter.unusedSimpArgs false
set_option maxRecDepth 100000
namespace Go.Proofs.YtldbmogondmgmaaGreatDoor
open Go.ChangeShapes Go.WideShapes Go.ChangeAt Go.RowKit Go.Joins Go.Deep

theorem kTx : Tryz.prog.cellsOf 28 = 12 := by kernel_rfl
theorem l6 {α : Type} {l : List α} (h : l.length = 6) : ∃ a b c d e f, l = [a, b, c, d, e, f] := by
  match l, h with
  | [a, b, c, d, e, f], _ => exact ⟨a, b, c, d, e, f, rfl⟩
theorem l12 {α : Type} {l : List α} (h : l.length = 12) : ∃ a0 a1 a2 a3 a4 a5 a6 a7 a8 a9 a10 a11, l = [a0, a1, a2, a3, a4, a5, a6, a7, a8, a9, a10, a11] := by
  match l, h with
  | [a0, a1, a2, a3, a4, a5, a6, a7, a8, a9, a10, a11], _ => exact ⟨_, _, _, _, _, _, _, _, _, _, _, _, rfl⟩
theorem l15 {α : Type} {l : List α} (h : l.length = 15) : ∃ a0 a1 a2 a3 a4 a5 a6 a7 a8 a9 a10 a11 a12 a13 a14, l = [a0, a1, a2, a3, a4, a5, a6, a7, a8, a9, a10, a11, a12, a13, a14] := by
  match l, h with
  | [a0, a1, a2, a3, a4, a5, a6, a7, a8, a9, a10, a11, a12, a13, a14], _ => exact ⟨_, _, _, _, _, _, _, _, _, _, _, _, _, _, _, rfl⟩
section
variable {H : Type} {enc : TypeId × Value → H} {w : World} {base : Nat} {held : Bool} {d : DataW H} {p : List MemPlace} {v : Value} {r : Reach} {b0 : Nat} {fuel : Nat} {cs : List Value}
theorem open_it (hf : DataW.trod enc Tryz.prog w base (fun _ => true) held fuel 39 cs = some (d, p)) (hW : ∀ y ∈ d.weights Tryz.prog 39, y ≤ 140737488351232) :
    ∃ (x : It) (A : Option Addr) (n c : Nat), cs = [.int .i64 x.id, .int .i64 x.ep, .int .i64 x.pr, .string x.an, .int .i64 x.sw, .int .i64 x.sl, .int .i64 x.bw, .int .i64 x.bl, .slice A n c] ∧ ChAt w A n x.l ∧ n * 32 ≤ 140737488351232 ∧ n ≤ c ∧ c ≤ 9223372036854775807 := by
  obtain ⟨xs, k', hk', hxy, hcl, hxl, hfl⟩ := DataW.trod_struct Tryz.underlying39 hf
  rw [kIt] at hcl
  obtain ⟨v0, v1, v2, v3, v4, v5, v6, v7, v8, rfl⟩ := l9 hcl
  obtain ⟨y0, y1, y2, y3, y4, y5, y6, rfl⟩ := l7 hxl
  have hDi : d = .agg ([y0, y1, y2, y3, y4, y5, y6].map (·.1)) := congrArg Prod.fst hxy
  have g0 := hfl 0 _ rfl
  have g1 := hfl 1 _ rfl
  have g2 := hfl 2 _ rfl
  have g3 := hfl 3 _ rfl
  have g4 := hfl 4 _ rfl
  have g5 := hfl 5 _ rfl
  have g6 := hfl 6 _ rfl
  simp [kIn, kSt, kSp, kLc] at g0 g1 g2 g3 g4 g5 g6
  obtain ⟨z0, e0, _, _⟩ := DataW.trod_int Tryz.underlying3 g0
  obtain ⟨z1, e1, _, _⟩ := DataW.trod_int Tryz.underlying3 g1
  obtain ⟨z2, e2, _, _⟩ := DataW.trod_int Tryz.underlying3 g2
  obtain ⟨s3, e3, _, _⟩ := DataW.trod_string Tryz.underlying9 g3
  obtain ⟨a4, b4, e4⟩ := open_sp g4
  obtain ⟨a5, b5, e5⟩ := open_sp g5
  obtain ⟨A, n, c, e6, ⟨l, h1, h2⟩, h3, h4⟩ := open_chs (d := y6.1) (p := y6.2) g6 (fun y hy => hW y (by
    rw [hDi]
    simp only [DataW.weights, Tryz.underlying39]
    exact DataW.weights_mem_each (j := 6) (t := 37) rfl rfl y hy))
  simp at e0 e1 e2 e3 e4 e5 e6
  obtain ⟨e4, e4'⟩ := e4
  obtain ⟨e5, e5'⟩ := e5
  subst e0 e1 e2 e3 e4 e4' e5 e5' e6
  exact ⟨⟨z0, z1, z2, s3, a4, b4, a5, b5, l⟩, A, n, c, rfl, h1, by rw [← h1.1]; exact h2, h3, h4⟩
theorem open_tx (hf : DataW.trod enc Tryz.prog w base (fun _ => true) held fuel 28 cs = some (d, p)) :
    ∃ (x : Tx), cs = (txc x).toList := by
  obtain ⟨xs, k', hk', hxy, hcl, hxl, hfl⟩ := DataW.trod_struct Tryz.underlying28 hf
  rw [kTx] at hcl
  obtain ⟨v0, v1, v2, v3, v4, v5, v6, v7, v8, v9, v10, v11, rfl⟩ := l12 hcl
  obtain ⟨y0, y1, y2, y3, y4, y5, y6, y7, rfl⟩ := l8 hxl
  have g0 := hfl 0 _ rfl
  have g1 := hfl 1 _ rfl
  have g2 := hfl 2 _ rfl
  have g3 := hfl 3 _ rfl
  have g4 := hfl 4 _ rfl
  have g5 := hfl 5 _ rfl
  have g6 := hfl 6 _ rfl
  have g7 := hfl 7 _ rfl
  simp [kIn, kSt, kSp] at g0 g1 g2 g3 g4 g5 g6 g7
  obtain ⟨z0, e0, _, _⟩ := DataW.trod_int Tryz.underlying3 g0
  obtain ⟨z1, e1, _, _⟩ := DataW.trod_int Tryz.underlying3 g1
  obtain ⟨z2, e2, _, _⟩ := DataW.trod_int Tryz.underlying3 g2
  obtain ⟨s3, e3, _, _⟩ := DataW.trod_string Tryz.underlying9 g3
  obtain ⟨a4, b4, e4⟩ := open_sp g4
  obtain ⟨a5, b5, e5⟩ := open_sp g5
  obtain ⟨a6, b6, e6⟩ := open_sp g6
  obtain ⟨a7, b7, e7⟩ := open_sp g7
  simp at e0 e1 e2 e3 e4 e5 e6 e7
  obtain ⟨e4, e4'⟩ := e4
  obtain ⟨e5, e5'⟩ := e5
  obtain ⟨e6, e6'⟩ := e6
  obtain ⟨e7, e7'⟩ := e7
  subst e0 e1 e2 e3 e4 e4' e5 e5' e6 e6' e7 e7'
  exact ⟨⟨z0, z1, z2, s3, a4, b4, a5, b5, a6, b6, a7, b7⟩, rfl⟩
end
end Go.Proofs.YtldbmogondmgmaaGreatDoor
set_option linter.unusedVariables false
set_option linter.unusedSimpArgs false
set_option maxRecDepth 100000
namespace Go.Proofs.YtldbmogondmgmaaGreatDoor
open Go.ChangeShapes Go.WideShapes Go.ChangeAt Go.RowKit Go.Joins Go.Deep

theorem kSn : Tryz.prog.cellsOf 66 = 2 := by kernel_rfl
theorem l30 {α : Type} {l : List α} (h : l.length = 30) : ∃ a0 a1 a2 a3 a4 a5 a6 a7 a8 a9 a10 a11 a12 a13 a14 a15 a16 a17 a18 a19 a20 a21 a22 a23 a24 a25 a26 a27 a28 a29, l = [a0, a1, a2, a3, a4, a5, a6, a7, a8, a9, a10, a11, a12, a13, a14, a15, a16, a17, a18, a19, a20, a21, a22, a23, a24, a25, a26, a27, a28, a29] := by
  match l, h with
  | [a0, a1, a2, a3, a4, a5, a6, a7, a8, a9, a10, a11, a12, a13, a14, a15, a16, a17, a18, a19, a20, a21, a22, a23, a24, a25, a26, a27, a28, a29], _ => exact ⟨_, _, _, _, _, _, _, _, _, _, _, _, _, _, _, _, _, _, _, _, _, _, _, _, _, _, _, _, _, _, rfl⟩
abbrev askw (key f t : ByteArray) (q : Int) (x : Rc) (v : Value) (y : Tx) (a b c d : Int) : Array Value := #[.string key, .string f, .string t, .int .i64 q, .int .i64 x.id, .int .i64 x.ep, .int .i64 x.st, .int .i64 x.pr, .string x.an, .int .i64 x.sw, .int .i64 x.sl, .int .i64 x.bw, .int .i64 x.bl, v, .int .i64 y.id, .int .i64 y.ep, .int .i64 y.pr, .string y.an, .int .i64 y.rw, .int .i64 y.rl, .int .i64 y.ww, .int .i64 y.wl, .int .i64 y.lw, .int .i64 y.ll, .int .i64 y.bw, .int .i64 y.bl, .int .i64 a, .int .i64 b, .int .i64 c, .int .i64 d]
section
variable {H : Type} {enc : TypeId × Value → H} {w : World} {base : Nat} {held : Bool} {d : DataW H} {p : List MemPlace} {v : Value} {r : Reach} {b0 : Nat} {fuel : Nat} {cs : List Value}
theorem open_rc (hf : DataW.trod enc Tryz.prog w base (fun _ => true) held fuel 69 cs = some (d, p)) (hW : ∀ y ∈ d.weights Tryz.prog 69, y ≤ 140737488351232) :
    ∃ (x : Rc) (A : Option Addr) (n c : Nat), cs = (rcc x (.slice A n c)).toList ∧ WtAt w A n x.l ∧ n * 24 ≤ 140737488351232 ∧ n ≤ c ∧ c ≤ 9223372036854775807 := by
  obtain ⟨xs, k', hk', hxy, hcl, hxl, hfl⟩ := DataW.trod_struct Tryz.underlying69 hf
  rw [kRc] at hcl
  obtain ⟨v0, v1, v2, v3, v4, v5, v6, v7, v8, v9, rfl⟩ := l10 hcl
  obtain ⟨y0, y1, y2, y3, y4, y5, y6, y7, rfl⟩ := l8 hxl
  have hDi : d = .agg ([y0, y1, y2, y3, y4, y5, y6, y7].map (·.1)) := congrArg Prod.fst hxy
  have g0 := hfl 0 _ rfl
  have g1 := hfl 1 _ rfl
  have g2 := hfl 2 _ rfl
  have g3 := hfl 3 _ rfl
  have g4 := hfl 4 _ rfl
  have g5 := hfl 5 _ rfl
  have g6 := hfl 6 _ rfl
  have g7 := hfl 7 _ rfl
  simp [kIn, kSt, kSp, kLw] at g0 g1 g2 g3 g4 g5 g6 g7
  obtain ⟨z0, e0, _, _⟩ := DataW.trod_int Tryz.underlying3 g0
  obtain ⟨z1, e1, _, _⟩ := DataW.trod_int Tryz.underlying3 g1
  obtain ⟨z2, e2, _, _⟩ := DataW.trod_int Tryz.underlying3 g2
  obtain ⟨z3, e3, _, _⟩ := DataW.trod_int Tryz.underlying3 g3
  obtain ⟨s4, e4, _, _⟩ := DataW.trod_string Tryz.underlying9 g4
  obtain ⟨a5, b5, e5⟩ := open_sp g5
  obtain ⟨a6, b6, e6⟩ := open_sp g6
  obtain ⟨A, n, c, e7, ⟨l, h1, h2⟩, h3, h4⟩ := open_wts (d := y7.1) (p := y7.2) g7 (fun y hy => hW y (by
    rw [hDi]
    simp only [DataW.weights, Tryz.underlying69]
    exact DataW.weights_mem_each (j := 7) (t := 67) rfl rfl y hy))
  simp at e0 e1 e2 e3 e4 e5 e6 e7
  obtain ⟨e5, e5'⟩ := e5
  obtain ⟨e6, e6'⟩ := e6
  subst e0 e1 e2 e3 e4 e5 e5' e6 e6' e7
  exact ⟨⟨z0, z1, z2, z3, s4, a5, b5, a6, b6, l⟩, A, n, c, rfl, h1, by rw [← h1.1]; exact h2, h3, h4⟩
theorem open_spn (hf : DataW.trod enc Tryz.prog w base (fun _ => true) held fuel 66 cs = some (d, p)) (hW : ∀ y ∈ d.weights Tryz.prog 66, y ≤ 140737488351232) :
    ∃ (f t : ByteArray), cs = [.string f, .string t] ∧ f.size ≤ 140737488351232 ∧ t.size ≤ 140737488351232 := by
  obtain ⟨xs, k', hk', hxy, hcl, hxl, hfl⟩ := DataW.trod_struct Tryz.underlying66 hf
  rw [kSn] at hcl
  obtain ⟨v0, v1, rfl⟩ := l2 hcl
  obtain ⟨y0, y1, rfl⟩ := l2 hxl
  have hDi : d = .agg ([y0, y1].map (·.1)) := congrArg Prod.fst hxy
  have hwe : ∀ (j : Nat) (t : TypeId) (dd : DataW H), [9, 9][j]? = some t → [y0.1, y1.1][j]? = some dd → ∀ y ∈ dd.weights Tryz.prog t, y ≤ 140737488351232 := fun j t dd ht hdj y hy => hW y (by
    rw [hDi]
    simp only [DataW.weights, Tryz.underlying66]
    exact DataW.weights_mem_each (j := j) ht hdj y hy)
  have g0 := hfl 0 _ rfl
  have g1 := hfl 1 _ rfl
  simp [kSt] at g0 g1
  obtain ⟨s0, e0, x0, _⟩ := DataW.trod_string Tryz.underlying9 g0
  obtain ⟨s1, e1, x1, _⟩ := DataW.trod_string Tryz.underlying9 g1
  have q0 := hwe 0 _ _ rfl rfl s0.data.toList.length (by rw [x0]; simp [DataW.weights])
  have q1 := hwe 1 _ _ rfl rfl s1.data.toList.length (by rw [x1]; simp [DataW.weights])
  have k0 : s0.data.toList.length = s0.size := by rw [Array.length_toList]; rfl
  have k1 : s1.data.toList.length = s1.size := by rw [Array.length_toList]; rfl
  simp at e0 e1
  subst e0 e1
  exact ⟨s0, s1, rfl, by omega, by omega⟩
theorem kTh14 : Tryz.prog.cellsOf 128 = 15 := by kernel_rfl
theorem open_th14 (hf : DataW.trod enc Tryz.prog w base (fun _ => true) held fuel 128 cs = some (d, p)) (hW : ∀ y ∈ d.weights Tryz.prog 128, y ≤ 140737488351232) :
    ∃ (x : Th) (A : Option Addr) (n c : Nat), cs = (thc x (.slice A n c)).toList ∧ ChAt w A n x.it.l ∧ n ≤ c ∧ c ≤ 9223372036854775807 ∧ TSz x := by
  obtain ⟨xs, k', hk', hxy, hcl, hxl, hfl⟩ := DataW.trod_struct Tryz.underlying128 hf
  rw [kTh14] at hcl
  obtain ⟨v0, v1, v2, v3, v4, v5, v6, v7, v8, v9, v10, v11, v12, v13, v14, rfl⟩ := l15 hcl
  obtain ⟨y0, y1, y2, y3, y4, y5, rfl⟩ := l6 hxl
  have hDi : d = .agg ([y0, y1, y2, y3, y4, y5].map (·.1)) := congrArg Prod.fst hxy
  have hwe : ∀ (j : Nat) (t : TypeId) (dd : DataW H), [3, 9, 9, 4, 26, 39][j]? = some t → [y0.1, y1.1, y2.1, y3.1, y4.1, y5.1][j]? = some dd → ∀ y ∈ dd.weights Tryz.prog t, y ≤ 140737488351232 := fun j t dd ht hdj y hy => hW y (by
    rw [hDi]
    simp only [DataW.weights, Tryz.underlying128]
    exact DataW.weights_mem_each (j := j) ht hdj y hy)
  have g0 := hfl 0 _ rfl
  have g1 := hfl 1 _ rfl
  have g2 := hfl 2 _ rfl
  have g3 := hfl 3 _ rfl
  have g4 := hfl 4 _ rfl
  have g5 := hfl 5 _ rfl
  simp [kIn, kSt, kSp, kBl, kIt] at g0 g1 g2 g3 g4 g5
  obtain ⟨z0, e0, _, wz⟩ := DataW.trod_int Tryz.underlying3 g0
  obtain ⟨s1, e1, x1, _⟩ := DataW.trod_string Tryz.underlying9 g1
  obtain ⟨s2, e2, x2, _⟩ := DataW.trod_string Tryz.underlying9 g2
  obtain ⟨z3, e3, _⟩ := DataW.trod_bool Tryz.underlying4 g3
  obtain ⟨a4, b4, e4⟩ := open_sp g4
  obtain ⟨x, A, n, c, e5, h1, h2, h3, h4⟩ := open_it (d := y5.1) (p := y5.2) g5 (hwe 5 _ _ rfl rfl)
  have q1 := hwe 1 _ _ rfl rfl s1.data.toList.length (by rw [x1]; simp [DataW.weights])
  have q2 := hwe 2 _ _ rfl rfl s2.data.toList.length (by rw [x2]; simp [DataW.weights])
  have k1 : s1.data.toList.length = s1.size := by rw [Array.length_toList]; rfl
  have k2 : s2.data.toList.length = s2.size := by rw [Array.length_toList]; rfl
  have hb := int_bounds wz
  simp at e0 e1 e2 e3 e4 e5
  obtain ⟨e4, e4'⟩ := e4
  obtain ⟨f0, f1, f2, f3, f4, f5, f6, f7, f8⟩ := e5
  subst e0 e1 e2 e3 e4 e4' f0 f1 f2 f3 f4 f5 f6 f7 f8
  exact ⟨⟨z0, s1, s2, z3, a4, b4, x⟩, A, n, c, rfl, h1, h3, h4, by show s1.size ≤ _; omega, by show s2.size ≤ _; omega, hb.1, hb.2⟩
theorem open_things14 (hval : Value.okWide Tryz.prog w r b0 64 v) (hd : DataW.Trod enc Tryz.prog w base (fun _ => true) held 64 v d p) (hW : ∀ y ∈ d.weights Tryz.prog 64, y ≤ 140737488351232) :
    ∃ A n c, v = .slice A n c ∧ (∃ l : List Th, ThAt w A n l ∧ ∀ x ∈ l, TSz x) ∧ n ≤ c ∧ c ≤ 9223372036854775807 ∧ n * 160 ≤ 140737488351232 := by
  have hmax : maxLen ≤ 9223372036854775807 := by decide
  obtain ⟨A, n, c, rfl⟩ := okWide_slice Tryz.underlying64 hval
  obtain ⟨fuel, hf⟩ := hd
  rcases open_slice Tryz.underlying64 hf with ⟨hcs, _⟩ | ⟨a, n', c', m, k, D, Pl, hcs, _, hl, hm, hmm, hx, hrow⟩
  · simp [Value.cells] at hcs
    obtain ⟨rfl, rfl, rfl⟩ := hcs
    exact ⟨none, 0, 0, rfl, ⟨[], ThAt.nil _ _, fun b hb => (nomatch hb)⟩, Nat.le_refl _, by omega, by omega⟩
  · simp [Value.cells] at hcs
    obtain ⟨rfl, rfl, rfl⟩ := hcs
    rw [if_pos rfl] at hmm
    have hdd : d = .slice ((List.range n).map D) ((List.range (m - n)).map fun j => D (n + j)) := congrArg Prod.fst hx
    have hv : ∀ i, i < n → ∃ (q : Th), ∃ Ai ni ci, (∀ j u, (thc q (.slice Ai ni ci))[j]? = some u → w.cell? (a.add (i * 15 + j)) = some u) ∧ ChAt w Ai ni q.it.l ∧ ni ≤ 9223372036854775807 ∧ TSz q := by
      intro i hi
      obtain ⟨cs', h1, h2⟩ := hrow i (by omega)
      rw [kTh14] at h1
      obtain ⟨_, hlen, hcell⟩ := World.cells?_some h1
      have hWi : ∀ y ∈ (D i).weights Tryz.prog 128, y ≤ 140737488351232 := fun y hy => hW y (by
        rw [hdd]
        simp only [DataW.weights, Tryz.underlying64]
        exact List.mem_cons.2 (.inr (List.mem_append.2 (.inl (mem_allW11 (List.mem_map.2 ⟨i, List.mem_range.2 hi, rfl⟩) hy)))))
      obtain ⟨q, Ai, ni, ci, rfl, hq, h3, h4, hz⟩ := open_th14 h2 hWi
      refine ⟨q, Ai, ni, ci, fun j u hu => ?_, hq, by omega, hz⟩
      obtain ⟨hj, hju⟩ := Array.getElem?_eq_some_iff.1 hu
      have c0 := hcell j (by simpa using hj)
      rw [Go.Deep.add_add] at c0
      rw [c0, Array.getElem?_toList]
      exact hu
    have hbig : n * 160 ≤ 140737488351232 := by
      have h1 := hW ((((List.range n).map D).length + ((List.range (m - n)).map fun j => D (n + j)).length) * Tryz.prog.bytesOf 128) (by
        rw [hdd]
        simp only [DataW.weights, Tryz.underlying64]
        exact List.mem_cons_self)
      rw [show Tryz.prog.bytesOf 128 = 160 by kernel_rfl] at h1
      simp only [List.length_map, List.length_range] at h1
      omega
    refine ⟨some a, n, c, rfl, ?_, hl, by omega, hbig⟩
    have hch : ∃ f : Nat → Th, ∀ i, i < n → ∃ Ai ni ci, (∀ j u, (thc (f i) (.slice Ai ni ci))[j]? = some u → w.cell? (a.add (i * 15 + j)) = some u) ∧ ChAt w Ai ni (f i).it.l ∧ ni ≤ 9223372036854775807 ∧ TSz (f i) := by
      refine ⟨fun i => if h : i < n then (hv i h).choose else ⟨0, ByteArray.empty, ByteArray.empty, false, 0, 0, zI⟩, fun i hi => ?_⟩
      simp only [dif_pos hi]
      exact (hv i hi).choose_spec
    obtain ⟨f, hf⟩ := hch
    refine ⟨(List.range n).map f, ⟨by simp, fun h0 => ?_⟩, fun o ho => ?_⟩
    · obtain ⟨b, o, s⟩ := a
      obtain ⟨_, _, _, h1, _⟩ := hf 0 h0
      obtain rfl : s = none := by simpa [Addr.add] using World.cell?_spot (h1 0 _ rfl)
      refine ⟨b, o, rfl, fun i hi => ?_⟩
      have hi' : i < n := by simpa using hi
      obtain ⟨Ai, ni, ci, h1, h2, h3, _⟩ := hf i hi'
      simp only [List.getElem_map, List.getElem_range]
      refine ⟨Ai, ni, ci, fun j u hu => ?_, h2, h3⟩
      have := h1 j u hu
      rw [Go.WideShapes.add_plain] at this
      rw [Nat.add_assoc]
      exact this
    · obtain ⟨i, hi, rfl⟩ := List.mem_map.1 ho
      obtain ⟨_, _, _, _, _, _, h5⟩ := hf i (List.mem_range.1 hi)
      exact h5
theorem sized_things14 {ts : List TypeId} {ds : List (DataW H)} (h : (DataW.weightsEach Tryz.prog ts ds).all (· ≤ reachBytes) = true) {j : Nat} {d : DataW H} (ht : ts[j]? = some 64) (hd : ds[j]? = some d) :
    ∀ y ∈ d.weights Tryz.prog 64, y ≤ 140737488351232 := fun y hy => by
  have h1 := List.all_eq_true.1 h _ (DataW.weights_mem_each ht hd y hy)
  rw [reach_le] at h1
  exact of_decide_eq_true h1
theorem kAsk14 : Tryz.prog.cellsOf 71 = 30 := by kernel_rfl
theorem open_ak14 (hf : DataW.trod enc Tryz.prog w base (fun _ => true) held fuel 71 cs = some (d, p)) (hW : ∀ y ∈ d.weights Tryz.prog 71, y ≤ 140737488351232) :
    ∃ (key f t : ByteArray) (q : Int) (x : Rc) (A : Option Addr) (n c : Nat) (y : Tx) (a1 a2 b1 b2 : Int), cs = (askw key f t q x (.slice A n c) y a1 a2 b1 b2).toList ∧ WtAt w A n x.l ∧ n ≤ 9223372036854775807 ∧ n ≤ c ∧ c ≤ 9223372036854775807 ∧ key.size ≤ 140737488351232 ∧ f.size ≤ 140737488351232 ∧ t.size ≤ 140737488351232 := by
  obtain ⟨xs, k', hk', hxy, hcl, hxl, hfl⟩ := DataW.trod_struct Tryz.underlying71 hf
  rw [kAsk14] at hcl
  obtain ⟨v0, v1, v2, v3, v4, v5, v6, v7, v8, v9, v10, v11, v12, v13, v14, v15, v16, v17, v18, v19, v20, v21, v22, v23, v24, v25, v26, v27, v28, v29, rfl⟩ := l30 hcl
  obtain ⟨y0, y1, y2, y3, y4, y5, y6, rfl⟩ := l7 hxl
  have hDi : d = .agg ([y0, y1, y2, y3, y4, y5, y6].map (·.1)) := congrArg Prod.fst hxy
  have hwe : ∀ (j : Nat) (t : TypeId) (dd : DataW H), [9, 66, 3, 69, 28, 26, 26][j]? = some t → [y0.1, y1.1, y2.1, y3.1, y4.1, y5.1, y6.1][j]? = some dd → ∀ y ∈ dd.weights Tryz.prog t, y ≤ 140737488351232 := fun j t dd ht hdj y hy => hW y (by
    rw [hDi]
    simp only [DataW.weights, Tryz.underlying71]
    exact DataW.weights_mem_each (j := j) ht hdj y hy)
  have g0 := hfl 0 _ rfl
  have g1 := hfl 1 _ rfl
  have g2 := hfl 2 _ rfl
  have g3 := hfl 3 _ rfl
  have g4 := hfl 4 _ rfl
  have g5 := hfl 5 _ rfl
  have g6 := hfl 6 _ rfl
  simp [kIn, kSt, kSp, kSn, kRc, kTx] at g0 g1 g2 g3 g4 g5 g6
  obtain ⟨s0, e0, x0, _⟩ := DataW.trod_string Tryz.underlying9 g0
  obtain ⟨f, t, e1, zf, zt⟩ := open_spn (d := y1.1) (p := y1.2) g1 (hwe 1 _ _ rfl rfl)
  obtain ⟨q, e2, _, _⟩ := DataW.trod_int Tryz.underlying3 g2
  obtain ⟨x, A, n, c, e3, h1, h2, h3, h4⟩ := open_rc (d := y3.1) (p := y3.2) g3 (hwe 3 _ _ rfl rfl)
  obtain ⟨y, e4⟩ := open_tx (d := y4.1) (p := y4.2) g4
  obtain ⟨m1, m2, e5⟩ := open_sp g5
  obtain ⟨m3, m4, e6⟩ := open_sp g6
  have q0 := hwe 0 _ _ rfl rfl s0.data.toList.length (by rw [x0]; simp [DataW.weights])
  have k0 : s0.data.toList.length = s0.size := by rw [Array.length_toList]; rfl
  simp at e0 e1 e2 e3 e4 e5 e6
  obtain ⟨a0, a1⟩ := e1
  obtain ⟨b0, b1, b2, b3, b4, b5, b6, b7, b8, b9⟩ := e3
  obtain ⟨c0, c1, c2, c3, c4, c5, c6, c7, c8, c9, c10, c11⟩ := e4
  obtain ⟨d0, d1⟩ := e5
  obtain ⟨f0, f1⟩ := e6
  subst e0 a0 a1 e2 b0 b1 b2 b3 b4 b5 b6 b7 b8 b9 c0 c1 c2 c3 c4 c5 c6 c7 c8 c9 c10 c11 d0 d1 f0 f1
  exact ⟨s0, f, t, q, x, A, n, c, y, m1, m2, m3, m4, rfl, h1, by omega, h3, h4, by omega, zf, zt⟩
theorem open_ask14 (hval : Value.okWide Tryz.prog w r b0 71 v) (hd : DataW.Trod enc Tryz.prog w base (fun _ => true) held 71 v d p) (hW : ∀ y ∈ d.weights Tryz.prog 71, y ≤ 140737488351232) :
    ∃ (key f t : ByteArray) (q : Int) (x : Rc) (A : Option Addr) (n c : Nat) (y : Tx) (a1 a2 b1 b2 : Int), v = .agg (askw key f t q x (.slice A n c) y a1 a2 b1 b2) ∧ WtAt w A n x.l ∧ n ≤ 9223372036854775807 ∧ n ≤ c ∧ c ≤ 9223372036854775807 ∧ key.size ≤ 140737488351232 ∧ f.size ≤ 140737488351232 ∧ t.size ≤ 140737488351232 := by
  obtain ⟨cs, rfl, hsz⟩ : ∃ cs, v = .agg cs ∧ cs.size = Tryz.prog.cellsOf 71 := by
    simp only [Value.okWide, Tryz.underlying71] at hval
    obtain ⟨cs, h1, h2, _⟩ := hval
    exact ⟨cs, h1, h2⟩
  obtain ⟨fuel, hf⟩ := hd
  obtain ⟨key, f, t, q, x, A, n, c, y, a1, a2, b1, b2, hx, h1⟩ := open_ak14 hf hW
  exact ⟨key, f, t, q, x, A, n, c, y, a1, a2, b1, b2, by congr 1; exact Array.ext' hx, h1⟩
theorem sized_ask14 {ts : List TypeId} {ds : List (DataW H)} (h : (DataW.weightsEach Tryz.prog ts ds).all (· ≤ reachBytes) = true) {j : Nat} {d : DataW H} (ht : ts[j]? = some 71) (hd : ds[j]? = some d) :
    ∀ y ∈ d.weights Tryz.prog 71, y ≤ 140737488351232 := fun y hy => by
  have h1 := List.all_eq_true.1 h _ (DataW.weights_mem_each ht hd y hy)
  rw [reach_le] at h1
  exact of_decide_eq_true h1
end
end Go.Proofs.YtldbmogondmgmaaGreatDoor
set_option linter.unusedVariables false
namespace Go.Proofs.YtldbmogondmgmaaGreatDoor
open Go.RowKit

/-! ### plain: what is there behind a call -/
end Go.Proofs.YtldbmogondmgmaaGreatDoor
set_option linter.unusedVariables false
set_option linter.unusedSimpArgs false
set_option maxRecDepth 100000
namespace Go.Proofs.YtldbmogondmgmaaGreatDoor
open Go.RowKit

/-- The last change's value, and whether it is gone. -/
def lastS (y : It) : ByteArray := (y.l.getLast?.map Ch.s).getD ⟨#[]⟩
def lastD (y : It) : Bool := (y.l.getLast?.map Ch.d).getD false
def goneO (key : ByteArray) : Op_ := ⟨bs (ikey (sb key)), ⟨#[]⟩, true⟩
def verO (key : ByteArray) (a b : Int) (y : It) : Op_ := ⟨bs (vkey (sb key) a b), bs (txV (lastS y) (!lastD y)), false⟩
/-- The intent at another stamp. -/
def atI (y : It) (a b : Int) : It := ⟨y.id, y.ep, y.pr, y.an, a, b, y.bw, y.bl, y.l⟩
def pushO (key : ByteArray) (y : It) (a b : Int) : Op_ := ⟨bs (ikey (sb key)), bs (txI (atI y a b)), false⟩
/-- Whether an intent is of the record's epoch, at or below its stamp. -/
def counts (y : It) (x : Rc) : Bool := decide (y.ep = x.ep) && !(lt (x.sw, x.sl) (y.sw, y.sl))
def pushP (y : It) (key : ByteArray) (x : Rc) : List Op_ :=
  if y.ep < x.ep then [goneO key] else if y.ep = x.ep ∧ lt (y.sw, y.sl) (x.sw, x.sl) = true then [pushO key y x.sw x.sl] else []
/-- What changes when an intent is settled. -/
def resP (y : It) (key : ByteArray) (x : Rc) : List Op_ :=
  if x.st = 3 then (if counts y x then [verO key x.sw x.sl y, goneO key] else [goneO key])
  else if x.st = 4 then [goneO key]
  else if x.st = 1 then pushP y key x
  else []
/-- A key's intent of a transaction. -/
def ownI (o : Option It) (id : Int) : Option It := match o with | some y => if y.id = id then some y else none | none => none
def resO (o : Option It) (key : ByteArray) (x : Rc) : List Op_ := match ownI o x.id with | some y => resP y key x | none => []
def chkS (key : ByteArray) (x : Rc) : Int := if isK key = true ∧ mayR x = true then 0 else 2
def resC (r : List Rw) (key : ByteArray) (x : Rc) : List Op_ × Int := if chkS key x = 0 then (resO (pint r key) key x, 0) else ([], 2)
def hasQ (l : List Ch) (q : Int) : Bool := l.any (fun c => decide (c.q = q))
def qryO (o : Option It) (q : Int) (x : Rc) : Bool := match ownI o x.id with | some y => counts y x && hasQ y.l q | none => false
def qryC (r : List Rw) (key : ByteArray) (q : Int) (x : Rc) : Bool × Int :=
  if chkS key x = 0 ∧ (1 ≤ q ∧ q ≤ 9007199254740991) then (qryO (pint r key) q x, 0) else (false, 2)

theorem getLast_in {α : Type} : ∀ {l : List α} {c : α}, l.getLast? = some c → c ∈ l
  | [], _, h => nomatch h
  | x :: l, c, h => List.mem_of_mem_getLast? (by rw [h]; exact rfl)
theorem rise_isV : ∀ {l : List Ch} {a : Int}, rise a l = true → ∀ c ∈ l, isV c.s (!c.d) = true
  | [], _, _, c, hc => nomatch hc
  | x :: l, a, h, c, hc => by
    simp only [rise, okCh, Bool.and_eq_true] at h
    rcases List.mem_cons.1 hc with rfl | hc
    · exact h.1.2
    · exact rise_isV h.2 c hc
theorem mayI_ne {y : It} (h : mayI y = true) : y.l ≠ [] := by
  unfold mayI at h
  simp only [Bool.and_eq_true, decide_eq_true_eq] at h
  intro e
  rw [e] at h
  exact absurd h.1.2.1 (by decide)
theorem mayI_rise {y : It} (h : mayI y = true) : rise 0 y.l = true := by
  unfold mayI at h
  simp only [Bool.and_eq_true, decide_eq_true_eq] at h
  exact h.2
theorem last_isV {y : It} (h : mayI y = true) : isV (lastS y) (!lastD y) = true := by
  unfold lastS lastD
  cases hl : y.l.getLast? with
  | none => exact absurd (List.getLast?_eq_none_iff.1 hl) (mayI_ne h)
  | some c => exact rise_isV (mayI_rise h) c (getLast_in hl)
theorem pint_may {r : List Rw} {key : ByteArray} {y : It} (h : pint r key = some y) : mayI y = true := (tkI_back h).1
theorem ownI_some {o : Option It} {id : Int} {y : It} (h : ownI o id = some y) : o = some y ∧ y.id = id := by
  unfold ownI at h
  cases o with
  | none => cases h
  | some z =>
    simp only at h
    split at h
    · cases h; exact ⟨rfl, by assumption⟩
    · cases h
theorem atI_may {y : It} {a b : Int} (h : mayI y = true) (hm : may a b = true) : mayI (atI y a b) = true := by
  unfold mayI atI at *
  simp only [Bool.and_eq_true] at *
  exact ⟨⟨⟨⟨h.1.1.1.1, hm⟩, h.1.1.2⟩, h.1.2⟩, h.2⟩
theorem mayR_parts {x : Rc} (h : mayR x = true) : may x.sw x.sl = true ∧ isS x.st = true ∧ isI x.id = true := by
  unfold mayR hdr at h
  simp only [Bool.and_eq_true] at h
  exact ⟨h.1.1.1.2, h.1.2, h.1.1.1.1.1.1.1⟩
end Go.Proofs.YtldbmogondmgmaaGreatDoor
set_option linter.unusedVariables false
set_option linter.unusedSimpArgs false
set_option maxRecDepth 100000
namespace Go.Proofs.YtldbmogondmgmaaGreatDoor
open Go.RowKit

theorem cell_set_ne {w : World} {g i : Nat} {u : Value} {p : Addr} (h : p.block ≠ g) : (w.setCell ⟨g, i, none⟩ u).cell? p = w.cell? p := by
  unfold World.cell? World.setCell
  simp only [Array.getElem?_modify]
  rw [if_neg (fun e => h e.symm)]
theorem ChAt.put {w : World} {A : Option Addr} {n g i : Nat} {u : Value} {l : List Ch} (h : ChAt w A n l) (ha : 0 < n → ∀ a, A = some a → a.block ≠ g) : ChAt (w.setCell ⟨g, i, none⟩ u) A n l := by
  refine ⟨h.1, fun hn => ?_⟩
  obtain ⟨b, o, e, hc⟩ := h.2 hn
  have hb : b ≠ g := ha hn _ e
  refine ⟨b, o, e, fun i hi => ?_⟩
  obtain ⟨h1, h2, h3⟩ := hc i hi
  exact ⟨(cell_set_ne (by exact hb)).trans h1, (cell_set_ne (by exact hb)).trans h2, (cell_set_ne (by exact hb)).trans h3⟩
theorem ChAt.apart {w : World} {A : Option Addr} {n g : Nat} {t : TypeId} {cs : Array Value} {l : List Ch} (h : ChAt w A n l) (hB : Blk w g t cs)
    (hno : ∀ o q s d, cs[o]? = some (.int .i64 q) → cs[o + 1]? = some (.string s) → cs[o + 2]? = some (.bool d) → False) : 0 < n → ∀ a, A = some a → a.block ≠ g := by
  rintro hn a rfl e
  obtain ⟨b, o, e2, hc⟩ := h.2 hn
  cases e2
  simp only at e
  subst e
  obtain ⟨h1, h2, h3⟩ := hc 0 (by have := h.1; omega)
  rw [hB.cell] at h1 h2 h3
  simp only [Nat.zero_mul, Nat.add_zero] at h1 h2 h3
  exact hno _ _ _ _ h1 h2 h3
theorem it_no (x : It) (v : Value) (hv : ∀ d, v ≠ .bool d) : ∀ o q s d, (itc x v)[o]? = some (.int .i64 q) → (itc x v)[o + 1]? = some (.string s) → (itc x v)[o + 2]? = some (.bool d) → False := by
  intro o q s d _ _ h
  match o with
  | 0 | 1 | 2 | 3 | 4 | 5 => simp at h
  | 6 => simp at h; exact hv d h
  | n + 7 => simp at h
theorem fd_no (x : Fd) (v : Value) (hv : ∀ d, v ≠ .bool d) : ∀ o q s d, (fdc x v)[o]? = some (.int .i64 q) → (fdc x v)[o + 1]? = some (.string s) → (fdc x v)[o + 2]? = some (.bool d) → False := by
  intro o q s d h1 h2 h
  match o with
  | 0 | 1 | 2 | 3 | 4 | 5 | 6 | 7 | 8 | 9 | 10 | 11 => simp at h1 h2 h
  | 12 => simp at h; exact hv d h
  | n + 13 => simp at h
theorem rval_le {r : List Rw} (hz : Szs r) (k : ByteArray) : (rval r k).size ≤ 140737488351233 := by
  unfold rval
  split
  · cases h : r[rpos r k]? with
    | none => simp [ByteArray.size]
    | some x => exact (hz x (List.mem_of_getElem? h)).2.2
  · simp [ByteArray.size]
def AnsT (o : Option It) (e : Ending) (w' : World) : Prop :=
  match o with
  | none => e = .returned (.tuple #[itv zI (.slice none 0 0), .bool false])
  | some y => ∃ A n c, e = .returned (.tuple #[itv y (.slice A n c), .bool true]) ∧ ChAt w' A n y.l ∧ n ≤ 9223372036854775807
set_option maxHeartbeats 2000000 in
theorem intentAt_c {V : World} {p : Nat} {r : List Rw} {F : Nat → Prop} (h : (tbA p r).p V F) (hz : Szs r) (hM : MaxL V) (key : ByteArray) (hk : isK key = true) :
    Calls Tryz.prog 122 #[pt p, .string key] V fun e w' => AnsT (pint r key) e w' ∧ Below V.heap.size V w' := by
  have hK : ∀ W, Below V.heap.size V W → Calls Tryz.prog 13 #[.string key] W fun e w' => e = .returned (.tuple #[.string (bs (ikey (sb key))), .int .i64 0]) ∧ Below W.heap.size W w' := fun W hb => by
    have := intentKey_c key W (hM.below hb)
    unfold markK at this
    rw [if_pos hk, List.append_nil] at this
    exact this
  have hG := fun W (hb : Below V.heap.size V W) => tb_get (tbA_below h hb) (bs (ikey (sb key)))
  have hT := fun W => takeI_c (rval r (bs (ikey (sb key)))) W (by have := rval_le hz (bs (ikey (sb key))); omega)
  unfold pint
  generalize rval r (bs (ikey (sb key))) = t at *
  generalize rhas r (bs (ikey (sb key))) = hh at *
  generalize bs (ikey (sb key)) = kk at *
  have HK := Lib.hid hK
  have HG := Lib.hid hG
  have k0 := Blk.new V 39 (itc zI (.slice none 0 0))
  have g0 := nbl V (.cells (itc zI (.slice none 0 0)) 39)
  clear hK hG h hM hk hz
  cases ho : tkI (sb t) with
  | none =>
    simp only [ho, AnsI] at hT
    have HT := Lib.hid hT
    clear ho hT
    go_enter Tryz.func122, Tryz.ntmps122
    go_wp2_with (first
      | (go_at_call 13; refine (HK.out _ g0).mono ?_; rintro e w1 ⟨rfl, hb1⟩; have g1 := bst g0 hb1; have k1 := k0.below hb1 k0.lt)
      | (go_at_call 14; refine (HG.out _ g1).mono ?_; rintro e w2 ⟨rfl, hb2⟩; have g2 := bst g1 hb2; have k2 := k1.below hb2 k1.lt)
      | (go_at_call 15; refine (HT.out _).mono ?_; rintro e w3 ⟨rfl, hb3⟩
         have k3 := (k2.below hb3 k2.lt).below (nbl w3 (.cells (itc zI (.slice none 0 0)) 39)) (k2.below hb3 k2.lt).lt
         have g3 := bsa (bst g2 hb3) (.cells (itc zI (.slice none 0 0)) 39)
         have p0 := k3.cell 0
         have f0 := k3.frozen 0
         have p1 := k3.cell 1
         have f1 := k3.frozen 1
         have p2 := k3.cell 2
         have f2 := k3.frozen 2
         have p3 := k3.cell 3
         have f3 := k3.frozen 3
         have p4 := k3.cell 4
         have f4 := k3.frozen 4
         have p5 := k3.cell 5
         have f5 := k3.frozen 5
         have p6 := k3.cell 6
         have f6 := k3.frozen 6
         have p7 := k3.cell 7
         have f7 := k3.frozen 7
         have p8 := k3.cell 8
         have f8 := k3.frozen 8
         simp at p0 p1 p2 p3 p4 p5 p6 p7 p8
         have K3 := Lib.hid k3
         have G3 := Lib.hid g3
         clear hb1 hb2 hb3 k3 g3))
    exact ret_it rfl rfl (Blk.all9 (v0 := .int .i64 zI.id) (v1 := .int .i64 zI.ep) (v2 := .int .i64 zI.pr) (v3 := .string zI.an) (v4 := .int .i64 zI.sw) (v5 := .int .i64 zI.sl) (v6 := .int .i64 zI.bw) (v7 := .int .i64 zI.bl) (v8 := .slice none 0 0) (by exact K3.out)) rfl rfl ⟨rfl, (((((((((G3.out.setCell (by exact Nat.le_refl _) _).setCell (by exact Nat.le_refl _) _).setCell (by exact Nat.le_refl _) _).setCell (by exact Nat.le_refl _) _).setCell (by exact Nat.le_refl _) _).setCell (by exact Nat.le_refl _) _).setCell (by exact Nat.le_refl _) _).setCell (by exact Nat.le_refl _) _).setCell (by exact Nat.le_refl _) _)⟩
  | some y =>
    simp only [ho, AnsI] at hT
    have HT := Lib.hid hT
    clear ho hT
    go_enter Tryz.func122, Tryz.ntmps122
    go_wp2_with (first
      | (go_at_call 13; refine (HK.out _ g0).mono ?_; rintro e w1 ⟨rfl, hb1⟩; have g1 := bst g0 hb1; have k1 := k0.below hb1 k0.lt)
      | (go_at_call 14; refine (HG.out _ g1).mono ?_; rintro e w2 ⟨rfl, hb2⟩; have g2 := bst g1 hb2; have k2 := k1.below hb2 k1.lt)
      | (go_at_call 15; refine (HT.out _).mono ?_; rintro e w3 ⟨⟨A, n, c, rfl, hat, hnc, hcm, hap⟩, hb3⟩
         have hne := hat.apart (k2.below hb3 k2.lt) (it_no _ _ (fun d e => nomatch e))
         have HAT := Lib.hid (hat.below (nbl w3 (.cells (itc y (.slice A n c)) 39)))
         have HNE := Lib.hid hne
         clear hat hap hne
         have k3 := (k2.below hb3 k2.lt).below (nbl w3 (.cells (itc y (.slice A n c)) 39)) (k2.below hb3 k2.lt).lt
         have g3 := bsa (bst g2 hb3) (.cells (itc y (.slice A n c)) 39)
         have p0 := k3.cell 0
         have f0 := k3.frozen 0
         have p1 := k3.cell 1
         have f1 := k3.frozen 1
         have p2 := k3.cell 2
         have f2 := k3.frozen 2
         have p3 := k3.cell 3
         have f3 := k3.frozen 3
         have p4 := k3.cell 4
         have f4 := k3.frozen 4
         have p5 := k3.cell 5
         have f5 := k3.frozen 5
         have p6 := k3.cell 6
         have f6 := k3.frozen 6
         have p7 := k3.cell 7
         have f7 := k3.frozen 7
         have p8 := k3.cell 8
         have f8 := k3.frozen 8
         simp at p0 p1 p2 p3 p4 p5 p6 p7 p8
         have K3 := Lib.hid k3
         have G3 := Lib.hid g3
         clear hb1 hb2 hb3 k3 g3))
    have HA9 := Lib.hid ((((((((((HAT.out.put (g := V.heap.size) (i := 0) (u := .int .i64 y.id) HNE.out).put (g := V.heap.size) (i := 1) (u := .int .i64 y.ep) HNE.out).put (g := V.heap.size) (i := 2) (u := .int .i64 y.pr) HNE.out).put (g := V.heap.size) (i := 3) (u := .string y.an) HNE.out).put (g := V.heap.size) (i := 4) (u := .int .i64 y.sw) HNE.out).put (g := V.heap.size) (i := 5) (u := .int .i64 y.sl) HNE.out).put (g := V.heap.size) (i := 6) (u := .int .i64 y.bw) HNE.out).put (g := V.heap.size) (i := 7) (u := .int .i64 y.bl) HNE.out).put (g := V.heap.size) (i := 8) (u := .slice A n c) HNE.out))
    exact ret_it rfl rfl (Blk.all9 (v0 := .int .i64 y.id) (v1 := .int .i64 y.ep) (v2 := .int .i64 y.pr) (v3 := .string y.an) (v4 := .int .i64 y.sw) (v5 := .int .i64 y.sl) (v6 := .int .i64 y.bw) (v7 := .int .i64 y.bl) (v8 := .slice A n c) (by exact K3.out)) rfl rfl ⟨⟨A, n, c, rfl, HA9.out, by omega⟩, (((((((((G3.out.setCell (by exact Nat.le_refl _) _).setCell (by exact Nat.le_refl _) _).setCell (by exact Nat.le_refl _) _).setCell (by exact Nat.le_refl _) _).setCell (by exact Nat.le_refl _) _).setCell (by exact Nat.le_refl _) _).setCell (by exact Nat.le_refl _) _).setCell (by exact Nat.le_refl _) _).setCell (by exact Nat.le_refl _) _)⟩
set_option maxHeartbeats 2000000 in
theorem ownFound_c (key : ByteArray) (y : It) (A : Option Addr) (n c : Nat) (w : World) (hx : ChAt w A n y.l) (hn : n ≤ 9223372036854775807) (hne : y.l ≠ []) :
    Calls Tryz.prog 123 #[.string key, itv y (.slice A n c)] w fun e w' => e = .returned (fdv (ownF key y) (.slice none 0 0)) ∧ Below w.heap.size w w' := by
  have hl := hx.1
  obtain ⟨m, rfl⟩ : ∃ m, n = m + 1 := ⟨n - 1, by have := List.length_pos_iff.2 hne; omega⟩
  obtain ⟨b, o, rfl, hc⟩ := ((hx.below (nbl w (.cells (itc y (.slice A (m + 1) c)) 39))).below (nbl _ (.cells #[.string ⟨#[]⟩, .string ⟨#[]⟩, .bool false, .bool false, .int .i64 0, .int .i64 0, .int .i64 0, .int .i64 0, .int .i64 0, .string ⟨#[]⟩, .int .i64 0, .int .i64 0, .int .i64 0, .int .i64 0, .slice none 0 0] 60))).2 (by omega)
  have hm : m < y.l.length := by omega
  obtain ⟨c0, c1, c2⟩ := hc m hm
  have hgl : y.l.getLast? = some (y.l[m]'hm) := by
    rw [List.getLast?_eq_getElem?, hl]
    exact List.getElem?_eq_getElem hm
  unfold ownF
  rw [hgl]
  simp only [Option.map_some, Option.getD_some]
  obtain ⟨ch, hch⟩ : ∃ ch, y.l[m]'hm = ch := ⟨_, rfl⟩
  rw [hch] at c0 c1 c2 ⊢
  obtain ⟨q, s, d⟩ := ch
  simp only at c0 c1 c2 ⊢
  have hmm : ((m + 1 : Nat) : Int) - 1 = (m : Int) := by omega
  clear hx hc hgl hch hl hne
  go_enter Tryz.func123, Tryz.ntmps123
  have hz1 : (w.alloc (.cells (itc y (.slice (some ⟨b, o, none⟩) (m + 1) c)) 39)).heap.size = w.heap.size + 1 := World.size_alloc _ _
  have hB := Blk.new (w.alloc (.cells (itc y (.slice (some ⟨b, o, none⟩) (m + 1) c)) 39)) 60 (fdc ⟨key, s, !d, true, y.sw, y.sl, zI⟩ (.slice none 0 0))
  have HB1 := Lib.hid (hB.below (nbl _ (.cells #[.int .i64 q, .string s, .bool d] 24)) hB.lt)
  rw [hz1] at HB1
  have HG := Lib.hid (bsa (bsa (nbl w (.cells (itc y (.slice (some ⟨b, o, none⟩) (m + 1) c)) 39)) (.cells (fdc ⟨key, s, !d, true, y.sw, y.sl, zI⟩ (.slice none 0 0)) 60)) (.cells #[.int .i64 q, .string s, .bool d] 24))
  clear hz1 hB
  go_wp2_with fail
  exact ret_fd rfl rfl HB1.out rfl rfl ⟨rfl, HG.out⟩
end Go.Proofs.YtldbmogondmgmaaGreatDoor
