/-
  Layer 12, the statements' helpers: a thing as a change.
  Layer 12, the statements' helpers: things laid as changes; tables that have them.
  Layer 12, plain: a transaction, what is found, what is read under a key; how they lie in memory.
  Layer 10, plain: who is there, and what has it, behind a change.
  Layer 13, plain: what comes of a write.
  Layer 12, plain: the chapter's examples.
  Layer 12, the code: a key's intent; what is read in an own one.
  Layer 12, the statements' small helpers (written by wip/genpksm.py).
  Layer 12: ReadVersion, whole.
-/
import Derived.Test.YtgccichmdddbpaaGreatDoorPA28
import Derived.Test.YtgccichmdddbpaaGreatDoorPA29
import Derived.Test.YtgccichmdddbpaaGreatDoorPA16
set_option linter.unusedVariables false
set_option linter.unusedSimpArgs false
set_option maxRecDepth 100000
namespace Go.Proofs.YtgccichmdddbpaaGreatDoor
open Go.RowKit

theorem kS_sz (s : ByteArray) : (kS s).size ≤ 2002 := by
  unfold kS
  split
  · exact okey_le (ob s) (by show s.size ≤ _; assumption)
  · decide
theorem dS_sz (a b : Int) : (dS a b).size ≤ 9 := by
  unfold dS
  split
  · exact odown_le a b
  · decide
theorem vk_cat (s : ByteArray) (a b : Int) (h : s.size ≤ 1000) (hm : may a b = true) : (⟨#[118]⟩ : ByteArray) ++ kS s ++ dS a b = vkS s a b := by
  unfold vkS kS dS
  rw [if_pos h, if_pos hm, if_pos ⟨h, hm⟩]
  apply ByteArray.ext
  simp [bs, vkey, ob_sb]
theorem ik_cat (s : ByteArray) (h : s.size ≤ 1000) : (⟨#[105]⟩ : ByteArray) ++ kS s = ikS s := by
  unfold ikS kS
  rw [if_pos h, if_pos h]
  apply ByteArray.ext
  simp [bs, ikey, ob_sb]
def vkE (s : ByteArray) (a b : Int) : Int := if s.size ≤ 1000 ∧ may a b = true then 0 else 2
def ikE (s : ByteArray) : Int := if s.size ≤ 1000 then 0 else 2
theorem rVersionKey (s : ByteArray) (a b : Int) (w : World) : Calls Tryz.prog 84 #[.string s, sv a b] w fun e w' => e = .returned (.tuple #[.string (vkS s a b), .int .i64 (vkE s a b)]) ∧ Below w.heap.size w w' := by
  have hX := Blk.new w 26 #[.int .i64 a, .int .i64 b]
  have g0 := nbl w (.cells #[.int .i64 a, .int .i64 b] 26)
  have HK := Lib.hid (fun V => refKeyAny s V)
  have HD := Lib.hid (fun V => refDownAny a b V)
  have z1 := kS_sz s
  have z2 := dS_sz a b
  have HX := Lib.hid hX
  have G0 := Lib.hid g0
  have hE : kE s = if s.size ≤ 1000 then 0 else 5 := rfl
  have hF : dE a b = if may a b = true then 0 else 2 := rfl
  rw [hE] at HK
  rw [hF] at HD
  clear hX g0 hE hF
  by_cases h1 : s.size ≤ 1000
  · rw [if_pos h1] at HK
    cases h2 : may a b
    · rw [h2] at HD
      simp only [Bool.false_eq_true, if_false] at HD
      have hR := Lib.hid (show vkS s a b = ⟨#[]⟩ ∧ vkE s a b = 2 by unfold vkS vkE; rw [if_neg (by rw [h2]; simp), if_neg (by rw [h2]; simp)]; exact ⟨rfl, rfl⟩)
      rw [hR.out.1, hR.out.2]
      clear h2
      go_enter Tryz.func84, Tryz.ntmps84
      go_wp2_with (first
        | (go_at_call 102; refine (HK.out _).mono ?_; rintro e w1 ⟨rfl, b1⟩
           have k := HX.out.below b1 HX.out.lt
           have x0 := k.cell 0
           have x1 := k.cell 1
           simp at x0 x1
           have c1 := Lib.hid (bst G0.out b1)
           clear k)
        | (go_at_call 127; refine (HD.out _).mono ?_; rintro e w2 ⟨rfl, b2⟩))
      go_ret2
      exact ⟨rfl, bst c1.out b2⟩
    · rw [h2] at HD
      simp only [if_true] at HD
      have hR := Lib.hid (show vkE s a b = 0 by unfold vkE; rw [if_pos ⟨h1, h2⟩])
      have hC := Lib.hid (vk_cat s a b h1 h2)
      rw [hR.out]
      generalize vkS s a b = rs at *
      generalize kS s = k1 at *
      generalize dS a b = k2 at *
      have zz : ¬ 9223372036854775807 < 1 + k1.size := by omega
      have hq : (⟨#[118]⟩ ++ k1 : ByteArray).size = 1 + k1.size := by rw [ByteArray.size_append]; rfl
      obtain ⟨k3, hk3⟩ : ∃ k3, (⟨#[118]⟩ ++ k1 : ByteArray) = k3 := ⟨_, rfl⟩
      have zy : ¬ 9223372036854775807 < k3.size + k2.size := by rw [← hk3, hq]; omega
      have hC3 := hC.out
      rw [hk3] at hC3 hq
      clear h2
      go_enter Tryz.func84, Tryz.ntmps84
      go_wp2_with (first
        | (go_at_call 102; refine (HK.out _).mono ?_; rintro e w1 ⟨rfl, b1⟩
           have k := HX.out.below b1 HX.out.lt
           have x0 := k.cell 0
           have x1 := k.cell 1
           simp at x0 x1
           have c1 := Lib.hid (bst G0.out b1)
           clear k)
        | (go_at_call 127; refine (HD.out _).mono ?_; rintro e w2 ⟨rfl, b2⟩))
      go_ret2
      exact ⟨rfl, bst c1.out b2⟩
  · rw [if_neg h1] at HK
    have hR := Lib.hid (show vkS s a b = ⟨#[]⟩ ∧ vkE s a b = 2 by unfold vkS vkE; rw [if_neg (fun h => h1 h.1), if_neg (fun h => h1 h.1)]; exact ⟨rfl, rfl⟩)
    rw [hR.out.1, hR.out.2]
    go_enter Tryz.func84, Tryz.ntmps84
    go_wp2_with (first
      | (go_at_call 102; refine (HK.out _).mono ?_; rintro e w1 ⟨rfl, b1⟩
         have k := HX.out.below b1 HX.out.lt
         have x0 := k.cell 0
         have x1 := k.cell 1
         simp at x0 x1
         have c1 := Lib.hid (bst G0.out b1)
         clear k)
      | (go_at_call 127; refine (HD.out _).mono ?_; rintro e w2 ⟨rfl, b2⟩))
    all_goals go_ret2
    all_goals exact ⟨rfl, bst c1.out b2⟩
theorem rIntentKey (s : ByteArray) (w : World) : Calls Tryz.prog 54 #[.string s] w fun e w' => e = .returned (.tuple #[.string (ikS s), .int .i64 (ikE s)]) ∧ Below w.heap.size w w' := by
  have HK := Lib.hid (fun V => refKeyAny s V)
  have z1 := kS_sz s
  have hE : kE s = if s.size ≤ 1000 then 0 else 5 := rfl
  rw [hE] at HK
  clear hE
  by_cases h1 : s.size ≤ 1000
  · rw [if_pos h1] at HK
    have hR := Lib.hid (show ikE s = 0 by unfold ikE; rw [if_pos h1])
    have hC := ik_cat s h1
    rw [hR.out]
    generalize ikS s = rs at *
    generalize kS s = k1 at *
    have zz : ¬ 9223372036854775807 < 1 + k1.size := by omega
    go_enter Tryz.func54, Tryz.ntmps54
    go_wp2_with (go_at_call 102; refine (HK.out _).mono ?_; rintro e w1 ⟨rfl, b1⟩)
    go_ret2
    exact ⟨rfl, b1⟩
  · rw [if_neg h1] at HK
    have hR := Lib.hid (show ikS s = ⟨#[]⟩ ∧ ikE s = 2 by unfold ikS ikE; rw [if_neg h1, if_neg h1]; exact ⟨rfl, rfl⟩)
    rw [hR.out.1, hR.out.2]
    go_enter Tryz.func54, Tryz.ntmps54
    go_wp2_with (go_at_call 102; refine (HK.out _).mono ?_; rintro e w1 ⟨rfl, b1⟩)
    go_ret2
    exact ⟨rfl, b1⟩
theorem ret_op12 {fn : Func} {Q : Ending → World → Prop} {a : Act} {w : World} {p u : Tmp} {g : Nat} {k v : ByteArray} {d : Bool} (hr : fn.results = #[.cell p 93, .tmp u]) (hp : a.tmps.getD p undef = .pointer (some ⟨g, 0, none⟩))
    (hB : Blk w g 93 #[.string k, .string v, .bool d]) (hd : a.defers = []) (hR : Q (.returned (.tuple #[.agg #[.string k, .string v, .bool d], a.tmps.getD u undef])) w) : bodyPost Tryz.prog fn Q .ret a w := by
  refine bodyPost_ret ?_ hd hR
  have hp' : a.tmps[p]?.getD undef = .pointer (some ⟨g, 0, none⟩) := by simpa using hp
  simp [results, hr, hp', asAddr, run_loadVar_row w g 93 93 _ (0, 0) _ hB Tryz.underlying93 rfl (by kernel_rfl)]
theorem Blk.all3 {w : World} {g : Nat} {t : TypeId} {c0 c1 c2 v0 v1 v2 : Value} (h : Blk w g t #[c0, c1, c2]) : Blk (((w.setCell ⟨g, 0, none⟩ v0).setCell ⟨g, 1, none⟩ v1).setCell ⟨g, 2, none⟩ v2) g t #[v0, v1, v2] := by
  have := ((h.set_ 0 v0).set_ 1 v1).set_ 2 v2
  simpa using this
theorem ansT_form (ok : Bool) (l : List UInt8) : ansT ok l = .returned (.tuple #[.string (if ok then bs l else ⟨#[]⟩), .int .i64 (if ok then 0 else 2)]) := rfl
/-- What op answers: the change, and whether it can stand there. -/
def ThP (x : Th) (w : World) (e : Ending) (w' : World) : Prop := ∃ k v, e = .returned (.tuple #[.agg #[.string k, .string v, .bool false], .bool (opOf x).isSome]) ∧ (∀ o, opOf x = some o → o = ⟨k, v, false⟩) ∧ Below w.heap.size w w'
theorem ThP.mk {x : Th} {w w' : World} {k v : ByteArray} {b : Bool} (hs : opOf x = if b then some ⟨k, v, false⟩ else none) (hb : Below w.heap.size w w') : ThP x w (.returned (.tuple #[.agg #[.string k, .string v, .bool false], .bool b])) w' := by
  refine ⟨k, v, ?_, fun o ho => ?_, hb⟩
  · rw [hs]; cases b <;> rfl
  · rw [hs] at ho
    cases b
    · cases ho
    · injection ho with ho
      exact ho.symm
end Go.Proofs.YtgccichmdddbpaaGreatDoor
set_option linter.unusedVariables false
set_option linter.unusedSimpArgs false
set_option maxRecDepth 100000
namespace Go.Proofs.YtgccichmdddbpaaGreatDoor
open Go.RowKit

theorem ORow.keep {w w' : World} {B n : Nat} {v : Value} {l : List Op_} (h : ORow w B v n l) (hb : Below w.heap.size w w') : ORow w' B v n l :=
  World.ownsRow.kept h (row := none) ⟨hb.os, hb.tape, hb.output, hb.size, fun k hk _ => hb.block k hk⟩ (by
    cases hv : v.ownBlock with
    | none => exact .inl rfl
    | some q => exact .inr (by simp))
theorem ORow.lt {w : World} {B n : Nat} {v : Value} {l : List Op_} (h : ORow w B v n l) (k : Nat) (e : v.ownBlock = some k) : B ≤ k ∧ k < w.heap.size := World.ownsRow.lt h k e
theorem OAt.pick {w : World} {q n : Nat} {l : List Op_} (h : OAt w (some ⟨q, 0, none⟩) n l) {j : Nat} (hj : j < l.length) : OAt w (some ⟨q, j * 3, none⟩) 1 [l[j]'hj] := by
  obtain ⟨b, o, e, hc⟩ := h.2 (by have := h.1; omega)
  cases e
  refine ⟨rfl, fun _ => ⟨q, j * 3, rfl, fun i hi => ?_⟩⟩
  have : i = 0 := by simp at hi; omega
  subst this
  have := hc j hj
  simpa using this
section
variable {w V V' : World} {l T : List As} {A2 : As} {p b : Nat} {r : List Rw}
theorem Has.newRt (h : Has w T V) : Has w (rtA V.heap.size [] :: T) (V.alloc (.cells #[.slice none 0 0] 53)) := by
  refine h.new (F := rtF V.heap.size (.slice none 0 0)) (nbl V _) ⟨_, ⟨Blk.new V 53 #[.slice none 0 0], World.ownsRow_nil _ _ _ _, (fun k e => nomatch e)⟩, fun k => Iff.rfl⟩ (fun k e => ?_)
  rcases e with e | e
  · omega
  · cases e
theorem Has.rtApplyB (h : Has w (rtA b r :: A2 :: T) V) (hr : r.length ≤ 999999000) (A : Option Addr) (n c : Nat) (ops : List Op_) (ho : ∀ W F2, A2.p W F2 → OAt W A n ops) (hn : n ≤ 9223372036854775807) :
    Calls Tryz.prog 20 #[pt b, .slice A n c] V fun e w' => e = .returned (.int .i64 (chk ops)) ∧ Has w (rtA b (rapp r ops) :: A2 :: T) w' := by
  obtain ⟨F, h1, h1b, h2, h3⟩ := h.step2
  refine (rt_apply h1 A n c ops (fun W hg => by obtain ⟨F2, h4⟩ := h2 W hg; exact ho W F2 h4) hn hr).mono ?_
  rintro e w' ⟨hq, F', h4, h5, h6⟩
  exact ⟨hq, h3 w' _ F' h5 h4 h6⟩
end
end Go.Proofs.YtgccichmdddbpaaGreatDoor
set_option linter.unusedVariables false
set_option linter.unusedSimpArgs false
set_option maxRecDepth 100000
namespace Go.Proofs.YtgccichmdddbpaaGreatDoor
open Go.RowKit

structure Tx where
  id : Int
  ep : Int
  pr : Int
  an : ByteArray
  rw : Int
  rl : Int
  ww : Int
  wl : Int
  lw : Int
  ll : Int
  bw : Int
  bl : Int
abbrev txc (x : Tx) : Array Value := #[.int .i64 x.id, .int .i64 x.ep, .int .i64 x.pr, .string x.an, .int .i64 x.rw, .int .i64 x.rl, .int .i64 x.ww, .int .i64 x.wl, .int .i64 x.lw, .int .i64 x.ll, .int .i64 x.bw, .int .i64 x.bl]
abbrev txv (x : Tx) : Value := .agg (txc x)
def idOk (x : Tx) : Bool := decide (1 ≤ x.id ∧ x.id ≤ 9007199254740991 ∧ 0 ≤ x.ep ∧ x.ep ≤ 9007199254740991)
def mayX (x : Tx) : Bool := idOk x && (may x.rw x.rl && may x.lw x.ll)
def topX (x : Tx) : Int × Int := two (x.rw, x.rl) (x.lw, x.ll)
/-- What is found: 'it' is what is in the way. -/
structure Fd where
  key : ByteArray
  value : ByteArray
  is_ : Bool
  own : Bool
  sw : Int
  sl : Int
  it : It
def zF : Fd := ⟨⟨#[]⟩, ⟨#[]⟩, false, false, 0, 0, zI⟩
abbrev fdc (f : Fd) (v : Value) : Array Value := #[.string f.key, .string f.value, .bool f.is_, .bool f.own, .int .i64 f.sw, .int .i64 f.sl, .int .i64 f.it.id, .int .i64 f.it.ep, .int .i64 f.it.pr, .string f.it.an, .int .i64 f.it.sw, .int .i64 f.it.sl, .int .i64 f.it.bw, .int .i64 f.it.bl, v]
abbrev fdv (f : Fd) (v : Value) : Value := .agg (fdc f v)
/-- What a table's key says, if it is a version's. -/
def rdVK (k : List UInt8) : Option (List UInt8 × Int × Int) :=
  match rk 118 k with
  | none => none
  | some (s, r) => match tdown r with
    | .ok (a, b, []) => some (s, a, b)
    | _ => none
/-- A version: its stamp, value, and whether there is something. -/
abbrev Ver := Int × Int × ByteArray × Bool
def vrow (x : Rw) : Option Ver :=
  match rdVK (sb x.key), tkV (sb x.value) with
  | some (_, a, b), some (v, i) => some (a, b, v, i)
  | _, _ => none
def behK (s : ByteArray) : ByteArray := bs (vkey (sb s) 0 0) ++ zr
/-- The code's: the first row of those between that can be read. -/
def pverC (r : List Rw) (key : ByteArray) (t : Int × Int) : Option Ver := (btw r (bs (vkey (sb key) t.1 t.2)) (behK key)).findSome? vrow
def verF (key : ByteArray) : Option Ver → Fd
  | none => ⟨key, ⟨#[]⟩, false, false, 0, 0, zI⟩
  | some (a, b, v, i) => ⟨key, v, i, false, a, b, zI⟩
/-- A key's intent. -/
def pint (r : List Rw) (key : ByteArray) : Option It := tkI (sb (rval r (bs (ikey (sb key)))))
def ownF (key : ByteArray) (y : It) : Fd := ⟨key, (y.l.getLast?.map Ch.s).getD ⟨#[]⟩, !((y.l.getLast?.map Ch.d).getD false), true, y.sw, y.sl, zI⟩
def newF (v : Option Ver) (key : ByteArray) (x : Tx) : Fd × Int :=
  if lt ((verF key v).sw, (verF key v).sl) (x.rw, x.rl) = false then (⟨key, ⟨#[]⟩, false, false, (verF key v).sw, (verF key v).sl, zI⟩, 121) else (verF key v, 0)
/-- What is read, of an intent and a version. -/
def preadW (y : Option It) (v : Option Ver) (key : ByteArray) (x : Tx) : Fd × Int :=
  match y with
  | none => newF v key x
  | some y =>
    if y.id = x.id ∧ x.ep < y.ep then (zF, 201)
    else if y.id = x.id ∧ y.ep = x.ep then (ownF key y, 0)
    else if ¬ y.id = x.id ∧ lt (topX x) (y.sw, y.sl) = false then (⟨key, ⟨#[]⟩, false, false, 0, 0, y⟩, 120)
    else newF v key x
def preadC (r : List Rw) (key : ByteArray) (x : Tx) : Fd × Int := preadW (pint r key) (pverC r key (topX x)) key x
/-- Get's. -/
def pgetW (ok : Bool) (low : Int × Int) (x : Tx) (o : Fd × Int) : Fd × Int :=
  if (ok && mayX x && may low.1 low.2) = false then (zF, 2)
  else if lt low (x.rw, x.rl) = false then (zF, 122)
  else o
def pgetC (r : List Rw) (key : ByteArray) (x : Tx) (low : Int × Int) : Fd × Int := pgetW (isK key) low x (preadC r key x)
def chkP (ok : Bool) (x : Tx) (low : Int × Int) : Int :=
  if (ok && mayX x && may low.1 low.2) = false then 2 else if lt low (x.rw, x.rl) = false then 122 else 0
theorem pget_chk (ok : Bool) (low : Int × Int) (x : Tx) (o : Fd × Int) : pgetW ok low x o = if chkP ok x low = 0 then o else (zF, chkP ok x low) := by
  unfold pgetW chkP
  split
  · rfl
  · split <;> rfl

/-! ### forms -/
theorem ret_fd {fn : Func} {Q : Ending → World → Prop} {a : Act} {w : World} {p : Tmp} {g : Nat} {cs : Array Value} (hr : fn.results = #[.cell p 73]) (hp : a.tmps.getD p undef = .pointer (some ⟨g, 0, none⟩))
    (hB : Blk w g 73 cs) (hs : cs.size = 15) (hd : a.defers = []) (hR : Q (.returned (.agg cs)) w) : bodyPost Tryz.prog fn Q .ret a w := by
  refine bodyPost_ret ?_ hd hR
  have hp' : a.tmps[p]?.getD undef = .pointer (some ⟨g, 0, none⟩) := by simpa using hp
  simp [results, hr, hp', asAddr, run_loadVar_row w g 73 73 _ (0, 0) _ hB Tryz.underlying73 rfl (by rw [hs]; kernel_rfl)]
theorem ret_fd2 {fn : Func} {Q : Ending → World → Prop} {a : Act} {w : World} {p u : Tmp} {g : Nat} {cs : Array Value} (hr : fn.results = #[.cell p 73, .tmp u]) (hp : a.tmps.getD p undef = .pointer (some ⟨g, 0, none⟩))
    (hB : Blk w g 73 cs) (hs : cs.size = 15) (hd : a.defers = []) (hR : Q (.returned (.tuple #[.agg cs, a.tmps.getD u undef])) w) : bodyPost Tryz.prog fn Q .ret a w := by
  refine bodyPost_ret ?_ hd hR
  have hp' : a.tmps[p]?.getD undef = .pointer (some ⟨g, 0, none⟩) := by simpa using hp
  simp [results, hr, hp', asAddr, run_loadVar_row w g 73 73 _ (0, 0) _ hB Tryz.underlying73 rfl (by rw [hs]; kernel_rfl)]
theorem results_fd {fn : Func} {tmps : Array Value} {w : World} {p : Tmp} {g : Nat} {cs : Array Value} (hr : fn.results = #[.cell p 73]) (hp : tmps.getD p undef = .pointer (some ⟨g, 0, none⟩))
    (hB : Blk w g 73 cs) (hs : cs.size = 15) : (results fn tmps).run Tryz.prog w = .ok (.agg cs) w := by
  have hp' : tmps[p]?.getD undef = .pointer (some ⟨g, 0, none⟩) := by simpa using hp
  simp [results, hr, hp', asAddr, run_loadVar_row w g 73 73 _ (0, 0) _ hB Tryz.underlying73 rfl (by rw [hs]; kernel_rfl)]
theorem Blk.all15 {w : World} {g : Nat} {t : TypeId} {c0 c1 c2 c3 c4 c5 c6 c7 c8 c9 c10 c11 c12 c13 c14 v0 v1 v2 v3 v4 v5 v6 v7 v8 v9 v10 v11 v12 v13 v14 : Value} (h : Blk w g t #[c0, c1, c2, c3, c4, c5, c6, c7, c8, c9, c10, c11, c12, c13, c14]) : Blk (((((((((((((((w.setCell ⟨g, 0, none⟩ v0).setCell ⟨g, 1, none⟩ v1).setCell ⟨g, 2, none⟩ v2).setCell ⟨g, 3, none⟩ v3).setCell ⟨g, 4, none⟩ v4).setCell ⟨g, 5, none⟩ v5).setCell ⟨g, 6, none⟩ v6).setCell ⟨g, 7, none⟩ v7).setCell ⟨g, 8, none⟩ v8).setCell ⟨g, 9, none⟩ v9).setCell ⟨g, 10, none⟩ v10).setCell ⟨g, 11, none⟩ v11).setCell ⟨g, 12, none⟩ v12).setCell ⟨g, 13, none⟩ v13).setCell ⟨g, 14, none⟩ v14) g t #[v0, v1, v2, v3, v4, v5, v6, v7, v8, v9, v10, v11, v12, v13, v14] := by
  have := (((((((((((((((h.set_ 0 v0).set_ 1 v1).set_ 2 v2).set_ 3 v3).set_ 4 v4).set_ 5 v5).set_ 6 v6).set_ 7 v7).set_ 8 v8).set_ 9 v9).set_ 10 v10).set_ 11 v11).set_ 12 v12).set_ 13 v13).set_ 14 v14)
  simpa using this
end Go.Proofs.YtgccichmdddbpaaGreatDoor
set_option linter.unusedVariables false
namespace Go.Proofs.YtgccichmdddbpaaGreatDoor
open Go.RowKit

/-! ### plain: what is there behind a call -/
theorem khas_mem {l : List Kv} (hs : Sor l) (k : ByteArray) : khas l k = true ↔ ∃ x ∈ l, x.key = k := by
  constructor
  · intro h
    obtain ⟨hp, hk⟩ := (khas_iff _ _).1 h
    exact ⟨_, List.getElem_mem hp, hk⟩
  · rintro ⟨x, hx, rfl⟩
    obtain ⟨i, hi, rfl⟩ := List.mem_iff_getElem.1 hx
    have h1 : ¬ i < kpos l (l[i]'hi).key := fun h => by
      obtain ⟨_, h2⟩ := kpos_lt h
      rw [kl_irr] at h2
      cases h2
    by_cases h2 : kpos l (l[i]'hi).key < i
    · have hp : kpos l (l[i]'hi).key < l.length := by omega
      have h3 := List.pairwise_iff_getElem.1 hs _ _ hp hi h2
      have h4 := kpos_at hp
      rw [h3] at h4
      cases h4
    · have e : kpos l (l[i]'hi).key = i := by omega
      refine (khas_iff _ _).2 ⟨by omega, ?_⟩
      congr 2
theorem kval_mem {z : Value} {l : List Kv} (hs : Sor l) {x : Kv} (hx : x ∈ l) : kval z l x.key = x.val := by
  have hh := (khas_mem hs x.key).2 ⟨x, hx, rfl⟩
  obtain ⟨hp, hk⟩ := (khas_iff _ _).1 hh
  rw [kval_eq hp hh]
  obtain ⟨i, hi, rfl⟩ := List.mem_iff_getElem.1 hx
  rcases Nat.lt_trichotomy (kpos l (l[i]'hi).key) i with h | h | h
  · have h3 := List.pairwise_iff_getElem.1 hs _ _ hp hi h
    rw [hk, kl_irr] at h3
    cases h3
  · congr 2
  · have h3 := List.pairwise_iff_getElem.1 hs _ _ hi hp h
    rw [hk, kl_irr] at h3
    cases h3
theorem mem_kput {l : List Kv} (hs : Sor l) (k : ByteArray) (v : Value) (s : Nat) (y : Kv) : y ∈ kput l k v s → (y.key = k ∧ y.val = v) ∨ (y ∈ l ∧ y.key ≠ k) := by
  intro h
  by_cases hk : y.key = k
  · have hs2 := Sor.put hs k v s
    have e := kval_mem (z := z9) hs2 h
    have hh : khas (kput l k v s) k = true := (khas_mem hs2 k).2 ⟨y, h, hk⟩
    refine .inl ⟨hk, ?_⟩
    have hn : (⟨k, v, if khas l k then stAt l (kpos l k) else s⟩ : Kv) ∈ kput l k v s := by
      unfold kput
      split
      · rename_i h0
        obtain ⟨hp, _⟩ := (khas_iff _ _).1 h0
        exact List.mem_iff_getElem.2 ⟨kpos l k, by rw [List.length_set]; exact hp, by rw [List.getElem_set_self]⟩
      · exact List.mem_append_right _ List.mem_cons_self
    have e2 := kval_mem (z := z9) hs2 hn
    rw [← e, hk]
    exact e2
  · refine .inr ⟨?_, hk⟩
    unfold kput at h
    split at h
    · rcases List.mem_or_eq_of_mem_set h with h1 | h1
      · exact h1
      · subst h1; exact absurd rfl hk
    · rcases List.mem_append.1 h with h1 | h1
      · exact List.mem_of_mem_take h1
      · rcases List.mem_cons.1 h1 with h1 | h1
        · subst h1; exact absurd rfl hk
        · exact List.mem_of_mem_drop h1
theorem kput_mem {l : List Kv} (hs : Sor l) (k : ByteArray) (v : Value) (s : Nat) : (∃ y ∈ kput l k v s, y.key = k ∧ y.val = v) ∧ ∀ y ∈ l, y.key ≠ k → y ∈ kput l k v s := by
  unfold kput
  split
  · rename_i h0
    obtain ⟨hp, hk⟩ := (khas_iff _ _).1 h0
    refine ⟨⟨_, List.mem_iff_getElem.2 ⟨kpos l k, by rw [List.length_set]; exact hp, rfl⟩, by rw [List.getElem_set_self], by rw [List.getElem_set_self]⟩, fun y hy hne => ?_⟩
    obtain ⟨i, hi, rfl⟩ := List.mem_iff_getElem.1 hy
    refine List.mem_iff_getElem.2 ⟨i, by rw [List.length_set]; exact hi, ?_⟩
    rw [List.getElem_set_ne (fun e => hne (by subst e; exact hk))]
  · refine ⟨⟨_, List.mem_append_right _ List.mem_cons_self, rfl, rfl⟩, fun y hy _ => ?_⟩
    rw [← List.take_append_drop (kpos l k) l] at hy
    rcases List.mem_append.1 hy with h1 | h1
    · exact List.mem_append_left _ h1
    · exact List.mem_append_right _ (List.mem_cons_of_mem _ h1)
theorem kput_has {l : List Kv} (hs : Sor l) (k k' : ByteArray) (v : Value) (s : Nat) : khas (kput l k v s) k' = if k' = k then true else khas l k' := by
  rw [Bool.eq_iff_iff, khas_mem (Sor.put hs k v s)]
  obtain ⟨h1, h2⟩ := kput_mem hs k v s
  by_cases e : k' = k
  · rw [if_pos e]
    obtain ⟨y, hy, hk, _⟩ := h1
    exact ⟨fun _ => rfl, fun _ => ⟨y, hy, by rw [hk, e]⟩⟩
  · rw [if_neg e, khas_mem hs]
    constructor
    · rintro ⟨y, hy, hk⟩
      rcases mem_kput hs k v s y hy with ⟨h3, _⟩ | ⟨h3, _⟩
      · exact absurd (hk.symm.trans h3) e
      · exact ⟨y, h3, hk⟩
    · rintro ⟨y, hy, hk⟩
      exact ⟨y, h2 y hy (fun h => e (hk.symm.trans h)), hk⟩
theorem kput_val {z : Value} {l : List Kv} (hs : Sor l) (k k' : ByteArray) (v : Value) (s : Nat) (hh : khas (kput l k v s) k' = true) : kval z (kput l k v s) k' = if k' = k then v else kval z l k' := by
  have hs2 := Sor.put hs k v s
  obtain ⟨y, hy, rfl⟩ := (khas_mem hs2 k').1 hh
  rw [kval_mem hs2 hy]
  rcases mem_kput hs k v s y hy with ⟨h3, h4⟩ | ⟨h3, h4⟩
  · rw [if_pos h3, h4]
  · rw [if_neg h4, kval_mem hs h3]
theorem kdrop_mem {l : List Kv} (hs : Sor l) (k : ByteArray) (y : Kv) : y ∈ kdrop l k ↔ y ∈ l ∧ y.key ≠ k := by
  unfold kdrop
  by_cases hh : khas l k = true
  · rw [if_pos hh]
    obtain ⟨hp, hk⟩ := (khas_iff _ _).1 hh
    have hsp : l.take (kpos l k) ++ l[kpos l k]'hp :: l.drop (kpos l k + 1) = l := by rw [← List.drop_eq_getElem_cons hp, List.take_append_drop]
    have hs2 := hs
    rw [← hsp] at hs2
    obtain ⟨_, hb, hab⟩ := List.pairwise_append.1 hs2
    obtain ⟨hb1, hb2⟩ := List.pairwise_cons.1 hb
    have hmem : y ∈ l ↔ y ∈ l.take (kpos l k) ∨ y = l[kpos l k]'hp ∨ y ∈ l.drop (kpos l k + 1) := by
      constructor
      · intro h
        rw [← hsp] at h
        rcases List.mem_append.1 h with h | h
        · exact .inl h
        · rcases List.mem_cons.1 h with h | h
          · exact .inr (.inl h)
          · exact .inr (.inr h)
      · rintro (h | h | h)
        · exact List.mem_of_mem_take h
        · subst h; exact List.getElem_mem hp
        · exact List.mem_of_mem_drop h
    rw [List.mem_append, hmem]
    constructor
    · rintro (h | h)
      · refine ⟨.inl h, fun e => ?_⟩
        have := hab y h _ List.mem_cons_self
        rw [hk, e, kl_irr] at this
        cases this
      · refine ⟨.inr (.inr h), fun e => ?_⟩
        have := hb1 y h
        rw [hk, e, kl_irr] at this
        cases this
    · rintro ⟨h | h | h, hne⟩
      · exact .inl h
      · subst h; exact absurd hk hne
      · exact .inr h
  · rw [if_neg hh]
    refine ⟨fun h => ⟨h, fun e => hh ((khas_mem hs k).2 ⟨y, h, e⟩)⟩, fun h => h.1⟩
theorem kdrop_has {l : List Kv} (hs : Sor l) (k k' : ByteArray) : khas (kdrop l k) k' = if k' = k then false else khas l k' := by
  rw [Bool.eq_iff_iff, khas_mem (Sor.dropk hs k)]
  by_cases e : k' = k
  · rw [if_pos e]
    refine ⟨?_, fun h => by cases h⟩
    rintro ⟨y, hy, hk⟩
    exact absurd (hk.trans e) ((kdrop_mem hs k y).1 hy).2
  · rw [if_neg e, khas_mem hs]
    constructor
    · rintro ⟨y, hy, hk⟩
      exact ⟨y, ((kdrop_mem hs k y).1 hy).1, hk⟩
    · rintro ⟨y, hy, hk⟩
      exact ⟨y, (kdrop_mem hs k y).2 ⟨hy, fun h => e (hk.symm.trans h)⟩, hk⟩
theorem kdrop_val {z : Value} {l : List Kv} (hs : Sor l) (k k' : ByteArray) (hh : khas (kdrop l k) k' = true) : kval z (kdrop l k) k' = kval z l k' := by
  have hs2 := Sor.dropk hs k
  obtain ⟨y, hy, rfl⟩ := (khas_mem hs2 k').1 hh
  rw [kval_mem hs2 hy, kval_mem hs ((kdrop_mem hs k y).1 hy).1]


theorem rone_has {r : List Rw} (hs : RSor r) (o : Op_) (k : ByteArray) : rhas (rone r o) k = if k = o.key then !o.del else rhas r k := by
  have h1 := (kv_sor r).2 hs
  have e : rhas r k = khas (kvOf r) k := by rw [← tab_has, tab_kv]
  rw [rone_kv, tab_has, e]
  cases hd : o.del with
  | true => rw [if_pos rfl, kdrop_has h1]; rfl
  | false => rw [if_neg (by decide), kput_has h1]; rfl
theorem kv_strs (r : List Rw) : Strs (kvOf r) := by
  intro x hx
  unfold kvOf at hx
  obtain ⟨y, _, rfl⟩ := List.mem_map.1 hx
  exact ⟨_, rfl⟩
theorem rval_kv (r : List Rw) (k : ByteArray) : kval z9 (kvOf r) k = .string (rval r k) := by
  have := tab_val (kv_strs r) k
  rw [tab_kv] at this
  exact this
theorem rone_val {r : List Rw} (hs : RSor r) (o : Op_) (k : ByteArray) (hh : rhas (rone r o) k = true) : rval (rone r o) k = if k = o.key then o.value else rval r k := by
  have h1 := (kv_sor r).2 hs
  cases hd : o.del with
  | true =>
    have e : rone r o = tab (kdrop (kvOf r) o.key) := by rw [rone_kv, hd, if_pos rfl]
    have hh2 : khas (kdrop (kvOf r) o.key) k = true := by rw [e, tab_has] at hh; exact hh
    have hne : k ≠ o.key := fun e2 => by rw [rone_has hs, if_pos e2, hd] at hh; cases hh
    have h3 := tab_val (Strs.drop (kv_strs r) o.key) k
    rw [kdrop_val h1 _ _ hh2, rval_kv, ← e] at h3
    injection h3 with h3
    rw [if_neg hne, h3]
  | false =>
    have e : rone r o = tab (kput (kvOf r) o.key (.string o.value) 1) := by rw [rone_kv, hd, if_neg (by decide)]
    have hh2 : khas (kput (kvOf r) o.key (.string o.value) 1) k = true := by rw [e, tab_has] at hh; exact hh
    have h3 := tab_val (Strs.put (kv_strs r) o.key o.value 1) k
    rw [kput_val h1 _ _ _ _ hh2, ← e] at h3
    by_cases e2 : k = o.key
    · rw [if_pos e2] at h3 ⊢
      injection h3 with h3
      exact h3.symm
    · rw [if_neg e2, rval_kv] at h3
      injection h3 with h3
      rw [if_neg e2, h3]
end Go.Proofs.YtgccichmdddbpaaGreatDoor
set_option linter.unusedVariables false
set_option linter.unusedSimpArgs false
set_option maxRecDepth 100000
namespace Go.Proofs.YtgccichmdddbpaaGreatDoor
open Go.RowKit

/-- An intent of a transaction. -/
def wIt (x : Tx) (a b : Int) (l : List Ch) : It := ⟨x.id, x.ep, x.pr, x.an, a, b, x.bw, x.bl, l⟩
/-- The newest version's stamp, or zero. -/
def nwV (r : List Rw) (key : ByteArray) : Int × Int :=
  match (btw r (bs (vkey (sb key) 1099511627776 1048575)) (bs (vkey (sb key) 0 0))).findSome? vrow with
  | some (a, b, _) => (a, b)
  | none => (0, 0)
def chkW (ik : Bool) (c : Ch) (x : Tx) (m : Int × Int) : Int :=
  if (ik && (may x.rw x.rl && may x.lw x.ll && may m.1 m.2)) = false then 2 else if mayI (wIt x x.ww x.wl [c]) = true then 0 else 2
/-- Whether a change is there; what is wrong. -/
def findW (l : List Ch) (c : Ch) : Bool × Int :=
  match l.find? (fun h => decide (c.q ≤ h.q)) with
  | none => if l.length = 16 then (false, 7) else (false, 0)
  | some h => if h.q = c.q then (if h.s = c.s ∧ h.d = c.d then (true, 0) else (false, 2)) else (false, 201)
/-- What comes of a write: an intent, a stamp; what is in the way. -/
structure Dn where
  o : Option It
  a : Int
  b : Int
  way : It
def zD : Dn := ⟨none, 0, 0, zI⟩
def atW (nv m : Int × Int) (own : It) (x : Tx) : Int × Int :=
  two (two (x.ww, x.wl) ((nxt (two m nv).1 (two m nv).2).1, (nxt (two m nv).1 (two m nv).2).2.1)) (own.sw, own.sl)
def addW (nv : Int × Int) (own : It) (c : Ch) (x : Tx) (m : Int × Int) : Dn × Int :=
  if (nxt (two m nv).1 (two m nv).2).2.2 = 0 then (⟨some (wIt x (atW nv m own x).1 (atW nv m own x).2 (own.l ++ [c])), (atW nv m own x).1, (atW nv m own x).2, zI⟩, 0)
  else (zD, (nxt (two m nv).1 (two m nv).2).2.2)
def goW (nv : Int × Int) (own : It) (c : Ch) (x : Tx) (m : Int × Int) : Dn × Int :=
  if (findW own.l c).2 = 0 then (if (findW own.l c).1 = true then (⟨none, own.sw, own.sl, zI⟩, 0) else addW nv own c x m) else (zD, (findW own.l c).2)
def putW (y : Option It) (nv : Int × Int) (c : Ch) (x : Tx) (m : Int × Int) : Dn × Int :=
  match y with
  | none => goW nv zI c x m
  | some y =>
    if ¬ y.id = x.id then (⟨none, 0, 0, y⟩, 120)
    else if x.ep < y.ep then (zD, 201)
    else if y.ep < x.ep then goW nv zI c x m
    else goW nv y c x m
def pputC (r : List Rw) (key : ByteArray) (c : Ch) (x : Tx) (m : Int × Int) : Dn × Int :=
  if chkW (isK key) c x m = 0 then putW (pint r key) (nwV r key) c x m else (zD, chkW (isK key) c x m)
/-- What changes in the table; the rows behind it. -/
def opsD (key : ByteArray) (d : Dn) : List Op_ := match d.o with | none => [] | some y => [⟨bs (ikey (sb key)), bs (txI y), false⟩]
/-! ### stamps -/
theorem two_may {x y : Int × Int} (h1 : may x.1 x.2 = true) (h2 : may y.1 y.2 = true) : may (two x y).1 (two x y).2 = true := by
  rcases (two_ge x y).2.2 with h | h <;> rw [h] <;> assumption
theorem nxt_may {a b : Int} (h : (nxt a b).2.2 = 0) : may (nxt a b).1 (nxt a b).2.1 = true ∧ lt (a, b) ((nxt a b).1, (nxt a b).2.1) = true ∧ may a b = true := by
  have hm : may a b = true := by
    cases hh : may a b with
    | true => rfl
    | false => unfold nxt at h; rw [if_pos hh] at h; cases h
  have hm' := may_iff.1 hm
  have hnf : ¬ may a b = false := by rw [hm]; decide
  by_cases h1 : b < 1048575
  · have e : nxt a b = (a, b + 1, 0) := by unfold nxt; rw [if_neg hnf, if_pos h1]
    rw [e]
    exact ⟨may_iff.2 (by simp only; omega), lt_iff.2 (by show a < a ∨ (a = a ∧ b < b + 1); omega), hm⟩
  · by_cases h2 : a < 1099511627776
    · have e : nxt a b = (a + 1, 0, 0) := by unfold nxt; rw [if_neg hnf, if_neg h1, if_pos h2]
      rw [e]
      exact ⟨may_iff.2 (by simp only; omega), lt_iff.2 (by simp only; omega), hm⟩
    · have e : nxt a b = (0, 0, 5) := by unfold nxt; rw [if_neg hnf, if_neg h1, if_neg h2]
      rw [e] at h
      cases h
theorem atW_may {nv m : Int × Int} {own : It} {x : Tx} (h1 : may x.ww x.wl = true) (h2 : (nxt (two m nv).1 (two m nv).2).2.2 = 0) (h3 : may own.sw own.sl = true) : may (atW nv m own x).1 (atW nv m own x).2 = true :=
  two_may (two_may h1 (nxt_may h2).1) h3

/-! ### what is asked -/
theorem chkW_ok {ik : Bool} {c : Ch} {x : Tx} {m : Int × Int} (h : chkW ik c x m = 0) :
    ik = true ∧ mayX x = true ∧ may m.1 m.2 = true ∧ mayI (wIt x x.ww x.wl [c]) = true := by
  unfold chkW at h
  split at h
  · cases h
  · rename_i h1
    split at h
    · rename_i h2
      have h3 : (ik && (may x.rw x.rl && may x.lw x.ll && may m.1 m.2)) = true := by
        cases hh : (ik && (may x.rw x.rl && may x.lw x.ll && may m.1 m.2))
        · exact absurd hh h1
        · rfl
      simp only [Bool.and_eq_true] at h3
      obtain ⟨h3, ⟨h4, h5⟩, h6⟩ := h3
      refine ⟨h3, ?_, h6, h2⟩
      unfold mayX idOk
      unfold mayI hdr wIt at h2
      simp only [Bool.and_eq_true] at h2
      obtain ⟨⟨⟨⟨⟨⟨⟨i1, i2⟩, i3⟩, i4⟩, _⟩, _⟩, _⟩, _⟩ := h2
      have := isI_iff.1 i1
      have := isN_iff.1 i2
      simp only [h4, h5, Bool.and_true]
      exact decide_eq_true ⟨by omega, by omega, by omega, by omega⟩
    · cases h
theorem mayI_parts {x : It} : mayI x = true ↔ hdr x.id x.ep x.pr x.an = true ∧ may x.sw x.sl = true ∧ may x.bw x.bl = true ∧ (1 ≤ x.l.length ∧ x.l.length ≤ 16) ∧ rise 0 x.l = true := by
  unfold mayI
  simp only [Bool.and_eq_true, decide_eq_true_eq]
  constructor
  · rintro ⟨⟨⟨⟨a, b⟩, c⟩, d⟩, e⟩; exact ⟨a, b, c, d, e⟩
  · rintro ⟨a, b, c, d, e⟩; exact ⟨⟨⟨⟨a, b⟩, c⟩, d⟩, e⟩
theorem rise_snoc : ∀ (l : List Ch) (a : Int) (c : Ch), rise a l = true → (∀ h ∈ l, h.q < c.q) → okCh 0 c = true → a < c.q → rise a (l ++ [c]) = true
  | [], a, c, _, _, hc, ha => by
    unfold okCh at hc
    simp only [List.nil_append, rise, okCh, Bool.and_true]
    simp only [Bool.and_eq_true] at hc
    simp only [Bool.and_eq_true]
    exact ⟨⟨decide_eq_true ha, hc.1.2⟩, hc.2⟩
  | h :: l, a, c, hr, hl, hc, ha => by
    simp only [rise, Bool.and_eq_true] at hr
    simp only [List.cons_append, rise, Bool.and_eq_true]
    exact ⟨hr.1, rise_snoc l h.q c hr.2 (fun y hy => hl y (by simp [hy])) hc (hl h (by simp))⟩
theorem find_none_lt {l : List Ch} {c : Ch} (h : l.find? (fun h => decide (c.q ≤ h.q)) = none) : ∀ y ∈ l, y.q < c.q := by
  intro y hy
  have := List.find?_eq_none.1 h y hy
  simpa using this
theorem findW_no {l : List Ch} {c : Ch} (h1 : (findW l c).2 = 0) (h2 : (findW l c).1 = false) : (∀ y ∈ l, y.q < c.q) ∧ l.length ≠ 16 := by
  unfold findW at *
  cases hf : l.find? (fun h => decide (c.q ≤ h.q)) with
  | none =>
    rw [hf] at h1
    simp only at h1
    split at h1
    · cases h1
    · rename_i hl
      exact ⟨find_none_lt hf, hl⟩
  | some h =>
    rw [hf] at h1 h2
    simp only at h1 h2
    split at h1
    · split at h1
      · rename_i g1 g2
        rw [if_pos g1, if_pos g2] at h2
        cases h2
      · cases h1
    · cases h1
theorem findW_snoc {l : List Ch} {c : Ch} (h : ∀ y ∈ l, y.q < c.q) : findW (l ++ [c]) c = (true, 0) := by
  have hf : (l ++ [c]).find? (fun h => decide (c.q ≤ h.q)) = some c := by
    rw [List.find?_append, List.find?_eq_none.2 (fun y hy => by have := h y hy; simp; omega)]
    simp
  unfold findW
  rw [hf]
  simp
theorem zI_may : may zI.sw zI.sl = true := by decide
/-- What is written may be an intent. -/
theorem goW_may {nv m : Int × Int} {own : It} {c : Ch} {x : Tx} (h1 : mayI (wIt x x.ww x.wl [c]) = true) (ho : own = zI ∨ (mayI own = true)) {y : It} (hy : (goW nv own c x m).1.o = some y) :
    mayI y = true ∧ (goW nv own c x m).2 = 0 ∧ y = wIt x (atW nv m own x).1 (atW nv m own x).2 (own.l ++ [c]) ∧ ((goW nv own c x m).1.a, (goW nv own c x m).1.b) = atW nv m own x ∧ (∀ z ∈ own.l, z.q < c.q) ∧ (nxt (two m nv).1 (two m nv).2).2.2 = 0 := by
  unfold goW at *
  split at hy
  · rename_i g1
    rw [if_pos g1]
    split at hy
    · cases hy
    · rename_i g2
      rw [if_neg g2]
      have g2' : (findW own.l c).1 = false := by cases hh : (findW own.l c).1 <;> simp_all
      obtain ⟨f1, f2⟩ := findW_no g1 g2'
      unfold addW at *
      split at hy
      · rename_i g3
        rw [if_pos g3]
        injection hy with hy
        refine ⟨?_, rfl, hy.symm, rfl, f1, g3⟩
        rw [mayI_parts] at h1
        obtain ⟨e1, e2, e3, e4, e5⟩ := h1
        rw [← hy, mayI_parts]
        have hom : may own.sw own.sl = true := by rcases ho with rfl | ho; exact zI_may; exact (mayI_parts.1 ho).2.1
        have hol : own.l.length ≤ 16 ∧ rise 0 own.l = true := by
          rcases ho with rfl | ho
          · exact ⟨by decide, by decide⟩
          · exact ⟨(mayI_parts.1 ho).2.2.2.1.2, (mayI_parts.1 ho).2.2.2.2⟩
        have hck : okCh 0 c = true := by
          simp only [wIt, rise, Bool.and_true] at e5
          exact e5
        have hcq : 0 < c.q := by
          unfold okCh at hck
          simp only [Bool.and_eq_true, decide_eq_true_eq] at hck
          exact hck.1.1
        refine ⟨e1, atW_may e2 g3 hom, e3, ?_, rise_snoc _ _ _ hol.2 f1 hck hcq⟩
        show 1 ≤ (own.l ++ [c]).length ∧ (own.l ++ [c]).length ≤ 16
        rw [List.length_append]
        simp only [List.length_cons, List.length_nil]
        omega
      · cases hy
  · cases hy
end Go.Proofs.YtgccichmdddbpaaGreatDoor
set_option linter.unusedVariables false
set_option maxRecDepth 100000
namespace Go.Proofs.YtgccichmdddbpaaGreatDoor
open Go.RowKit

def bA : ByteArray := ⟨#[97]⟩
def thV (v : ByteArray) (wall : Int) : Th := ⟨0, bA, v, false, wall, 0, zI⟩
end Go.Proofs.YtgccichmdddbpaaGreatDoor
set_option linter.unusedVariables false
set_option linter.unusedSimpArgs false
set_option maxRecDepth 100000
namespace Go.Proofs.YtgccichmdddbpaaGreatDoor
open Go.RowKit

theorem cell_set_ne {w : World} {g i : Nat} {u : Value} {p : Addr} (h : p.block ≠ g) : (w.setCell ⟨g, i, none⟩ u).cell? p = w.cell? p := by
  unfold World.cell? World.setCell
  simp only [Array.getElem?_modify]
  rw [if_neg (fun e => h e.symm)]
theorem ChAt.put {w : World} {A : Option Addr} {n g i : Nat} {u : Value} {l : List Ch} (h : ChAt w A n l) (ha : 0 < n → ∀ a, A = some a → a.block ≠ g) : ChAt (w.setCell ⟨g, i, none⟩ u) A n l := by
  refine ⟨h.1, fun hn => ?_⟩
  obtain ⟨b, o, e, hc⟩ := h.2 hn
  have hb : b ≠ g := ha hn _ e
  refine ⟨b, o, e, fun i hi => ?_⟩
  obtain ⟨h1, h2, h3⟩ := hc i hi
  exact ⟨(cell_set_ne (by exact hb)).trans h1, (cell_set_ne (by exact hb)).trans h2, (cell_set_ne (by exact hb)).trans h3⟩
theorem ChAt.apart {w : World} {A : Option Addr} {n g : Nat} {t : TypeId} {cs : Array Value} {l : List Ch} (h : ChAt w A n l) (hB : Blk w g t cs)
    (hno : ∀ o q s d, cs[o]? = some (.int .i64 q) → cs[o + 1]? = some (.string s) → cs[o + 2]? = some (.bool d) → False) : 0 < n → ∀ a, A = some a → a.block ≠ g := by
  rintro hn a rfl e
  obtain ⟨b, o, e2, hc⟩ := h.2 hn
  cases e2
  simp only at e
  subst e
  obtain ⟨h1, h2, h3⟩ := hc 0 (by have := h.1; omega)
  rw [hB.cell] at h1 h2 h3
  simp only [Nat.zero_mul, Nat.add_zero] at h1 h2 h3
  exact hno _ _ _ _ h1 h2 h3
theorem it_no (x : It) (v : Value) (hv : ∀ d, v ≠ .bool d) : ∀ o q s d, (itc x v)[o]? = some (.int .i64 q) → (itc x v)[o + 1]? = some (.string s) → (itc x v)[o + 2]? = some (.bool d) → False := by
  intro o q s d _ _ h
  match o with
  | 0 | 1 | 2 | 3 | 4 | 5 => simp at h
  | 6 => simp at h; exact hv d h
  | n + 7 => simp at h
theorem fd_no (x : Fd) (v : Value) (hv : ∀ d, v ≠ .bool d) : ∀ o q s d, (fdc x v)[o]? = some (.int .i64 q) → (fdc x v)[o + 1]? = some (.string s) → (fdc x v)[o + 2]? = some (.bool d) → False := by
  intro o q s d h1 h2 h
  match o with
  | 0 | 1 | 2 | 3 | 4 | 5 | 6 | 7 | 8 | 9 | 10 | 11 => simp at h1 h2 h
  | 12 => simp at h; exact hv d h
  | n + 13 => simp at h
theorem rval_le {r : List Rw} (hz : Szs r) (k : ByteArray) : (rval r k).size ≤ 140737488351233 := by
  unfold rval
  split
  · cases h : r[rpos r k]? with
    | none => simp [ByteArray.size]
    | some x => exact (hz x (List.mem_of_getElem? h)).2.2
  · simp [ByteArray.size]
def AnsT (o : Option It) (e : Ending) (w' : World) : Prop :=
  match o with
  | none => e = .returned (.tuple #[itv zI (.slice none 0 0), .bool false])
  | some y => ∃ A n c, e = .returned (.tuple #[itv y (.slice A n c), .bool true]) ∧ ChAt w' A n y.l ∧ n ≤ 9223372036854775807
set_option maxHeartbeats 2000000 in
theorem intentAt_c {V : World} {p : Nat} {r : List Rw} {F : Nat → Prop} (h : (tbA p r).p V F) (hz : Szs r) (hM : MaxL V) (key : ByteArray) (hk : isK key = true) :
    Calls Tryz.prog 123 #[pt p, .string key] V fun e w' => AnsT (pint r key) e w' ∧ Below V.heap.size V w' := by
  have hK : ∀ W, Below V.heap.size V W → Calls Tryz.prog 89 #[.string key] W fun e w' => e = .returned (.tuple #[.string (bs (ikey (sb key))), .int .i64 0]) ∧ Below W.heap.size W w' := fun W hb => by
    have := intentKey_c key W (hM.below hb)
    unfold markK at this
    rw [if_pos hk, List.append_nil] at this
    exact this
  have hG := fun W (hb : Below V.heap.size V W) => tb_get (tbA_below h hb) (bs (ikey (sb key)))
  have hT := fun W => takeI_c (rval r (bs (ikey (sb key)))) W (by have := rval_le hz (bs (ikey (sb key))); omega)
  unfold pint
  generalize rval r (bs (ikey (sb key))) = t at *
  generalize rhas r (bs (ikey (sb key))) = hh at *
  generalize bs (ikey (sb key)) = kk at *
  have HK := Lib.hid hK
  have HG := Lib.hid hG
  have k0 := Blk.new V 38 (itc zI (.slice none 0 0))
  have g0 := nbl V (.cells (itc zI (.slice none 0 0)) 38)
  clear hK hG h hM hk hz
  cases ho : tkI (sb t) with
  | none =>
    simp only [ho, AnsI] at hT
    have HT := Lib.hid hT
    clear ho hT
    go_enter Tryz.func123, Tryz.ntmps123
    go_wp2_with (first
      | (go_at_call 89; refine (HK.out _ g0).mono ?_; rintro e w1 ⟨rfl, hb1⟩; have g1 := bst g0 hb1; have k1 := k0.below hb1 k0.lt)
      | (go_at_call 25; refine (HG.out _ g1).mono ?_; rintro e w2 ⟨rfl, hb2⟩; have g2 := bst g1 hb2; have k2 := k1.below hb2 k1.lt)
      | (go_at_call 93; refine (HT.out _).mono ?_; rintro e w3 ⟨rfl, hb3⟩
         have k3 := (k2.below hb3 k2.lt).below (nbl w3 (.cells (itc zI (.slice none 0 0)) 38)) (k2.below hb3 k2.lt).lt
         have g3 := bsa (bst g2 hb3) (.cells (itc zI (.slice none 0 0)) 38)
         have p0 := k3.cell 0
         have f0 := k3.frozen 0
         have p1 := k3.cell 1
         have f1 := k3.frozen 1
         have p2 := k3.cell 2
         have f2 := k3.frozen 2
         have p3 := k3.cell 3
         have f3 := k3.frozen 3
         have p4 := k3.cell 4
         have f4 := k3.frozen 4
         have p5 := k3.cell 5
         have f5 := k3.frozen 5
         have p6 := k3.cell 6
         have f6 := k3.frozen 6
         have p7 := k3.cell 7
         have f7 := k3.frozen 7
         have p8 := k3.cell 8
         have f8 := k3.frozen 8
         simp at p0 p1 p2 p3 p4 p5 p6 p7 p8
         have K3 := Lib.hid k3
         have G3 := Lib.hid g3
         clear hb1 hb2 hb3 k3 g3))
    exact ret_it rfl rfl (Blk.all9 (v0 := .int .i64 zI.id) (v1 := .int .i64 zI.ep) (v2 := .int .i64 zI.pr) (v3 := .string zI.an) (v4 := .int .i64 zI.sw) (v5 := .int .i64 zI.sl) (v6 := .int .i64 zI.bw) (v7 := .int .i64 zI.bl) (v8 := .slice none 0 0) (by exact K3.out)) rfl rfl ⟨rfl, (((((((((G3.out.setCell (by exact Nat.le_refl _) _).setCell (by exact Nat.le_refl _) _).setCell (by exact Nat.le_refl _) _).setCell (by exact Nat.le_refl _) _).setCell (by exact Nat.le_refl _) _).setCell (by exact Nat.le_refl _) _).setCell (by exact Nat.le_refl _) _).setCell (by exact Nat.le_refl _) _).setCell (by exact Nat.le_refl _) _)⟩
  | some y =>
    simp only [ho, AnsI] at hT
    have HT := Lib.hid hT
    clear ho hT
    go_enter Tryz.func123, Tryz.ntmps123
    go_wp2_with (first
      | (go_at_call 89; refine (HK.out _ g0).mono ?_; rintro e w1 ⟨rfl, hb1⟩; have g1 := bst g0 hb1; have k1 := k0.below hb1 k0.lt)
      | (go_at_call 25; refine (HG.out _ g1).mono ?_; rintro e w2 ⟨rfl, hb2⟩; have g2 := bst g1 hb2; have k2 := k1.below hb2 k1.lt)
      | (go_at_call 93; refine (HT.out _).mono ?_; rintro e w3 ⟨⟨A, n, c, rfl, hat, hnc, hcm, hap⟩, hb3⟩
         have hne := hat.apart (k2.below hb3 k2.lt) (it_no _ _ (fun d e => nomatch e))
         have HAT := Lib.hid (hat.below (nbl w3 (.cells (itc y (.slice A n c)) 38)))
         have HNE := Lib.hid hne
         clear hat hap hne
         have k3 := (k2.below hb3 k2.lt).below (nbl w3 (.cells (itc y (.slice A n c)) 38)) (k2.below hb3 k2.lt).lt
         have g3 := bsa (bst g2 hb3) (.cells (itc y (.slice A n c)) 38)
         have p0 := k3.cell 0
         have f0 := k3.frozen 0
         have p1 := k3.cell 1
         have f1 := k3.frozen 1
         have p2 := k3.cell 2
         have f2 := k3.frozen 2
         have p3 := k3.cell 3
         have f3 := k3.frozen 3
         have p4 := k3.cell 4
         have f4 := k3.frozen 4
         have p5 := k3.cell 5
         have f5 := k3.frozen 5
         have p6 := k3.cell 6
         have f6 := k3.frozen 6
         have p7 := k3.cell 7
         have f7 := k3.frozen 7
         have p8 := k3.cell 8
         have f8 := k3.frozen 8
         simp at p0 p1 p2 p3 p4 p5 p6 p7 p8
         have K3 := Lib.hid k3
         have G3 := Lib.hid g3
         clear hb1 hb2 hb3 k3 g3))
    have HA9 := Lib.hid ((((((((((HAT.out.put (g := V.heap.size) (i := 0) (u := .int .i64 y.id) HNE.out).put (g := V.heap.size) (i := 1) (u := .int .i64 y.ep) HNE.out).put (g := V.heap.size) (i := 2) (u := .int .i64 y.pr) HNE.out).put (g := V.heap.size) (i := 3) (u := .string y.an) HNE.out).put (g := V.heap.size) (i := 4) (u := .int .i64 y.sw) HNE.out).put (g := V.heap.size) (i := 5) (u := .int .i64 y.sl) HNE.out).put (g := V.heap.size) (i := 6) (u := .int .i64 y.bw) HNE.out).put (g := V.heap.size) (i := 7) (u := .int .i64 y.bl) HNE.out).put (g := V.heap.size) (i := 8) (u := .slice A n c) HNE.out))
    exact ret_it rfl rfl (Blk.all9 (v0 := .int .i64 y.id) (v1 := .int .i64 y.ep) (v2 := .int .i64 y.pr) (v3 := .string y.an) (v4 := .int .i64 y.sw) (v5 := .int .i64 y.sl) (v6 := .int .i64 y.bw) (v7 := .int .i64 y.bl) (v8 := .slice A n c) (by exact K3.out)) rfl rfl ⟨⟨A, n, c, rfl, HA9.out, by omega⟩, (((((((((G3.out.setCell (by exact Nat.le_refl _) _).setCell (by exact Nat.le_refl _) _).setCell (by exact Nat.le_refl _) _).setCell (by exact Nat.le_refl _) _).setCell (by exact Nat.le_refl _) _).setCell (by exact Nat.le_refl _) _).setCell (by exact Nat.le_refl _) _).setCell (by exact Nat.le_refl _) _).setCell (by exact Nat.le_refl _) _)⟩
set_option maxHeartbeats 2000000 in
theorem ownFound_c (key : ByteArray) (y : It) (A : Option Addr) (n c : Nat) (w : World) (hx : ChAt w A n y.l) (hn : n ≤ 9223372036854775807) (hne : y.l ≠ []) :
    Calls Tryz.prog 124 #[.string key, itv y (.slice A n c)] w fun e w' => e = .returned (fdv (ownF key y) (.slice none 0 0)) ∧ Below w.heap.size w w' := by
  have hl := hx.1
  obtain ⟨m, rfl⟩ : ∃ m, n = m + 1 := ⟨n - 1, by have := List.length_pos_iff.2 hne; omega⟩
  obtain ⟨b, o, rfl, hc⟩ := ((hx.below (nbl w (.cells (itc y (.slice A (m + 1) c)) 38))).below (nbl _ (.cells #[.string ⟨#[]⟩, .string ⟨#[]⟩, .bool false, .bool false, .int .i64 0, .int .i64 0, .int .i64 0, .int .i64 0, .int .i64 0, .string ⟨#[]⟩, .int .i64 0, .int .i64 0, .int .i64 0, .int .i64 0, .slice none 0 0] 73))).2 (by omega)
  have hm : m < y.l.length := by omega
  obtain ⟨c0, c1, c2⟩ := hc m hm
  have hgl : y.l.getLast? = some (y.l[m]'hm) := by
    rw [List.getLast?_eq_getElem?, hl]
    exact List.getElem?_eq_getElem hm
  unfold ownF
  rw [hgl]
  simp only [Option.map_some, Option.getD_some]
  obtain ⟨ch, hch⟩ : ∃ ch, y.l[m]'hm = ch := ⟨_, rfl⟩
  rw [hch] at c0 c1 c2 ⊢
  obtain ⟨q, s, d⟩ := ch
  simp only at c0 c1 c2 ⊢
  have hmm : ((m + 1 : Nat) : Int) - 1 = (m : Int) := by omega
  clear hx hc hgl hch hl hne
  go_enter Tryz.func124, Tryz.ntmps124
  have hz1 : (w.alloc (.cells (itc y (.slice (some ⟨b, o, none⟩) (m + 1) c)) 38)).heap.size = w.heap.size + 1 := World.size_alloc _ _
  have hB := Blk.new (w.alloc (.cells (itc y (.slice (some ⟨b, o, none⟩) (m + 1) c)) 38)) 73 (fdc ⟨key, s, !d, true, y.sw, y.sl, zI⟩ (.slice none 0 0))
  have HB1 := Lib.hid (hB.below (nbl _ (.cells #[.int .i64 q, .string s, .bool d] 24)) hB.lt)
  rw [hz1] at HB1
  have HG := Lib.hid (bsa (bsa (nbl w (.cells (itc y (.slice (some ⟨b, o, none⟩) (m + 1) c)) 38)) (.cells (fdc ⟨key, s, !d, true, y.sw, y.sl, zI⟩ (.slice none 0 0)) 73)) (.cells #[.int .i64 q, .string s, .bool d] 24))
  clear hz1 hB
  go_wp2_with fail
  exact ret_fd rfl rfl HB1.out rfl rfl ⟨rfl, HG.out⟩
end Go.Proofs.YtgccichmdddbpaaGreatDoor
set_option linter.unusedVariables false
set_option linter.unusedSimpArgs false
set_option maxRecDepth 100000
namespace Go.Proofs.YtgccichmdddbpaaGreatDoor
open Go.RowKit

theorem Blk.all12 {w : World} {g : Nat} {t : TypeId} {c0 c1 c2 c3 c4 c5 c6 c7 c8 c9 c10 c11 v0 v1 v2 v3 v4 v5 v6 v7 v8 v9 v10 v11 : Value} (h : Blk w g t #[c0, c1, c2, c3, c4, c5, c6, c7, c8, c9, c10, c11]) : Blk ((((((((((((w.setCell ⟨g, 0, none⟩ v0).setCell ⟨g, 1, none⟩ v1).setCell ⟨g, 2, none⟩ v2).setCell ⟨g, 3, none⟩ v3).setCell ⟨g, 4, none⟩ v4).setCell ⟨g, 5, none⟩ v5).setCell ⟨g, 6, none⟩ v6).setCell ⟨g, 7, none⟩ v7).setCell ⟨g, 8, none⟩ v8).setCell ⟨g, 9, none⟩ v9).setCell ⟨g, 10, none⟩ v10).setCell ⟨g, 11, none⟩ v11) g t #[v0, v1, v2, v3, v4, v5, v6, v7, v8, v9, v10, v11] := by
  have := ((((((((((((h.set_ 0 v0).set_ 1 v1).set_ 2 v2).set_ 3 v3).set_ 4 v4).set_ 5 v5).set_ 6 v6).set_ 7 v7).set_ 8 v8).set_ 9 v9).set_ 10 v10).set_ 11 v11)
  simpa using this
theorem ret_tx1 {fn : Func} {Q : Ending → World → Prop} {a : Act} {w : World} {p : Tmp} {g : Nat} {cs : Array Value} (hr : fn.results = #[.cell p 28]) (hp : a.tmps.getD p undef = .pointer (some ⟨g, 0, none⟩))
    (hB : Blk w g 28 cs) (hs : cs.size = 12) (hd : a.defers = []) (hR : Q (.returned (.agg cs)) w) : bodyPost Tryz.prog fn Q .ret a w := by
  refine bodyPost_ret ?_ hd hR
  have hp' : a.tmps[p]?.getD undef = .pointer (some ⟨g, 0, none⟩) := by simpa using hp
  simp [results, hr, hp', asAddr, run_loadVar_row w g 28 28 _ (0, 0) _ hB Tryz.underlying28 rfl (by rw [hs]; kernel_rfl)]
theorem ret_it1 {fn : Func} {Q : Ending → World → Prop} {a : Act} {w : World} {p : Tmp} {g : Nat} {cs : Array Value} (hr : fn.results = #[.cell p 38]) (hp : a.tmps.getD p undef = .pointer (some ⟨g, 0, none⟩))
    (hB : Blk w g 38 cs) (hs : cs.size = 9) (hd : a.defers = []) (hR : Q (.returned (.agg cs)) w) : bodyPost Tryz.prog fn Q .ret a w := by
  refine bodyPost_ret ?_ hd hR
  have hp' : a.tmps[p]?.getD undef = .pointer (some ⟨g, 0, none⟩) := by simpa using hp
  simp [results, hr, hp', asAddr, run_loadVar_row w g 38 38 _ (0, 0) _ hB Tryz.underlying38 rfl (by rw [hs]; kernel_rfl)]
/-- Things in a row, with what their intents' changes are. -/
def tfl (L : List (Th × Value)) : List Value := L.flatMap fun q => (thc q.1 q.2).toList
theorem tfl_len : ∀ (L : List (Th × Value)), (tfl L).length = L.length * 15
  | [] => rfl
  | q :: L => by
    have := tfl_len L
    unfold tfl at *
    rw [List.flatMap_cons, List.length_append, this]
    simp
    omega
theorem tfl_app (L M : List (Th × Value)) : tfl (L ++ M) = tfl L ++ tfl M := by unfold tfl; simp
theorem tfl_get : ∀ (L : List (Th × Value)) (i : Nat) (h : i < L.length) (j : Nat) (u : Value), (thc (L[i]'h).1 (L[i]'h).2)[j]? = some u → (tfl L)[i * 15 + j]? = some u
  | q :: L, 0, _, j, u, hu => by
    unfold tfl
    rw [List.flatMap_cons, Nat.zero_mul, Nat.zero_add]
    have hj : j < (thc q.1 q.2).toList.length := by
      obtain ⟨h1, _⟩ := Array.getElem?_eq_some_iff.1 hu
      simpa using h1
    rw [List.getElem?_append_left hj]
    simpa using hu
  | q :: L, i + 1, h, j, u, hu => by
    have ih := tfl_get L i (by simpa using h) j u (by simpa using hu)
    unfold tfl at *
    rw [List.flatMap_cons, List.getElem?_append_right (by simp; omega)]
    rw [← ih]
    congr 1
    simp
    omega
end Go.Proofs.YtgccichmdddbpaaGreatDoor
set_option linter.unusedVariables false
set_option linter.unusedSimpArgs false
set_option maxRecDepth 100000
namespace Go.Proofs.YtgccichmdddbpaaGreatDoor
open Go.RowKit

/-- What ReadVersion answers. -/
def AnsK (o : Option (List UInt8 × Int × Int)) : Ending :=
  match o with
  | none => .returned (.tuple #[.string ⟨#[]⟩, sv 0 0, .int .i64 4])
  | some (s, a, b) => .returned (.tuple #[.string ⟨s.toArray⟩, sv a b, .int .i64 0])
set_option maxHeartbeats 1000000 in
theorem readVersion_bad (k : ByteArray) (w : World) (hk : k.size ≤ 150000000000000) (s d : ByteArray) (hr : rkA (rk 118 (sb k)) = .returned (.tuple #[.string s, .string d, .bool true]))
    (a b n : Int) (t : ByteArray) (hT : ∀ V, Calls Tryz.prog 193 #[.string d] V fun e w' => e = .returned (.tuple #[sv a b, .string t, .int .i64 n]) ∧ Below V.heap.size V w') (hn : (n != 0) = true ∨ ((n != 0) = false ∧ t.toList ≠ [])) :
    Calls Tryz.prog 150 #[.string k] w fun e w' => e = .returned (.tuple #[.string ⟨#[]⟩, sv 0 0, .int .i64 4]) ∧ Below w.heap.size w w' := by
  have HC := Lib.hid (readKey_c 118 k (w.alloc (.cells #[.int .i64 0, .int .i64 0] 26)) hk)
  rw [hr] at HC
  have HX := Lib.hid (Blk.new w 26 #[.int .i64 0, .int .i64 0])
  have HT := Lib.hid hT
  clear hr hT
  rcases hn with hn | ⟨hn, ht⟩
  · go_enter Tryz.func150, Tryz.ntmps150
    go_wp2_with (first
    | (go_at_call 192; refine HC.out.mono ?_; rintro e w1 ⟨rfl, hb1⟩
       have g1 := (nbl w (.cells #[.int .i64 0, .int .i64 0] 26)).trans (hb1.mono (by simp))
       have k1 : Blk w1 w.heap.size 26 #[.int .i64 0, .int .i64 0] := HX.out.below hb1 (by simp))
    | (go_at_call 193; refine (HT.out _).mono ?_; rintro e w2 ⟨rfl, hb2⟩
       have k2 := k1.below hb2 k1.lt
       have c0 := k2.cell 0
       have c1 := k2.cell 1
       have f0 := k2.frozen 0
       have f1 := k2.frozen 1
       simp at c0 c1
       have g2 := g1.trans (hb2.mono g1.size)))
    refine ret_tct rfl rfl ((k2.all2 (v0 := .int .i64 a) (v1 := .int .i64 b)).all2 (v0 := .int .i64 0) (v1 := .int .i64 0)) rfl ⟨rfl, (((g2.setCell (by exact Nat.le_refl _) _).setCell (by exact Nat.le_refl _) _).setCell (by exact Nat.le_refl _) _).setCell (by exact Nat.le_refl _) _⟩
  · have hte : (t.toList == []) = false := by simpa using ht
    go_enter Tryz.func150, Tryz.ntmps150
    go_wp2_with (first
    | (go_at_call 192; refine HC.out.mono ?_; rintro e w1 ⟨rfl, hb1⟩
       have g1 := (nbl w (.cells #[.int .i64 0, .int .i64 0] 26)).trans (hb1.mono (by simp))
       have k1 : Blk w1 w.heap.size 26 #[.int .i64 0, .int .i64 0] := HX.out.below hb1 (by simp))
    | (go_at_call 193; refine (HT.out _).mono ?_; rintro e w2 ⟨rfl, hb2⟩
       have k2 := k1.below hb2 k1.lt
       have c0 := k2.cell 0
       have c1 := k2.cell 1
       have f0 := k2.frozen 0
       have f1 := k2.frozen 1
       simp at c0 c1
       have g2 := g1.trans (hb2.mono g1.size)))
    refine ret_tct rfl rfl ((k2.all2 (v0 := .int .i64 a) (v1 := .int .i64 b)).all2 (v0 := .int .i64 0) (v1 := .int .i64 0)) rfl ⟨rfl, (((g2.setCell (by exact Nat.le_refl _) _).setCell (by exact Nat.le_refl _) _).setCell (by exact Nat.le_refl _) _).setCell (by exact Nat.le_refl _) _⟩
theorem rk_size {m : UInt8} {k s r : List UInt8} (h : rk m k = some (s, r)) : r.length ≤ k.length ∧ 1 ≤ s.length ∧ s.length ≤ 32 ∧ k = m :: (okey s ++ r) := by
  unfold rk at h
  split at h
  · rename_i hh
    cases ht : tkey 1000 (k.drop 1) with
    | error x => rw [ht] at h; cases h
    | ok p =>
      rw [ht] at h
      simp only at h
      split at h
      · rename_i hl
        cases h
        have hb := (tkey_back _ _ _ _ _ (Nat.le_refl _) ht).1
        have hk : k = m :: (okey s ++ r) := by
          cases k with
          | nil => cases hh
          | cons c k =>
            simp only [List.head?_cons, Option.some.injEq] at hh
            subst hh
            simp only [List.drop_succ_cons, List.drop_zero] at hb
            rw [← hb]
            unfold okey
            simp
        exact ⟨by rw [hk]; simp; omega, hl.1, hl.2, hk⟩
      · cases h
  · cases h
theorem readV_c (k : ByteArray) (w : World) (hk : k.size ≤ 150000000000000) :
    Calls Tryz.prog 150 #[.string k] w fun e w' => e = AnsK (rdVK (sb k)) ∧ Below w.heap.size w w' := by
  unfold rdVK
  cases hr : rk 118 (sb k) with
  | none => exact readVersion_no k w hk hr
  | some p =>
    obtain ⟨s, r⟩ := p
    have hrs := (rk_size hr).1
    rw [sb_len] at hrs
    have hTD := fun V => takeDownAny (bs r) V (by show r.length ≤ _; omega)
    have hob : ob (bs r) = r := rfl
    rw [hob] at hTD
    have hrk : rkA (rk 118 (sb k)) = .returned (.tuple #[.string (bs s), .string (bs r), .bool true]) := by rw [hr]; rfl
    cases ht : tdown r with
    | error x =>
      rw [ht] at hTD
      have hx : x ≠ 0 := by
        unfold tdown at ht
        split at ht
        · cases ht; decide
        · split at ht
          · cases ht
          · cases ht; decide
      simp only [ht]
      exact readVersion_bad k w hk _ _ hrk _ _ _ _ hTD (.inl (by show ((x : Int) != 0) = true; simpa using hx))
    | ok q =>
      obtain ⟨a, b, l⟩ := q
      rw [ht] at hTD
      cases l with
      | nil =>
        obtain ⟨hm, ho⟩ := odown_tdown _ _ _ _ ht
        rw [List.append_nil] at ho
        simp only [ht]
        exact readVersion_c k w hk s a b hm (by rw [hr, ho])
      | cons c l =>
        simp only [ht]
        exact readVersion_bad k w hk _ _ hrk _ _ _ _ hTD (.inr ⟨rfl, by rw [Lib.toList_data]; simp [tdR]⟩)
end Go.Proofs.YtgccichmdddbpaaGreatDoor
