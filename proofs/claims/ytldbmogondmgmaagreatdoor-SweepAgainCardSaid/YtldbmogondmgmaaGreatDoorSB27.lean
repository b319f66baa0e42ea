/-
  Layer 12, plain: things that stand in a table; what is read under a key.
  Layer 12, the statements' helpers: a thing as a change.
  Layer 12, the statements' helpers: things laid as changes; tables that have them.
  Layer 12, plain: a transaction, what is found, what is read under a key; how they lie in memory.
  Layer 12: ReadVersion, whole.
  Plain: what stands between two keys, as a filter; versions' keys in their order; the greater of two texts.
  Layer 10, plain: who is there, and what has it, behind a change.
-/
import Derived.Test.YtldbmogondmgmaaGreatDoorSB16
import Derived.Test.YtldbmogondmgmaaGreatDoorSB25
import Derived.Test.YtldbmogondmgmaaGreatDoorSB26
set_option linter.unusedVariables false
namespace Go.Proofs.YtldbmogondmgmaaGreatDoor
open Go.RowKit

structure Th where
  k : Int
  key : ByteArray
  value : ByteArray
  gone : Bool
  sw : Int
  sl : Int
  it : It
/-- The keys of a version, of an intent. -/
def vkey (s : List UInt8) (a b : Int) : List UInt8 := 118 :: (okey s ++ odown a b)
def ikey (s : List UInt8) : List UInt8 := 105 :: okey s
def bs (l : List UInt8) : ByteArray := ⟨l.toArray⟩
theorem sb_bs (l : List UInt8) : sb (bs l) = l := rfl
theorem bs_sb (s : ByteArray) : bs (sb s) = s := mk_tb s
/-- Which kind a thing is. -/
def kd (k : Int) : Int := (k.tmod 3 + 3).tmod 3
/-- What the document's VersionKey, Version, IntentKey, Intent answer. -/
def vkS (s : ByteArray) (a b : Int) : ByteArray := if s.size ≤ 1000 ∧ may a b = true then bs (vkey (sb s) a b) else ⟨#[]⟩
def ikS (s : ByteArray) : ByteArray := if s.size ≤ 1000 then bs (ikey (sb s)) else ⟨#[]⟩
def okV (x : Th) : Bool := decide (x.key.size ≤ 1000) && may x.sw x.sl && isV (if x.gone then ⟨#[]⟩ else x.value) (!x.gone)
def okI (x : Th) : Bool := decide (x.key.size ≤ 1000) && mayI x.it
/-- A thing's change, if it can stand there. -/
def opOf (x : Th) : Option Op_ :=
  if kd x.k = 0 then (if okV x then some ⟨bs (vkey (sb x.key) x.sw x.sl), bs (txV (if x.gone then ⟨#[]⟩ else x.value) (!x.gone)), false⟩ else none)
  else if kd x.k = 1 then (if okI x then some ⟨bs (ikey (sb x.key)), bs (txI x.it), false⟩ else none)
  else some ⟨x.key, x.value, false⟩
/-! ### things in memory -/
abbrev thc (x : Th) (v : Value) : Array Value := #[.int .i64 x.k, .string x.key, .string x.value, .bool x.gone, .int .i64 x.sw, .int .i64 x.sl, .int .i64 x.it.id, .int .i64 x.it.ep, .int .i64 x.it.pr, .string x.it.an, .int .i64 x.it.sw, .int .i64 x.it.sl, .int .i64 x.it.bw, .int .i64 x.it.bl, v]
def ThAt (w : World) (A : Option Addr) (n : Nat) (l : List Th) : Prop :=
  l.length = n ∧ (0 < n → ∃ b o, A = some ⟨b, o, none⟩ ∧ ∀ i (h : i < l.length), ∃ Ai ni ci, (∀ j u, (thc (l[i]'h) (.slice Ai ni ci))[j]? = some u → w.cell? ⟨b, o + i * 15 + j, none⟩ = some u) ∧ ChAt w Ai ni (l[i]'h).it.l ∧ ni ≤ 9223372036854775807)
theorem ThAt.below {w w' : World} {A : Option Addr} {n : Nat} {l : List Th} (h : ThAt w A n l) (hb : Below w.heap.size w w') : ThAt w' A n l := by
  refine ⟨h.1, fun hn => ?_⟩
  obtain ⟨b, o, e, hc⟩ := h.2 hn
  refine ⟨b, o, e, fun i hi => ?_⟩
  obtain ⟨Ai, ni, ci, h1, h2, h3⟩ := hc i hi
  exact ⟨Ai, ni, ci, fun j u hu => kept_below hb _ _ (h1 j u hu), h2.below hb, h3⟩
theorem ThAt.nil (w : World) (A : Option Addr) : ThAt w A 0 [] := ⟨rfl, fun h => absurd h (by omega)⟩

/-! ### sizes -/
theorem odown_le (a b : Int) : (odown a b).length ≤ 9 := by
  unfold odown
  simp [wide_len]
theorem okey_le (s : List UInt8) (h : s.length ≤ 1000) : (okey s).length ≤ 2002 := by
  have := esc_len s
  unfold okey
  rw [List.length_append]
  simp
  omega
end Go.Proofs.YtldbmogondmgmaaGreatDoor
set_option linter.unusedVariables false
set_option linter.unusedSimpArgs false
set_option maxRecDepth 100000
namespace Go.Proofs.YtldbmogondmgmaaGreatDoor
open Go.RowKit

theorem kS_sz (s : ByteArray) : (kS s).size ≤ 2002 := by
  unfold kS
  split
  · exact okey_le (ob s) (by show s.size ≤ _; assumption)
  · decide
theorem dS_sz (a b : Int) : (dS a b).size ≤ 9 := by
  unfold dS
  split
  · exact odown_le a b
  · decide
theorem vk_cat (s : ByteArray) (a b : Int) (h : s.size ≤ 1000) (hm : may a b = true) : (⟨#[118]⟩ : ByteArray) ++ kS s ++ dS a b = vkS s a b := by
  unfold vkS kS dS
  rw [if_pos h, if_pos hm, if_pos ⟨h, hm⟩]
  apply ByteArray.ext
  simp [bs, vkey, ob_sb]
theorem ik_cat (s : ByteArray) (h : s.size ≤ 1000) : (⟨#[105]⟩ : ByteArray) ++ kS s = ikS s := by
  unfold ikS kS
  rw [if_pos h, if_pos h]
  apply ByteArray.ext
  simp [bs, ikey, ob_sb]
def vkE (s : ByteArray) (a b : Int) : Int := if s.size ≤ 1000 ∧ may a b = true then 0 else 2
def ikE (s : ByteArray) : Int := if s.size ≤ 1000 then 0 else 2
theorem rVersionKey (s : ByteArray) (a b : Int) (w : World) : Calls Tryz.prog 76 #[.string s, sv a b] w fun e w' => e = .returned (.tuple #[.string (vkS s a b), .int .i64 (vkE s a b)]) ∧ Below w.heap.size w w' := by
  have hX := Blk.new w 26 #[.int .i64 a, .int .i64 b]
  have g0 := nbl w (.cells #[.int .i64 a, .int .i64 b] 26)
  have HK := Lib.hid (fun V => refKeyAny s V)
  have HD := Lib.hid (fun V => refDownAny a b V)
  have z1 := kS_sz s
  have z2 := dS_sz a b
  have HX := Lib.hid hX
  have G0 := Lib.hid g0
  have hE : kE s = if s.size ≤ 1000 then 0 else 5 := rfl
  have hF : dE a b = if may a b = true then 0 else 2 := rfl
  rw [hE] at HK
  rw [hF] at HD
  clear hX g0 hE hF
  by_cases h1 : s.size ≤ 1000
  · rw [if_pos h1] at HK
    cases h2 : may a b
    · rw [h2] at HD
      simp only [Bool.false_eq_true, if_false] at HD
      have hR := Lib.hid (show vkS s a b = ⟨#[]⟩ ∧ vkE s a b = 2 by unfold vkS vkE; rw [if_neg (by rw [h2]; simp), if_neg (by rw [h2]; simp)]; exact ⟨rfl, rfl⟩)
      rw [hR.out.1, hR.out.2]
      clear h2
      go_enter Tryz.func76, Tryz.ntmps76
      go_wp2_with (first
        | (go_at_call 141; refine (HK.out _).mono ?_; rintro e w1 ⟨rfl, b1⟩
           have k := HX.out.below b1 HX.out.lt
           have x0 := k.cell 0
           have x1 := k.cell 1
           simp at x0 x1
           have c1 := Lib.hid (bst G0.out b1)
           clear k)
        | (go_at_call 142; refine (HD.out _).mono ?_; rintro e w2 ⟨rfl, b2⟩))
      go_ret2
      exact ⟨rfl, bst c1.out b2⟩
    · rw [h2] at HD
      simp only [if_true] at HD
      have hR := Lib.hid (show vkE s a b = 0 by unfold vkE; rw [if_pos ⟨h1, h2⟩])
      have hC := Lib.hid (vk_cat s a b h1 h2)
      rw [hR.out]
      generalize vkS s a b = rs at *
      generalize kS s = k1 at *
      generalize dS a b = k2 at *
      have zz : ¬ 9223372036854775807 < 1 + k1.size := by omega
      have hq : (⟨#[118]⟩ ++ k1 : ByteArray).size = 1 + k1.size := by rw [ByteArray.size_append]; rfl
      obtain ⟨k3, hk3⟩ : ∃ k3, (⟨#[118]⟩ ++ k1 : ByteArray) = k3 := ⟨_, rfl⟩
      have zy : ¬ 9223372036854775807 < k3.size + k2.size := by rw [← hk3, hq]; omega
      have hC3 := hC.out
      rw [hk3] at hC3 hq
      clear h2
      go_enter Tryz.func76, Tryz.ntmps76
      go_wp2_with (first
        | (go_at_call 141; refine (HK.out _).mono ?_; rintro e w1 ⟨rfl, b1⟩
           have k := HX.out.below b1 HX.out.lt
           have x0 := k.cell 0
           have x1 := k.cell 1
           simp at x0 x1
           have c1 := Lib.hid (bst G0.out b1)
           clear k)
        | (go_at_call 142; refine (HD.out _).mono ?_; rintro e w2 ⟨rfl, b2⟩))
      go_ret2
      exact ⟨rfl, bst c1.out b2⟩
  · rw [if_neg h1] at HK
    have hR := Lib.hid (show vkS s a b = ⟨#[]⟩ ∧ vkE s a b = 2 by unfold vkS vkE; rw [if_neg (fun h => h1 h.1), if_neg (fun h => h1 h.1)]; exact ⟨rfl, rfl⟩)
    rw [hR.out.1, hR.out.2]
    go_enter Tryz.func76, Tryz.ntmps76
    go_wp2_with (first
      | (go_at_call 141; refine (HK.out _).mono ?_; rintro e w1 ⟨rfl, b1⟩
         have k := HX.out.below b1 HX.out.lt
         have x0 := k.cell 0
         have x1 := k.cell 1
         simp at x0 x1
         have c1 := Lib.hid (bst G0.out b1)
         clear k)
      | (go_at_call 142; refine (HD.out _).mono ?_; rintro e w2 ⟨rfl, b2⟩))
    all_goals go_ret2
    all_goals exact ⟨rfl, bst c1.out b2⟩
theorem rIntentKey (s : ByteArray) (w : World) : Calls Tryz.prog 79 #[.string s] w fun e w' => e = .returned (.tuple #[.string (ikS s), .int .i64 (ikE s)]) ∧ Below w.heap.size w w' := by
  have HK := Lib.hid (fun V => refKeyAny s V)
  have z1 := kS_sz s
  have hE : kE s = if s.size ≤ 1000 then 0 else 5 := rfl
  rw [hE] at HK
  clear hE
  by_cases h1 : s.size ≤ 1000
  · rw [if_pos h1] at HK
    have hR := Lib.hid (show ikE s = 0 by unfold ikE; rw [if_pos h1])
    have hC := ik_cat s h1
    rw [hR.out]
    generalize ikS s = rs at *
    generalize kS s = k1 at *
    have zz : ¬ 9223372036854775807 < 1 + k1.size := by omega
    go_enter Tryz.func79, Tryz.ntmps79
    go_wp2_with (go_at_call 141; refine (HK.out _).mono ?_; rintro e w1 ⟨rfl, b1⟩)
    go_ret2
    exact ⟨rfl, b1⟩
  · rw [if_neg h1] at HK
    have hR := Lib.hid (show ikS s = ⟨#[]⟩ ∧ ikE s = 2 by unfold ikS ikE; rw [if_neg h1, if_neg h1]; exact ⟨rfl, rfl⟩)
    rw [hR.out.1, hR.out.2]
    go_enter Tryz.func79, Tryz.ntmps79
    go_wp2_with (go_at_call 141; refine (HK.out _).mono ?_; rintro e w1 ⟨rfl, b1⟩)
    go_ret2
    exact ⟨rfl, b1⟩
theorem ansT_form (ok : Bool) (l : List UInt8) : ansT ok l = .returned (.tuple #[.string (if ok then bs l else ⟨#[]⟩), .int .i64 (if ok then 0 else 2)]) := rfl
/-- What op answers: the change, and whether it can stand there. -/
def ThP (x : Th) (w : World) (e : Ending) (w' : World) : Prop := ∃ k v, e = .returned (.tuple #[.agg #[.string k, .string v, .bool false], .bool (opOf x).isSome]) ∧ (∀ o, opOf x = some o → o = ⟨k, v, false⟩) ∧ Below w.heap.size w w'
theorem ThP.mk {x : Th} {w w' : World} {k v : ByteArray} {b : Bool} (hs : opOf x = if b then some ⟨k, v, false⟩ else none) (hb : Below w.heap.size w w') : ThP x w (.returned (.tuple #[.agg #[.string k, .string v, .bool false], .bool b])) w' := by
  refine ⟨k, v, ?_, fun o ho => ?_, hb⟩
  · rw [hs]; cases b <;> rfl
  · rw [hs] at ho
    cases b
    · cases ho
    · injection ho with ho
      exact ho.symm
end Go.Proofs.YtldbmogondmgmaaGreatDoor
set_option linter.unusedVariables false
set_option linter.unusedSimpArgs false
set_option maxRecDepth 100000
namespace Go.Proofs.YtldbmogondmgmaaGreatDoor
open Go.RowKit

theorem ORow.keep {w w' : World} {B n : Nat} {v : Value} {l : List Op_} (h : ORow w B v n l) (hb : Below w.heap.size w w') : ORow w' B v n l :=
  World.ownsRow.kept h (row := none) ⟨hb.os, hb.tape, hb.output, hb.size, fun k hk _ => hb.block k hk⟩ (by
    cases hv : v.ownBlock with
    | none => exact .inl rfl
    | some q => exact .inr (by simp))
theorem ORow.lt {w : World} {B n : Nat} {v : Value} {l : List Op_} (h : ORow w B v n l) (k : Nat) (e : v.ownBlock = some k) : B ≤ k ∧ k < w.heap.size := World.ownsRow.lt h k e
theorem slo_size (w : World) : (sizeOf 98).run Tryz.prog w = .ok 3 w := by kernel_rfl
theorem slo_elem : Tryz.prog.elem 36 = 98 := by kernel_rfl
theorem slo_under : Tryz.prog.underlying 36 = some (.slice (Tryz.prog.elem 36)) := by rw [slo_elem]; exact Tryz.underlying36
theorem slo_one (q n c j : Nat) (w : World) (h : j + 1 ≤ c) :
    (Instr.slice 36 (.slice (some ⟨q, 0, none⟩) n c) (some (.int .i64 (j : Int))) (some (.int .i64 ((j : Int) + 1))) none).run Tryz.prog w = .ok (.slice (some ⟨q, j * 3, none⟩) 1 (c - j)) w := by
  rw [run_slice_lh w 36 (some ⟨q, 0, none⟩) n c slo_under .i64 .i64 (j : Int) ((j : Int) + 1) (by omega) (by omega) (by omega), slo_elem, slo_size]
  simp only [Result.andThen, sliced, Int.toNat_natCast]
  have e1 : ((j : Int) + 1).toNat = j + 1 := by omega
  rw [e1, if_neg (by omega)]
  simp [Addr.add]
  omega
theorem OAt.pick {w : World} {q n : Nat} {l : List Op_} (h : OAt w (some ⟨q, 0, none⟩) n l) {j : Nat} (hj : j < l.length) : OAt w (some ⟨q, j * 3, none⟩) 1 [l[j]'hj] := by
  obtain ⟨b, o, e, hc⟩ := h.2 (by have := h.1; omega)
  cases e
  refine ⟨rfl, fun _ => ⟨q, j * 3, rfl, fun i hi => ?_⟩⟩
  have : i = 0 := by simp at hi; omega
  subst this
  have := hc j hj
  simpa using this
section
variable {w V V' : World} {l T : List As} {A2 : As} {p b : Nat} {r : List Rw}
theorem Has.rtApplyB (h : Has w (rtA b r :: A2 :: T) V) (hr : r.length ≤ 999999000) (A : Option Addr) (n c : Nat) (ops : List Op_) (ho : ∀ W F2, A2.p W F2 → OAt W A n ops) (hn : n ≤ 9223372036854775807) :
    Calls Tryz.prog 36 #[pt b, .slice A n c] V fun e w' => e = .returned (.int .i64 (chk ops)) ∧ Has w (rtA b (rapp r ops) :: A2 :: T) w' := by
  obtain ⟨F, h1, h1b, h2, h3⟩ := h.step2
  refine (rt_apply h1 A n c ops (fun W hg => by obtain ⟨F2, h4⟩ := h2 W hg; exact ho W F2 h4) hn hr).mono ?_
  rintro e w' ⟨hq, F', h4, h5, h6⟩
  exact ⟨hq, h3 w' _ F' h5 h4 h6⟩
end
end Go.Proofs.YtldbmogondmgmaaGreatDoor
set_option linter.unusedVariables false
set_option linter.unusedSimpArgs false
set_option maxRecDepth 100000
namespace Go.Proofs.YtldbmogondmgmaaGreatDoor
open Go.RowKit

structure Tx where
  id : Int
  ep : Int
  pr : Int
  an : ByteArray
  rw : Int
  rl : Int
  ww : Int
  wl : Int
  lw : Int
  ll : Int
  bw : Int
  bl : Int
/-- What is found: 'it' is what is in the way. -/
structure Fd where
  key : ByteArray
  value : ByteArray
  is_ : Bool
  own : Bool
  sw : Int
  sl : Int
  it : It
/-- What a table's key says, if it is a version's. -/
def rdVK (k : List UInt8) : Option (List UInt8 × Int × Int) :=
  match rk 118 k with
  | none => none
  | some (s, r) => match tdown r with
    | .ok (a, b, []) => some (s, a, b)
    | _ => none
/-! ### forms -/
theorem Blk.all15 {w : World} {g : Nat} {t : TypeId} {c0 c1 c2 c3 c4 c5 c6 c7 c8 c9 c10 c11 c12 c13 c14 v0 v1 v2 v3 v4 v5 v6 v7 v8 v9 v10 v11 v12 v13 v14 : Value} (h : Blk w g t #[c0, c1, c2, c3, c4, c5, c6, c7, c8, c9, c10, c11, c12, c13, c14]) : Blk (((((((((((((((w.setCell ⟨g, 0, none⟩ v0).setCell ⟨g, 1, none⟩ v1).setCell ⟨g, 2, none⟩ v2).setCell ⟨g, 3, none⟩ v3).setCell ⟨g, 4, none⟩ v4).setCell ⟨g, 5, none⟩ v5).setCell ⟨g, 6, none⟩ v6).setCell ⟨g, 7, none⟩ v7).setCell ⟨g, 8, none⟩ v8).setCell ⟨g, 9, none⟩ v9).setCell ⟨g, 10, none⟩ v10).setCell ⟨g, 11, none⟩ v11).setCell ⟨g, 12, none⟩ v12).setCell ⟨g, 13, none⟩ v13).setCell ⟨g, 14, none⟩ v14) g t #[v0, v1, v2, v3, v4, v5, v6, v7, v8, v9, v10, v11, v12, v13, v14] := by
  have := (((((((((((((((h.set_ 0 v0).set_ 1 v1).set_ 2 v2).set_ 3 v3).set_ 4 v4).set_ 5 v5).set_ 6 v6).set_ 7 v7).set_ 8 v8).set_ 9 v9).set_ 10 v10).set_ 11 v11).set_ 12 v12).set_ 13 v13).set_ 14 v14)
  simpa using this
end Go.Proofs.YtldbmogondmgmaaGreatDoor
set_option linter.unusedVariables false
set_option linter.unusedSimpArgs false
set_option maxRecDepth 100000
namespace Go.Proofs.YtldbmogondmgmaaGreatDoor
open Go.RowKit

/-- What ReadVersion answers. -/
def AnsK (o : Option (List UInt8 × Int × Int)) : Ending :=
  match o with
  | none => .returned (.tuple #[.string ⟨#[]⟩, sv 0 0, .int .i64 4])
  | some (s, a, b) => .returned (.tuple #[.string ⟨s.toArray⟩, sv a b, .int .i64 0])
set_option maxHeartbeats 1000000 in
theorem readVersion_bad (k : ByteArray) (w : World) (hk : k.size ≤ 150000000000000) (s d : ByteArray) (hr : rkA (rk 118 (sb k)) = .returned (.tuple #[.string s, .string d, .bool true]))
    (a b n : Int) (t : ByteArray) (hT : ∀ V, Calls Tryz.prog 87 #[.string d] V fun e w' => e = .returned (.tuple #[sv a b, .string t, .int .i64 n]) ∧ Below V.heap.size V w') (hn : (n != 0) = true ∨ ((n != 0) = false ∧ t.toList ≠ [])) :
    Calls Tryz.prog 28 #[.string k] w fun e w' => e = .returned (.tuple #[.string ⟨#[]⟩, sv 0 0, .int .i64 4]) ∧ Below w.heap.size w w' := by
  have HC := Lib.hid (readKey_c 118 k (w.alloc (.cells #[.int .i64 0, .int .i64 0] 26)) hk)
  rw [hr] at HC
  have HX := Lib.hid (Blk.new w 26 #[.int .i64 0, .int .i64 0])
  have HT := Lib.hid hT
  clear hr hT
  rcases hn with hn | ⟨hn, ht⟩
  · go_enter Tryz.func28, Tryz.ntmps28
    go_wp2_with (first
    | (go_at_call 86; refine HC.out.mono ?_; rintro e w1 ⟨rfl, hb1⟩
       have g1 := (nbl w (.cells #[.int .i64 0, .int .i64 0] 26)).trans (hb1.mono (by simp))
       have k1 : Blk w1 w.heap.size 26 #[.int .i64 0, .int .i64 0] := HX.out.below hb1 (by simp))
    | (go_at_call 87; refine (HT.out _).mono ?_; rintro e w2 ⟨rfl, hb2⟩
       have k2 := k1.below hb2 k1.lt
       have c0 := k2.cell 0
       have c1 := k2.cell 1
       have f0 := k2.frozen 0
       have f1 := k2.frozen 1
       simp at c0 c1
       have g2 := g1.trans (hb2.mono g1.size)))
    refine ret_tct rfl rfl ((k2.all2 (v0 := .int .i64 a) (v1 := .int .i64 b)).all2 (v0 := .int .i64 0) (v1 := .int .i64 0)) rfl ⟨rfl, (((g2.setCell (by exact Nat.le_refl _) _).setCell (by exact Nat.le_refl _) _).setCell (by exact Nat.le_refl _) _).setCell (by exact Nat.le_refl _) _⟩
  · have hte : (t.toList == []) = false := by simpa using ht
    go_enter Tryz.func28, Tryz.ntmps28
    go_wp2_with (first
    | (go_at_call 86; refine HC.out.mono ?_; rintro e w1 ⟨rfl, hb1⟩
       have g1 := (nbl w (.cells #[.int .i64 0, .int .i64 0] 26)).trans (hb1.mono (by simp))
       have k1 : Blk w1 w.heap.size 26 #[.int .i64 0, .int .i64 0] := HX.out.below hb1 (by simp))
    | (go_at_call 87; refine (HT.out _).mono ?_; rintro e w2 ⟨rfl, hb2⟩
       have k2 := k1.below hb2 k1.lt
       have c0 := k2.cell 0
       have c1 := k2.cell 1
       have f0 := k2.frozen 0
       have f1 := k2.frozen 1
       simp at c0 c1
       have g2 := g1.trans (hb2.mono g1.size)))
    refine ret_tct rfl rfl ((k2.all2 (v0 := .int .i64 a) (v1 := .int .i64 b)).all2 (v0 := .int .i64 0) (v1 := .int .i64 0)) rfl ⟨rfl, (((g2.setCell (by exact Nat.le_refl _) _).setCell (by exact Nat.le_refl _) _).setCell (by exact Nat.le_refl _) _).setCell (by exact Nat.le_refl _) _⟩
theorem rk_size {m : UInt8} {k s r : List UInt8} (h : rk m k = some (s, r)) : r.length ≤ k.length ∧ 1 ≤ s.length ∧ s.length ≤ 32 ∧ k = m :: (okey s ++ r) := by
  unfold rk at h
  split at h
  · rename_i hh
    cases ht : tkey 1000 (k.drop 1) with
    | error x => rw [ht] at h; cases h
    | ok p =>
      rw [ht] at h
      simp only at h
      split at h
      · rename_i hl
        cases h
        have hb := (tkey_back _ _ _ _ _ (Nat.le_refl _) ht).1
        have hk : k = m :: (okey s ++ r) := by
          cases k with
          | nil => cases hh
          | cons c k =>
            simp only [List.head?_cons, Option.some.injEq] at hh
            subst hh
            simp only [List.drop_succ_cons, List.drop_zero] at hb
            rw [← hb]
            unfold okey
            simp
        exact ⟨by rw [hk]; simp; omega, hl.1, hl.2, hk⟩
      · cases h
  · cases h
theorem readV_c (k : ByteArray) (w : World) (hk : k.size ≤ 150000000000000) :
    Calls Tryz.prog 28 #[.string k] w fun e w' => e = AnsK (rdVK (sb k)) ∧ Below w.heap.size w w' := by
  unfold rdVK
  cases hr : rk 118 (sb k) with
  | none => exact readVersion_no k w hk hr
  | some p =>
    obtain ⟨s, r⟩ := p
    have hrs := (rk_size hr).1
    rw [sb_len] at hrs
    have hTD := fun V => takeDownAny (bs r) V (by show r.length ≤ _; omega)
    have hob : ob (bs r) = r := rfl
    rw [hob] at hTD
    have hrk : rkA (rk 118 (sb k)) = .returned (.tuple #[.string (bs s), .string (bs r), .bool true]) := by rw [hr]; rfl
    cases ht : tdown r with
    | error x =>
      rw [ht] at hTD
      have hx : x ≠ 0 := by
        unfold tdown at ht
        split at ht
        · cases ht; decide
        · split at ht
          · cases ht
          · cases ht; decide
      simp only [ht]
      exact readVersion_bad k w hk _ _ hrk _ _ _ _ hTD (.inl (by show ((x : Int) != 0) = true; simpa using hx))
    | ok q =>
      obtain ⟨a, b, l⟩ := q
      rw [ht] at hTD
      cases l with
      | nil =>
        obtain ⟨hm, ho⟩ := odown_tdown _ _ _ _ ht
        rw [List.append_nil] at ho
        simp only [ht]
        exact readVersion_c k w hk s a b hm (by rw [hr, ho])
      | cons c l =>
        simp only [ht]
        exact readVersion_bad k w hk _ _ hrk _ _ _ _ hTD (.inr ⟨rfl, by rw [Lib.toList_data]; simp [tdR]⟩)
end Go.Proofs.YtldbmogondmgmaaGreatDoor
set_option linter.unusedVariables false
set_option linter.unusedSimpArgs false
set_option maxRecDepth 100000
namespace Go.Proofs.YtldbmogondmgmaaGreatDoor
open Go.RowKit

theorem extract_size (s : ByteArray) (n : Nat) (h : n ≤ s.size) : (s.extract 0 n).size = n := by
  rw [ByteArray.size_extract]
  omega
def smax (x y : ByteArray) : ByteArray := if Op.bytesLess x.toList y.toList = true then y else x
theorem run_max_strs {P : Program} (w : World) (ts : Array TypeId) (t : TypeId) (x y : ByteArray) :
    (Builtin.max_ ts t #[.string x, .string y]).run P w = .ok (.string (smax x y)) w := by
  unfold smax
  cases h : Op.bytesLess x.toList y.toList <;> simp [Builtin.max_, Builtin.max2, Op.stringOp, asBool, h, go_sem]
theorem kl_nil (l : List UInt8) : Op.bytesLess l [] = false := by cases l <;> rfl
theorem st_rpos (x : Rw) (r : List Rw) (k : ByteArray) : rpos (x :: r) k = if kl x.key k = true then rpos r k + 1 else 0 := by
  unfold rpos
  rw [List.takeWhile_cons]
  split <;> simp
theorem st_btw (f t : ByteArray) : ∀ r : List Rw, RSor r → (r.take (rpos r t)).drop (rpos r f) = r.filter (fun x => !(kl x.key f) && kl x.key t)
  | [], _ => by simp [rpos]
  | x :: r, hs => by
    have hs' : RSor r := (List.pairwise_cons.1 hs).2
    have hx := (List.pairwise_cons.1 hs).1
    have ih := st_btw f t r hs'
    rw [st_rpos, st_rpos]
    cases ht : kl x.key t with
    | true =>
      cases hf : kl x.key f with
      | true => simp [ht, hf, ih]
      | false =>
        have h0 : rpos r f = 0 := by
          cases r with
          | nil => rfl
          | cons y r =>
            rw [st_rpos]
            have h1 := hx y (by simp)
            cases h2 : kl y.key f with
            | false => simp
            | true => rw [kl_trans h1 h2] at hf; cases hf
        rw [h0] at ih
        simp [ht, hf]
        simpa using ih
    | false =>
      have h1 : r.filter (fun x => !(kl x.key f) && kl x.key t) = [] := by
        rw [List.filter_eq_nil_iff]
        intro y hy h2
        simp only [Bool.and_eq_true] at h2
        rw [kl_trans (hx y hy) h2.2] at ht
        cases ht
      simp [ht, h1]
theorem btw_filter {r : List Rw} (hs : RSor r) (f t : ByteArray) (ht : t.toList ≠ []) : btw r f t = r.filter (fun x => !(kl x.key f) && kl x.key t) := by
  unfold btw rend
  rw [if_neg ht]
  exact st_btw f t r hs
theorem kl_cmp (a b : ByteArray) : kl a b = decide (Lib.compareBytes (sb a) (sb b) = -1) := by
  unfold kl
  rw [Lib.toList_data, Lib.toList_data]
  rcases cmp3 (sb a) (sb b) with ⟨h1, h2, _⟩ | ⟨h1, h2, _⟩ | ⟨h1, h2, _⟩
  · rw [h1]; exact h2
  · rw [h1]; exact h2
  · rw [h1]; exact h2
theorem rdVK_is {k s : List UInt8} {a b : Int} (h : rdVK k = some (s, a, b)) : may a b = true ∧ k = vkey s a b := by
  unfold rdVK at h
  split at h
  · cases h
  · rename_i s' r' hr
    split at h
    · rename_i a' b' hd
      injection h with h
      cases h
      obtain ⟨-, -, -, hk⟩ := rk_size hr
      obtain ⟨hm, ho⟩ := odown_tdown _ _ _ _ hd
      rw [List.append_nil] at ho
      refine ⟨hm, ?_⟩
      rw [hk, ← ho]
      rfl
    · cases h
theorem cmp_vkey (s t : List UInt8) (a b c d : Int) : Lib.compareBytes (vkey s a b) (vkey t c d) = if Lib.compareBytes s t = 0 then Lib.compareBytes (odown a b) (odown c d) else Lib.compareBytes s t := cmp_mark 118 s t (odown a b) (odown c d)
theorem zr_ne (s : ByteArray) : (s ++ zr).toList ≠ [] := by rw [ztoList]; simp
end Go.Proofs.YtldbmogondmgmaaGreatDoor
set_option linter.unusedVariables false
namespace Go.Proofs.YtldbmogondmgmaaGreatDoor
open Go.RowKit

/-! ### plain: what is there behind a call -/
theorem khas_mem {l : List Kv} (hs : Sor l) (k : ByteArray) : khas l k = true ↔ ∃ x ∈ l, x.key = k := by
  constructor
  · intro h
    obtain ⟨hp, hk⟩ := (khas_iff _ _).1 h
    exact ⟨_, List.getElem_mem hp, hk⟩
  · rintro ⟨x, hx, rfl⟩
    obtain ⟨i, hi, rfl⟩ := List.mem_iff_getElem.1 hx
    have h1 : ¬ i < kpos l (l[i]'hi).key := fun h => by
      obtain ⟨_, h2⟩ := kpos_lt h
      rw [kl_irr] at h2
      cases h2
    by_cases h2 : kpos l (l[i]'hi).key < i
    · have hp : kpos l (l[i]'hi).key < l.length := by omega
      have h3 := List.pairwise_iff_getElem.1 hs _ _ hp hi h2
      have h4 := kpos_at hp
      rw [h3] at h4
      cases h4
    · have e : kpos l (l[i]'hi).key = i := by omega
      refine (khas_iff _ _).2 ⟨by omega, ?_⟩
      congr 2
end Go.Proofs.YtldbmogondmgmaaGreatDoor
