/-
  quill.numBytes, quill.Num.
  quill.cutNum: the number at the head of bytes.
  The document's answers: TakeNum.
  quill.TakeNum.
  'append(s, ys...)' where the slice is full: a row of the call's own.
  Layer 5, plain: stamps: what may be, their order, the next, the one ahead, a later one, the greatest: no program.
  Layer 5: what the code's functions promise, as the statements' walks take it.
  What a walk within a walk has made.
-/
import Derived.Test.YtgccichmdddbpaaGreatDoorPL01
set_option linter.unusedVariables false
namespace Go.Proofs.YtgccichmdddbpaaGreatDoor
open Go.RowKit

theorem slice7 (a : Addr) (f : Nat) (hf : f ≤ 7) (w : World) : (Instr.sliceAt 253 (.pointer (some a)) (some (.int .i64 (f : Int))) none none).run Tryz.prog w = .ok (.slice (some (if 7 = f then a else a.add f)) (7 - f) (7 - f)) w := by
  have hl : Tryz.prog.arrayLen 253 = 7 := by kernel_rfl
  have he : Tryz.prog.elem 253 = 5 := by kernel_rfl
  have hs : ∀ w, (sizeOf 5).run Tryz.prog w = .ok 1 w := fun w => by kernel_rfl
  rw [run_sliceAt_array_l w 253 a (by rw [hl, he]; kernel_rfl) .i64 f (by omega) (by rw [hl]; omega), he, hs]
  simp [hl, slicedAt, Result.andThen]

set_option maxHeartbeats 1000000 in
theorem numBytes (n : Nat) (w : World) (hn : n ≤ 9007199254740991) :
    Calls Tryz.prog 216 #[.int .i64 n] w fun e w' => ∃ v, e = .returned v ∧ Own w' w.heap.size v (enc n) ∧ Below w.heap.size w w' := by
  have hlen := digs_len7 n hn
  go_enter Tryz.func216, Tryz.ntmps216
  go_wp2
  go_loopw [0, 4] (fun x y wr => ∃ (m f : Nat) (l : List UInt8) (cs : Array Value), x = .int .i64 m ∧ y = .int .i64 f ∧ m ≤ n ∧ f + l.length = 7 ∧ Hid (digs m ++ l = digs n) ∧ Blk wr w.heap.size 253 cs ∧ cs.size = 7 ∧
     Hid (∀ i, (h : i < l.length) → cs[f + i]? = some (bv l[i])) ∧ Below w.heap.size w wr) (fun x _ _ => (intOf x).toNat)
  case atStart =>
    exact ⟨n, 7, [], _, rfl, rfl, Nat.le_refl _, rfl, by simp [Hid], Blk.new _ _ _, rfl, fun i h => absurd h (by simp), (Below.refl _ _).alloc (Nat.le_refl _) _⟩
  case round =>
    obtain ⟨m, f, l, cs, rfl, rfl, hmn, hfl, hd, hblk, hcs, hcl, hbw⟩ := hrel
    by_cases hm : 0 < m
    · have hf : 1 ≤ f := by
        have h1 := congrArg List.length hd.out
        rw [List.length_append] at h1
        have h2 : digs m ≠ [] := fun h => by have := (digs_nil_iff m).1 h; omega
        have h3 : 0 < (digs m).length := List.length_pos_iff.2 h2
        omega
      have hf7 : f ≤ 7 := by omega
      have hc1 : wr.cell? ⟨w.heap.size, f - 1, none⟩ = some (cs[f - 1]'(by omega)) := by rw [hblk.cell, Array.getElem?_eq_getElem]
      have hc2 : wr.frozen? ⟨w.heap.size, f - 1, none⟩ = false := hblk.frozen _
      obtain ⟨u0, hu0⟩ : ∃ u, u = (cs[f - 1]'(by omega)) := ⟨_, rfl⟩
      rw [← hu0] at hc1
      have hcs' := Lib.hid hcs
      clear hcs hu0
      go_wp2
      go_roundw
      case rel =>
        refine ⟨m / 256, f - 1, UInt8.ofNat m :: l, cs.setIfInBounds (f - 1) (.int .u8 ((m : Int) % 256)), rfl, by go_num, by omega, by simp; omega, ?_, hblk.set_ _ _, by rw [Array.size_setIfInBounds]; exact hcs'.out, ?_, hbw.setCell (Nat.le_refl _) _⟩
        · have h1 := hd.out
          rw [digs_pos m hm] at h1
          show digs (m / 256) ++ UInt8.ofNat m :: l = digs n
          rw [← h1]
          simp
        · intro i h
          have hsz := hcs'.out
          rw [Array.getElem?_setIfInBounds]
          match i, h with
          | 0, h => simp [hsz, bv]; omega
          | i + 1, h =>
            rw [if_neg (by omega), show f - 1 + (i + 1) = f + i from by omega, hcl.out i (by simpa using h)]
            simp
      case measure => simp [intOf]; omega
    · have : m = 0 := by omega
      subst this
      have hsl0 := fun w' => slice7 ⟨w.heap.size, 0, none⟩ f (by omega) w'
      obtain ⟨ad, had⟩ : ∃ ad : Addr, ad = (if 7 = f then (⟨w.heap.size, 0, none⟩ : Addr) else (⟨w.heap.size, 0, none⟩ : Addr).add f) := ⟨_, rfl⟩
      rw [← had] at hsl0
      have hat : At wr (some ad) (7 - f) l := by
        refine ⟨by omega, fun h0 => ⟨w.heap.size, f, ?_, fun i hi => ?_⟩⟩
        · rw [had, if_neg (by omega)]
          rw [Go.WideShapes.add_plain]
          simp
        · rw [hblk.cell, hcl.out i hi]
          rfl
      have hld : l = digs n := by
        have h1 := hd.out
        rw [digs_zero] at h1
        exact h1
      have hlen' : l.length = 7 - f := by omega
      have HLD := Lib.hid hld
      have HLE := Lib.hid hlen'
      clear had hcl hcs hblk hd hld hlen' hm hmn
      go_wp2_with fail
      refine (join _ 2 2 [[UInt8.ofNat (7 - f)], l] _ ?hl (by omega) ?hb).mono ?_
      case hl =>
        have := lists_two (w := wr.alloc (.cells #[.int .u8 (7 - (f : Int))] 5)) (c := 1) (c' := 7 - f) 164 (at_one (w := wr) (x := 7 - (f : Int)) (b := UInt8.ofNat (7 - f)) 5 (by rw [u8_ofNat]; omega)) (hat.alloc (.cells #[.int .u8 (7 - (f : Int))] 5))
        simpa using this
      case hb => simp; omega
      rintro e w1 ⟨v, rfl, hown, hb1⟩
      have hsz := hbw.size
      have hbel : Below w.heap.size w w1 := ((hbw.alloc hsz _).alloc (by simp; omega) _).trans (hb1.mono (by simp; omega))
      have hown' : Own w1 w.heap.size v (enc n) := by
        have he : [[UInt8.ofNat (7 - f)], l].flatten = enc n := by
          simp [enc, ← HLD.out, HLE.out]
        rw [he] at hown
        exact hown.base (by simp; omega)
      clear hown hb1 hat
      go_wp2
      go_ret
      exact ⟨v, rfl, hown', hbel⟩

end Go.Proofs.YtgccichmdddbpaaGreatDoor
set_option linter.unusedVariables false
namespace Go.Proofs.YtgccichmdddbpaaGreatDoor
open Go.RowKit

def lenOf : Value → Nat | .slice _ n _ => n | _ => 0

theorem tk_nil : tk [] = (0, [], 3) := rfl
theorem tk_big (c : UInt8) (r : List UInt8) (h : 7 < c.toNat) : tk (c :: r) = (0, [], 4) := by simp [tk, h]
theorem tk_short (c : UInt8) (r : List UInt8) (h : c.toNat ≤ 7) (h2 : r.length < c.toNat) : tk (c :: r) = (0, [], 3) := by
  simp only [tk]
  rw [if_neg (by omega), if_pos h2]
theorem tk_zero (c : UInt8) (r : List UInt8) (h : c.toNat ≤ 7) (h2 : c.toNat ≤ (0 :: r).length) (h3 : 0 < c.toNat) : tk (c :: 0 :: r) = (0, [], 4) := by
  simp only [tk]
  rw [if_neg (by omega), if_neg (by omega), if_pos ⟨h3, rfl⟩]
theorem tk_great (c : UInt8) (r : List UInt8) (h : c.toNat ≤ 7) (h2 : c.toNat ≤ r.length) (h4 : 9007199254740991 < val (r.take c.toNat)) : tk (c :: r) = (0, [], 4) := by
  simp only [tk]
  rw [if_neg (by omega), if_neg (by omega)]
  by_cases h5 : 0 < c.toNat ∧ r.head? = some 0
  · rw [if_pos h5]
  · rw [if_neg h5, if_pos h4]
theorem tk_good (c : UInt8) (r : List UInt8) (h : c.toNat ≤ 7) (h2 : c.toNat ≤ r.length) (h3 : r.head? ≠ some 0 ∨ c.toNat = 0) (h4 : val (r.take c.toNat) ≤ 9007199254740991) : tk (c :: r) = (val (r.take c.toNat), r.drop c.toNat, 0) := by
  simp only [tk]
  rw [if_neg (by omega), if_neg (by omega), if_neg, if_neg (by omega)]
  rintro ⟨h5, h6⟩
  rcases h3 with h3 | h3
  · exact h3 h6
  · omega

theorem or_byte (v y : Nat) (hv : v < 281474976710656) (hy : y < 256) : bits .or .i64 ((v : Int) * 256) (y : Int) = ((v * 256 + y : Nat) : Int) := by
  have e : ∀ a : Nat, a < 9223372036854775808 → (BitVec.ofInt 64 (a : Int)).toNat = a := by
    intro a ha
    rw [BitVec.ofInt_natCast, BitVec.toNat_ofNat]
    exact Nat.mod_eq_of_lt (by omega)
  have h1 : v * 256 ||| y = v * 256 + y := by
    have := Nat.shiftLeft_add_eq_or_of_lt (b := y) (i := 8) (by omega) v
    rw [Nat.shiftLeft_eq] at this
    exact this.symm
  rw [show ((v : Int) * 256) = ((v * 256 : Nat) : Int) from by omega]
  show IntKind.i64.wrap ((BitVec.ofInt 64 ((v * 256 : Nat) : Int) ||| BitVec.ofInt 64 (y : Int)).toNat : Int) = _
  rw [BitVec.toNat_or, e _ (by omega), e _ (by omega), h1, IntKind.wrap_i64]
  omega

theorem At.tail {w : World} {b o m : Nat} {y : UInt8} {p : List UInt8} (h : At w (some ⟨b, o, none⟩) m (y :: p)) : At w (if m = 1 then some ⟨b, o, none⟩ else some ⟨b, o + 1, none⟩) (m - 1) p := by
  have hl := h.1
  simp only [List.length_cons] at hl
  refine ⟨by omega, fun h0 => ⟨b, o + 1, by rw [if_neg (by omega)], fun i hi => ?_⟩⟩
  obtain ⟨b', o', e, hc⟩ := h.2 (by omega)
  injection e with e
  injection e with e1 e2 e3
  subst e1
  subst e2
  have := hc (i + 1) (by simp; omega)
  rw [show o + 1 + i = o + (i + 1) from by omega, this]
  rfl

/-- What cutNum leaves. -/
def CutPost (w : World) (b : List UInt8) (e : Ending) (w' : World) : Prop :=
  ∃ A' c', e = .returned (.tuple #[.int .i64 (tk b).1, .slice A' (tk b).2.1.length c', .int .i64 (tk b).2.2]) ∧ At w A' (tk b).2.1.length (tk b).2.1 ∧
    (tk b).2.1.length ≤ c' ∧ c' ≤ 9223372036854775807 ∧ ∃ k, w' = w.drewN k

theorem CutPost.err {w : World} {b : List UInt8} {x : Nat} (h : tk b = (0, [], x)) : CutPost w b (.returned (.tuple #[.int .i64 0, .slice none 0 0, .int .i64 x])) w := by
  refine ⟨none, 0, ?_, ?_, ?_, by omega, 0, rfl⟩ <;> rw [h]
  · rfl
  · exact At.nil _ _
  · exact Nat.le_refl _

theorem CutPost.good {w : World} {b rest : List UInt8} {v m c' : Nat} {A' : Option Addr} (h : tk b = (v, rest, 0)) (hat : At w A' m rest) (h1 : m ≤ c') (h2 : c' ≤ 9223372036854775807) (k : Nat) :
    CutPost w b (.returned (.tuple #[.int .i64 v, .slice A' m c', .int .i64 0])) (w.drewN k) := by
  obtain rfl := hat.1
  refine ⟨A', c', ?_, ?_, ?_, h2, k, rfl⟩ <;> rw [h]
  · rfl
  · exact hat
  · exact h1

set_option maxHeartbeats 2000000 in
theorem cutNum (A : Option Addr) (n c : Nat) (b : List UInt8) (w : World) (hx : At w A n b) (hnc : n ≤ c) (hc : c ≤ 9223372036854775807) :
    Calls Tryz.prog 208 #[.slice A n c] w (CutPost w b) := by
  cases b with
  | nil =>
    obtain rfl : n = 0 := by have := hx.1; simpa using this.symm
    have HP := Lib.hid (CutPost.err (w := w) tk_nil)
    go_enter Tryz.func208, Tryz.ntmps208
    go_wp2
    go_ret3
    exact HP.out
  | cons d r =>
    have hlen := hx.1
    simp only [List.length_cons] at hlen
    have hn0 : 0 < n := by omega
    obtain ⟨bk, o, rfl, hcell⟩ := hx.at_ hn0
    have hc0 := hcell 0 (by simp)
    simp only [List.getElem_cons_zero, Nat.add_zero] at hc0
    obtain ⟨k, hk⟩ : ∃ k, k = d.toNat := ⟨_, rfl⟩
    have hk256 : k < 256 := by rw [hk]; exact d.toNat_lt
    rw [← hk] at hc0
    have hne : ((n : Int) == 0) = false := by simp; omega
    by_cases h7 : 7 < k
    · have HP := Lib.hid (CutPost.err (w := w) (tk_big d r (by omega)))
      clear hk hlen hcell
      go_enter Tryz.func208, Tryz.ntmps208
      go_wp2
      go_ret3
      exact HP.out
    · by_cases hs : r.length < k
      · have HP := Lib.hid (CutPost.err (w := w) (tk_short d r (by omega) (by omega)))
        have hs' : n < 1 + k := by omega
        clear hk hlen hcell hs
        go_enter Tryz.func208, Tryz.ntmps208
        go_wp2
        go_ret3
        exact HP.out
      · by_cases hz : 0 < k ∧ r.head? = some 0
        · obtain ⟨hk0, hr0⟩ := hz
          cases r with
          | nil => simp at hr0
          | cons x r' =>
            obtain rfl : x = 0 := by simpa using hr0
            have HP := Lib.hid (CutPost.err (w := w) (tk_zero d r' (by omega) (by omega) (by omega)))
            have hc1 := hcell 1 (by simp)
            simp only [List.getElem_cons_succ, List.getElem_cons_zero] at hc1
            have hc1' : w.cell? ⟨bk, o + 1, none⟩ = some (.int .u8 0) := hc1
            have hn1 : 1 < n := by simp at hlen; omega
            have hs' : 1 + k ≤ n := by simp at hs hlen ⊢; omega
            have hk0' : (0 : Int) < (k : Int) := by omega
            clear hk hlen hcell hs hr0 hc1
            go_enter Tryz.func208, Tryz.ntmps208
            go_wp2
            go_ret3
            exact HP.out
        · have hkr : k ≤ r.length := by omega
          have hk7 : k ≤ 7 := by omega
          have hkn : 1 + k ≤ n := by omega
          have hL0 := hx.cut (l := 1) (k := 1 + k) (m := 1 + k) (by omega) hkn (Nat.le_refl _)
          obtain ⟨q, hq⟩ : ∃ q, q = r.take k := ⟨_, rfl⟩
          have hL : At w (cutA (some ⟨bk, o, none⟩) (1 + k) 1) k q := by
            have h1 : ((d :: r).take (1 + k)).drop 1 = q := by rw [Nat.add_comm, List.take_succ_cons, hq]; rfl
            rw [h1] at hL0
            simpa using hL0
          have HQ := Lib.hid hq
          clear hL0 hq
          have hcase : k = 0 ∨ (0 < k ∧ ∃ x r', r = x :: r' ∧ x ≠ 0) := by
            rcases Nat.eq_zero_or_pos k with h0 | h0
            · exact .inl h0
            · refine .inr ⟨h0, ?_⟩
              cases r with
              | nil => simp at hkr; omega
              | cons x r' => exact ⟨x, r', rfl, fun h => hz ⟨h0, by rw [h]; rfl⟩⟩
          have hgood : r.head? ≠ some 0 ∨ d.toNat = 0 := by
            rcases hcase with h0 | ⟨h0, x, r', rfl, hx0⟩
            · exact .inr (by omega)
            · exact .inl (by simpa using hx0)
          have HG := Lib.hid hgood
          have HK := Lib.hid hk
          have HLEN := Lib.hid hlen
          clear hz hs hlen hk hgood
          rcases hcase with h0 | h0
          all_goals first
            | (have hd : decide ((0 : Int) < (k : Int)) = false := by simp; omega
               have hLs : At w (some (⟨bk, o, none⟩ : Addr)) 0 q := by
                 have hq0 : q = [] := List.eq_nil_of_length_eq_zero (by rw [hL.1, h0])
                 rw [hq0]
                 exact At.nil _ _
               clear hcell
               go_enter Tryz.func208, Tryz.ntmps208
               go_wp2)
            | (obtain ⟨h0, x, r', hr, hx0⟩ := h0
               have hc1 : w.cell? ⟨bk, o + 1, none⟩ = some (.int .u8 (x.toNat : Int)) := by
                 subst hr
                 exact hcell 1 (by simp)
               have hx1 : ((x.toNat : Int) == 0) = false := by
                 apply beq_eq_false_iff_ne.2
                 intro h
                 exact hx0 (UInt8.toNat_inj.1 (by simpa using h))
               have hk0' : (0 : Int) < (k : Int) := by omega
               have hn1 : 1 < n := by omega
               have hLs : At w (some (⟨bk, o + 1, none⟩ : Addr)) k q := by
                 have := hL
                 unfold cutA at this
                 rw [if_neg (by omega)] at this
                 simpa [Go.WideShapes.add_plain] using this
               have HR := Lib.hid hr
               clear hcell hr hx0
               go_enter Tryz.func208, Tryz.ntmps208
               go_wp2)
          all_goals
            go_loop [2, 7] (fun x y => ∃ (pre p : List UInt8) (A' : Option Addr) (v m : Nat), x = .int .i64 v ∧ y = .slice A' m m ∧ At w A' m p ∧ Hid (pre ++ p = q) ∧ Hid (v = val pre)) (fun _ y => lenOf y)
          case atStart => exact ⟨[], q, _, 0, 0, rfl, rfl, hLs, rfl, rfl⟩
          case atStart => exact ⟨[], q, _, 0, k, rfl, by rw [show 1 + k - 1 = k from by omega], hLs, rfl, rfl⟩
          case round =>
            obtain ⟨pre, p, A', v, m, rfl, rfl, hat, hpp, hv⟩ := hrel
            cases p with
            | nil =>
              have hq : q = pre := by have := hpp.out; simpa using this.symm
              have hvq : v = val (r.take d.toNat) := by rw [hv.out, ← hq, HQ.out, HK.out]
              by_cases hbig : 9007199254740991 < v
              · have HP := Lib.hid (CutPost.err (w := w) (tk_great d r (by rw [← HK.out]; exact hk7) (by rw [← HK.out]; exact hkr) (by rw [← hvq]; exact hbig)))
                have hbig' : (9007199254740991 : Int) < (v : Int) := by omega
                have hm0 : m = 0 := by have := hat.1; simpa using this.symm
                subst hm0
                clear hq hvq hbig
                go_wp2
                go_ret3
                exact HP.out
              · have hgd := tk_good d r (by rw [← HK.out]; exact hk7) (by rw [← HK.out]; exact hkr) HG.out (by rw [← hvq]; omega)
                rw [← hvq, ← HK.out] at hgd
                have hrest : At w (if n = 1 + k then some ⟨bk, o, none⟩ else some ⟨bk, o + (1 + k), none⟩) (n - (1 + k)) (r.drop k) := by
                  have h1 := hx.cut (l := 1 + k) (k := n) (m := n) hkn (Nat.le_refl _) (Nat.le_refl _)
                  have h2 : ((d :: r).take n).drop (1 + k) = r.drop k := by
                    rw [List.take_of_length_le (by rw [hx.1]; exact Nat.le_refl _), Nat.add_comm, List.drop_succ_cons]
                  rw [h2] at h1
                  unfold cutA at h1
                  simpa [Go.WideShapes.add_plain] using h1
                have HGD := Lib.hid hgd
                have hsm : (v : Int) ≤ 9007199254740991 := by omega
                have hm0 : m = 0 := by have := hat.1; simpa using this.symm
                have hkn' : (1 : Int) + (k : Int) ≤ (n : Int) := by omega
                have hnc' : (n : Int) ≤ (c : Int) := by omega
                subst hm0
                clear hq hvq hbig hgd
                subst h0
                simp only [Nat.add_zero] at hrest
                by_cases hnk : n = 1
                · subst hnk
                  rw [if_pos rfl, Nat.sub_self] at hrest
                  go_wp2_with fail
                  go_quiet (fail)
                  go_wp2
                  go_ret3
                  exact CutPost.good HGD.out hrest (Nat.le_refl _) (by omega) _
                · rw [if_neg hnk] at hrest
                  go_wp2_with fail
                  go_quiet (fail)
                  go_wp2
                  go_ret3
                  exact CutPost.good HGD.out hrest (Nat.le_refl _) (by omega) _
            | cons y p' =>
              have hml := hat.1
              have hm0 : 0 < m := by simp at hml; omega
              obtain ⟨b', o', rfl, hc'⟩ := hat.at_ hm0
              have hc0' : w.cell? ⟨b', o', none⟩ = some (.int .u8 (y.toNat : Int)) := by
                have := hc' 0 (by simp)
                simpa using this
              have hv7 : v < 281474976710656 := by
                have h1 := val_lt pre
                have h2 := congrArg List.length hpp.out
                have h3 := hL.1
                rw [List.length_append, List.length_cons] at h2
                have h4 : 256 ^ pre.length ≤ 256 ^ 6 := Nat.pow_le_pow_right (by omega) (by omega)
                rw [hv.out]
                omega
              have hy := y.toNat_lt
              clear hml hc'
              go_wp2
              go_round
              case rel =>
                refine ⟨pre ++ [y], p', _, v * 256 + y.toNat, m - 1, by rw [or_byte v _ hv7 hy], rfl, hat.tail, ?_, ?_⟩
                · have := hpp.out
                  show (pre ++ [y]) ++ p' = q
                  rw [← this]
                  simp
                · show v * 256 + y.toNat = val (pre ++ [y])
                  rw [val_snoc, hv.out]
              case measure => simp [lenOf]; omega
          case round =>
            obtain ⟨pre, p, A', v, m, rfl, rfl, hat, hpp, hv⟩ := hrel
            cases p with
            | nil =>
              have hq : q = pre := by have := hpp.out; simpa using this.symm
              have hvq : v = val (r.take d.toNat) := by rw [hv.out, ← hq, HQ.out, HK.out]
              by_cases hbig : 9007199254740991 < v
              · have HP := Lib.hid (CutPost.err (w := w) (tk_great d r (by rw [← HK.out]; exact hk7) (by rw [← HK.out]; exact hkr) (by rw [← hvq]; exact hbig)))
                have hbig' : (9007199254740991 : Int) < (v : Int) := by omega
                have hm0 : m = 0 := by have := hat.1; simpa using this.symm
                subst hm0
                clear hq hvq hbig
                go_wp2
                go_ret3
                exact HP.out
              · have hgd := tk_good d r (by rw [← HK.out]; exact hk7) (by rw [← HK.out]; exact hkr) HG.out (by rw [← hvq]; omega)
                rw [← hvq, ← HK.out] at hgd
                have hrest : At w (if n = 1 + k then some ⟨bk, o, none⟩ else some ⟨bk, o + (1 + k), none⟩) (n - (1 + k)) (r.drop k) := by
                  have h1 := hx.cut (l := 1 + k) (k := n) (m := n) hkn (Nat.le_refl _) (Nat.le_refl _)
                  have h2 : ((d :: r).take n).drop (1 + k) = r.drop k := by
                    rw [List.take_of_length_le (by rw [hx.1]; exact Nat.le_refl _), Nat.add_comm, List.drop_succ_cons]
                  rw [h2] at h1
                  unfold cutA at h1
                  simpa [Go.WideShapes.add_plain] using h1
                have HGD := Lib.hid hgd
                have hsm : (v : Int) ≤ 9007199254740991 := by omega
                have hm0 : m = 0 := by have := hat.1; simpa using this.symm
                have hkn' : (1 : Int) + (k : Int) ≤ (n : Int) := by omega
                have hnc' : (n : Int) ≤ (c : Int) := by omega
                subst hm0
                clear hq hvq hbig hgd
                by_cases hnk : n = 1 + k
                · subst hnk
                  rw [if_pos rfl, Nat.sub_self] at hrest
                  go_wp2_with fail
                  go_quiet (fail)
                  go_wp2
                  go_ret3
                  exact CutPost.good HGD.out hrest (Nat.le_refl _) (by omega) _
                · rw [if_neg hnk] at hrest
                  go_wp2_with fail
                  go_quiet (fail)
                  go_wp2
                  go_ret3
                  exact CutPost.good HGD.out hrest (Nat.le_refl _) (by omega) _
            | cons y p' =>
              have hml := hat.1
              have hm0 : 0 < m := by simp at hml; omega
              obtain ⟨b', o', rfl, hc'⟩ := hat.at_ hm0
              have hc0' : w.cell? ⟨b', o', none⟩ = some (.int .u8 (y.toNat : Int)) := by
                have := hc' 0 (by simp)
                simpa using this
              have hv7 : v < 281474976710656 := by
                have h1 := val_lt pre
                have h2 := congrArg List.length hpp.out
                have h3 := hL.1
                rw [List.length_append, List.length_cons] at h2
                have h4 : 256 ^ pre.length ≤ 256 ^ 6 := Nat.pow_le_pow_right (by omega) (by omega)
                rw [hv.out]
                omega
              have hy := y.toNat_lt
              clear hml hc'
              go_wp2
              go_round
              case rel =>
                refine ⟨pre ++ [y], p', _, v * 256 + y.toNat, m - 1, by rw [or_byte v _ hv7 hy], rfl, hat.tail, ?_, ?_⟩
                · have := hpp.out
                  show (pre ++ [y]) ++ p' = q
                  rw [← this]
                  simp
                · show v * 256 + y.toNat = val (pre ++ [y])
                  rw [val_snoc, hv.out]
              case measure => simp [lenOf]; omega
end Go.Proofs.YtgccichmdddbpaaGreatDoor
set_option linter.unusedVariables false
namespace Go.Proofs.YtgccichmdddbpaaGreatDoor
open Go.RowKit

/-- What TakeNum leaves. -/
def TkPost (w : World) (b : List UInt8) (e : Ending) (w' : World) : Prop :=
  ∃ r, e = .returned (.tuple #[.int .i64 (tk b).1, r, .int .i64 (tk b).2.2]) ∧ Own w' w.heap.size r (tk b).2.1 ∧ Below w.heap.size w w'

theorem TkPost.err {w w' : World} {b : List UInt8} {x : Nat} (h : tk b = (0, [], x)) (hb : Below w.heap.size w w') : TkPost w b (.returned (.tuple #[.int .i64 0, .slice none 0 0, .int .i64 x])) w' := by
  refine ⟨.slice none 0 0, ?_, ?_, hb⟩ <;> rw [h]
  · rfl
  · exact World.ownsRow_nil _ _ _ _

theorem below_drewN {B : Nat} {a w : World} (h : Below B a w) (n : Nat) : Below B a (w.drewN n) := ⟨h.os, h.tape, h.output, h.size, h.block⟩

theorem take_succ_val (q : List UInt8) (i : Nat) (h : i < q.length) : val (q.take (i + 1)) = val (q.take i) * 256 + q[i].toNat := by
  rw [List.take_succ_eq_append_getElem h, val_snoc]

theorem enc_eq (k : Nat) (d : UInt8) (q : List UInt8) (hk : d.toNat = k) (hq : q.length = k) (hh : q.head? ≠ some 0) : enc (val q) = d :: q := by
  unfold enc
  rw [digs_val q hh, hq]
  congr 1
  apply UInt8.toNat_inj.1
  rw [UInt8.toNat_ofNat']
  have := d.toNat_lt
  omega
theorem enc_ne (d : UInt8) (q : List UInt8) (hh : q.head? = some 0) : (enc (val q) == d :: q) = false := by
  apply beq_eq_false_iff_ne.2
  intro h
  unfold enc at h
  injection h with _ h
  have := digs_head (val q)
  rw [h] at this
  exact this hh

set_option maxHeartbeats 2000000 in
theorem refTakeNum (A : Option Addr) (n c : Nat) (b : List UInt8) (w : World) (hx : At w A n b) (hnc : n ≤ c) (hc : c ≤ 9223372036854775807) (hn : n ≤ 225000000000000) :
    Calls Tryz.prog 196 #[.slice A n c] w (TkPost w b) := by
  cases b with
  | nil =>
    obtain rfl : n = 0 := by have := hx.1; simpa using this.symm
    have HP := Lib.hid (TkPost.err (w := w) tk_nil (Below.refl _ _))
    go_enter Tryz.func196, Tryz.ntmps196
    go_wp2
    go_ret3
    exact HP.out
  | cons d r =>
    have hlen := hx.1
    simp only [List.length_cons] at hlen
    have hn0 : 0 < n := by omega
    obtain ⟨bk, o, rfl, hcell⟩ := hx.at_ hn0
    have hc0 := hcell 0 (by simp)
    simp only [List.getElem_cons_zero, Nat.add_zero] at hc0
    obtain ⟨k, hk⟩ : ∃ k, k = d.toNat := ⟨_, rfl⟩
    have hk256 : k < 256 := by rw [hk]; exact d.toNat_lt
    rw [← hk] at hc0
    have hne : ((n : Int) == 0) = false := by simp; omega
    by_cases h7 : 7 < k
    · have HP := Lib.hid (TkPost.err (w := w) (tk_big d r (by omega)) (Below.refl _ _))
      clear hk hlen hcell
      go_enter Tryz.func196, Tryz.ntmps196
      go_wp2
      go_ret3
      exact HP.out
    · by_cases hs : r.length < k
      · have HP := Lib.hid (TkPost.err (w := w) (tk_short d r (by omega) (by omega)) (Below.refl _ _))
        have hs' : n < 1 + k := by omega
        clear hk hlen hcell hs
        go_enter Tryz.func196, Tryz.ntmps196
        go_wp2
        go_ret3
        exact HP.out
      · have hkr : k ≤ r.length := by omega
        have hk7 : k ≤ 7 := by omega
        have hkn : 1 + k ≤ n := by omega
        obtain ⟨q, hq⟩ : ∃ q, q = r.take k := ⟨_, rfl⟩
        have hql : q.length = k := by rw [hq, List.length_take]; omega
        have hqc : ∀ i, (h : i < q.length) → w.cell? ⟨bk, o + (1 + i), none⟩ = some (.int .u8 (q[i].toNat : Int)) := by
          intro i h
          have := hcell (1 + i) (by simp; omega)
          rw [this]
          subst hq
          simp [Nat.add_comm 1 i]
        have hv56 : ∀ i, val (q.take i) < 72057594037927936 := fun i => by
          have h1 := val_lt (q.take i)
          have h4 : 256 ^ (q.take i).length ≤ 256 ^ 7 := Nat.pow_le_pow_right (by omega) (by rw [List.length_take]; omega)
          omega
        have hqt : q.take k = q := by rw [← hql, List.take_length]
        have HQ := Lib.hid hq
        have HQL := Lib.hid hql
        have HQC := Lib.hid hqc
        have HV := Lib.hid hv56
        have HK := Lib.hid hk
        have HLEN := Lib.hid hlen
        have HQT := Lib.hid hqt
        have hne1 : 1 ≤ n := by omega
        clear hq hql hqc hv56 hk hlen hcell hs hqt
        go_enter Tryz.func196, Tryz.ntmps196
        go_wp2
        go_loop [6, 7] (fun x y => ∃ i v : Nat, i ≤ k ∧ y = .int .i64 ((1 + i : Nat) : Int) ∧ x = .int .i64 v ∧ Hid (v = val (q.take i))) (fun _ y => 8 - (intOf y).toNat)
        case atStart => exact ⟨0, 0, Nat.zero_le _, rfl, rfl, by simp [Hid, val]⟩
        case round =>
          obtain ⟨i, v, hik, rfl, rfl, hv⟩ := hrel
          by_cases hlt : i < k
          · have hiq : i < q.length := by rw [HQL.out]; exact hlt
            have hci := HQC.out i hiq
            have hnext := take_succ_val q i hiq
            obtain ⟨u, hu⟩ : ∃ u, u = q[i].toNat := ⟨_, rfl⟩
            have hu256 : u < 256 := by rw [hu]; exact q[i].toNat_lt
            rw [← hu] at hci hnext
            rw [← hv.out] at hnext
            have hvb := HV.out (i + 1)
            rw [hnext] at hvb
            have HN := Lib.hid hnext
            clear hnext hu
            go_wp2
            go_round
            case rel => exact ⟨i + 1, v * 256 + u, by omega, by go_num, by go_num, HN.out.symm⟩
            case measure => simp [intOf]; omega
          · obtain rfl : i = k := by omega
            have hvq : v = val q := by rw [hv.out, HQT.out]
            have hqr : q = r.take d.toNat := by rw [HQ.out, HK.out]
            have hv0 : v = val (r.take d.toNat) := by rw [hvq, hqr]
            have hki : ¬ (i < i) := by omega
            have hvb := HV.out i
            rw [← hv.out] at hvb
            by_cases hbig : 9007199254740991 < v
            · have hgr := tk_great d r (by rw [← HK.out]; exact hk7) (by rw [← HK.out]; exact hkr) (by rw [← hv0]; exact hbig)
              have HP := Lib.hid (fun w' h => TkPost.err (w := w) (w' := w') hgr h)
              have hbig' : (9007199254740991 : Int) < (v : Int) := by omega
              clear hvq hqr hv0 hgr hbig
              go_wp2_with fail
              refine (refNum_no (v : Int) _ (.inr hbig')).mono ?_
              rintro e w1 ⟨rfl, rfl⟩
              go_wp2
              go_ret3
              exact HP.out _ (Below.refl _ _)
            · have hv53 : v ≤ 9007199254740991 := by omega
              have hpre : ∀ w', Below w.heap.size w w' → At w' (some ⟨bk, o, none⟩) (1 + i) (d :: q) := fun w' hb => by
                have h1 := (hx.cut (l := 0) (k := 1 + i) (m := c) (by omega) hkn (by omega)).below' hb
                rw [cutA_zero] at h1
                have h2 : ((d :: r).take (1 + i)).drop 0 = d :: q := by
                  rw [Nat.add_comm, List.take_succ_cons, HQ.out]; rfl
                rw [h2] at h1
                simpa using h1
              have HPRE := Lib.hid hpre
              have HVQ := Lib.hid hvq
              by_cases hh : q.head? = some 0
              · have hi0 : 0 < i := by
                  rcases Nat.eq_zero_or_pos i with h0 | h0
                  · have := HQL.out
                    rw [h0] at this
                    rw [List.eq_nil_of_length_eq_zero this] at hh
                    simp at hh
                  · exact h0
                have hzz : tk (d :: r) = (0, [], 4) := by
                  cases r with
                  | nil => simp at hkr; omega
                  | cons x r' =>
                    have hx0 : x = 0 := by
                      rw [HQ.out, List.head?_take, if_neg (by omega)] at hh
                      simpa using hh
                    subst hx0
                    exact tk_zero d r' (by rw [← HK.out]; exact hk7) (by rw [← HK.out]; exact hkr) (by rw [← HK.out]; exact hi0)
                have HP := Lib.hid (fun w' h => TkPost.err (w := w) (w' := w') hzz h)
                have HF := Lib.hid (enc_ne d q hh)
                clear hvq hqr hv0 hzz hbig hpre hh
                go_wp2_with fail
                refine (refNum v _ hv53).mono ?_
                rintro e w1 ⟨x1, rfl, hown, hb1⟩
                obtain ⟨A1, c1, rfl, hat1, _, _, _⟩ := hown.form
                have hp1 := HPRE.out w1 hb1
                have hfe := HF.out
                rw [← HVQ.out] at hfe
                obtain ⟨l1, hl1⟩ : ∃ l, l = enc v := ⟨_, rfl⟩
                have hel := enc_len v hv53
                rw [← hl1] at hat1 hel hfe ⊢
                have HFE := Lib.hid hfe
                obtain ⟨n1, hn1⟩ : ∃ n, n = l1.length := ⟨_, rfl⟩
                rw [← hn1] at hat1 hel ⊢
                clear hl1 hn1 hown hfe
                go_wp2_with fail
                refine (eqBytes _ _ n1 (1 + i) c1 _ l1 (d :: q) _ hat1 hp1 (by omega)).mono ?_
                rintro e w2 ⟨rfl, j, rfl⟩
                rw [HFE.out]
                go_wp2
                go_ret3
                exact HP.out _ (below_drewN hb1 _)
              · have hgd := tk_good d r (by rw [← HK.out]; exact hk7) (by rw [← HK.out]; exact hkr) (by
                  rcases Nat.eq_zero_or_pos i with h0 | h0
                  · exact .inr (by rw [← HK.out]; exact h0)
                  · left
                    intro h
                    apply hh
                    rw [HQ.out, List.head?_take, if_neg (by omega)]
                    exact h) (by rw [← hv0]; exact hv53)
                rw [← hv0, ← HK.out] at hgd
                have HGD := Lib.hid hgd
                have HF := Lib.hid (enc_eq i d q HK.out.symm HQL.out hh)
                obtain ⟨A2, hA2⟩ : ∃ A2, A2 = cutA (some ⟨bk, o, none⟩) c (1 + i) := ⟨_, rfl⟩
                have hrest : At w A2 (n - (1 + i)) (r.drop i) := by
                  have h1 := hx.cut (l := 1 + i) (k := n) (m := c) hkn (Nat.le_refl _) hnc
                  have h2 : ((d :: r).take n).drop (1 + i) = r.drop i := by
                    rw [List.take_of_length_le (by rw [hx.1]; exact Nat.le_refl _), Nat.add_comm, List.drop_succ_cons]
                  rw [h2, ← hA2] at h1
                  exact h1
                have hsl : ∀ W, (Instr.sliceAt 164 (.slice (some ⟨bk, o, none⟩) n c) (some (.int .i64 (1 + (i : Int)))) none none).run Tryz.prog W = .ok (.slice A2 (n - (1 + i)) (c - (1 + i))) W := fun W => by
                  rw [run_sliceAt_slice W _ _ _ _ _ slb_under, slb_l _ n c .i64 (1 + (i : Int)) W (by omega) (by omega), hA2, show (1 + (i : Int)).toNat = 1 + i from by omega]
                clear hvq hqr hv0 hgd hbig hpre hh hA2
                go_wp2_with fail
                refine (refNum v _ hv53).mono ?_
                rintro e w1 ⟨x1, rfl, hown, hb1⟩
                obtain ⟨A1, c1, rfl, hat1, _, _, _⟩ := hown.form
                have hp1 := HPRE.out w1 hb1
                have hr1 := hrest.below' hb1
                have hfe := HF.out
                rw [← HVQ.out] at hfe
                obtain ⟨l1, hl1⟩ : ∃ l, l = enc v := ⟨_, rfl⟩
                have hel := enc_len v hv53
                rw [← hl1] at hat1 hel hfe ⊢
                have HFE := Lib.hid (show (l1 == d :: q) = true by rw [hfe]; simp)
                obtain ⟨n1, hn1⟩ : ∃ n, n = l1.length := ⟨_, rfl⟩
                rw [← hn1] at hat1 hel ⊢
                clear hl1 hn1 hown hfe
                go_wp2_with fail
                refine (eqBytes _ _ n1 (1 + i) c1 _ l1 (d :: q) _ hat1 hp1 (by omega)).mono ?_
                rintro e w2 ⟨rfl, j, rfl⟩
                rw [HFE.out]
                go_wp2_with fail
                refine (copyBytes _ _ _ (r.drop i) _ (hr1.drewN j) (by omega)).mono ?_
                rintro e w3 ⟨r3, rfl, hown3, hb3⟩
                have hsz := hb1.size
                have hbel : Below w.heap.size w w3 := (below_drewN hb1 j).trans (hb3.mono (by simpa using hsz))
                have hown3' := hown3.base (B' := w.heap.size) (by simpa using hsz)
                clear hown3 hb3
                go_wp2
                go_ret3
                refine ⟨r3, ?_, ?_, hbel⟩ <;> rw [HGD.out]
                · rfl
                · exact hown3'
end Go.Proofs.YtgccichmdddbpaaGreatDoor
set_option linter.unusedVariables false
namespace Go.Proofs.YtgccichmdddbpaaGreatDoor
open Go.RowKit

def CutP (w : World) (v : Nat) (rest : List UInt8) (x : Nat) (e : Ending) (w' : World) : Prop :=
  ∃ A' m c', e = .returned (.tuple #[.int .i64 v, .slice A' m c', .int .i64 x]) ∧ At w A' m rest ∧ m ≤ c' ∧ c' ≤ 9223372036854775807 ∧ ∃ k, w' = w.drewN k

theorem cut' (A : Option Addr) (n c : Nat) (b rest : List UInt8) (v x : Nat) (w : World) (hx : At w A n b) (hnc : n ≤ c) (hc : c ≤ 9223372036854775807) (ht : tk b = (v, rest, x)) :
    Calls Tryz.prog 208 #[.slice A n c] w (CutP w v rest x) := by
  refine (cutNum A n c b w hx hnc hc).mono ?_
  rintro e w' ⟨A', c', rfl, h1, h2, h3, h4⟩
  rw [ht] at h1 h2 ⊢
  exact ⟨A', _, c', rfl, h1, h2, h3, h4⟩

theorem tk_rest (b : List UInt8) : (tk b).2.1.length ≤ b.length := by
  rcases tk_cases b with h | h | ⟨l, rest, hb, _, _, _, h⟩
  · rw [h]; simp
  · rw [h]; simp
  · rw [h, hb]; simp; omega

set_option maxHeartbeats 400000 in
theorem takeNum (A : Option Addr) (n c : Nat) (b rest : List UInt8) (v x : Nat) (w : World) (hx : At w A n b) (hnc : n ≤ c) (hc : c ≤ 9223372036854775807) (hn : n ≤ 225000000000000) (ht : tk b = (v, rest, x)) :
    Calls Tryz.prog 188 #[.slice A n c] w fun e w' => ∃ r, e = .returned (.tuple #[.int .i64 v, r, .int .i64 x]) ∧ Own w' w.heap.size r rest ∧ Below w.heap.size w w' := by
  have hrl : rest.length ≤ n := by
    have := tk_rest b
    rw [ht] at this
    have := hx.1
    simp at *
    omega
  have HC := Lib.hid (cut' A n c b rest v x w hx hnc hc ht)
  clear ht
  go_enter Tryz.func188, Tryz.ntmps188
  go_wp2_with fail
  refine HC.out.mono ?_
  rintro e w1 ⟨A', m, c', rfl, hat, h1, h2, k, rfl⟩
  have hml := hat.1
  have hm : m ≤ n := by omega
  have HL := Lib.hid (lists_one (c := c') 164 (hat.drewN k))
  clear hml
  go_wp2_with fail
  refine (join _ 1 1 [rest] _ ?hl (by omega) ?hb).mono ?_
  case hl => simpa using HL.out
  case hb => simp; omega
  rintro e w2 ⟨r, rfl, hown, hb⟩
  have hown' : Own w2 w.heap.size r rest := by
    have : [rest].flatten = rest := by simp
    rw [this] at hown
    exact hown.base (by simp)
  have hbel : Below w.heap.size w w2 := by
    have h1 : Below w.heap.size w (w.drewN k) := ⟨rfl, rfl, rfl, Nat.le_refl _, fun _ _ => rfl⟩
    exact (h1.alloc (by simp) _).trans (hb.mono (by simp))
  clear hown hb
  go_wp2
  go_ret3
  exact ⟨r, rfl, hown', hbel⟩

end Go.Proofs.YtgccichmdddbpaaGreatDoor
set_option linter.unusedVariables false
namespace Go.Proofs.YtgccichmdddbpaaGreatDoor
open Go.RowKit

end Go.Proofs.YtgccichmdddbpaaGreatDoor
set_option linter.unusedVariables false
namespace Go.Proofs.YtgccichmdddbpaaGreatDoor

/-- Whether a stamp may be. -/
def may (a b : Int) : Bool := decide (0 ≤ a ∧ a ≤ 1099511627776 ∧ 0 ≤ b ∧ b ≤ 1048575)
theorem may_iff {a b : Int} : may a b = true ↔ 0 ≤ a ∧ a ≤ 1099511627776 ∧ 0 ≤ b ∧ b ≤ 1048575 := by unfold may; exact decide_eq_true_iff
/-- What Check tells. -/
def ck (a b : Int) : Int := if may a b then 0 else 9
/-- Less. -/
def lt (x y : Int × Int) : Bool := decide (x.1 < y.1 ∨ (x.1 = y.1 ∧ x.2 < y.2))
theorem lt_iff {x y : Int × Int} : lt x y = true ↔ x.1 < y.1 ∨ (x.1 = y.1 ∧ x.2 < y.2) := by unfold lt; exact decide_eq_true_iff
theorem lt_no {x y : Int × Int} : lt x y = false ↔ ¬ (x.1 < y.1 ∨ (x.1 = y.1 ∧ x.2 < y.2)) := by unfold lt; exact decide_eq_false_iff_not

/-- The greater one of two; the greatest one of some. -/
def two (x y : Int × Int) : Int × Int := if lt x y then y else x
def mx : List (Int × Int) → Int × Int
  | [] => (0, 0)
  | x :: l => l.foldl two x

theorem mx_snoc (l : List (Int × Int)) (h : l ≠ []) (y : Int × Int) : mx (l ++ [y]) = two (mx l) y := by
  cases l with
  | nil => exact absurd rfl h
  | cons x l => simp [mx]

/-! ### what Max tells is one of them, and none is greater -/

theorem lt_irr (x : Int × Int) : lt x x = false := by rw [lt_no]; omega
theorem two_ge (x y : Int × Int) : lt (two x y) x = false ∧ lt (two x y) y = false ∧ (two x y = x ∨ two x y = y) := by
  unfold two
  cases h : lt x y with
  | true =>
    refine ⟨?_, by simpa using lt_irr y, .inr (by simp)⟩
    rw [lt_iff] at h
    simp only [if_true]
    rw [lt_no]
    omega
  | false => exact ⟨by simpa using lt_irr x, by simpa using h, .inl (by simp)⟩
end Go.Proofs.YtgccichmdddbpaaGreatDoor
set_option linter.unusedVariables false
namespace Go.Proofs.YtgccichmdddbpaaGreatDoor
open Go.RowKit

/-- A stamp's value. -/
abbrev sv (a b : Int) : Value := .agg #[.int .i64 a, .int .i64 b]

/-- A list of stamps. -/
def Stamps (w : World) (A : Option Addr) (n : Nat) (l : List (Int × Int)) : Prop :=
  l.length = n ∧ (0 < n → ∃ b o, A = some ⟨b, o, none⟩ ∧ ∀ i, (h : i < l.length) → w.cell? ⟨b, o + i * 2, none⟩ = some (.int .i64 l[i].1) ∧ w.cell? ⟨b, o + i * 2 + 1, none⟩ = some (.int .i64 l[i].2))
theorem Stamps.nil (w : World) (A : Option Addr) : Stamps w A 0 [] := ⟨rfl, fun h => absurd h (by omega)⟩
theorem Stamps.keep {w w' : World} {A : Option Addr} {n : Nat} {l : List (Int × Int)} (h : Stamps w A n l) (hk : ∀ p : Addr, p.block < w.heap.size → w'.cell? p = w.cell? p) : Stamps w' A n l := by
  refine ⟨h.1, fun hn => ?_⟩
  obtain ⟨b, o, e, hc⟩ := h.2 hn
  refine ⟨b, o, e, fun i hi => ?_⟩
  obtain ⟨h1, h2⟩ := hc i hi
  exact ⟨by rw [hk _ (World.block_lt_of_cell? w _ h1)]; exact h1, by rw [hk _ (World.block_lt_of_cell? w _ h2)]; exact h2⟩
theorem Stamps.below' {w w' : World} {A : Option Addr} {n : Nat} {l : List (Int × Int)} (h : Stamps w A n l) (hb : Below w.heap.size w w') : Stamps w' A n l := h.keep fun _ hp => hb.cell hp
theorem Stamps.drewN {w : World} {A : Option Addr} {n : Nat} {l : List (Int × Int)} (h : Stamps w A n l) (k : Nat) : Stamps (w.drewN k) A n l := h
def CheckOk : Prop := ∀ (a b : Int) (w : World), Calls Tryz.prog 23 #[sv a b] w fun e w' => e = .returned (.int .i64 (ck a b)) ∧ Below w.heap.size w w'
end Go.Proofs.YtgccichmdddbpaaGreatDoor
set_option linter.unusedVariables false
namespace Go.Proofs.YtgccichmdddbpaaGreatDoor
open Go.RowKit

section
variable {w V V' : World} {l l' : List As} {A : As}
theorem Sep.congr {F G : Nat → Prop} (h : Sep V l F) (e : ∀ k, F k ↔ G k) : Sep V l G := by
  cases l with
  | nil => exact fun k hk => h k ((e k).2 hk)
  | cons A l =>
    obtain ⟨F1, F2, h1, h2, h3, h4⟩ := h
    exact ⟨F1, F2, h1, h2, h3, fun k => (e k).symm.trans (h4 k)⟩
theorem Sep.app {F G : Nat → Prop} (h : Sep V l F) (h2 : Sep V l' G) (hd : ∀ k, F k → ¬ G k) : Sep V (l ++ l') (fun k => F k ∨ G k) := by
  induction l generalizing F with
  | nil => exact h2.congr (fun k => ⟨.inr, fun e => e.elim (fun e => absurd e (h k)) id⟩)
  | cons A l ih =>
    obtain ⟨F1, F2, h1, h3, h4, h5⟩ := h
    refine ⟨F1, _, h1, ih h3 (fun k e => hd k ((h5 k).2 (.inr e))), fun k e e2 => ?_, fun k => ?_⟩
    · rcases e2 with e2 | e2
      · exact h4 k e e2
      · exact hd k ((h5 k).2 (.inl e)) e2
    · show (F k ∨ G k) ↔ _
      rw [h5]
      exact or_assoc
/-- What a walk within a walk has made. -/
theorem Has.join (h : Has w l V) (h2 : Has V l' V') : Has w (l' ++ l) V' := by
  obtain ⟨⟨F, h1, h3⟩, h4⟩ := h
  obtain ⟨⟨G, h5, h6⟩, h7⟩ := h2
  have hlt := h1.lt
  have hk := h1.on h7.size (fun k e => h7.block k (hlt k e))
  refine ⟨⟨_, h5.app hk (fun k e e2 => by have := h6 k e; have := hlt k e2; omega), fun k e => ?_⟩, h4.trans (h7.mono h4.size)⟩
  rcases e with e | e
  · exact Nat.le_trans h4.size (h6 k e)
  · exact h3 k e
end
end Go.Proofs.YtgccichmdddbpaaGreatDoor
