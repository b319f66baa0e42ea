/-
  Layer 14, the laws: a question's record (written by wip/gensel.py).
  Layer 14, plain: what nothing came to reads the same at the later stamp.
  Layer 12, the code: what check asks: keys, stamps, whether a transaction may read; its top.
  Layer 12, the code: read (written by wip/genpkread.py).
  Layer 12, the code: read's walks (written by wip/genpkread.py).
  Layer 12, the code: check.
-/
import Derived.Test.YtldbmogondmgmaaGreatDoorSS32
import Derived.Test.YtldbmogondmgmaaGreatDoorSSSeAwk
import Derived.Deep.MidRow
import Derived.Test.YtldbmogondmgmaaGreatDoorSS34
import Derived.Test.YtldbmogondmgmaaGreatDoorSS33
import Derived.Test.YtldbmogondmgmaaGreatDoorSS29
import Derived.Test.YtldbmogondmgmaaGreatDoorSS35
import Derived.Test.YtldbmogondmgmaaGreatDoorSS11
set_option linter.unusedVariables false
set_option linter.unusedSimpArgs false
set_option maxRecDepth 100000
namespace Go.Proofs.YtldbmogondmgmaaGreatDoor
open Go.RowKit

end Go.Proofs.YtldbmogondmgmaaGreatDoor
set_option linter.unusedVariables false
set_option linter.unusedSimpArgs false
set_option maxRecDepth 100000
namespace Go.Proofs.YtldbmogondmgmaaGreatDoor
open Go.RowKit

theorem fs_congr {α β : Type} (p q : α → Bool) (g : α → Option β) : ∀ r : List α, (∀ x ∈ r, (if p x then g x else none) = (if q x then g x else none)) → (r.filter p).findSome? g = (r.filter q).findSome? g
  | [], _ => rfl
  | x :: r, h => by
    have ih := fs_congr p q g r (fun y hy => h y (by simp [hy]))
    have h1 := h x (by simp)
    cases hp : p x <;> cases hq : q x <;> simp [hp, hq, List.findSome?_cons] at h1 ⊢
    · exact ih
    · rw [← h1]; exact ih
    · rw [h1]; exact ih
    · rw [ih]
/-- Which rows that can be read stand between a key's stamps. -/
theorem st_row {k : ByteArray} {x : Rw} {s : List UInt8} {a b : Int} (R : Int × Int) (hR : may R.1 R.2 = true) (h : rdVK (sb x.key) = some (s, a, b)) :
    (!(kl x.key (bs (vkey (sb k) R.1 R.2))) && kl x.key (behK k)) = decide (s = sb k ∧ lt R (a, b) = false) := by
  obtain ⟨hm, hk⟩ := rdVK_is h
  have h00 : may 0 0 = true := by decide
  unfold behK
  rw [kl_next, kl_cmp, kl_cmp, sb_bs, sb_bs, hk, cmp_vkey, cmp_vkey, odown_cmp a b R.1 R.2 hm hR, odown_cmp 0 0 a b h00 hm]
  have hm' := may_iff.1 hm
  by_cases hs : s = sb k
  · subst hs
    rw [cmp_refl, if_pos rfl, if_pos rfl]
    by_cases hl : lt R (a, b) = false
    · have hl' := lt_no.1 hl
      simp only at hl'
      have e1 : ¬ (R.1 < a ∨ (a = R.1 ∧ R.2 < b)) := by omega
      have e2 : ¬ (a < 0 ∨ ((0 : Int) = a ∧ b < 0)) := by omega
      rw [if_neg e1, if_neg e2]
      have e3 : ∀ (p : Prop) [Decidable p], decide ((if p then (0 : Int) else 1) = -1) = false := by
        intro p _
        split <;> decide
      rw [e3, e3]
      simp [hl]
    · have hl2 : lt R (a, b) = true := by simpa using hl
      have hl' := lt_iff.1 hl2
      simp only at hl'
      rw [if_pos (by omega)]
      simp [hl2]
  · have hne : ¬ (Lib.compareBytes s (sb k) ≠ -1 ∧ Lib.compareBytes (sb k) s ≠ -1) := fun h => hs (cmp_anti h.1 h.2)
    have h0 : ¬ Lib.compareBytes s (sb k) = 0 := fun e => hs (cmp_eq _ _ e)
    have h0' : ¬ Lib.compareBytes (sb k) s = 0 := fun e => hs (cmp_eq _ _ e).symm
    rw [if_neg h0, if_neg h0']
    simp [hs]
    intro h1
    exact Classical.byContradiction fun h2 => hne ⟨h1, h2⟩
/-! ### the span's ends -/
theorem endK_lo {f k : ByteArray} (hk : isK k = true) (h : slt k f = false) : kl k (endK f) = false := by
  have hk1 := isK_iff.1 hk
  unfold endK
  split
  · unfold kl
    rw [Lib.toList_data, Lib.toList_data]
    cases hl : k.data.toList with
    | nil =>
      have : (sb k).length = 0 := by unfold sb; rw [hl]; rfl
      rw [sb_len] at this
      omega
    | cons a l =>
      show Op.bytesLess (a :: l) [0] = false
      rw [Op.bytesLess, kl_nil]
      have : ¬ a < 0 := not_lt_zero a
      simp [this]
  · cases hc : kl k (f.extract 0 (min f.size 32)) with
    | false => rfl
    | true =>
      unfold kl at hc
      rw [Lib.toList_data, Lib.toList_data, Lib.extract_from_zero] at hc
      have h2 := bl_take _ _ _ hc
      unfold slt at h
      rw [Lib.toList_data, Lib.toList_data] at h
      rw [h] at h2
      cases h2
theorem endK_hi {t k : ByteArray} (hk : isK k = true) (h : slt k t = true) : kl (endK t) k = false := by
  have hk1 := isK_iff.1 hk
  unfold endK
  split
  · rename_i h0
    have : t.data.toList = [] := List.eq_nil_of_length_eq_zero (by rw [Array.length_toList]; exact h0)
    unfold slt at h
    rw [Lib.toList_data, Lib.toList_data, this, kl_nil] at h
    cases h
  · cases hc : kl (t.extract 0 (min t.size 32)) k with
    | false => rfl
    | true =>
      unfold kl at hc
      rw [Lib.toList_data, Lib.toList_data, Lib.extract_from_zero] at hc
      have hl : t.data.toList.length = t.size := by rw [Array.length_toList]; rfl
      have hkl : k.data.toList.length = k.size := by rw [Array.length_toList]; rfl
      have e : t.data.toList.take (min t.size 32) = t.data.toList.take 32 := by
        rw [← hl, List.take_eq_take_iff]
        omega
      rw [e] at hc
      have h2 := bl_take2 32 _ _ (by rw [hkl]; exact hk1.2) hc
      unfold slt at h
      rw [Lib.toList_data, Lib.toList_data] at h
      rw [h] at h2
      cases h2
/-- What the span's rows say of a key in it. -/
theorem hv_none {r : List Rw} (hs : RSor r) {f t : ByteArray} {P : Int × Int → Bool} (h : hasVP r f t P = false) {k : ByteArray} (hk : isK k = true) (hin : isInP f t k = true)
    {x : Rw} (hx : x ∈ r) {a b : Int} (h1 : rdVK (sb x.key) = some (sb k, a, b)) {v : ByteArray × Bool} (h2 : tkV (sb x.value) = some v) : P (a, b) = false := by
  obtain ⟨hm, hkk⟩ := rdVK_is h1
  have hm' := may_iff.1 hm
  have hin' := hin
  unfold isInP at hin'
  simp only [Bool.and_eq_true, Bool.not_eq_true'] at hin'
  have hlo := endK_lo hk hin'.1
  have hhi := endK_hi hk hin'.2
  rw [kl_cmp] at hlo hhi
  have hM : may 1099511627776 1048575 = true := by decide
  have h00 : may 0 0 = true := by decide
  have hmem : x ∈ vrows r f t := by
    unfold vrows
    rw [btw_filter hs _ _ (zr_ne _), List.mem_filter]
    refine ⟨hx, ?_⟩
    rw [kl_next, kl_cmp, kl_cmp, sb_bs, sb_bs, hkk, cmp_vkey, cmp_vkey, odown_cmp a b _ _ hm hM, odown_cmp 0 0 a b h00 hm]
    have e1 : ¬ ((1099511627776 : Int) < a ∨ (a = 1099511627776 ∧ (1048575 : Int) < b)) := by omega
    have e2 : ¬ (a < 0 ∨ ((0 : Int) = a ∧ b < 0)) := by omega
    rw [if_neg e1, if_neg e2]
    have e3 : ∀ (p : Prop) [Decidable p], ¬ ((if p then (0 : Int) else 1) = -1) := by
      intro p _
      split <;> decide
    have hlo' := of_decide_eq_false hlo
    have hhi' := of_decide_eq_false hhi
    simp only [Bool.and_eq_true, Bool.not_eq_true', decide_eq_false_iff_not]
    constructor
    · split
      · exact e3 _
      · exact hlo'
    · split
      · exact e3 _
      · exact hhi'
  unfold hasVP at h
  have h3 := List.any_eq_false.1 h x hmem
  unfold hvRow at h3
  rw [h1, h2] at h3
  simp only [bs_sb, hin, Bool.true_and] at h3
  simpa using h3
theorem fi_none {r : List Rw} (hs : RSor r) {f t : ByteArray} {P : It → Bool} (h : fstIP r f t P = none) {k : ByteArray} (hk : isK k = true) (hin : isInP f t k = true)
    {y : It} (hy : pint r k = some y) : P y = false := by
  have hin' := hin
  unfold isInP at hin'
  simp only [Bool.and_eq_true, Bool.not_eq_true'] at hin'
  have hlo := endK_lo hk hin'.1
  have hhi := endK_hi hk hin'.2
  rw [kl_cmp] at hlo hhi
  have hlo' := of_decide_eq_false hlo
  have hhi' := of_decide_eq_false hhi
  unfold pint rval at hy
  split at hy
  · rename_i hh
    obtain ⟨hlt, hke⟩ := (rhas_iff _ _).1 hh
    rw [List.getElem?_eq_getElem hlt] at hy
    have hx : r[rpos r (bs (ikey (sb k)))]'hlt ∈ r := List.getElem_mem hlt
    generalize r[rpos r (bs (ikey (sb k)))]'hlt = x at *
    have hmem : x ∈ irows r f t := by
      unfold irows
      rw [btw_filter hs _ _ (zr_ne _), List.mem_filter]
      refine ⟨hx, ?_⟩
      have c1 : Lib.compareBytes (ikey (sb k)) (ikey (sb (endK f))) = if Lib.compareBytes (sb k) (sb (endK f)) = 0 then 0 else Lib.compareBytes (sb k) (sb (endK f)) := by
        have := cmp_mark 105 (sb k) (sb (endK f)) [] []
        rw [List.append_nil, List.append_nil] at this
        exact this
      have c2 : Lib.compareBytes (ikey (sb (endK t))) (ikey (sb k)) = if Lib.compareBytes (sb (endK t)) (sb k) = 0 then 0 else Lib.compareBytes (sb (endK t)) (sb k) := by
        have := cmp_mark 105 (sb (endK t)) (sb k) [] []
        rw [List.append_nil, List.append_nil] at this
        exact this
      rw [kl_next, hke, kl_cmp, kl_cmp, sb_bs, sb_bs, sb_bs, c1, c2]
      simp only [Bool.and_eq_true, Bool.not_eq_true', decide_eq_false_iff_not]
      constructor
      · split
        · decide
        · exact hlo'
      · split
        · decide
        · exact hhi'
    unfold fstIP at h
    have h3 := List.findSome?_eq_none_iff.1 h x hmem
    unfold fiRow rdIK at h3
    have hy' : tkI (sb x.value) = some y := hy
    have hr : rk 105 (sb x.key) = some (sb k, []) := by
      rw [hke, sb_bs]
      have := rk_hit 105 k [] hk
      rw [List.append_nil] at this
      exact this
    rw [hr, hy'] at h3
    simp only [bs_sb, hin, Bool.true_and] at h3
    cases hp : P y with
    | false => rfl
    | true => rw [hp] at h3; simp at h3
  · have := tkI_nil
    have hy' : tkI [] = some y := hy
    rw [this] at hy'
    cases hy'
theorem vrow_some {x : Rw} {c : Ver} (h : vrow x = some c) : ∃ s, rdVK (sb x.key) = some (s, c.1, c.2.1) ∧ tkV (sb x.value) = some (c.2.2.1, c.2.2.2) := by
  unfold vrow at h
  split at h
  · rename_i s a b v i h1 h2
    cases h
    exact ⟨s, h1, h2⟩
  · cases h
theorem pver_same {r : List Rw} (hs : RSor r) {f t : ByteArray} {x : Tx} {ts : Int × Int} (hR : may x.rw x.rl = true) (hts : may ts.1 ts.2 = true) (hle : lt ts (x.rw, x.rl) = false)
    (h : hasVP r f t (lateP x ts) = false) {k : ByteArray} (hk : isK k = true) (hin : isInP f t k = true) :
    pverC r k ts = pverC r k (x.rw, x.rl) ∧ ∀ c, pverC r k (x.rw, x.rl) = some c → lt (c.1, c.2.1) (x.rw, x.rl) = true := by
  have key : ∀ y ∈ r, ∀ c : Ver, vrow y = some c → ∀ s, rdVK (sb y.key) = some (s, c.1, c.2.1) → s = sb k → lt (c.1, c.2.1) (x.rw, x.rl) = true ∨ lt ts (c.1, c.2.1) = true := by
    intro y hy c hc s h1 hsk
    subst hsk
    obtain ⟨s', -, h2⟩ := vrow_some hc
    have h3 := hv_none hs h hk hin hy h1 h2
    unfold lateP at h3
    cases e1 : lt (c.1, c.2.1) (x.rw, x.rl) with
    | true => exact .inl rfl
    | false =>
      rw [e1] at h3
      simp only [Bool.not_false, Bool.true_and, Bool.not_eq_false'] at h3
      exact .inr h3
  have hle' := lt_no.1 hle
  simp only at hle'
  have hne : (behK k).toList ≠ [] := zr_ne _
  constructor
  · unfold pverC
    rw [btw_filter hs _ _ hne, btw_filter hs _ _ hne]
    refine fs_congr _ _ _ _ fun y hy => ?_
    cases hv : vrow y with
    | none => simp
    | some c =>
      obtain ⟨s, h1, h2⟩ := vrow_some hv
      rw [st_row ts hts h1, st_row (x.rw, x.rl) hR h1]
      by_cases hsk : s = sb k
      · have e : (lt ts (c.1, c.2.1) = false) ↔ (lt (x.rw, x.rl) (c.1, c.2.1) = false) := by
          rw [lt_no, lt_no]
          rcases key y hy c hv s h1 hsk with h3 | h3
          · have h4 := lt_iff.1 h3
            simp only at h4 ⊢
            omega
          · have h4 := lt_iff.1 h3
            simp only at h4 ⊢
            omega
        simp only [hsk, true_and]
        by_cases h5 : lt ts (c.1, c.2.1) = false
        · rw [decide_eq_true h5, decide_eq_true (e.1 h5)]
        · rw [decide_eq_false h5, decide_eq_false (fun h6 => h5 (e.2 h6))]
      · simp [hsk]
  · intro c hc
    unfold pverC at hc
    rw [btw_filter hs _ _ hne] at hc
    obtain ⟨y, hy, hv⟩ := List.exists_of_findSome?_eq_some hc
    obtain ⟨hy1, hy2⟩ := List.mem_filter.1 hy
    obtain ⟨s, h1, h2⟩ := vrow_some hv
    have h3 := st_row (k := k) (x.rw, x.rl) hR h1
    rw [hy2] at h3
    obtain ⟨hsk, h4⟩ := of_decide_eq_true h3.symm
    rcases key y hy1 c hv s h1 hsk with h5 | h5
    · exact h5
    · have h6 := lt_iff.1 h5
      have h7 := lt_no.1 h4
      simp only at h6 h7
      exact absurd h6 (by omega)
/-- What is read at the Read, and at the later stamp. -/
def atRead (x : Tx) : Tx := ⟨x.id, x.ep, x.pr, x.an, x.rw, x.rl, x.ww, x.wl, x.rw, x.rl, x.bw, x.bl⟩
def atTo (x : Tx) (ts : Int × Int) : Tx := ⟨x.id, x.ep, x.pr, x.an, ts.1, ts.2, x.ww, x.wl, ts.1, ts.2, x.bw, x.bl⟩
theorem two_same (a : Int × Int) : two a a = a := by unfold two; split <;> rfl
theorem stays {r : List Rw} (hs : RSor r) {f t : ByteArray} {x : Tx} {ts low : Int × Int} {y0 : It} (h : refC r f t x ts low = (y0, 0)) {k : ByteArray} (hk : isK k = true) (hin : isInP f t k = true) :
    (pgetC r k (atRead x) low).2 = 201 ∨ ((pgetC r k (atRead x) low).2 = 0 ∧ pgetC r k (atTo x ts) low = pgetC r k (atRead x) low) := by
  unfold refC at h
  split at h
  · rename_i hc
    unfold chkR at hc
    split at hc
    · cases hc
    · rename_i hc1
      split at hc
      · cases hc
      · rename_i hc2
        simp only [Bool.not_eq_false, Bool.and_eq_true, Bool.not_eq_true'] at hc1 hc2
        obtain ⟨⟨⟨-, hmx⟩, hmt, hml⟩, hle⟩ := hc1
        split at h
        · injection h with _ h; cases h
        · rename_i hv
          have hv' : hasVP r f t (lateP x ts) = false := by simpa using hv
          split at h
          · injection h with _ h; cases h
          · rename_i hf
            have hmx' := hmx
            unfold mayX at hmx'
            simp only [Bool.and_eq_true] at hmx'
            obtain ⟨hid, hR, hL⟩ := hmx'
            obtain ⟨e1, e2⟩ := pver_same hs hR hmt hle hv' hk hin
            have hle' := lt_no.1 hle
            have hlow := lt_iff.1 hc2
            have hml' := may_iff.1 hml
            simp only at hle' hlow
            have hlow2 : lt low ts = true := by
              rw [lt_iff]
              omega
            have m1 : mayX (atRead x) = true := by
              unfold mayX atRead idOk at *
              simp only [Bool.and_eq_true]
              exact ⟨hid, hR, hR⟩
            have m2 : mayX (atTo x ts) = true := by
              unfold mayX atTo idOk at *
              simp only [Bool.and_eq_true]
              exact ⟨hid, hmt, hmt⟩
            have g1 : pgetC r k (atRead x) low = preadC r k (atRead x) := by
              unfold pgetC pgetW
              rw [hk, m1, hml]
              have : lt low ((atRead x).rw, (atRead x).rl) = true := hc2
              rw [this]
              simp
            have g2 : pgetC r k (atTo x ts) low = preadC r k (atTo x ts) := by
              unfold pgetC pgetW
              rw [hk, m2, hml]
              have : lt low ((atTo x ts).rw, (atTo x ts).rl) = true := hlow2
              rw [this]
              simp
            have t1 : topX (atRead x) = (x.rw, x.rl) := two_same _
            have t2 : topX (atTo x ts) = ts := two_same _
            rw [g1, g2]
            unfold preadC
            rw [t1, t2, e1]
            have hver : lt ((verF k (pverC r k (x.rw, x.rl))).sw, (verF k (pverC r k (x.rw, x.rl))).sl) (x.rw, x.rl) = true := by
              cases hp : pverC r k (x.rw, x.rl) with
              | none =>
                rw [lt_iff]
                show (0 : Int) < x.rw ∨ ((0 : Int) = x.rw ∧ (0 : Int) < x.rl)
                omega
              | some c => exact e2 c hp
            have hver2 : lt ((verF k (pverC r k (x.rw, x.rl))).sw, (verF k (pverC r k (x.rw, x.rl))).sl) ts = true := by
              have := lt_iff.1 hver
              rw [lt_iff]
              simp only at this ⊢
              omega
            have n1 : newF (pverC r k (x.rw, x.rl)) k (atRead x) = (verF k (pverC r k (x.rw, x.rl)), 0) := by
              unfold newF
              have : lt ((verF k (pverC r k (x.rw, x.rl))).sw, (verF k (pverC r k (x.rw, x.rl))).sl) ((atRead x).rw, (atRead x).rl) = true := hver
              rw [this]
              simp
            have n2 : newF (pverC r k (x.rw, x.rl)) k (atTo x ts) = (verF k (pverC r k (x.rw, x.rl)), 0) := by
              unfold newF
              have : lt ((verF k (pverC r k (x.rw, x.rl))).sw, (verF k (pverC r k (x.rw, x.rl))).sl) ((atTo x ts).rw, (atTo x ts).rl) = true := hver2
              rw [this]
              simp
            unfold preadW
            cases hy : pint r k with
            | none =>
              simp only
              rw [n1, n2]
              exact .inr ⟨rfl, rfl⟩
            | some y =>
              have hw := fi_none hs hf hk hin hy
              unfold wayP at hw
              simp only
              rw [t1, t2, n1, n2]
              have i1 : (atRead x).id = x.id := rfl
              have i2 : (atTo x ts).id = x.id := rfl
              have i3 : (atRead x).ep = x.ep := rfl
              have i4 : (atTo x ts).ep = x.ep := rfl
              rw [i1, i2, i3, i4]
              by_cases hyi : y.id = x.id
              · by_cases c1 : x.ep < y.ep
                · left
                  simp only [hyi, c1, and_self, if_true]
                · right
                  by_cases c2 : y.ep = x.ep
                  · have c3 : ¬ x.ep < x.ep := by omega
                    simp only [hyi, c2, c3, and_self, and_false, if_false, if_true]
                  · simp only [hyi, c1, c2, and_false, not_true, false_and, if_false]
                    exact ⟨trivial, trivial⟩
              · rw [decide_eq_false hyi] at hw
                simp only [Bool.not_false, Bool.true_and, Bool.not_eq_false'] at hw
                have hw' := lt_iff.1 hw
                have d1 : lt (x.rw, x.rl) (y.sw, y.sl) = true := by
                  rw [lt_iff]
                  simp only at hw' ⊢
                  omega
                right
                simp only [hyi, d1, hw, and_false, false_and, if_false, Bool.true_eq_false]
                exact ⟨trivial, trivial⟩
  · rename_i hc
    injection h with _ h
    exact absurd h hc
end Go.Proofs.YtldbmogondmgmaaGreatDoor
set_option linter.unusedVariables false
set_option linter.unusedSimpArgs false
set_option maxRecDepth 100000
namespace Go.Proofs.YtldbmogondmgmaaGreatDoor
open Go.RowKit

set_option maxHeartbeats 4000000 in
theorem idxP {S : Type} (ok : S → Int × Int → Bool) (nx : S → Int × Int → S) (J : S → World → Prop) (A : Option Addr) (n c : Nat) (l : List (Int × Int)) (hn : n ≤ 9223372036854775807)
    (hat : ∀ s W, J s W → Stamps W A n l)
    (step : ∀ s (c : Int × Int) W, J s W → Calls Tryz.prog 186 #[(sv c.1 c.2)] W fun e w' => e = .returned (.bool (!(ok s c))) ∧ J (nx s c) w')
    (s : S) (w : World) (hJ : J s w) :
    Calls Tryz.prog 215 #[.slice A n c, .func (.func 186) #[] #[]] w fun e w' => ∃ k : Int, e = .returned (.int .i64 k) ∧ decide (0 ≤ k) = !(scan ok nx s l) ∧ ∃ s', J s' w' := by
  have ST := Lib.hid step
  have HF := Lib.hid hat
  clear step hat
  go_enter Tryz.func215, Tryz.ntmps215
  go_wp2
  go_loopw [8] (fun i wr => ∃ (k : Nat) (s' : S), k ≤ n ∧ i = .int .i64 k ∧ Hid (scan ok nx s' (l.drop k) = scan ok nx s l) ∧ J s' wr) (fun i _ => n - (intOf i).toNat)
  case atStart => exact ⟨0, s, Nat.zero_le _, rfl, rfl, hJ⟩
  case round =>
    obtain ⟨k, s', hk, rfl, hrun, hRep⟩ := hrel
    have hfa := HF.out s' wr hRep
    have hlen := hfa.1
    by_cases hlt : k < n
    · have hkl : k < l.length := by omega
      obtain ⟨b, o, rfl, hc⟩ := hfa.2 (by omega)
      obtain ⟨h1, h2⟩ := hc k hkl
      have hs := ST.out s' (l[k]'hkl) wr hRep
      have hd : l.drop k = (l[k]'hkl) :: l.drop (k + 1) := List.drop_eq_getElem_cons hkl
      have hrun' := hrun.out
      rw [hd] at hrun'
      generalize (l[k]'hkl) = x at *
      clear hc hfa HF ST hd hrun
      cases hok : ok s' x with
      | true =>
        have HR := Lib.hid (show scan ok nx (nx s' x) (l.drop (k + 1)) = scan ok nx s l by rw [← hrun', scan, hok, Bool.true_and])
        rw [hok] at hs
        clear hrun' hok
        go_wp2_with fail
        refine hs.mono ?_
        rintro e w2 ⟨rfl, h2⟩
        go_wp2
        go_roundw
        case rel => exact ⟨k + 1, _, by omega, by go_num, HR, h2⟩
        case measure => simp [intOf]; omega
      | false =>
        have HR := Lib.hid (show scan ok nx s l = false by rw [← hrun', scan, hok, Bool.false_and])
        rw [hok] at hs
        clear hrun' hok
        go_wp2_with fail
        refine hs.mono ?_
        rintro e w2 ⟨rfl, h2⟩
        go_wp2
        go_ret
        exact ⟨k, rfl, by rw [HR.out]; exact decide_eq_true (by omega), _, h2⟩
    · have HR := Lib.hid (show scan ok nx s l = true by rw [← hrun.out, List.drop_of_length_le (by omega), scan])
      clear hrun HF ST hfa
      go_wp2
      go_ret
      exact ⟨-1, rfl, by rw [HR.out]; rfl, _, hRep⟩
theorem conP {S : Type} (ok : S → Int × Int → Bool) (nx : S → Int × Int → S) (J : S → World → Prop) (A : Option Addr) (n c : Nat) (l : List (Int × Int)) (hn : n ≤ 9223372036854775807)
    (hat : ∀ s W, J s W → Stamps W A n l)
    (step : ∀ s (c : Int × Int) W, J s W → Calls Tryz.prog 186 #[(sv c.1 c.2)] W fun e w' => e = .returned (.bool (!(ok s c))) ∧ J (nx s c) w')
    (s : S) (w : World) (hJ : J s w) :
    Calls Tryz.prog 185 #[.slice A n c, .func (.func 186) #[] #[]] w fun e w' => e = .returned (.bool (!(scan ok nx s l))) ∧ ∃ s', J s' w' := by
  have HI := Lib.hid (idxP ok nx J A n c l hn hat step s w hJ)
  clear step hat hJ
  go_enter Tryz.func185, Tryz.ntmps185
  go_wp2_with fail
  refine HI.out.mono ?_
  rintro e w1 ⟨k, rfl, hk, h1⟩
  have HK := Lib.hid hk
  clear hk
  go_wp2
  go_ret
  exact ⟨congrArg (fun b => Ending.returned (Value.bool b)) HK.out, h1⟩

theorem pkOne (c : Int × Int) (W : World) :
    Calls Tryz.prog 186 #[sv c.1 c.2] W fun e w' => e = .returned (.bool (!(mayP c))) ∧ Below W.heap.size W w' := by
  obtain ⟨x, y⟩ := c
  have h3 := Blk.new W 26 #[.int .i64 x, .int .i64 y]
  have HO := Lib.hid (check_c x y (W.alloc (.cells #[.int .i64 x, .int .i64 y] 26)))
  have c0 := h3.cell 0
  have c1 := h3.cell 1
  simp at c0 c1
  clear h3
  have hck : (ck x y != 0) = !mayP (x, y) := by
    unfold ck mayP
    cases may x y <;> rfl
  obtain ⟨kk, hkk⟩ : ∃ kk, ck x y = kk := ⟨_, rfl⟩
  rw [hkk] at HO hck
  rw [← hck]
  clear hkk hck
  go_enter Tryz.func186, Tryz.ntmps186
  go_wp2_with (go_at_call 145; refine HO.out.mono ?_; rintro e w1 ⟨rfl, q1⟩)
  have q3 := (nbl W (.cells #[.int .i64 x, .int .i64 y] 26)).trans (q1.mono (by simp))
  go_ret
  exact ⟨rfl, q3⟩
theorem pkStamps (A : Option Addr) (n c : Nat) (l : List (Int × Int)) (b : Bool) (hb : l.all mayP = b) (w : World) (hn : n ≤ 9223372036854775807) (hx : Stamps w A n l) :
    Calls Tryz.prog 121 #[.slice A n c] w fun e w' => e = .returned (.bool b) ∧ Below w.heap.size w w' := by
  have HC := Lib.hid (conP (fun (_ : Unit) p => mayP p) (fun u _ => u) (fun _ W => Below w.heap.size w W) A n c l hn (fun s W h => hx.below' h)
    (fun s x W h => (pkOne x W).mono fun e w' ⟨h1, h3⟩ => ⟨h1, h.trans (h3.mono h.size)⟩) () w (Below.refl _ _))
  rw [scan_all, hb] at HC
  clear hb hx
  go_enter Tryz.func121, Tryz.ntmps121
  go_wp2_with fail
  refine HC.out.mono ?_
  rintro e w1 ⟨rfl, s', h1⟩
  go_wp2
  go_ret
  exact ⟨by simp, h1⟩
theorem pkIsKey (key : ByteArray) (w : World) (hM : MaxL w) : Calls Tryz.prog 58 #[.string key] w fun e w' => e = .returned (.bool (isK key)) ∧ Below w.heap.size w w' := by
  have HK := Lib.hid (intentKey_c key w hM)
  have hf : ∃ s n, markK [105] key [] = .returned (.tuple #[.string s, .int .i64 n]) ∧ (n == 0) = isK key := by
    unfold markK
    cases isK key
    · exact ⟨_, _, rfl, rfl⟩
    · exact ⟨_, _, rfl, rfl⟩
  obtain ⟨s, n, hs, hn⟩ := hf
  rw [hs] at HK
  rw [← hn]
  clear hs hn
  go_enter Tryz.func58, Tryz.ntmps58
  go_wp2_with (go_at_call 13; refine HK.out.mono ?_; rintro e w1 ⟨rfl, hb1⟩)
  go_ret
  exact ⟨rfl, hb1⟩
theorem two_stamps (w : World) (a b c d : Int) : Stamps (w.alloc (.cells #[.int .i64 a, .int .i64 b, .int .i64 c, .int .i64 d] 26)) (some ⟨w.heap.size, 0, none⟩) 2 [(a, b), (c, d)] := by
  have h := Blk.new w 26 #[.int .i64 a, .int .i64 b, .int .i64 c, .int .i64 d]
  refine ⟨rfl, fun _ => ⟨w.heap.size, 0, rfl, fun i hi => ?_⟩⟩
  have : i = 0 ∨ i = 1 := by simp at hi; omega
  rcases this with rfl | rfl
  · exact ⟨h.cell 0, h.cell 1⟩
  · exact ⟨h.cell 2, h.cell 3⟩
theorem one_stamp (w : World) (a b : Int) : Stamps (w.alloc (.cells #[.int .i64 a, .int .i64 b] 26)) (some ⟨w.heap.size, 0, none⟩) 1 [(a, b)] := by
  have h := Blk.new w 26 #[.int .i64 a, .int .i64 b]
  refine ⟨rfl, fun _ => ⟨w.heap.size, 0, rfl, fun i hi => ?_⟩⟩
  have : i = 0 := by simp at hi; omega
  subst this
  exact ⟨h.cell 0, h.cell 1⟩
set_option maxHeartbeats 2000000 in
theorem pkTop (x : Tx) (w : World) : Calls Tryz.prog 17 #[txv x] w fun e w' => e = .returned (sv (topX x).1 (topX x).2) ∧ Below w.heap.size w w' := by
  have hmx : mx [(x.rw, x.rl), (x.lw, x.ll)] = topX x := rfl
  have HM := Lib.hid (fun (A : Option Addr) (V : World) h => max_c A 2 2 [(x.rw, x.rl), (x.lw, x.ll)] V h (by decide))
  rw [hmx] at HM
  generalize topX x = m at *
  obtain ⟨m1, m2⟩ := m
  clear hmx
  obtain ⟨x0, x1, x2, x3, x4, x5, x6, x7, x8, x9, x10, x11⟩ := x
  have hz1 : (w.alloc (.cells (txc ⟨x0, x1, x2, x3, x4, x5, x6, x7, x8, x9, x10, x11⟩) 28)).heap.size = w.heap.size + 1 := World.size_alloc _ _
  have hz2 : ((w.alloc (.cells (txc ⟨x0, x1, x2, x3, x4, x5, x6, x7, x8, x9, x10, x11⟩) 28)).alloc (.cells #[.int .i64 0, .int .i64 0] 26)).heap.size = w.heap.size + 1 + 1 := (World.size_alloc _ _).trans (by rw [hz1])
  have hs := two_stamps ((w.alloc (.cells (txc ⟨x0, x1, x2, x3, x4, x5, x6, x7, x8, x9, x10, x11⟩) 28)).alloc (.cells #[.int .i64 0, .int .i64 0] 26)) x4 x5 x8 x9
  rw [hz2] at hs
  have hB := Box.new (w.alloc (.cells (txc ⟨x0, x1, x2, x3, x4, x5, x6, x7, x8, x9, x10, x11⟩) 28)) 0 0
  rw [hz1] at hB
  have hB1 := hB.keep (nbl _ (.cells #[.int .i64 x4, .int .i64 x5, .int .i64 x8, .int .i64 x9] 26))
  have g1 := bsa (bsa (nbl w (.cells (txc ⟨x0, x1, x2, x3, x4, x5, x6, x7, x8, x9, x10, x11⟩) 28)) (.cells #[.int .i64 0, .int .i64 0] 26)) (.cells #[.int .i64 x4, .int .i64 x5, .int .i64 x8, .int .i64 x9] 26)
  have HC := Lib.hid (HM.out _ _ hs)
  have HB1 := Lib.hid hB1
  have HG1 := Lib.hid g1
  clear hs hB hB1 g1 hz1 hz2 HM
  go_enter Tryz.func17, Tryz.ntmps17
  go_wp2_with fail
  refine HC.out.mono ?_
  rintro e w1 ⟨rfl, hb1⟩
  have hB2 := HB1.out.keep hb1
  have g0 := bst HG1.out hb1
  have r0 := hB2.c0
  have r1 := hB2.c1
  have f0 := hB2.fz 0
  have f1 := hB2.fz 1
  clear hb1
  go_wp2
  exact ret_one rfl rfl ((hB2.put0 _).put1 _) rfl ⟨rfl, (g0.setCell (by simp) _).setCell (by simp) _⟩
set_option maxHeartbeats 2000000 in
theorem pkMay (x : Tx) (w : World) : Calls Tryz.prog 120 #[txv x] w fun e w' => e = .returned (.bool (mayX x)) ∧ Below w.heap.size w w' := by
  have HA := Lib.hid (pkStamps (some ⟨w.heap.size + 1, 0, none⟩) 2 2 [(x.rw, x.rl), (x.lw, x.ll)] (may x.rw x.rl && may x.lw x.ll) (by simp [mayP]) ((w.alloc (.cells (txc x) 28)).alloc (.cells #[.int .i64 x.rw, .int .i64 x.rl, .int .i64 x.lw, .int .i64 x.ll] 26)) (by decide)
    (by have := two_stamps (w.alloc (.cells (txc x) 28)) x.rw x.rl x.lw x.ll; simpa using this))
  have HG := Lib.hid (bsa (nbl w (.cells (txc x) 28)) (.cells #[.int .i64 x.rw, .int .i64 x.rl, .int .i64 x.lw, .int .i64 x.ll] 26))
  have HG1 := Lib.hid (nbl w (.cells (txc x) 28))
  unfold mayX idOk
  obtain ⟨bb, hbb⟩ : ∃ bb, (may x.rw x.rl && may x.lw x.ll) = bb := ⟨_, rfl⟩
  rw [hbb] at HA ⊢
  clear hbb
  obtain ⟨x0, x1, x2, x3, x4, x5, x6, x7, x8, x9, x10, x11⟩ := x
  simp only at HA HG HG1 ⊢
  by_cases c1 : 1 ≤ x0
  · by_cases c2 : x0 ≤ 9007199254740991
    · by_cases c3 : 0 ≤ x1
      · by_cases c4 : x1 ≤ 9007199254740991
        · rw [decide_eq_true (show 1 ≤ x0 ∧ x0 ≤ 9007199254740991 ∧ 0 ≤ x1 ∧ x1 ≤ 9007199254740991 from ⟨c1, c2, c3, c4⟩)]
          go_enter Tryz.func120, Tryz.ntmps120
          go_wp2_with (go_at_call 121; refine HA.out.mono ?_; rintro e w1 ⟨rfl, hb1⟩)
          go_ret
          exact ⟨by simp, bst HG.out hb1⟩
        · rw [decide_eq_false (show ¬ (1 ≤ x0 ∧ x0 ≤ 9007199254740991 ∧ 0 ≤ x1 ∧ x1 ≤ 9007199254740991) from fun h => c4 h.2.2.2)]
          go_enter Tryz.func120, Tryz.ntmps120
          go_wp2
          go_ret
          exact ⟨by simp, HG1.out⟩
      · rw [decide_eq_false (show ¬ (1 ≤ x0 ∧ x0 ≤ 9007199254740991 ∧ 0 ≤ x1 ∧ x1 ≤ 9007199254740991) from fun h => c3 h.2.2.1)]
        go_enter Tryz.func120, Tryz.ntmps120
        go_wp2
        go_ret
        exact ⟨by simp, HG1.out⟩
    · rw [decide_eq_false (show ¬ (1 ≤ x0 ∧ x0 ≤ 9007199254740991 ∧ 0 ≤ x1 ∧ x1 ≤ 9007199254740991) from fun h => c2 h.2.1)]
      go_enter Tryz.func120, Tryz.ntmps120
      go_wp2
      go_ret
      exact ⟨by simp, HG1.out⟩
  · rw [decide_eq_false (show ¬ (1 ≤ x0 ∧ x0 ≤ 9007199254740991 ∧ 0 ≤ x1 ∧ x1 ≤ 9007199254740991) from fun h => c1 h.1)]
    go_enter Tryz.func120, Tryz.ntmps120
    go_wp2
    go_ret
    exact ⟨by simp, HG1.out⟩
end Go.Proofs.YtldbmogondmgmaaGreatDoor
set_option linter.unusedVariables false
set_option linter.unusedSimpArgs false
set_option maxRecDepth 100000
namespace Go.Proofs.YtldbmogondmgmaaGreatDoor
open Go.RowKit

theorem below15 {B g : Nat} {w W : World} {v0 v1 v2 v3 v4 v5 v6 v7 v8 v9 v10 v11 v12 v13 v14 : Value} (h : Below B w W) (hg : B ≤ g) : Below B w (((((((((((((((W.setCell ⟨g, 0, none⟩ v0).setCell ⟨g, 1, none⟩ v1).setCell ⟨g, 2, none⟩ v2).setCell ⟨g, 3, none⟩ v3).setCell ⟨g, 4, none⟩ v4).setCell ⟨g, 5, none⟩ v5).setCell ⟨g, 6, none⟩ v6).setCell ⟨g, 7, none⟩ v7).setCell ⟨g, 8, none⟩ v8).setCell ⟨g, 9, none⟩ v9).setCell ⟨g, 10, none⟩ v10).setCell ⟨g, 11, none⟩ v11).setCell ⟨g, 12, none⟩ v12).setCell ⟨g, 13, none⟩ v13).setCell ⟨g, 14, none⟩ v14) := (((((((((((((((h.setCell (by exact hg) _).setCell (by exact hg) _).setCell (by exact hg) _).setCell (by exact hg) _).setCell (by exact hg) _).setCell (by exact hg) _).setCell (by exact hg) _).setCell (by exact hg) _).setCell (by exact hg) _).setCell (by exact hg) _).setCell (by exact hg) _).setCell (by exact hg) _).setCell (by exact hg) _).setCell (by exact hg) _).setCell (by exact hg) _)
theorem ChAt.put15 {W : World} {A : Option Addr} {n g : Nat} {l : List Ch} {v0 v1 v2 v3 v4 v5 v6 v7 v8 v9 v10 v11 v12 v13 v14 : Value} (h : ChAt W A n l) (ha : 0 < n → ∀ a, A = some a → a.block ≠ g) : ChAt (((((((((((((((W.setCell ⟨g, 0, none⟩ v0).setCell ⟨g, 1, none⟩ v1).setCell ⟨g, 2, none⟩ v2).setCell ⟨g, 3, none⟩ v3).setCell ⟨g, 4, none⟩ v4).setCell ⟨g, 5, none⟩ v5).setCell ⟨g, 6, none⟩ v6).setCell ⟨g, 7, none⟩ v7).setCell ⟨g, 8, none⟩ v8).setCell ⟨g, 9, none⟩ v9).setCell ⟨g, 10, none⟩ v10).setCell ⟨g, 11, none⟩ v11).setCell ⟨g, 12, none⟩ v12).setCell ⟨g, 13, none⟩ v13).setCell ⟨g, 14, none⟩ v14) A n l := (((((((((((((((h.put ha).put ha).put ha).put ha).put ha).put ha).put ha).put ha).put ha).put ha).put ha).put ha).put ha).put ha).put ha)
/-- What read, Get answer. -/
def AnsF (o : Fd × Int) (e : Ending) (w' : World) : Prop := ∃ A n c, e = .returned (.tuple #[fdv o.1 (.slice A n c), .int .i64 o.2]) ∧ ChAt w' A n o.1.it.l ∧ n ≤ 9223372036854775807
theorem verF_it (key : ByteArray) (o : Option Ver) : (verF key o).it = zI ∧ (verF key o).own = false ∧ (verF key o).key = key := by
  cases o with
  | none => exact ⟨rfl, rfl, rfl⟩
  | some q => exact ⟨rfl, rfl, rfl⟩
theorem tkI_may {b : List UInt8} {y : It} (h : tkI b = some y) : mayI y = true ∧ y.l ≠ [] := by
  unfold tkI at h
  split at h
  · rename_i hm
    cases h
    refine ⟨hm.2, fun e => ?_⟩
    have := hm.2
    unfold mayI at this
    rw [e] at this
    simp at this
  · cases h
theorem top_may {x : Tx} (h : mayX x = true) : may (topX x).1 (topX x).2 = true := by
  unfold mayX at h
  simp only [Bool.and_eq_true] at h
  unfold topX two
  split
  · exact h.2.2
  · exact h.2.1
/-- What a transaction at some place is seen to be: two stamps, two numbers. -/
theorem newF_is (v : Option Ver) (key : ByteArray) (x : Tx) (u : Fd) (hu : verF key v = u) : newF v key x = if lt (u.sw, u.sl) (x.rw, x.rl) = false then (⟨key, ⟨#[]⟩, false, false, u.sw, u.sl, zI⟩, 121) else (u, 0) := by
  subst hu
  rfl
end Go.Proofs.YtldbmogondmgmaaGreatDoor
set_option linter.unusedVariables false
set_option linter.unusedSimpArgs false
set_option maxRecDepth 100000
namespace Go.Proofs.YtldbmogondmgmaaGreatDoor
open Go.RowKit
set_option maxHeartbeats 8000000 in
theorem read_none_false {V : World} {p : Nat} (key : ByteArray) (x0 x1 x2 : Int) (x3 : ByteArray) (x4 x5 x6 x7 x8 x9 x10 x11 m1 m2 : Int) (uk uv : ByteArray) (ui uo : Bool) (usw usl : Int)
    (HT : Hid (∀ W, Calls Tryz.prog 17 #[txv ⟨x0, x1, x2, x3, x4, x5, x6, x7, x8, x9, x10, x11⟩] W fun e w' => e = .returned (sv m1 m2) ∧ Below W.heap.size W w'))
    (HI : Hid (∀ W, Below V.heap.size V W → Calls Tryz.prog 122 #[pt p, .string key] W fun e w' => e = .returned (.tuple #[itv zI (.slice none 0 0), .bool false]) ∧ Below W.heap.size W w'))
    (HV : Hid (∀ W, Below V.heap.size V W → Calls Tryz.prog 124 #[pt p, .string key, sv m1 m2] W fun e w' => e = .returned (fdv ⟨uk, uv, ui, uo, usw, usl, zI⟩ (.slice none 0 0)) ∧ Below W.heap.size W w'))
    (HL2 : Hid (∀ W, Calls Tryz.prog 12 #[sv usw usl, sv x4 x5] W fun e w' => e = .returned (.bool false) ∧ Below W.heap.size W w'))
    : Calls Tryz.prog 59 #[pt p, .string key, txv ⟨x0, x1, x2, x3, x4, x5, x6, x7, x8, x9, x10, x11⟩] V fun e w' => AnsF (⟨key, ⟨#[]⟩, false, false, usw, usl, zI⟩, 121) e w' ∧ Below V.heap.size V w' := by
  have hz1 : (V.alloc (.cells (txc ⟨x0, x1, x2, x3, x4, x5, x6, x7, x8, x9, x10, x11⟩) 28)).heap.size = V.heap.size + 1 := World.size_alloc _ _
  have TX0 := Lib.hid ((Blk.new V 28 (txc ⟨x0, x1, x2, x3, x4, x5, x6, x7, x8, x9, x10, x11⟩)).below (nbl _ (.cells (fdc zF (.slice none 0 0)) 60)) (Blk.new V 28 _).lt)
  have RB0 := Lib.hid (Blk.new (V.alloc (.cells (txc ⟨x0, x1, x2, x3, x4, x5, x6, x7, x8, x9, x10, x11⟩) 28)) 60 (fdc zF (.slice none 0 0)))
  rw [hz1] at RB0
  have G0 := Lib.hid (bsa (nbl V (.cells (txc ⟨x0, x1, x2, x3, x4, x5, x6, x7, x8, x9, x10, x11⟩) 28)) (.cells (fdc zF (.slice none 0 0)) 60))
  clear hz1
  go_enter Tryz.func59, Tryz.ntmps59
  go_wp2_with (first
      | (go_at_call 17; refine (HT.out _).mono ?_; rintro e w1 ⟨rfl, hb1⟩
         have g1 := bsa (bst G0.out hb1) (.cells #[.int .i64 m1, .int .i64 m2] 26)
         have hb1' := bsa hb1 (.cells #[.int .i64 m1, .int .i64 m2] 26)
         have TX1 := Lib.hid (TX0.out.below hb1' TX0.out.lt)
         have RB1 := Lib.hid (RB0.out.below hb1' RB0.out.lt)
         have ST1 := Lib.hid (Blk.new w1 26 #[.int .i64 m1, .int .i64 m2])
         have G1 := Lib.hid g1
         clear hb1 hb1' g1)
      | (go_at_call 122; refine (HI.out _ G1.out).mono ?_; rintro e w2 ⟨rfl, hb2⟩
         have hb2' := bsa hb2 (.cells (itc zI (.slice none 0 0)) 39)
         have tx2 := TX1.out.below hb2' TX1.out.lt
         have rb2 := RB1.out.below hb2' RB1.out.lt
         have st2 := ST1.out.below hb2' ST1.out.lt
         have G2 := Lib.hid (bst G1.out hb2')
         have x2_0 := tx2.cell 0
         have x2_1 := tx2.cell 1
         simp at x2_0 x2_1
         have s2_0 := st2.cell 0
         have s2_1 := st2.cell 1
         simp at s2_0 s2_1
         have r2_0 := rb2.cell 0
         have q2_0 := rb2.frozen 0
         have r2_1 := rb2.cell 1
         have q2_1 := rb2.frozen 1
         have r2_2 := rb2.cell 2
         have q2_2 := rb2.frozen 2
         have r2_3 := rb2.cell 3
         have q2_3 := rb2.frozen 3
         have r2_4 := rb2.cell 4
         have q2_4 := rb2.frozen 4
         have r2_5 := rb2.cell 5
         have q2_5 := rb2.frozen 5
         have r2_6 := rb2.cell 6
         have q2_6 := rb2.frozen 6
         have r2_7 := rb2.cell 7
         have q2_7 := rb2.frozen 7
         have r2_8 := rb2.cell 8
         have q2_8 := rb2.frozen 8
         have r2_9 := rb2.cell 9
         have q2_9 := rb2.frozen 9
         have r2_10 := rb2.cell 10
         have q2_10 := rb2.frozen 10
         have r2_11 := rb2.cell 11
         have q2_11 := rb2.frozen 11
         have r2_12 := rb2.cell 12
         have q2_12 := rb2.frozen 12
         have r2_13 := rb2.cell 13
         have q2_13 := rb2.frozen 13
         have r2_14 := rb2.cell 14
         have q2_14 := rb2.frozen 14
         simp at r2_0 r2_1 r2_2 r2_3 r2_4 r2_5 r2_6 r2_7 r2_8 r2_9 r2_10 r2_11 r2_12 r2_13 r2_14
         have TX2 := Lib.hid tx2
         have RB2 := Lib.hid rb2
         have ST2 := Lib.hid st2
         clear hb2 hb2' tx2 rb2 st2)
      | (go_at_call 124; refine (HV.out _ G2.out).mono ?_; rintro e w4 ⟨rfl, hb4⟩
         have hb4' := bsa hb4 (.cells (fdc ⟨uk, uv, ui, uo, usw, usl, zI⟩ (.slice none 0 0)) 60)
         have tx4 := TX2.out.below hb4' TX2.out.lt
         have rb4 := RB2.out.below hb4' RB2.out.lt
         have nb4 := Blk.new w4 60 (fdc ⟨uk, uv, ui, uo, usw, usl, zI⟩ (.slice none 0 0))
         have G4 := Lib.hid (bst G2.out hb4')
         have x4_4 := tx4.cell 4
         have x4_5 := tx4.cell 5
         simp at x4_4 x4_5
         have TX4 := Lib.hid tx4
         have RB4 := Lib.hid rb4
         have NB4 := Lib.hid nb4
         clear hb4 hb4' tx4 rb4 nb4)
      | (go_at_call_of 12 (Value.agg #[Value.int .i64 usw, Value.int .i64 usl]); refine (HL2.out _).mono ?_; rintro e w5 ⟨rfl, hb5⟩
         have rb5 := RB4.out.below hb5 RB4.out.lt
         have nb5 := NB4.out.below hb5 NB4.out.lt
         have r5_0 := rb5.cell 0
         have q5_0 := rb5.frozen 0
         have r5_1 := rb5.cell 1
         have q5_1 := rb5.frozen 1
         have r5_2 := rb5.cell 2
         have q5_2 := rb5.frozen 2
         have r5_3 := rb5.cell 3
         have q5_3 := rb5.frozen 3
         have r5_4 := rb5.cell 4
         have q5_4 := rb5.frozen 4
         have r5_5 := rb5.cell 5
         have q5_5 := rb5.frozen 5
         have r5_6 := rb5.cell 6
         have q5_6 := rb5.frozen 6
         have r5_7 := rb5.cell 7
         have q5_7 := rb5.frozen 7
         have r5_8 := rb5.cell 8
         have q5_8 := rb5.frozen 8
         have r5_9 := rb5.cell 9
         have q5_9 := rb5.frozen 9
         have r5_10 := rb5.cell 10
         have q5_10 := rb5.frozen 10
         have r5_11 := rb5.cell 11
         have q5_11 := rb5.frozen 11
         have r5_12 := rb5.cell 12
         have q5_12 := rb5.frozen 12
         have r5_13 := rb5.cell 13
         have q5_13 := rb5.frozen 13
         have r5_14 := rb5.cell 14
         have q5_14 := rb5.frozen 14
         simp at r5_0 r5_1 r5_2 r5_3 r5_4 r5_5 r5_6 r5_7 r5_8 r5_9 r5_10 r5_11 r5_12 r5_13 r5_14
         have n5_0 := nb5.cell 0
         have n5_1 := nb5.cell 1
         have n5_2 := nb5.cell 2
         have n5_3 := nb5.cell 3
         have n5_4 := nb5.cell 4
         have n5_5 := nb5.cell 5
         have n5_6 := nb5.cell 6
         have n5_7 := nb5.cell 7
         have n5_8 := nb5.cell 8
         have n5_9 := nb5.cell 9
         have n5_10 := nb5.cell 10
         have n5_11 := nb5.cell 11
         have n5_12 := nb5.cell 12
         have n5_13 := nb5.cell 13
         have n5_14 := nb5.cell 14
         simp at n5_0 n5_1 n5_2 n5_3 n5_4 n5_5 n5_6 n5_7 n5_8 n5_9 n5_10 n5_11 n5_12 n5_13 n5_14
         have RB5 := Lib.hid rb5
         have G5 := Lib.hid (bst G4.out hb5)
         clear hb5 rb5 nb5))
  refine ret_fd2 rfl rfl (Blk.all15 (v0 := .string key) (v1 := .string ⟨#[]⟩) (v2 := .bool false) (v3 := .bool false) (v4 := .int .i64 usw) (v5 := .int .i64 usl) (v6 := .int .i64 0) (v7 := .int .i64 0) (v8 := .int .i64 0) (v9 := .string ⟨#[]⟩) (v10 := .int .i64 0) (v11 := .int .i64 0) (v12 := .int .i64 0) (v13 := .int .i64 0) (v14 := .slice none 0 0) (by exact RB5.out)) rfl rfl ⟨⟨none, 0, 0, rfl, ChAt.nil _ _, by omega⟩, below15 G5.out (by exact Nat.le_succ _)⟩
set_option maxHeartbeats 8000000 in
theorem read_none_true {V : World} {p : Nat} (key : ByteArray) (x0 x1 x2 : Int) (x3 : ByteArray) (x4 x5 x6 x7 x8 x9 x10 x11 m1 m2 : Int) (uk uv : ByteArray) (ui uo : Bool) (usw usl : Int)
    (HT : Hid (∀ W, Calls Tryz.prog 17 #[txv ⟨x0, x1, x2, x3, x4, x5, x6, x7, x8, x9, x10, x11⟩] W fun e w' => e = .returned (sv m1 m2) ∧ Below W.heap.size W w'))
    (HI : Hid (∀ W, Below V.heap.size V W → Calls Tryz.prog 122 #[pt p, .string key] W fun e w' => e = .returned (.tuple #[itv zI (.slice none 0 0), .bool false]) ∧ Below W.heap.size W w'))
    (HV : Hid (∀ W, Below V.heap.size V W → Calls Tryz.prog 124 #[pt p, .string key, sv m1 m2] W fun e w' => e = .returned (fdv ⟨uk, uv, ui, uo, usw, usl, zI⟩ (.slice none 0 0)) ∧ Below W.heap.size W w'))
    (HL2 : Hid (∀ W, Calls Tryz.prog 12 #[sv usw usl, sv x4 x5] W fun e w' => e = .returned (.bool true) ∧ Below W.heap.size W w'))
    : Calls Tryz.prog 59 #[pt p, .string key, txv ⟨x0, x1, x2, x3, x4, x5, x6, x7, x8, x9, x10, x11⟩] V fun e w' => AnsF (⟨uk, uv, ui, uo, usw, usl, zI⟩, 0) e w' ∧ Below V.heap.size V w' := by
  have hz1 : (V.alloc (.cells (txc ⟨x0, x1, x2, x3, x4, x5, x6, x7, x8, x9, x10, x11⟩) 28)).heap.size = V.heap.size + 1 := World.size_alloc _ _
  have TX0 := Lib.hid ((Blk.new V 28 (txc ⟨x0, x1, x2, x3, x4, x5, x6, x7, x8, x9, x10, x11⟩)).below (nbl _ (.cells (fdc zF (.slice none 0 0)) 60)) (Blk.new V 28 _).lt)
  have RB0 := Lib.hid (Blk.new (V.alloc (.cells (txc ⟨x0, x1, x2, x3, x4, x5, x6, x7, x8, x9, x10, x11⟩) 28)) 60 (fdc zF (.slice none 0 0)))
  rw [hz1] at RB0
  have G0 := Lib.hid (bsa (nbl V (.cells (txc ⟨x0, x1, x2, x3, x4, x5, x6, x7, x8, x9, x10, x11⟩) 28)) (.cells (fdc zF (.slice none 0 0)) 60))
  clear hz1
  go_enter Tryz.func59, Tryz.ntmps59
  go_wp2_with (first
      | (go_at_call 17; refine (HT.out _).mono ?_; rintro e w1 ⟨rfl, hb1⟩
         have g1 := bsa (bst G0.out hb1) (.cells #[.int .i64 m1, .int .i64 m2] 26)
         have hb1' := bsa hb1 (.cells #[.int .i64 m1, .int .i64 m2] 26)
         have TX1 := Lib.hid (TX0.out.below hb1' TX0.out.lt)
         have RB1 := Lib.hid (RB0.out.below hb1' RB0.out.lt)
         have ST1 := Lib.hid (Blk.new w1 26 #[.int .i64 m1, .int .i64 m2])
         have G1 := Lib.hid g1
         clear hb1 hb1' g1)
      | (go_at_call 122; refine (HI.out _ G1.out).mono ?_; rintro e w2 ⟨rfl, hb2⟩
         have hb2' := bsa hb2 (.cells (itc zI (.slice none 0 0)) 39)
         have tx2 := TX1.out.below hb2' TX1.out.lt
         have rb2 := RB1.out.below hb2' RB1.out.lt
         have st2 := ST1.out.below hb2' ST1.out.lt
         have G2 := Lib.hid (bst G1.out hb2')
         have x2_0 := tx2.cell 0
         have x2_1 := tx2.cell 1
         simp at x2_0 x2_1
         have s2_0 := st2.cell 0
         have s2_1 := st2.cell 1
         simp at s2_0 s2_1
         have r2_0 := rb2.cell 0
         have q2_0 := rb2.frozen 0
         have r2_1 := rb2.cell 1
         have q2_1 := rb2.frozen 1
         have r2_2 := rb2.cell 2
         have q2_2 := rb2.frozen 2
         have r2_3 := rb2.cell 3
         have q2_3 := rb2.frozen 3
         have r2_4 := rb2.cell 4
         have q2_4 := rb2.frozen 4
         have r2_5 := rb2.cell 5
         have q2_5 := rb2.frozen 5
         have r2_6 := rb2.cell 6
         have q2_6 := rb2.frozen 6
         have r2_7 := rb2.cell 7
         have q2_7 := rb2.frozen 7
         have r2_8 := rb2.cell 8
         have q2_8 := rb2.frozen 8
         have r2_9 := rb2.cell 9
         have q2_9 := rb2.frozen 9
         have r2_10 := rb2.cell 10
         have q2_10 := rb2.frozen 10
         have r2_11 := rb2.cell 11
         have q2_11 := rb2.frozen 11
         have r2_12 := rb2.cell 12
         have q2_12 := rb2.frozen 12
         have r2_13 := rb2.cell 13
         have q2_13 := rb2.frozen 13
         have r2_14 := rb2.cell 14
         have q2_14 := rb2.frozen 14
         simp at r2_0 r2_1 r2_2 r2_3 r2_4 r2_5 r2_6 r2_7 r2_8 r2_9 r2_10 r2_11 r2_12 r2_13 r2_14
         have TX2 := Lib.hid tx2
         have RB2 := Lib.hid rb2
         have ST2 := Lib.hid st2
         clear hb2 hb2' tx2 rb2 st2)
      | (go_at_call 124; refine (HV.out _ G2.out).mono ?_; rintro e w4 ⟨rfl, hb4⟩
         have hb4' := bsa hb4 (.cells (fdc ⟨uk, uv, ui, uo, usw, usl, zI⟩ (.slice none 0 0)) 60)
         have tx4 := TX2.out.below hb4' TX2.out.lt
         have rb4 := RB2.out.below hb4' RB2.out.lt
         have nb4 := Blk.new w4 60 (fdc ⟨uk, uv, ui, uo, usw, usl, zI⟩ (.slice none 0 0))
         have G4 := Lib.hid (bst G2.out hb4')
         have x4_4 := tx4.cell 4
         have x4_5 := tx4.cell 5
         simp at x4_4 x4_5
         have TX4 := Lib.hid tx4
         have RB4 := Lib.hid rb4
         have NB4 := Lib.hid nb4
         clear hb4 hb4' tx4 rb4 nb4)
      | (go_at_call_of 12 (Value.agg #[Value.int .i64 usw, Value.int .i64 usl]); refine (HL2.out _).mono ?_; rintro e w5 ⟨rfl, hb5⟩
         have rb5 := RB4.out.below hb5 RB4.out.lt
         have nb5 := NB4.out.below hb5 NB4.out.lt
         have r5_0 := rb5.cell 0
         have q5_0 := rb5.frozen 0
         have r5_1 := rb5.cell 1
         have q5_1 := rb5.frozen 1
         have r5_2 := rb5.cell 2
         have q5_2 := rb5.frozen 2
         have r5_3 := rb5.cell 3
         have q5_3 := rb5.frozen 3
         have r5_4 := rb5.cell 4
         have q5_4 := rb5.frozen 4
         have r5_5 := rb5.cell 5
         have q5_5 := rb5.frozen 5
         have r5_6 := rb5.cell 6
         have q5_6 := rb5.frozen 6
         have r5_7 := rb5.cell 7
         have q5_7 := rb5.frozen 7
         have r5_8 := rb5.cell 8
         have q5_8 := rb5.frozen 8
         have r5_9 := rb5.cell 9
         have q5_9 := rb5.frozen 9
         have r5_10 := rb5.cell 10
         have q5_10 := rb5.frozen 10
         have r5_11 := rb5.cell 11
         have q5_11 := rb5.frozen 11
         have r5_12 := rb5.cell 12
         have q5_12 := rb5.frozen 12
         have r5_13 := rb5.cell 13
         have q5_13 := rb5.frozen 13
         have r5_14 := rb5.cell 14
         have q5_14 := rb5.frozen 14
         simp at r5_0 r5_1 r5_2 r5_3 r5_4 r5_5 r5_6 r5_7 r5_8 r5_9 r5_10 r5_11 r5_12 r5_13 r5_14
         have n5_0 := nb5.cell 0
         have n5_1 := nb5.cell 1
         have n5_2 := nb5.cell 2
         have n5_3 := nb5.cell 3
         have n5_4 := nb5.cell 4
         have n5_5 := nb5.cell 5
         have n5_6 := nb5.cell 6
         have n5_7 := nb5.cell 7
         have n5_8 := nb5.cell 8
         have n5_9 := nb5.cell 9
         have n5_10 := nb5.cell 10
         have n5_11 := nb5.cell 11
         have n5_12 := nb5.cell 12
         have n5_13 := nb5.cell 13
         have n5_14 := nb5.cell 14
         simp at n5_0 n5_1 n5_2 n5_3 n5_4 n5_5 n5_6 n5_7 n5_8 n5_9 n5_10 n5_11 n5_12 n5_13 n5_14
         have RB5 := Lib.hid rb5
         have G5 := Lib.hid (bst G4.out hb5)
         clear hb5 rb5 nb5))
  refine ret_fd2 rfl rfl (Blk.all15 (v0 := .string uk) (v1 := .string uv) (v2 := .bool ui) (v3 := .bool uo) (v4 := .int .i64 usw) (v5 := .int .i64 usl) (v6 := .int .i64 0) (v7 := .int .i64 0) (v8 := .int .i64 0) (v9 := .string ⟨#[]⟩) (v10 := .int .i64 0) (v11 := .int .i64 0) (v12 := .int .i64 0) (v13 := .int .i64 0) (v14 := .slice none 0 0) (by exact RB5.out)) rfl rfl ⟨⟨none, 0, 0, rfl, ChAt.nil _ _, by omega⟩, below15 G5.out (by exact Nat.le_succ _)⟩
end Go.Proofs.YtldbmogondmgmaaGreatDoor
set_option linter.unusedVariables false
set_option linter.unusedSimpArgs false
set_option maxRecDepth 100000
namespace Go.Proofs.YtldbmogondmgmaaGreatDoor
open Go.RowKit

set_option maxHeartbeats 4000000 in
theorem pkCheck {w V : World} {T : List As} {p N : Nat} {r : List Rw} (h : Has w (tbA p r :: T) V) (hr : ROk N r) (hN : N ≤ 999999000) (ok : Bool) (x : Tx) (lw ll : Int) :
    Calls Tryz.prog 57 #[pt p, .bool ok, txv x, sv lw ll] V fun e w' => e = .returned (.int .i64 (chkP ok x (lw, ll))) ∧ Has w (tbA p r :: T) w' := by
  have h1 := ((h.newBlk 28 (txc x)).newBlk 26 #[.int .i64 lw, .int .i64 ll]).perm (List.perm_middle (l₁ := [_, _]))
  have hz1 : (V.alloc (.cells (txc x) 28)).heap.size = V.heap.size + 1 := World.size_alloc _ _
  rw [hz1] at h1
  have HA := Lib.hid (show Calls Tryz.prog 27 #[pt p, .slice none 0 0] ((V.alloc (.cells (txc x) 28)).alloc (.cells #[.int .i64 lw, .int .i64 ll] 26)) fun e w' => e = .returned (.int .i64 0) ∧ Has w (tbA p r :: blkA (V.heap.size + 1) 26 #[.int .i64 lw, .int .i64 ll] :: blkA V.heap.size 28 (txc x) :: T) w' from
    (Has.tbApply h1 hr hN none 0 0 [] ⟨rfl, fun h => absurd h (by omega)⟩ (by omega) (fun o ho => nomatch ho)).mono fun e w' hq => ⟨hq.1, hq.2.1⟩)
  have HM := Lib.hid (pkMay x)
  have HS := Lib.hid (fun W => pkStamps (some ⟨W.heap.size, 0, none⟩) 1 1 [(lw, ll)] (may lw ll) (by simp [mayP]) (W.alloc (.cells #[.int .i64 lw, .int .i64 ll] 26)) (by decide) (one_stamp W lw ll))
  have HL := Lib.hid (fun W => less_c lw ll x.rw x.rl W)
  clear h h1 hr hN hz1
  unfold chkP
  simp only
  generalize mayX x = mx_ at *
  generalize may lw ll = ml_ at *
  generalize lt (lw, ll) (x.rw, x.rl) = lt_ at *
  cases ok
  · go_enter Tryz.func57, Tryz.ntmps57
    go_wp2_with (go_at_call 27; refine HA.out.mono ?_; rintro e w1 ⟨rfl, h2⟩; have HF := Lib.hid h2.swap.tail.swap.tail)
    go_ret
    exact ⟨rfl, HF.out⟩
  cases mx_
  · go_enter Tryz.func57, Tryz.ntmps57
    go_wp2_with (first
      | (go_at_call 27; refine HA.out.mono ?_; rintro e w1 ⟨rfl, h2⟩
         have HF := Lib.hid h2.swap.tail.swap.tail
         have b1 := (h2.blkIn (g := V.heap.size) (t := 28) (cs := txc x) (by simp))
         have t0 := b1.cell 0
         have t1 := b1.cell 1
         have t2 := b1.cell 2
         have t3 := b1.cell 3
         have t4 := b1.cell 4
         have t5 := b1.cell 5
         have t6 := b1.cell 6
         have t7 := b1.cell 7
         have t8 := b1.cell 8
         have t9 := b1.cell 9
         have t10 := b1.cell 10
         have t11 := b1.cell 11
         simp at t0 t1 t2 t3 t4 t5 t6 t7 t8 t9 t10 t11
         clear h2 b1)
      | (go_at_call 120; refine (HM.out _).mono ?_; rintro e w2 ⟨rfl, hb2⟩; have HF2 := Lib.hid (HF.out.keep hb2)))
    go_ret
    exact ⟨rfl, HF2.out⟩
  cases ml_
  · go_enter Tryz.func57, Tryz.ntmps57
    go_wp2_with (first
      | (go_at_call 27; refine HA.out.mono ?_; rintro e w1 ⟨rfl, h2⟩
         have HF := Lib.hid h2
         have b1 := (h2.blkIn (g := V.heap.size) (t := 28) (cs := txc x) (by simp))
         have t0 := b1.cell 0
         have t1 := b1.cell 1
         have t2 := b1.cell 2
         have t3 := b1.cell 3
         have t4 := b1.cell 4
         have t5 := b1.cell 5
         have t6 := b1.cell 6
         have t7 := b1.cell 7
         have t8 := b1.cell 8
         have t9 := b1.cell 9
         have t10 := b1.cell 10
         have t11 := b1.cell 11
         simp at t0 t1 t2 t3 t4 t5 t6 t7 t8 t9 t10 t11
         clear h2 b1)
      | (go_at_call 120; refine (HM.out _).mono ?_; rintro e w2 ⟨rfl, hb2⟩
         have h3 := HF.out.keep hb2
         have b2 := (h3.blkIn (g := V.heap.size + 1) (t := 26) (cs := #[.int .i64 lw, .int .i64 ll]) (by simp))
         have s0 := b2.cell 0
         have s1 := b2.cell 1
         simp at s0 s1
         have HF2 := Lib.hid h3
         have HS2 := Lib.hid (HS.out w2)
         clear hb2 h3 b2)
      | (go_at_call 121; refine HS2.out.mono ?_; rintro e w3 ⟨rfl, hb3⟩
         have h4 := HF2.out.keep (bst (nbl w2 (.cells #[.int .i64 lw, .int .i64 ll] 26)) hb3)
         have b3 := (h4.blkIn (g := V.heap.size + 1) (t := 26) (cs := #[.int .i64 lw, .int .i64 ll]) (by simp))
         have b4 := (h4.blkIn (g := V.heap.size) (t := 28) (cs := txc x) (by simp))
         have z0 := b3.cell 0
         have z1 := b3.cell 1
         have y4 := b4.cell 4
         have y5 := b4.cell 5
         simp at z0 z1 y4 y5
         have HF3 := Lib.hid h4
         clear h4 b3 b4 hb3)
)
    go_ret
    exact ⟨rfl, HF3.out.swap.tail.swap.tail⟩
  cases lt_
  all_goals go_enter Tryz.func57, Tryz.ntmps57
  all_goals go_wp2_with (first
      | (go_at_call 27; refine HA.out.mono ?_; rintro e w1 ⟨rfl, h2⟩
         have HF := Lib.hid h2
         have b1 := (h2.blkIn (g := V.heap.size) (t := 28) (cs := txc x) (by simp))
         have t0 := b1.cell 0
         have t1 := b1.cell 1
         have t2 := b1.cell 2
         have t3 := b1.cell 3
         have t4 := b1.cell 4
         have t5 := b1.cell 5
         have t6 := b1.cell 6
         have t7 := b1.cell 7
         have t8 := b1.cell 8
         have t9 := b1.cell 9
         have t10 := b1.cell 10
         have t11 := b1.cell 11
         simp at t0 t1 t2 t3 t4 t5 t6 t7 t8 t9 t10 t11
         clear h2 b1)
      | (go_at_call 120; refine (HM.out _).mono ?_; rintro e w2 ⟨rfl, hb2⟩
         have h3 := HF.out.keep hb2
         have b2 := (h3.blkIn (g := V.heap.size + 1) (t := 26) (cs := #[.int .i64 lw, .int .i64 ll]) (by simp))
         have s0 := b2.cell 0
         have s1 := b2.cell 1
         simp at s0 s1
         have HF2 := Lib.hid h3
         have HS2 := Lib.hid (HS.out w2)
         clear hb2 h3 b2)
      | (go_at_call 121; refine HS2.out.mono ?_; rintro e w3 ⟨rfl, hb3⟩
         have h4 := HF2.out.keep (bst (nbl w2 (.cells #[.int .i64 lw, .int .i64 ll] 26)) hb3)
         have b3 := (h4.blkIn (g := V.heap.size + 1) (t := 26) (cs := #[.int .i64 lw, .int .i64 ll]) (by simp))
         have b4 := (h4.blkIn (g := V.heap.size) (t := 28) (cs := txc x) (by simp))
         have z0 := b3.cell 0
         have z1 := b3.cell 1
         have y4 := b4.cell 4
         have y5 := b4.cell 5
         simp at z0 z1 y4 y5
         have HF3 := Lib.hid h4
         clear h4 b3 b4 hb3)
      | (go_at_call 12; refine (HL.out _).mono ?_; rintro e w4 ⟨rfl, hb4⟩; have HF4 := Lib.hid (HF3.out.keep hb4)))
  all_goals go_ret
  all_goals exact ⟨rfl, HF4.out.swap.tail.swap.tail⟩
end Go.Proofs.YtldbmogondmgmaaGreatDoor
