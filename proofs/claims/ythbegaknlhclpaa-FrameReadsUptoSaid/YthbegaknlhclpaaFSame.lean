/-
  Layer 4, the document's Same: two lists of bytes; a list of one's own as a list that is read.
-/
import Derived.Test.YthbegaknlhclpaaJoin
set_option linter.unusedVariables false
namespace Go.Proofs.Ythbegaknlhclpaa
open Go.RowKit

theorem Lists.len {w : World} {A : Option Addr} {m : Nat} {ls : List (List UInt8)} (h : Lists w A m ls) : ls.length = m := h.1
theorem Lists.drewN {w : World} {A : Option Addr} {m : Nat} {ls : List (List UInt8)} (h : Lists w A m ls) (k : Nat) : Lists (w.drewN k) A m ls := h
theorem Lists.below' {w w' : World} {A : Option Addr} {m : Nat} {ls : List (List UInt8)} (h : Lists w A m ls) (hb : Below w.heap.size w w') : Lists w' A m ls := h.keep fun _ hp => hb.cell hp
theorem Lists.nil (w : World) (A : Option Addr) : Lists w A 0 [] := ⟨rfl, fun h => absurd h (by omega)⟩

theorem row_below {w w' : World} {B n sz : Nat} {e : TypeId} {v : Value} {xs : List Value} (h : w.ownsRow B e sz v n xs) (hb : Below w.heap.size w w') : w'.ownsRow B e sz v n xs :=
  World.ownsRow.kept h (row := none) ⟨hb.os, hb.tape, hb.output, hb.size, fun k hk _ => hb.block k hk⟩ (by
    cases hv : v.ownBlock with
    | none => exact .inl rfl
    | some q => exact .inr (by simp))

/-- A slice that reads so. -/
def Reads (w : World) (x : Value × List UInt8) : Prop := ∃ A c, x.1 = .slice A x.2.length c ∧ At w A x.2.length x.2 ∧ x.2.length ≤ c ∧ c ≤ 9223372036854775807

theorem Own.reads {w : World} {B : Nat} {v : Value} {l : List UInt8} (h : Own w B v l) : Reads w (v, l) := by
  obtain ⟨A, c, rfl, hat, h1, h2, _⟩ := h.form
  exact ⟨A, c, rfl, hat, h1, h2⟩
theorem Reads.below {w w' : World} {x : Value × List UInt8} (h : Reads w x) (hb : Below w.heap.size w w') : Reads w' x := by
  obtain ⟨A, c, h1, h2, h3, h4⟩ := h
  exact ⟨A, c, h1, h2.below' hb, h3, h4⟩

/-- A row of slices of the call's own. -/
theorem lists_row {w : World} {B n : Nat} {v : Value} {ps : List (Value × List UInt8)} (h : w.ownsRow B 22 1 v n (ps.map (·.1))) (hp : ∀ x ∈ ps, Reads w x) :
    ∃ A c, v = .slice A n c ∧ Lists w A n (ps.map (·.2)) ∧ n ≤ c ∧ c ≤ 9223372036854775807 := by
  have hn : ps.length = n := by simpa using h.1
  rcases h.2 with ⟨rfl, h0⟩ | ⟨g, cap, cur, rfl, hb, hg, hnc, hcm, _⟩
  · refine ⟨none, 0, by rw [h0], ⟨by simp [hn], fun hm => by omega⟩, by omega, by omega⟩
  · refine ⟨_, cap, rfl, ⟨by simp [hn], fun hm => ⟨g, 0, rfl, fun i hi => ?_⟩⟩, hnc, hcm⟩
    have hi' : i < ps.length := by simpa using hi
    have hc := World.ownsRow.cells h (g := g) rfl i (ps[i].1) (by simp [hi'])
    rw [Go.WideShapes.add_plain] at hc
    obtain ⟨A, c, hv, hat, _⟩ := hp ps[i] (List.getElem_mem _)
    rw [List.getElem_map]
    exact ⟨A, c, by rw [hc, hv], hat⟩

theorem beq_of_takeL {xs ys : List (List UInt8)} (hl : xs.length = ys.length) (h : xs.take xs.length = ys.take xs.length) : (xs == ys) = true := by
  rw [List.take_length, hl, List.take_length] at h
  simp [h]
theorem take_succ_eqL {xs ys : List (List UInt8)} {k : Nat} (h : xs.take k = ys.take k) (hx : k < xs.length) (hy : k < ys.length) (he : xs[k] = ys[k]) : xs.take (k + 1) = ys.take (k + 1) := by
  rw [List.take_succ_eq_append_getElem hx, List.take_succ_eq_append_getElem hy, h, he]
theorem beq_neL {xs ys : List (List UInt8)} {k : Nat} (hx : k < xs.length) (hy : k < ys.length) (he : xs[k] ≠ ys[k]) : (xs == ys) = false := by
  apply beq_eq_false_iff_ne.2
  rintro rfl
  exact he rfl

set_option maxHeartbeats 1000000 in
theorem same (A : Option Addr) (m c : Nat) (ls : List (List UInt8)) (B : Option Addr) (k d : Nat) (qs : List (List UInt8)) (w : World) (hx : Lists w A m ls) (hy : Lists w B k qs) (hm : m ≤ 9223372036854775807) (hl : ∀ l ∈ ls, l.length ≤ 9223372036854775807) :
    Calls Try.prog 20 #[.slice A m c, .slice B k d] w fun e w' => e = .returned (.bool (ls == qs)) ∧ ∃ j, w' = w.drewN j := by
  by_cases hmk : m = k
  · subst hmk
    have hxl := Lib.hid hx.1
    have hyl := Lib.hid hy.1
    go_enter Try.func20, Try.ntmps20
    go_wp2
    go_loopw [5] (fun i wr => ∃ r : Nat, r ≤ m ∧ i = .int .i64 r ∧ Hid (ls.take r = qs.take r) ∧ ∃ j, wr = w.drewN j) (fun i _ => m - (intOf i).toNat)
    case atStart => exact ⟨0, Nat.zero_le _, rfl, rfl, 0, rfl⟩
    case round =>
      obtain ⟨r, hr, rfl, heq, j, rfl⟩ := hrel
      by_cases hlt : r < m
      · obtain ⟨b, o, rfl, hc⟩ := hx.2 (by omega)
        obtain ⟨b', o', rfl, hc'⟩ := hy.2 (by omega)
        have hxk : r < ls.length := by rw [hxl.out]; exact hlt
        have hyk : r < qs.length := by rw [hyl.out]; exact hlt
        obtain ⟨Ai, ci, h1, h2⟩ := hc r hxk
        obtain ⟨Bi, di, g1, g2⟩ := hc' r hyk
        have hll := hl _ (List.getElem_mem hxk)
        by_cases he : ls[r] = qs[r]
        · have heq' := Lib.hid (take_succ_eqL heq.out hxk hyk he)
          have hE := Lib.hid (show (ls[r] == qs[r]) = true by simpa using he)
          clear hc hc' he
          generalize ls[r] = u at *
          generalize qs[r] = v at *
          generalize hul : u.length = ul at *
          generalize hvl : v.length = vl at *
          clear hul hvl
          go_wp2_with fail
          go_region_with (go_at_call 15; refine (eqBytes Ai Bi ul vl ci di u v _ (h2.drewN _) (g2.drewN _) (by omega)).mono ?_; rintro e w2 ⟨rfl, j2, rfl⟩; rw [hE.out])
          all_goals go_wp2
          all_goals go_roundw
          all_goals first | exact ⟨r + 1, by omega, by go_num, heq'.out, _, rfl⟩ | (simp [intOf]; omega)
        · have hb := Lib.hid (beq_neL hxk hyk he)
          have hE := Lib.hid (show (ls[r] == qs[r]) = false by simpa using he)
          clear hc hc' he
          generalize ls[r] = u at *
          generalize qs[r] = v at *
          generalize hul : u.length = ul at *
          generalize hvl : v.length = vl at *
          clear hul hvl
          go_wp2_with fail
          go_region_with (go_at_call 15; refine (eqBytes Ai Bi ul vl ci di u v _ (h2.drewN _) (g2.drewN _) (by omega)).mono ?_; rintro e w2 ⟨rfl, j2, rfl⟩; rw [hE.out])
          all_goals go_wp2
          all_goals go_ret
          all_goals exact ⟨by rw [hb.out]; rfl, _, rfl⟩
      · have hkn : r = m := by omega
        have heq' := Lib.hid (beq_of_takeL (xs := ls) (ys := qs) (by rw [hxl.out, hyl.out]) (by rw [hxl.out, ← hkn]; exact heq.out))
        have hge : m ≤ r := by omega
        clear hkn hlt
        go_wp2
        go_ret
        exact ⟨by rw [heq'.out]; rfl, _, rfl⟩
  · have hne : ((m : Int) == (k : Int)) = false := by simp; omega
    have hf0 : (ls == qs) = false := by
      apply beq_eq_false_iff_ne.2
      rintro rfl
      exact hmk (hx.1.symm.trans hy.1)
    have hf := Lib.hid hf0
    clear hf0
    go_enter Try.func20, Try.ntmps20
    go_wp2
    go_ret
    exact ⟨by rw [hf.out]; rfl, 0, rfl⟩
end Go.Proofs.Ythbegaknlhclpaa
