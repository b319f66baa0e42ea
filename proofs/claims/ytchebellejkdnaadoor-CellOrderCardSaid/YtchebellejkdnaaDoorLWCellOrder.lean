/-
  CellOrder: the walk.
-/
import Derived.Test.YtchebellejkdnaaDoorLClCmp
import Derived.Test.YtchebellejkdnaaDoorZ11
import Derived.Deep.Cut
import Derived.Deep.CutRange
set_option linter.unusedVariables false
set_option linter.unusedSimpArgs false
set_option maxRecDepth 100000
namespace Go.Proofs.YtchebellejkdnaaDoor
open Go.RowKit

/-- Two stamps in one block. -/
abbrev SX (w : World) (a b c d : Int) (V : World) : Prop :=
  V.cell? ⟨w.heap.size, 0, none⟩ = some (.int .i64 a) ∧ V.cell? ⟨w.heap.size, 1, none⟩ = some (.int .i64 b) ∧ V.cell? ⟨w.heap.size, 2, none⟩ = some (.int .i64 c) ∧ V.cell? ⟨w.heap.size, 3, none⟩ = some (.int .i64 d) ∧ Below w.heap.size w V
theorem SX.keep {w V V' : World} {a b c d : Int} (h : SX w a b c d V) (hb : Below V.heap.size V V') : SX w a b c d V' :=
  ⟨kept_below hb _ _ h.1, kept_below hb _ _ h.2.1, kept_below hb _ _ h.2.2.1, kept_below hb _ _ h.2.2.2.1, h.2.2.2.2.trans (hb.mono h.2.2.2.2.size)⟩
theorem SX.drew {w V : World} {a b c d : Int} (h : SX w a b c d V) : SX w a b c d V.drew := ⟨h.1, h.2.1, h.2.2.1, h.2.2.2.1, h.2.2.2.2.drew⟩
theorem SX.new (w : World) (a b c d : Int) (t : TypeId) : SX w a b c d (w.alloc (.cells #[.int .i64 a, .int .i64 b, .int .i64 c, .int .i64 d] t)) := by
  have h := Blk.new w t #[.int .i64 a, .int .i64 b, .int .i64 c, .int .i64 d]
  exact ⟨by rw [h.cell]; rfl, by rw [h.cell]; rfl, by rw [h.cell]; rfl, by rw [h.cell]; rfl, (Below.refl _ _).alloc (Nat.le_refl _) _⟩
theorem SX.call2 {w V : World} {a b c d : Int} {f : FuncId} {args : Array Value} {v : Value} (h : SX w a b c d V) (hc : Calls Tryd.prog f args V fun e V' => e = .returned v ∧ Below V.heap.size V V') :
    Calls Tryd.prog f args V fun e V' => e = .returned v ∧ SX w a b c d V' ∧ Below V.heap.size V V' := hc.mono fun _ _ hh => ⟨hh.1, h.keep hh.2, hh.2⟩
theorem SX.alloc {w V : World} {a b c d : Int} (h : SX w a b c d V) (o : Obj) : SX w a b c d (V.alloc o) := h.keep ((Below.refl _ _).alloc (Nat.le_refl _) _)
theorem SX.room {w V : World} {a b c d : Int} (h : SX w a b c d V) : w.heap.size < V.heap.size := World.block_lt_of_cell? V _ h.1
theorem SX.put {w V : World} {a b c d : Int} (h : SX w a b c d V) {g i : Nat} {u : Value} (hg : w.heap.size < g) : SX w a b c d (V.setCell ⟨g, i, none⟩ u) := by
  have k : ∀ p : Addr, p.block ≠ g → (V.setCell ⟨g, i, none⟩ u).cell? p = V.cell? p := fun p hp => World.cell?_setCell_far _ _ _ _ (fun e => hp e.symm)
  obtain ⟨h1, h2, h3, h4, h5⟩ := h
  exact ⟨(k _ (by simp; omega)).trans h1, (k _ (by simp; omega)).trans h2, (k _ (by simp; omega)).trans h3, (k _ (by simp; omega)).trans h4, h5.setCell (by simp; omega) _⟩
theorem Box.drewO {w : World} {g : Nat} {a b : Int} (h : Box w g a b) : Box w.drew g a b := h
theorem S4.of {w V : World} {gx gy : Nat} {x1 x2 y1 y2 : Int} (hB : Below w.heap.size w V) (hx : Box V gx x1 x2) (hy : Box V gy y1 y2) : S4 w gx gy x1 x2 y1 y2 V := ⟨hx.c0, hx.c1, hy.c0, hy.c1, hB⟩
theorem SX.below {w V : World} {a b c d : Int} (h : SX w a b c d V) : Below w.heap.size w V := h.2.2.2.2

theorem lt3 {s t : ByteArray} (h : Lib.compareBytes (sb s) (sb t) = -1) : Op.bytesLess s.toList t.toList = true ∧ (s.toList == t.toList) = false := by
  rcases ord3 s t _ h with ⟨_, h⟩ | ⟨h, _⟩ | ⟨h, _⟩
  · exact h
  · simp at h
  · simp at h
theorem gt3 {s t : ByteArray} (h : Lib.compareBytes (sb s) (sb t) = 1) : Op.bytesLess s.toList t.toList = false ∧ (s.toList == t.toList) = false := by
  rcases ord3 s t _ h with ⟨h, _⟩ | ⟨h, _⟩ | ⟨_, h⟩
  · simp at h
  · simp at h
  · exact h
theorem eq3 {s t : ByteArray} (h : Lib.compareBytes (sb s) (sb t) = 0) : s = t := by
  rcases ord3 s t _ h with ⟨h, _⟩ | ⟨_, h⟩ | ⟨h, _⟩
  · simp at h
  · exact h
  · simp at h

set_option maxHeartbeats 8000000 in
theorem cellOrder_walk (s t : ByteArray) (a b c d : Int) (w : World) (k0 : s.size ≤ 140737488351232) (k1 : t.size ≤ 140737488351232) (hm : MaxL w) :
    Calls Tryd.prog 7 #[.string s, .string t, .agg #[.int .i64 a, .int .i64 b, .int .i64 c, .int .i64 d]] w fun e w' => e = .returned (.bool true) ∧ Below w.heap.size w w' := by
  obtain ⟨x, hx, hsx⟩ := short_c s k0
  obtain ⟨y, hy, hsy⟩ := short_c t k1
  have hma := may_of a b
  have hmb := may_of c d
  obtain ⟨p, o, hp, ho⟩ : ∃ p o : Int, a % 1099511627777 = p ∧ b % 1048576 = o := ⟨_, _, rfl, rfl⟩
  obtain ⟨p', o', hp', ho'⟩ : ∃ p o : Int, c % 1099511627777 = p ∧ d % 1048576 = o := ⟨_, _, rfl, rfl⟩
  rw [hp, ho] at hma
  rw [hp', ho'] at hmb
  have B1 := Lib.hid (fun V => bring_c a b V)
  have B2 := Lib.hid (fun V => bring_c c d V)
  simp only [hp, ho] at B1
  simp only [hp', ho'] at B2
  obtain ⟨ii, i1, i2, -⟩ := markK_two 105 x [] hx
  obtain ⟨jj, j1, j2, -⟩ := markK_two 105 y [] hy
  obtain ⟨pp, p1, p2, -⟩ := markK_two 118 x (odown p o) hx
  obtain ⟨qq, q1, q2, -⟩ := markK_two 118 y (odown p' o') hy
  have CI : Lib.compareBytes (sb ii) (sb jj) = Lib.compareBytes (sb x) (sb y) := by
    rw [i2, j2, cmp_mark]
    split
    · rename_i h
      rw [h]
      rfl
    · rfl
  have CV : Lib.compareBytes (sb pp) (sb qq) = if Lib.compareBytes (sb x) (sb y) = 0 then Lib.compareBytes (odown p o) (odown p' o') else Lib.compareBytes (sb x) (sb y) := by
    rw [p2, q2, cmp_mark]
  rw [odown_cmp p o p' o' hma hmb] at CV
  have I1 := Lib.hid i1
  have J1 := Lib.hid j1
  have P1 := Lib.hid p1
  have Q1 := Lib.hid q1
  have HCI := Lib.hid CI
  have HCV := Lib.hid CV
  clear hp ho hp' ho' i1 j1 p1 q1 i2 j2 p2 q2 CI CV
  go_enter Tryd.func7, Tryd.ntmps7
  go_upto_region 2 with (first
    | (go_at_call_of 34 (Value.string s); with_reducible refine (hsx _).mono ?_; rintro e w1 ⟨rfl, rfl⟩)
    | (go_at_call_of 34 (Value.string t); with_reducible refine (hsy _).mono ?_; rintro e w1 ⟨rfl, rfl⟩))
  have hS0 := SX.new w a b c d 56
  have hSd := hS0.drew
  have m0 := SX.room hS0
  go_cut [9, 10] from 24 to 29 (fun u v wx => ∃ gx gy, u = .pointer (some ⟨gx, 0, none⟩) ∧ v = .pointer (some ⟨gy, 0, none⟩) ∧ Hid (S4 w gx gy p o p' o' wx))
  case first =>
    generalize (w.alloc (.cells #[.int .i64 a, .int .i64 b, .int .i64 c, .int .i64 d] 56)) = W0 at hS0 hSd m0 ⊢
    go_region_held3 (fun V => V.cell? ⟨w.heap.size, 0, none⟩ = some (.int .i64 a) ∧ V.cell? ⟨w.heap.size, 1, none⟩ = some (.int .i64 b) ∧ V.cell? ⟨w.heap.size, 2, none⟩ = some (.int .i64 c) ∧ V.cell? ⟨w.heap.size, 3, none⟩ = some (.int .i64 d) ∧ Below w.heap.size w V)
      (first | with_reducible assumption | with_reducible exact hS0 | with_reducible exact hSd | (repeat (first | with_reducible assumption | with_reducible exact hS0 | with_reducible exact hSd | with_reducible refine SX.alloc ?_ _ | with_reducible refine SX.drew ?_ | with_reducible refine SX.put ?_ ?_ | omega | (simp only [World.size_alloc]; omega))))
      (first
        | (go_at_call_of 35 (Value.agg #[.int .i64 a, .int .i64 b]); refine (SX.call2 (by first | with_reducible assumption | with_reducible exact hSd | with_reducible exact hS0) (B1.out _)).mono ?_; rintro e w2 ⟨rfl, hS2, hb2⟩; have m2 := SX.room hS2; (try ((first | have q1 := (Box.new _ 0 0).keep hb2 | have q1 := (Box.drewO (Box.new _ 0 0)).keep hb2); (try simp only [World.size_alloc] at q1); have q1a := q1.c0; have q1b := q1.c1; have q1f := q1.fz 0; have q1g := q1.fz 1; have q1l := q1.lt; have q1m := Nat.ne_of_lt q1l; have q1n := Nat.ne_of_gt q1l)); (try ((first | have q2 := ((Box.new _ 0 0).alloc _).keep hb2 | have q2 := (Box.drewO ((Box.new _ 0 0).alloc _)).keep hb2); (try simp only [World.size_alloc, World.drew] at q2); have q2a := q2.c0; have q2b := q2.c1; have q2f := q2.fz 0; have q2g := q2.fz 1; have q2l := q2.lt; have q2m := Nat.ne_of_lt q2l; have q2n := Nat.ne_of_gt q2l)))
        | (go_at_call_of 35 (Value.agg #[.int .i64 c, .int .i64 d]); refine (SX.call2 (by first | with_reducible assumption | with_reducible exact hSd | with_reducible exact hS0) (B2.out _)).mono ?_; rintro e w3 ⟨rfl, hS3, hb3⟩; have m3 := SX.room hS3; (try ((first | have r1 := (Box.new _ 0 0).keep hb3); (try simp only [World.size_alloc] at r1); have r1a := r1.c0; have r1b := r1.c1; have r1f := r1.fz 0; have r1g := r1.fz 1; have r1l := r1.lt; have r1m := Nat.ne_of_lt r1l; have r1n := Nat.ne_of_gt r1l)); (try ((first | have r2 := ((Box.new _ 0 0).alloc _).keep hb3); (try simp only [World.size_alloc, World.drew] at r2); have r2a := r2.c0; have r2b := r2.c1; have r2f := r2.fz 0; have r2g := r2.fz 1; have r2l := r2.lt; have r2m := Nat.ne_of_lt r2l; have r2n := Nat.ne_of_gt r2l)); (try ((first | have r3 := q1.keep hb3 | have r3 := (q1.alloc _).keep hb3); (try simp only [World.size_alloc, World.drew] at r3); have r3a := r3.c0; have r3b := r3.c1; have r3f := r3.fz 0; have r3g := r3.fz 1; have r3l := r3.lt; have r3m := Nat.ne_of_lt r3l; have r3n := Nat.ne_of_gt r3l)); (try ((first | have r4 := q2.keep hb3 | have r4 := (q2.alloc _).keep hb3); (try simp only [World.size_alloc, World.drew] at r4); have r4a := r4.c0; have r4b := r4.c1; have r4f := r4.fz 0; have r4g := r4.fz 1; have r4l := r4.lt; have r4m := Nat.ne_of_lt r4l; have r4n := Nat.ne_of_gt r4l))))
    all_goals (try go_wp2_with fail)
    all_goals go_meet
    all_goals
      refine ⟨_, _, rfl, rfl, Lib.hid (S4.of (SX.below (by with_reducible assumption)) ?_ ?_)⟩
      all_goals (repeat (first | with_reducible assumption | with_reducible exact Box.new _ _ _ | with_reducible exact Box.new' _ _ _ (by simp) | with_reducible refine Box.alloc ?_ _ | with_reducible refine Box.put1 (b := 0) ?_ _ | with_reducible refine Box.put0 (a := 0) ?_ _ | with_reducible refine Box.far ?_ ?_ _ _ | omega | (simp; omega)))
  case rest =>
    obtain ⟨gx, gy, rfl, rfl, HS⟩ := hcut
    have g0 : Below w.heap.size w wc := HS.out.bel
    obtain ⟨x0, x1, -, -, -⟩ := HS.out
    clear hS0 hSd m0 B1 B2 hsx hsy
    go_upto_region 7 with (first
      | (go_at_call_of 36 (Value.string x); with_reducible refine (versionKey_c x p o _ (hm.below g0) hma).mono ?_; rintro e w4 ⟨he, b4⟩; rw [P1.out] at he; subst he
         have H4 := Lib.hid (HS.out.keep b4)
         obtain ⟨-, -, y0, y1, -⟩ := H4.out)
      | (go_at_call_of 36 (Value.string y); with_reducible refine (versionKey_c y p' o' _ (hm.below H4.out.bel) hmb).mono ?_; rintro e w5 ⟨he, b5⟩; rw [Q1.out] at he; subst he
         have H5 := Lib.hid (H4.out.keep b5))
      | (go_at_call_of 37 (Value.string x); with_reducible refine (intentKey_c x _ (hm.below H5.out.bel)).mono ?_; rintro e w6 ⟨he, b6⟩; rw [I1.out] at he; subst he
         have H6 := Lib.hid (H5.out.keep b6))
      | (go_at_call_of 37 (Value.string y); with_reducible refine (intentKey_c y _ (hm.below H6.out.bel)).mono ?_; rintro e w7 ⟨he, b7⟩; rw [J1.out] at he; subst he
         have H7 := Lib.hid (H6.out.keep b7)))
    obtain ⟨u0, u1, v0, v1, gB⟩ := H7.out
    rcases ord3 x y _ rfl with ⟨hc, L1, E1⟩ | ⟨hc, he⟩ | ⟨hc, L1, E1⟩
    · obtain ⟨LI, EI⟩ := lt3 (HCI.out.trans hc)
      obtain ⟨LV, EV⟩ := lt3 (HCV.out.trans (by rw [if_neg (by rw [hc]; decide)]; exact hc))
      clear hc
      go_wp2_with (go_at_call 16; with_reducible refine (awake_c _ (hm.below gB)).mono ?_; rintro e w9 ⟨rfl, b9⟩)
      go_ret
      exact ⟨rfl, gB.trans (b9.mono gB.size)⟩
    · subst he
      obtain rfl := eq3 (HCI.out.trans hc)
      have L1 := less_self x
      have E1 := self_eq2 x
      have LI := less_self ii
      have EI := self_eq2 ii
      have CV := HCV.out
      rw [if_pos hc] at CV
      by_cases hA : p' < p
      · rw [if_pos (Or.inl hA)] at CV
        obtain ⟨LV, EV⟩ := lt3 CV
        have n1 : ¬ p < p' := by omega
        have n2 : (p == p') = false := by simp; omega
        clear CV
        clear hc
        go_wp2_with (go_at_call 16; with_reducible refine (awake_c _ (hm.below gB)).mono ?_; rintro e w9 ⟨rfl, b9⟩)
        go_ret
        exact ⟨rfl, gB.trans (b9.mono gB.size)⟩
      · by_cases hE : p = p'
        · subst hE
          by_cases hY : o' < o
          · rw [if_pos (Or.inr ⟨rfl, hY⟩)] at CV
            obtain ⟨LV, EV⟩ := lt3 CV
            have n1 : ¬ o < o' := by omega
            have n2 : (o == o') = false := by simp; omega
            clear CV
            clear hc
            go_wp2_with (go_at_call 16; with_reducible refine (awake_c _ (hm.below gB)).mono ?_; rintro e w9 ⟨rfl, b9⟩)
            go_ret
            exact ⟨rfl, gB.trans (b9.mono gB.size)⟩
          · by_cases hZ : o = o'
            · subst hZ
              rw [if_neg (by omega), if_pos ⟨rfl, rfl⟩] at CV
              obtain rfl := eq3 CV
              have LV := less_self pp
              have EV := self_eq2 pp
              clear CV
              clear hc
              go_wp2_with (go_at_call 16; with_reducible refine (awake_c _ (hm.below gB)).mono ?_; rintro e w9 ⟨rfl, b9⟩)
              go_ret
              exact ⟨rfl, gB.trans (b9.mono gB.size)⟩
            · rw [if_neg (by omega), if_neg (by omega)] at CV
              obtain ⟨LV, EV⟩ := gt3 CV
              have n1 : o < o' := by omega
              have n2 : (o == o') = false := by simp; omega
              clear CV
              clear hc
              go_wp2_with (go_at_call 16; with_reducible refine (awake_c _ (hm.below gB)).mono ?_; rintro e w9 ⟨rfl, b9⟩)
              go_ret
              exact ⟨rfl, gB.trans (b9.mono gB.size)⟩
        · rw [if_neg (by omega), if_neg (by omega)] at CV
          obtain ⟨LV, EV⟩ := gt3 CV
          have n1 : p < p' := by omega
          have n2 : (p == p') = false := by simp; omega
          clear CV
          clear hc
          go_wp2_with (go_at_call 16; with_reducible refine (awake_c _ (hm.below gB)).mono ?_; rintro e w9 ⟨rfl, b9⟩)
          go_ret
          exact ⟨rfl, gB.trans (b9.mono gB.size)⟩
    · obtain ⟨LI, EI⟩ := gt3 (HCI.out.trans hc)
      obtain ⟨LV, EV⟩ := gt3 (HCV.out.trans (by rw [if_neg (by rw [hc]; decide)]; exact hc))
      clear hc
      go_wp2_with (go_at_call 16; with_reducible refine (awake_c _ (hm.below gB)).mono ?_; rintro e w9 ⟨rfl, b9⟩)
      go_ret
      exact ⟨rfl, gB.trans (b9.mono gB.size)⟩
end Go.Proofs.YtchebellejkdnaaDoor
