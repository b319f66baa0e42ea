/-
  Layer 7: the document's disk: Append.
-/
import Derived.Test.YtmjoaeljfhgojaaDRead
set_option linter.unusedVariables false
namespace Go.Proofs.Ytmjoaeljfhgojaa
open Go.RowKit

theorem At.moved {w w1 w2 : World} {A : Option Addr} {n : Nat} {xs : List UInt8} {F : Nat → Prop} (h : At w A n xs) (hF : InF (fun k => ¬ F k) A) (hb : Below w.heap.size w w1) (hG : Grow F w1 w2) : At w2 A n xs := by
  refine ⟨h.1, fun hn => ?_⟩
  obtain ⟨b, o, e, hc⟩ := h.2 hn
  refine ⟨b, o, e, fun i hi => ?_⟩
  have h1 := (hb.cell (World.block_lt_of_cell? w _ (hc i hi))).trans (hc i hi)
  exact (World.cell?_of_block (a := ⟨b, o + i, none⟩) (hG.block b (World.block_lt_of_cell? w1 _ h1) (hF _ e))).trans h1
/-- The middle of Append: the file with its new bytes is put. -/
theorem append_mid {w w1 w2 w5 : World} {g : Nat} {D D2 : Dk} {F Fb : Nat → Prop} {v : Value} {KA : Option Addr} {kn kc : Nat} {qs : List Fv} {nm : ByteArray} {bt : List UInt8} {mk L N : Nat} {qA A1 : Option Addr} {qc c1 : Nat}
    (h : RDkB w g D F Fb v KA kn kc qs) (hb1 : Below w.heap.size w w1) (h2 : RDkB w2 g D2 F Fb v KA kn kc qs) (hG2 : Grow F w1 w2)
    (hB : Below (w2.alloc (.cells #[.string nm, .slice qA L qc, .int .i64 (mk : Int)] 97)).heap.size (w2.alloc (.cells #[.string nm, .slice qA L qc, .int .i64 (mk : Int)] 97)) w5)
    (hat : At w5 A1 N bt) (hc1 : N ≤ c1) (hc2 : c1 ≤ 9223372036854775807) (hin : InF (fun k => (w2.alloc (.cells #[.string nm, .slice qA L qc, .int .i64 (mk : Int)] 97)).heap.size ≤ k ∧ k < w5.heap.size) A1)
    (hok : ({ D2 with l := withF D2.l ⟨nm, bt, mk⟩ } : Dk).ok) :
    (∃ u, w5.cell? ⟨w2.heap.size, 1, none⟩ = some u) ∧ w5.frozen? ⟨w2.heap.size, 1, none⟩ = false ∧
    ((w5.setCell ⟨w2.heap.size, 1, none⟩ (.slice A1 N c1)).cell? ⟨w2.heap.size, 0, none⟩ = some (.string nm) ∧ (w5.setCell ⟨w2.heap.size, 1, none⟩ (.slice A1 N c1)).cell? ⟨w2.heap.size, 1, none⟩ = some (.slice A1 N c1) ∧ (w5.setCell ⟨w2.heap.size, 1, none⟩ (.slice A1 N c1)).cell? ⟨w2.heap.size, 2, none⟩ = some (.int .i64 (mk : Int))) ∧
    (w2.heap.size < w5.heap.size) ∧
    Calls Try.prog 72 #[pt g, .agg #[.string nm, .slice A1 N c1, .int .i64 (mk : Int)]] (w5.setCell ⟨w2.heap.size, 1, none⟩ (.slice A1 N c1)) fun e w' => e = .returned (.tuple #[]) ∧
      ∃ v' qs' Fb', RDkB w' g { D2 with l := withF D2.l ⟨nm, bt, mk⟩ } (nF (nF F (w2.alloc (.cells #[.string nm, .slice qA L qc, .int .i64 (mk : Int)] 97)) w5) (w5.setCell ⟨w2.heap.size, 1, none⟩ (.slice A1 N c1)) w') Fb' v' KA kn kc qs' ∧ Grow (fun k => k = g) (w5.setCell ⟨w2.heap.size, 1, none⟩ (.slice A1 N c1)) w' := by
  have hgl : g < w2.heap.size := Nat.lt_of_lt_of_le (h.lt g h.fg.1) (Nat.le_trans hb1.size hG2.size)
  have hz : w2.heap.size < (w2.alloc (.cells #[.string nm, .slice qA L qc, .int .i64 (mk : Int)] 97)).heap.size := by simp
  have hx : w5.heap[w2.heap.size]? = some (.cells #[.string nm, .slice qA L qc, .int .i64 (mk : Int)] 97 (0, 0)) := (hB.block _ hz).trans (heap_alloc_new w2 _)
  have hx6 : (w5.setCell ⟨w2.heap.size, 1, none⟩ (.slice A1 N c1)).heap[w2.heap.size]? = some (.cells #[.string nm, .slice A1 N c1, .int .i64 (mk : Int)] 97 (0, 0)) := by
    simp only [World.setCell, Array.getElem?_modify, if_true, hx, Option.map_some]
    rfl
  have hF : ∀ k, F k → k < w2.heap.size := fun k e => Nat.lt_of_lt_of_le (h.lt k e) (Nat.le_trans hb1.size hG2.size)
  refine ⟨⟨_, cell_of_row w5 w2.heap.size 1 _ _ (0, 0) hx⟩, frozen_of_row w5 w2.heap.size 1 _ _ hx, ⟨cell_of_row _ w2.heap.size 0 _ _ (0, 0) hx6, cell_of_row _ w2.heap.size 1 _ _ (0, 0) hx6, cell_of_row _ w2.heap.size 2 _ _ (0, 0) hx6⟩, Nat.lt_of_lt_of_le hz hB.size, ?_⟩
  have h4 := ((h2.below ((Below.refl w2.heap.size w2).alloc (Nat.le_refl _) (.cells #[.string nm, .slice qA L qc, .int .i64 (mk : Int)] 97))).grow hB).far (p := ⟨w2.heap.size, 1, none⟩) (by rintro (e | e); exact absurd (hF _ e) (by simp); exact absurd e.1 (by simp)) (.slice A1 N c1)
  have hN := hat.1
  subst hN
  have hr : RFl (w5.setCell ⟨w2.heap.size, 1, none⟩ (.slice A1 bt.length c1)) (nF Fb (w2.alloc (.cells #[.string nm, .slice qA L qc, .int .i64 (mk : Int)] 97)) w5) ⟨⟨nm, bt, mk⟩, A1, c1⟩ :=
    ⟨hat.on hin (fun k e => set_blk w5 _ _ _ (by have := e.1; omega)), hc1, hc2, fun a e => .inr (hin a e)⟩
  refine (with_b _ g _ _ _ v KA kn kc qs ⟨⟨nm, bt, mk⟩, A1, c1⟩ h4 hr hok).mono ?_
  rintro e w' ⟨rfl, v', qs', g1, g2⟩
  exact ⟨rfl, v', qs', _, g1, g2⟩
theorem ownLen {w : World} {B n : Nat} {v : Value} {xs : List UInt8} (h : Own w B v xs) (hn : xs.length = n) : w.ownsRow B 5 1 v n (xs.map bv) := by
  subst hn
  exact h
theorem lenApp {xs ys : List UInt8} {n m : Nat} (h1 : xs.length = n) (h2 : ys.length = m) : (xs ++ ys).length = n + m := by rw [List.length_append, h1, h2]
theorem ownNew {w : World} {B : Nat} {v : Value} {n : Nat} {xs : List UInt8} (hn : xs.length = n) (h : w.ownsRow B 5 1 v n (xs.map bv)) : ∃ A c, v = .slice A n c ∧ At w A n xs ∧ n ≤ c ∧ c ≤ 9223372036854775807 ∧ InF (fun k => B ≤ k ∧ k < w.heap.size) A := by
  subst hn
  have h0 : Own w B v xs := h
  obtain ⟨A, c, rfl, hat, h1, h2, _⟩ := h0.form
  refine ⟨A, c, rfl, hat, h1, h2, fun a e => ?_⟩
  subst e
  exact rowOwn h _ rfl

set_option maxRecDepth 100000 in
set_option maxHeartbeats 8000000 in
theorem append_ok (w : World) (g : Nat) (D : Dk) (F : Nat → Prop) (nm : ByteArray) (XA : Option Addr) (xn xc : Nat) (xs : List UInt8) (h : RDk w g D F) (hX : At w XA xn xs) (hXF : InF (fun k => ¬ F k) XA) (hxn : xn ≤ 140000000000000) :
    Calls Try.prog 35 #[pt g, .string nm, .slice XA xn xc] w fun e w' => e = .returned (.int .i64 (appE D nm xs.length)) ∧ Turns RDk w g F (app D nm xs) w' := by
  obtain ⟨Fb, v, KA, kn, kc, qs, h⟩ := h
  have hxl := hX.1
  obtain ⟨E, hE0⟩ : ∃ x, appE D nm xs.length = x := ⟨_, rfl⟩
  rw [hE0]
  rw [hxl] at hE0
  have HE0 := Lib.hid hE0
  have FI := Lib.hid (find_ok w g D F nm ⟨Fb, v, KA, kn, kc, qs, h⟩)
  have MY := Lib.hid (fun V => may_ok V nm)
  have AL := Lib.hid (fun V (hb : Below w.heap.size w V) => all_ok V g D F ⟨Fb, v, KA, kn, kc, qs, h.below hb⟩)
  obtain ⟨S, hS⟩ : ∃ x, sum D.l = x := ⟨_, rfl⟩
  obtain ⟨p, hp⟩ : ∃ p, pos D.l nm = p := ⟨_, rfl⟩
  obtain ⟨is, his⟩ : ∃ b, isAt D.l nm = b := ⟨_, rfl⟩
  obtain ⟨dd, hd⟩ : ∃ b, D.dead = b := ⟨_, rfl⟩
  obtain ⟨my, hmy⟩ : ∃ b, mayN nm = b := ⟨_, rfl⟩
  have hS20 := h.ok.sum
  have c1 := h.c1
  rw [hp, his] at FI
  rw [hd] at c1
  rw [hmy] at MY
  rw [hS] at AL hS20
  have HS := Lib.hid hS
  have HP := Lib.hid hp
  have HI := Lib.hid his
  have HD := Lib.hid hd
  have HMY := Lib.hid hmy
  have H := Lib.hid h
  have HXL := Lib.hid hxl
  have HX := Lib.hid hX
  clear h hp his hd hmy hS hE0 hxl hX
  cases dd with
  | true =>
    have hE : E = 71 := by rw [← HE0.out]; unfold appE; rw [HD.out]; rfl
    have hC : app D nm xs = D := by unfold app; rw [HD.out]; rfl
    rw [hE, hC]
    clear hE hC
    go_enter Try.func35, Try.ntmps35
    go_wp2_with fail
    go_ret
    exact ⟨rfl, H.out.ends (fun k e => .inl e) (Grow.refl _ _) H.out.lt⟩
  | false =>
    cases my with
    | false =>
      have hE : E = 70 := by rw [← HE0.out]; unfold appE; rw [HD.out, HMY.out]; rfl
      have hC : app D nm xs = D := by unfold app; rw [HD.out, HMY.out]; rfl
      rw [hE, hC]
      clear hE hC
      go_enter Try.func35, Try.ntmps35
      go_wp2_with (first | (go_at_call 68; refine (MY.out _).mono ?_; rintro e w2' ⟨rfl, rfl⟩))
      go_ret
      exact ⟨rfl, H.out.ends (fun k e => .inl e) (Grow.refl _ _) H.out.lt⟩
    | true =>
      obtain ⟨A0, cap, rfl, hcap, hcapm, _, _⟩ := H.out.list.form
      obtain ⟨m, hm⟩ : ∃ x, qs.length = x := ⟨_, rfl⟩
      have hlen := H.out.len
      have hfew := H.out.ok.few
      rw [hm] at H hcap hlen
      have HM := Lib.hid hm
      have hm20 : m ≤ 20 := by omega
      have hE1 : E = if (is = false ∧ 20 ≤ m) ∨ 4194304 < S + xn then 7 else workE D := by rw [← HE0.out]; unfold appE; rw [HD.out, HMY.out, HI.out, HS.out, ← hlen]; rfl
      have hC1 : app D nm xs = if (is = false ∧ 20 ≤ m) ∨ 4194304 < S + xn then D else work D (fun l => withF l ⟨nm, (fileAt l nm).bs ++ xs, (fileAt l nm).mark⟩) := by unfold app; rw [HD.out, HMY.out, HI.out, HS.out, HXL.out, ← hlen]; rfl
      have HE1 := Lib.hid hE1
      have HC1 := Lib.hid hC1
      have hw : IntKind.i64.wrap ((S : Int) + (xn : Int)) = (S : Int) + (xn : Int) := IntWalk.i64_in _ (by omega)
      clear hm hlen hfew hE1 hC1
      by_cases hf : (is = false ∧ 20 ≤ m) ∨ 4194304 < S + xn
      · have hE : E = 7 := by rw [HE1.out, if_pos hf]
        have hC : app D nm xs = D := by rw [HC1.out, if_pos hf]
        rw [hE, hC]
        clear hE hC
        by_cases h20 : is = false ∧ 20 ≤ m
        · obtain ⟨rfl, h20⟩ := h20
          have hd0 : decide ((20 : Int) ≤ (m : Int)) = true := decide_eq_true (by omega)
          go_enter Try.func35, Try.ntmps35
          go_wp2_with (first
            | (go_at_call 68; refine (MY.out _).mono ?_; rintro e w2' ⟨rfl, rfl⟩)
            | (go_at_call 69; refine FI.out.mono ?_; rintro e w1 ⟨rfl, hb1⟩; have c0 := (H.out.below hb1).c0))
          first | go_ret | (go_quiet (fail); go_wp2_with fail; go_ret)
          exact ⟨rfl, ((H.out.below hb1).below (by first | exact Below.refl _ _ | exact below_drewN (Below.refl _ _) _)).ends (fun k e => .inl e) (Grow.of_below (by first | exact hb1 | exact below_drewN hb1 _)) H.out.lt⟩
        · have hS2 : 4194304 < S + xn := hf.resolve_left h20
          have hd1 : decide ((4194304 : Int) < (S : Int) + (xn : Int)) = true := decide_eq_true (by omega)
          cases is with
          | true =>
            go_enter Try.func35, Try.ntmps35
            go_wp2_with (first
              | (go_at_call 68; refine (MY.out _).mono ?_; rintro e w2' ⟨rfl, rfl⟩)
              | (go_at_call 69; refine FI.out.mono ?_; rintro e w1 ⟨rfl, hb1⟩; have c0 := (H.out.below hb1).c0)
              | (go_at_call 70; refine (AL.out _ hb1).mono ?_; rintro e w2'' ⟨rfl, rfl⟩))
            go_ret
            exact ⟨rfl, ((H.out.below hb1).below (by first | exact Below.refl _ _ | exact below_drewN (Below.refl _ _) _)).ends (fun k e => .inl e) (Grow.of_below (by first | exact hb1 | exact below_drewN hb1 _)) H.out.lt⟩
          | false =>
            have hd0 : decide ((20 : Int) ≤ (m : Int)) = false := decide_eq_false (fun e => h20 ⟨rfl, by omega⟩)
            go_enter Try.func35, Try.ntmps35
            go_wp2_with (first
              | (go_at_call 68; refine (MY.out _).mono ?_; rintro e w2' ⟨rfl, rfl⟩)
              | (go_at_call 69; refine FI.out.mono ?_; rintro e w1 ⟨rfl, hb1⟩; have c0 := (H.out.below hb1).c0)
              | (go_at_call 70; refine (AL.out _ hb1).mono ?_; rintro e w2'' ⟨rfl, rfl⟩))
            go_ret
            exact ⟨rfl, ((H.out.below hb1).below (by first | exact Below.refl _ _ | exact below_drewN (Below.refl _ _) _)).ends (fun k e => .inl e) (Grow.of_below (by first | exact hb1 | exact below_drewN hb1 _)) H.out.lt⟩
      · have hd1 : decide ((4194304 : Int) < (S : Int) + (xn : Int)) = false := decide_eq_false (by omega)
        have hd0 : is = false → decide ((20 : Int) ≤ (m : Int)) = false := fun e => decide_eq_false (fun e2 => hf (.inl ⟨e, by omega⟩))
        have hE2 : E = workE D := by rw [HE1.out, if_neg hf]
        have hC2 : app D nm xs = work D (fun l => withF l ⟨nm, (fileAt l nm).bs ++ xs, (fileAt l nm).mark⟩) := by rw [HC1.out, if_neg hf]
        by_cases hl : D.left = 0
        · have hE : E = 71 := by rw [hE2]; unfold workE; rw [if_pos hl]
          have hC : app D nm xs = crash D D.keep := by rw [hC2, work_yes hl]
          rw [hE, hC]
          have FA := Lib.hid (fun V (hb : Below w.heap.size w V) => fails_yes V g D F Fb _ KA kn kc qs (H.out.below hb) hl)
          clear hl hE hC hE2 hC2 hf
          cases is with
          | true =>
            clear hd0
            go_enter Try.func35, Try.ntmps35
            go_wp2_with (first
              | (go_at_call 68; refine (MY.out _).mono ?_; rintro e w2' ⟨rfl, rfl⟩)
              | (go_at_call 69; refine FI.out.mono ?_; rintro e w1 ⟨rfl, hb1⟩; have c0 := (H.out.below hb1).c0)
              | (go_at_call 70; refine (AL.out _ hb1).mono ?_; rintro e w2'' ⟨rfl, rfl⟩)
              | (go_at_call 71; refine (FA.out _ hb1).mono ?_; rintro e w2 ⟨rfl, ht2⟩))
            go_ret
            exact ⟨rfl, turns_below hb1 ht2 H.out.lt⟩
          | false =>
            replace hd0 := hd0 rfl
            go_enter Try.func35, Try.ntmps35
            go_wp2_with (first
              | (go_at_call 68; refine (MY.out _).mono ?_; rintro e w2' ⟨rfl, rfl⟩)
              | (go_at_call 69; refine FI.out.mono ?_; rintro e w1 ⟨rfl, hb1⟩; have c0 := (H.out.below hb1).c0)
              | (go_at_call 70; refine (AL.out _ hb1).mono ?_; rintro e w2'' ⟨rfl, rfl⟩)
              | (go_at_call 71; refine (FA.out _ hb1).mono ?_; rintro e w2 ⟨rfl, ht2⟩))
            go_ret
            exact ⟨rfl, turns_below hb1 ht2 H.out.lt⟩
        · have hE : E = 0 := by rw [hE2]; unfold workE; rw [if_neg hl]
          obtain ⟨D', hD'⟩ : ∃ x, app D nm xs = x := ⟨_, rfl⟩
          have hC := hC2
          rw [work_no hl] at hC
          rw [hE, hD']
          have HC := Lib.hid (hD'.symm.trans hC)
          have FA := Lib.hid (fun V (hb : Below w.heap.size w V) => fails_no V g D F Fb _ KA kn kc qs (H.out.below hb) hl)
          obtain ⟨l1, hl1⟩ : ∃ x, (if 0 < D.left then D.left - 1 else D.left) = x := ⟨_, rfl⟩
          simp only [hl1] at FA
          have HL1 := Lib.hid hl1
          have hlo1 : -1 ≤ l1 := by have := H.out.ok.low; rw [← hl1]; split <;> omega
          have hhi1 : l1 ≤ 9223372036854775807 := by have := H.out.ok.high; rw [← hl1]; split <;> omega
          clear hl hE hC hE2 hC2 hD' hl1
          cases is with
          | true =>
            obtain ⟨b, m', cap', bs, mk, qA, qc, hq, hv, hgb, hm', hmc, hqe, hfa, hrf, hmk, hbl, ⟨hdl, hde⟩, _⟩ := H.out.file HP.out HI.out
            injection hv with hv1 hv2 hv3
            subst hv1 hv2 hv3
            obtain ⟨L, hL⟩ : ∃ L, bs.length = L := ⟨_, rfl⟩
            have HQE := Lib.hid hqe
            have HFA := Lib.hid hfa
            have hpI : (p : Int) < (m : Int) := by omega
            have hpI0 : (0 : Int) ≤ (p : Int) := by omega
            have hSx : S + xn ≤ 4194304 := by have h9 := of_decide_eq_false hd1; omega
            have hok : ({ D with l := withF D.l ⟨nm, bs ++ xs, mk⟩, left := l1 } : Dk).ok := ok_left (ok_with (f := ⟨nm, bs ++ xs, mk⟩) H.out.ok (by show mk ≤ (bs ++ xs).length; rw [List.length_append]; omega) (.inl HI.out) (by rw [if_pos HI.out, hfa]; show sum D.l + (bs ++ xs).length ≤ 4194304 + bs.length; rw [List.length_append, HS.out, HXL.out]; omega)) l1 hlo1 hhi1
            have HOK := Lib.hid hok
            have HL := Lib.hid hL
            rw [hL] at hbl hmk
            clear hd0 hqe hfa hrf hde hok hL hm'
            have hbd : L + xn ≤ 225000000000000 := by omega
            go_enter Try.func35, Try.ntmps35
            go_wp2_with (first
              | (go_at_call 68; refine (MY.out _).mono ?_; rintro e w2' ⟨rfl, rfl⟩)
              | (go_at_call 69; refine FI.out.mono ?_; rintro e w1 ⟨rfl, hb1⟩; have c0 := (H.out.below hb1).c0)
              | (go_at_call 70; refine (AL.out _ hb1).mono ?_; rintro e w2'' ⟨rfl, rfl⟩)
              | (go_at_call 71; refine (FA.out _ hb1).mono ?_; rintro e w2 ⟨rfl, hR2, hG2⟩; have hR2' := hR2.below ((Below.refl w2.heap.size w2).alloc (Nat.le_refl _) (.cells #[.string nm, .slice none 0 0, .int .i64 0] 97)); have y0 := hR2'.c0; obtain ⟨d0, d1, d2⟩ := hR2'.cells hq HQE.out; rw [HL.out] at d1; have hat := (hR2.bytes hq HQE.out).1; rw [HL.out] at hat; have HR2 := Lib.hid hR2; clear hR2 hR2'; have HX2 := Lib.hid (HX.out.moved hXF hb1 hG2); have hat3 := Lib.hid (hat.alloc (.cells #[.string nm, .slice qA L qc, .int .i64 (mk : Int)] 97)); clear hat)
              | (go_at_call 11; refine (copyBytes qA L qc bs _ hat3.out (by omega)).mono ?_; rintro e w4 ⟨v1, rfl, hown, hb4⟩; have hr4 := Lib.hid (ownLen hown HL.out); have HX4 := Lib.hid ((HX2.out.alloc (.cells #[.string nm, .slice qA L qc, .int .i64 (mk : Int)] 97)).below' hb4); have HB4 := Lib.hid hb4; have HS4 := Lib.hid hb4.size; clear hown hb4 hat3)
              | (at_builtin; refine wpList_app rfl _ _ 27 rfl (w2.alloc (.cells #[.string nm, .slice qA L qc, .int .i64 (mk : Int)] 97)).heap.size 5 Try.underlying27 info5 v1 L bs xs rfl hr4.out XA xn xc rfl HX4.out hbd HS4.out ?_; intro v5 w5 hr5 hg5 _;  have hLN : (bs ++ xs).length = L + xn := (lenApp HL.out HXL.out); have HB5 := Lib.hid (HB4.out.grown hg5 HB4.out.size (fun k e => (rowOwn hr4.out k e).1)); obtain ⟨A1, c1, rfl, hat5, hc5, hc5m, hin5⟩ := ownNew hLN hr5; obtain ⟨⟨u0, x0⟩, x1, ⟨y0', y1, y2⟩, x3, WB⟩ := append_mid H.out hb1 HR2.out hG2 HB5.out hat5 hc5 hc5m hin5 HOK.out; clear hat5 hin5 hr5 hLN)
              | (go_at_call 72; refine WB.mono ?_; rintro e w6 ⟨rfl, v6, qs6, Fb6, hR6, hG6⟩; have HR6 := Lib.hid hR6; have HG6 := Lib.hid hG6; clear hR6 hG6))
            go_ret
            have hFg := H.out.fg.1
            have hG := (Grow.of_below (F := F) hb1).trans (hG2.mono (fun k e => .inl e))
            have hGa := hG.trans (Grow.of_below ((Below.refl w2.heap.size w2).alloc (Nat.le_refl _) (.cells #[.string nm, .slice qA L qc, .int .i64 (mk : Int)] 97)))
            have hGb := hGa.trans (Grow.of_below HB5.out)
            have hGc := hGb.set (p := ⟨w2.heap.size, 1, none⟩) (.inr hG.size) (.slice A1 (L + xn) c1)
            have hGd := hGc.trans (HG6.out.mono (fun k e => .inl (e ▸ hFg)))
            rw [HC.out, HL1.out, HFA.out]
            refine ⟨rfl, HR6.out.ends (fun k e => ?_) hGd H.out.lt⟩
            have z1 := HG6.out.size
            have z2 := hGa.size
            have z3 := hGc.size
            rw [set_size] at z1 z3
            unfold nF at e ⊢
            rw [set_size] at e
            rcases e with (e | e) | e
            · exact .inl e
            · exact .inr (by omega)
            · exact .inr (by omega)
          | false =>
            replace hd0 := hd0 rfl
            have hm20' : m < 20 := by have := of_decide_eq_false hd0; omega
            have hfa : fileAt D.l nm = ⟨nm, [], 0⟩ := by unfold fileAt; rw [HI.out]; rfl
            have HFA := Lib.hid hfa
            have hok : ({ D with l := withF D.l ⟨nm, ([] : List UInt8) ++ xs, 0⟩, left := l1 } : Dk).ok := ok_left (ok_with (f := ⟨nm, ([] : List UInt8) ++ xs, 0⟩) H.out.ok (Nat.zero_le _) (.inr (by rw [← H.out.len, HM.out]; exact hm20')) (by rw [if_neg (by show ¬ isAt D.l nm = true; rw [HI.out]; decide)]; show sum D.l + ([] ++ xs).length ≤ 4194304 + 0; rw [List.nil_append, HS.out, HXL.out]; have := of_decide_eq_false hd1; omega)) l1 hlo1 hhi1
            have HOK := Lib.hid hok
            clear hfa hok
            have hbd : 0 + xn ≤ 225000000000000 := by omega
            go_enter Try.func35, Try.ntmps35
            go_wp2_with (first
              | (go_at_call 68; refine (MY.out _).mono ?_; rintro e w2' ⟨rfl, rfl⟩)
              | (go_at_call 69; refine FI.out.mono ?_; rintro e w1 ⟨rfl, hb1⟩; have c0 := (H.out.below hb1).c0)
              | (go_at_call 70; refine (AL.out _ hb1).mono ?_; rintro e w2'' ⟨rfl, rfl⟩)
              | (go_at_call 71; refine (FA.out _ hb1).mono ?_; rintro e w2 ⟨rfl, hR2, hG2⟩; have hat : At w2 none 0 ([] : List UInt8) := At.nil _ _; have HR2 := Lib.hid hR2; clear hR2; have HX2 := Lib.hid (HX.out.moved hXF hb1 hG2); have hat3 := Lib.hid (hat.alloc (.cells #[.string nm, .slice none 0 0, .int .i64 ((0 : Nat) : Int)] 97)); clear hat)
              | (go_at_call 11; refine (copyBytes none 0 0 ([] : List UInt8) _ hat3.out (by omega)).mono ?_; rintro e w4 ⟨v1, rfl, hown, hb4⟩; have hr4 := Lib.hid (ownLen hown rfl); have HX4 := Lib.hid ((HX2.out.alloc (.cells #[.string nm, .slice none 0 0, .int .i64 ((0 : Nat) : Int)] 97)).below' hb4); have HB4 := Lib.hid hb4; have HS4 := Lib.hid hb4.size; clear hown hb4 hat3)
              | (at_builtin; refine wpList_app rfl _ _ 27 rfl (w2.alloc (.cells #[.string nm, .slice none 0 0, .int .i64 ((0 : Nat) : Int)] 97)).heap.size 5 Try.underlying27 info5 v1 0 ([] : List UInt8) xs rfl hr4.out XA xn xc rfl HX4.out hbd HS4.out ?_; intro v5 w5 hr5 hg5 _; rw [Nat.zero_add] at hr5; have hLN : (([] : List UInt8) ++ xs).length = xn := HXL.out; have HB5 := Lib.hid (HB4.out.grown hg5 HB4.out.size (fun k e => (rowOwn hr4.out k e).1)); obtain ⟨A1, c1, rfl, hat5, hc5, hc5m, hin5⟩ := ownNew hLN hr5; obtain ⟨⟨u0, x0⟩, x1, ⟨y0', y1, y2⟩, x3, WB⟩ := append_mid H.out hb1 HR2.out hG2 HB5.out hat5 hc5 hc5m hin5 HOK.out; clear hat5 hin5 hr5 hLN)
              | (go_at_call 72; refine WB.mono ?_; rintro e w6 ⟨rfl, v6, qs6, Fb6, hR6, hG6⟩; have HR6 := Lib.hid hR6; have HG6 := Lib.hid hG6; clear hR6 hG6))
            go_ret
            have hFg := H.out.fg.1
            have hG := (Grow.of_below (F := F) hb1).trans (hG2.mono (fun k e => .inl e))
            have hGa := hG.trans (Grow.of_below ((Below.refl w2.heap.size w2).alloc (Nat.le_refl _) (.cells #[.string nm, .slice none 0 0, .int .i64 ((0 : Nat) : Int)] 97)))
            have hGb := hGa.trans (Grow.of_below HB5.out)
            have hGc := hGb.set (p := ⟨w2.heap.size, 1, none⟩) (.inr hG.size) (.slice A1 xn c1)
            have hGd := hGc.trans (HG6.out.mono (fun k e => .inl (e ▸ hFg)))
            rw [HC.out, HL1.out, HFA.out]
            refine ⟨rfl, HR6.out.ends (fun k e => ?_) hGd H.out.lt⟩
            have z1 := HG6.out.size
            have z2 := hGa.size
            have z3 := hGc.size
            rw [set_size] at z1 z3
            unfold nF at e ⊢
            rw [set_size] at e
            rcases e with (e | e) | e
            · exact .inl e
            · exact .inr (by omega)
            · exact .inr (by omega)
end Go.Proofs.Ytmjoaeljfhgojaa
