/-
  FrameStops: the walk, over what the code's functions promise.
-/
import Derived.Test.YthbegaknlhclpaaVFrameBack
import Derived.LoopN
set_option linter.unusedVariables false
namespace Go.Proofs.Ythbegaknlhclpaa
open Go.RowKit Go.Shelf
attribute [local go_sem] Oper.semAt_some

theorem below_put {B g i : Nat} {u : Value} {w W : World} (h : Below B w W) (hg : B ≤ g) : Below B w (W.setCell ⟨g, i, none⟩ u) := by
  refine ⟨h.os, h.tape, h.output, ?_, fun k hk => ?_⟩
  · simpa [World.setCell] using h.size
  · rw [← h.block k hk]
    simp only [World.setCell, Array.getElem?_modify]
    rw [if_neg (by omega)]
theorem from_put {B g i : Nat} {u : Value} {t : TypeId} {cs : Array Value} {W : World} (h : Blk W g t cs) : KeepsFrom B W (W.setCell ⟨g, i, none⟩ u) := by
  refine ⟨by simp [World.setCell], fun k o _ hk ho => ?_⟩
  have hne : g ≠ k := by
    rintro rfl
    unfold Blk at h
    rw [h] at hk
    cases hk
    cases ho
  simp only [World.setCell, Array.getElem?_modify]
  rw [if_neg hne, hk]

theorem below_obj {n l : Nat} {o : Obj} {w W : World} (h : Below n w W) (hl : n ≤ l) : Below n w (W.putObj l o) :=
  ⟨h.os, h.tape, h.output, by rw [World.putObj_size]; exact h.size, fun k hk => (World.putObj_heap_other (by omega)).trans (h.block k hk)⟩
theorem wp_range_brk {P : Program} {ps : Array Tmp} {assign body : Code} {w : World} {α : Type} {g : Operand} {id : Nat} {Q : Exit → Act → World → Prop} {a : Act} {gf : Nat} {lb : Array Value} (hg : a.eval g = .func (.func gf) #[] lb) (eg : ∀ args w, (callFunc gf args).run P w = .ok (.enter gf args) w)
    {encs : α → Array Value} {Px : α → World → Prop} {Kq : World → World → Prop} {S Sp : List α → Prop} (hseq : Tells P gf lb encs Px Kq S Sp w) (hps : ∀ x, (encs x).size = ps.size)
    (hKf : ∀ {X Y : World}, w.heap.size ≤ X.heap.size → Firm w.heap.size X Y → Kq X Y) (hKt : ∀ {X Y Z : World}, Kq X Y → Kq Y Z → Kq X Z) (hPx : ∀ x X Y, Px x X → Firm w.heap.size X Y → Px x Y)
    (I : List α → World → Prop) (E : World → Prop) (hI : ∀ s X Y, I s X → w.heap.size ≤ X.heap.size → Firm w.heap.size X Y → I s Y) (hE : ∀ X Y, E X → w.heap.size ≤ X.heap.size → Firm w.heap.size X Y → E Y)
    (hIE : ∀ xs W, S xs → I xs W → E W) (h0 : I [] w) (a₁ : α → Act)
    (hassign : ∀ (l : Nat) (x : α) (W : World) (K : Act → World → Prop), K (a₁ x) W →
      assign.wpIn (Fence.wide.inRound l) 2 P (Exit.then K (fun _ _ _ => False)) { tmps := (ps.zip (encs x)).foldl (fun t (p, v) => t.setIfInBounds p v) a.tmps, defers := [] } W)
    (hbody : ∀ (l : Nat) (pre : List α) (x : α) (W : World), w.heap.size ≤ W.heap.size → I pre W → Px x W → Sp (pre ++ [x]) → body.wpIn (Fence.wide.inRound l) 2 P (roundEnd w.heap.size Kq I (fun c _ W => c = .exit id ∧ E W) (pre ++ [x]) W) (a₁ x) W)
    (hfin : ∀ (D : Nat) (W : World), w.heap.size ≤ D → E W → W.heap[D]? = some (.deferred (some [])) → Q .normal { a with defers := { target := .collected D, args := #[] } :: a.defers } W) :
    (Code.rangeFunc g ps assign body).wp P (Exit.inBlock id Q) a w := by
  refine wp_range hg eg hseq hps hKf hKt hPx I (fun c _ W => c = .exit id ∧ E W) hI (fun c _ X Y h hX hf => ⟨h.1, hE X Y h.2 hX hf⟩) h0 a₁ hassign hbody ?_ ?_
  · intro D xs W hD hS hi hK
    exact hfin D W hD (hIE xs W hS hi) hK
  · rintro D c pre W hD hS ⟨rfl, he⟩ hK
    have := hfin D W hD he hK
    refine wp_exit ?_
    simpa [Exit.inBlock] using this

set_option maxHeartbeats 4000000 in
theorem frameStops_w (hF : FrameOk) (hN : NextOk) (hall : AllOk) (A : Option Addr) (m c : Nat) (ls : List (List UInt8)) (many : Int) (w : World) (hx : Lists w A m ls) (hm : m ≤ 9223372036854775807)
    (hcap : ∀ b o i (h : i < ls.length) Ai ci, A = some ⟨b, o, none⟩ → w.cell? ⟨b, o + i, none⟩ = some (.slice Ai ls[i].length ci) → ls[i].length ≤ ci ∧ ci ≤ 9223372036854775807)
    (hi : -9223372036854775808 ≤ many ∧ many ≤ 9223372036854775807) :
    Calls Try.prog 10 #[.slice A m c, .int .i64 many] w fun e w' => e = .returned (.bool true) ∧ Below w.heap.size w w' := by
  have HW := Lib.hid (works hF hN)
  have hus := cutL_small ls (min m 20)
  have hul := cutL_len ls (min m 20) (by have := hx.1; omega)
  have hrl := recs_len _ hus
  have hall0 := alls_of_recs _ hus
  have HP := Lib.hid (fun V h1 h2 => put hF A m c ls V h1 hm h2)
  refine (callsIn_wide (n := 3)).1 (callsIn_of_wp_marks Try.func10 rfl trivial (wpIn_wide.2 ?_) rfl)
  simp only [Try.ntmps10, List.size_toArray, List.length_cons, List.length_nil, Nat.reduceAdd, Nat.reduceSub, Array.replicate_succ, Array.replicate_zero, List.push_toArray, List.append_toArray, List.nil_append, List.cons_append]
  go_wp2_with fail
  have hB0 : Below w.heap.size w (w.alloc (.cells #[.bool false] 4)) := (Below.refl _ _).alloc (Nat.le_refl _) _
  have hg4 := Blk.new w 4 #[.bool false]
  refine (HW.out _).mono ?_
  rintro e1 w1 ⟨rfl, hb1⟩
  have hB1 := hB0.trans (hb1.mono hB0.size)
  have hg41 := hg4.below hb1 (by simp)
  have hx1 := hx.below' hB1
  have hcap1 : ∀ b o i (h : i < ls.length) Ai ci, A = some ⟨b, o, none⟩ → w1.cell? ⟨b, o + i, none⟩ = some (.slice Ai ls[i].length ci) → ls[i].length ≤ ci ∧ ci ≤ 9223372036854775807 := by
    intro b o i h Ai ci hA hc
    have hm0 : 0 < m := by have := hx.1; omega
    obtain ⟨b', o', hA', hcc⟩ := hx.2 hm0
    rw [hA] at hA'
    cases hA'
    obtain ⟨Ai', ci', h1, _⟩ := hcc i h
    have h1' := (hB1.cell (World.block_lt_of_cell? w _ h1)).trans h1
    rw [hc] at h1'
    cases h1'
    exact hcap b o i h Ai ci hA h1
  have HC1 := Lib.hid hcap1
  have hw1 := hg41.lt
  clear hcap hcap1 hB0 hg4 hb1
  go_wp2_with fail
  refine (HP.out _ hx1 HC1.out).mono ?_
  rintro e2 w2 ⟨vb, vw, ve, ps, rfl, hps, hOb, hOw, hR, hOe, hb2⟩
  have hB2 := hB1.trans (hb2.mono hB1.size)
  have hg42 := hg41.below hb2 hw1
  obtain ⟨A2, c2, rfl, hA2, h21, h22, _⟩ := hOb.form
  obtain ⟨A3, c3, rfl, hL3, h31, h32⟩ := lists_row hOw (fun x hx' => (hR x hx').below hb2)
  rw [hps] at hL3
  generalize cutL ls (min m 20) = us at *
  generalize hrr : recs us = rr at *
  generalize hrL : rr.length = rl at *
  generalize hmm : min m 20 = mm at *
  have hul2 : mm ≤ 20 := by omega
  have HUS := Lib.hid hus
  have HUL := Lib.hid hul
  have hrl2 : rl ≤ 30000 := by omega
  have hs2 := hb2.size
  clear hus hul hrl hps hOb hOw hR hOe hb2 hx hrr hrL hmm HP HC1 HW hx1 hB1 hg41 hm
  go_wp2_with fail
  have hB2a : Below w2.heap.size w2 (w2.alloc (.cells #[.slice A3 mm c3] 35)) := (Below.refl _ _).alloc (Nat.le_refl _) _
  have hgw := Blk.new w2 35 #[.slice A3 mm c3]
  refine (bring many ((mm : Int) + 1) _ (by omega) (by omega)).mono ?_
  rintro e3 w3 ⟨rfl, rfl⟩
  have m1 := Int.emod_nonneg many (b := (mm : Int) + 1) (by omega)
  have m2 := Int.emod_lt_of_pos many (b := (mm : Int) + 1) (by omega)
  obtain ⟨k, hkk⟩ := Int.eq_ofNat_of_zero_le m1
  rw [hkk] at m2 ⊢
  have hkL : k ≤ mm := by omega
  clear hkk m1 m2 hi
  go_wp2_with fail
  obtain ⟨wa, hwa⟩ : ∃ wa, wa = (w2.alloc (.cells #[.slice A3 mm c3] 35)).alloc (.cells #[.int .i64 k] 3) := ⟨_, rfl⟩
  have hBa : Below w2.heap.size w2 wa := by rw [hwa]; exact hB2a.alloc hB2a.size _
  have hgn : Blk wa (w2.alloc (.cells #[.slice A3 mm c3] 35)).heap.size 3 #[.int .i64 k] := by rw [hwa]; exact Blk.new _ _ _
  have hL3a := hL3.below' hBa
  have hA2a := hA2.below' hBa
  have hg4a := hg42.below hBa (by omega)
  have hgwa : Blk wa w2.heap.size 35 #[.slice A3 mm c3] := by rw [hwa]; exact hgw.below ((Below.refl _ _).alloc (Nat.le_refl _) _) (by simp)
  have hsa : wa.heap.size = w2.heap.size + 2 := by rw [hwa]; simp
  have hBwa := hB2.trans (hBa.mono hB2.size)
  rw [show (w2.alloc (.cells #[.slice A3 mm c3] 35)).heap.size = w2.heap.size + 1 by simp] at hgn
  clear hL3 hA2 hg42 hgw hBa hB2 hB2a
  rw [← hwa]
  clear hwa
  refine (hall A2 rl c2 rr wa wa hA2a h21 h22 (by omega) (Below.refl _ _)).mono ?_
  rintro e4 w4 ⟨g, lb, rfl, hgo, hb4, htell⟩
  have hs4 := hb4.size
  have hB4 := hBwa.trans (hb4.mono hBwa.size)
  have hR4 := hg4a.below hb4 (by omega)
  have hW4 := hgwa.below hb4 (by omega)
  have hN4 := hgn.below hb4 (by omega)
  have hL4 := hL3a.below' hb4
  clear hL3a hA2a hg4a hgwa hgn hb4 hBwa
  go_wp2_with fail
  refine wp_loop_rounds 3 ?_
  rw [rounds_succ]
  go_wp2_with fail
  have HV1 : Below w4.heap.size w4 w4 := Below.refl _ _
  have HB1 : Below w4.heap.size w4 (w4.alloc (.cells #[.int .i64 0] 3)) := (Below.refl _ _).alloc (Nat.le_refl _) _
  refine wp_range_brk (P := Try.prog) rfl hgo (htell _ HB1) (fun _ => rfl)
    (fun hX h => h.below (by rw [World.size_alloc]; omega) (by rw [World.size_alloc] at hX; omega)) (fun h k => h.trans k) (fun _ _ _ h k => h.firm k)
    (fun pre W => Blk W (w4).heap.size 3 #[.int .i64 pre.length] ∧ pre.length ≤ k ∧ Below (w4).heap.size w4 W)
    (fun W => Blk W (w4).heap.size 3 #[.int .i64 k] ∧ Below (w4).heap.size w4 W)
    (fun s X Y h hX hf => ⟨hf.cells h.1, h.2.1, h.2.2.trans (hf.below (by rw [World.size_alloc]; omega) (by rw [World.size_alloc] at hX; omega))⟩)
    (fun X Y h hX hf => ⟨hf.cells h.1, h.2.trans (hf.below (by rw [World.size_alloc]; omega) (by rw [World.size_alloc] at hX; omega))⟩)
    (fun xs W hS h => by
      have h1 := congrArg List.length (hS.trans hall0)
      have h2 : xs.length = k := by rw [List.length_map, HUL.out] at h1; have := h.2.1; omega
      exact ⟨by rw [← h2]; exact h.1, h.2.2⟩)
    ⟨Blk.new _ _ _, Nat.zero_le _, (Below.refl _ _).alloc (Nat.le_refl _) _⟩
    (fun x => { tmps := #[.slice A m c, .int .i64 many, undef, undef, .pointer (some ⟨w.heap.size, 0, none⟩), .slice A2 rl c2, .pointer (some ⟨w2.heap.size, 0, none⟩), ve, .bool true, .pointer (some ⟨w2.heap.size + 1, 0, none⟩), .func (.func g) #[] lb, .int .i64 0, .pointer (some ⟨w4.heap.size, 0, none⟩), x.1, .bool true, .bool false, .tuple #[.slice A2 rl c2, .slice A3 mm c3, ve, .bool true], .slice A m c, .tuple #[.slice A2 rl c2, .slice A3 mm c3, ve, .bool true], .slice A2 rl c2, .slice A3 mm c3, ve, .bool true, .int .i64 many, .slice A3 mm c3, .int .i64 mm, .int .i64 (mm + 1), .int .i64 k, .slice A2 rl c2, .func (.func g) #[] lb, .int .i64 0, .bool true, undef, undef, .func (.func g) #[] lb, x.1, undef, undef, undef, undef, undef, undef, undef, undef, undef, undef, undef, undef, undef, undef, undef, undef], defers := [] }) ?assign ?body ?fin
  case assign =>
    intro l x W K hK
    gi_wp2
    exact hK
  case body =>
    rintro l pre ⟨v, xs⟩ W hsW ⟨hu, hpk, hB0⟩ hx hS
    have hB : Below w4.heap.size w4 W := (HV1).trans (hB0.mono HV1.size)
    obtain ⟨Ax, cx, hv, hxa, hx1, hx2, _⟩ := hx.form
    dsimp only at hv hx
    subst hv
    have hsz := hB.size
    have hszV := HV1.size
    have c1 : W.cell? ⟨(w4).heap.size, 0, none⟩ = some (.int .i64 pre.length) := by rw [hu.cell]; rfl
    have f1 := hu.frozen 0
    have c2' : W.cell? ⟨w2.heap.size + 1, 0, none⟩ = some (.int .i64 k) := by rw [(hN4.below hB hN4.lt).cell]; rfl
    have c3' : W.cell? ⟨w2.heap.size, 0, none⟩ = some (.slice A3 mm c3) := by rw [(hW4.below hB hW4.lt).cell]; rfl
    by_cases hpe : pre.length = k
    · have hq : ((pre.length : Int) == (k : Int)) = true := by simp [hpe]
      gi_wp2
      rw [hpe] at hu
      exact ⟨KeepsFrom.refl _ _, rfl, hu, hB0⟩
    · have hlt : pre.length < mm := by omega
      have hq : ((pre.length : Int) == (k : Int)) = false := by simp; omega
      have hLW := hL4.below' hB
      obtain ⟨b, o, rfl, hc⟩ := hLW.2 (by omega)
      have hxk : pre.length < us.length := by rw [HUL.out]; exact hlt
      obtain ⟨Ai, ci, h1, h2⟩ := hc pre.length hxk
      have hge : us[pre.length] = xs := by
        obtain ⟨r, hr⟩ := hS
        rw [hall0] at hr
        subst hr
        simp
      rw [hge] at h1 h2
      have hxl := HUS.out xs (by rw [← hge]; exact List.getElem_mem hxk)
      have hbb : (xs == xs) = true := beq_self_eq_true _
      clear hc hge hS hxk hLW
      generalize hul : xs.length = ul at *
      generalize hpl : pre.length = pl at *
      gi_wp2_with (refine ⟨trivial, ((callsIn_wide.2 (eqBytes Ax Ai ul ul cx ci xs xs W hxa h2 (by omega))).inRound l).mono ?_⟩; rintro e W2 ⟨rfl, j, rfl⟩; rw [hbb])
      have hu2 : Blk (W.drewN j) (w4).heap.size 3 #[.int .i64 pl] := hu
      have hB2 : Below (w4).heap.size w4 (W.drewN j) := below_drewN hB0 j
      refine ⟨(show KeepsFrom _ W (W.drewN j) from ⟨Nat.le_refl _, fun _ _ _ h _ => h⟩).trans (from_put hu2), below_put (below_drewN (Below.refl _ _) j) (by omega), ?_, ?_, below_put hB2 (by omega)⟩
      · have := hu2.set_ 0 (.int .i64 (pl + 1 : Nat))
        simpa [hpl] using this
      · simp [hpl]; omega
  case fin =>
    rintro D V hDD ⟨hu, hB0⟩ hKD
    have hB : Below w4.heap.size w4 V := (HV1).trans (hB0.mono HV1.size)
    have c1 : V.cell? ⟨(w4).heap.size, 0, none⟩ = some (.int .i64 k) := by rw [hu.cell]; rfl
    have c2' : V.cell? ⟨w2.heap.size + 1, 0, none⟩ = some (.int .i64 k) := by rw [(hN4.below hB hN4.lt).cell]; rfl
    have hq : ((k : Int) != (k : Int)) = false := by simp
    have hsU := hB.size
    have c4 : V.cell? ⟨w.heap.size, 0, none⟩ = some (.bool false) := by rw [(hR4.below hB hR4.lt).cell]; rfl
    have f4 := (hR4.below hB hR4.lt).frozen 0
    clear hu
    go_wp2_with fail
    rw [rounds_succ]
    go_wp2_with fail
    have HV2 := hB
    have HB2 : Below w4.heap.size w4 (V.alloc (.cells #[.int .i64 0] 3)) := hB.alloc (by omega) _
    refine wp_range_brk (P := Try.prog) rfl hgo (htell _ HB2) (fun _ => rfl)
      (fun hX h => h.below (by rw [World.size_alloc]; omega) (by rw [World.size_alloc] at hX; omega)) (fun h k => h.trans k) (fun _ _ _ h k => h.firm k)
      (fun pre W => Blk W (V).heap.size 3 #[.int .i64 pre.length] ∧ pre.length ≤ k ∧ Below (V).heap.size V W)
      (fun W => Blk W (V).heap.size 3 #[.int .i64 k] ∧ Below (V).heap.size V W)
      (fun s X Y h hX hf => ⟨hf.cells h.1, h.2.1, h.2.2.trans (hf.below (by rw [World.size_alloc]; omega) (by rw [World.size_alloc] at hX; omega))⟩)
      (fun X Y h hX hf => ⟨hf.cells h.1, h.2.trans (hf.below (by rw [World.size_alloc]; omega) (by rw [World.size_alloc] at hX; omega))⟩)
      (fun xs W hS h => by
        have h1 := congrArg List.length (hS.trans hall0)
        have h2 : xs.length = k := by rw [List.length_map, HUL.out] at h1; have := h.2.1; omega
        exact ⟨by rw [← h2]; exact h.1, h.2.2⟩)
      ⟨Blk.new _ _ _, Nat.zero_le _, (Below.refl _ _).alloc (Nat.le_refl _) _⟩
      (fun x => { tmps := #[.slice A m c, .int .i64 many, undef, undef, .pointer (some ⟨w.heap.size, 0, none⟩), .slice A2 rl c2, .pointer (some ⟨w2.heap.size, 0, none⟩), ve, .bool true, .pointer (some ⟨w2.heap.size + 1, 0, none⟩), .func (.func g) #[] lb, .int .i64 1, .pointer (some ⟨V.heap.size, 0, none⟩), x.1, .bool true, .bool false, .tuple #[.slice A2 rl c2, .slice A3 mm c3, ve, .bool true], .slice A m c, .tuple #[.slice A2 rl c2, .slice A3 mm c3, ve, .bool true], .slice A2 rl c2, .slice A3 mm c3, ve, .bool true, .int .i64 many, .slice A3 mm c3, .int .i64 mm, .int .i64 (mm + 1), .int .i64 k, .slice A2 rl c2, .func (.func g) #[] lb, .int .i64 1, .bool true, .int .i64 0, .int .i64 1, .func (.func g) #[] lb, x.1, undef, undef, undef, undef, undef, undef, undef, undef, undef, undef, undef, undef, .int .i64 k, .int .i64 k, .bool false, undef], defers := [] }) ?assign ?body ?fin
    case assign =>
      intro l x W K hK
      gi_wp2
      exact hK
    case body =>
      rintro l pre ⟨v, xs⟩ W hsW ⟨hu, hpk, hB0⟩ hx hS
      have hB : Below w4.heap.size w4 W := (HV2).trans (hB0.mono HV2.size)
      obtain ⟨Ax, cx, hv, hxa, hx1, hx2, _⟩ := hx.form
      dsimp only at hv hx
      subst hv
      have hsz := hB.size
      have hszV := HV2.size
      have c1 : W.cell? ⟨(V).heap.size, 0, none⟩ = some (.int .i64 pre.length) := by rw [hu.cell]; rfl
      have f1 := hu.frozen 0
      have c2' : W.cell? ⟨w2.heap.size + 1, 0, none⟩ = some (.int .i64 k) := by rw [(hN4.below hB hN4.lt).cell]; rfl
      have c3' : W.cell? ⟨w2.heap.size, 0, none⟩ = some (.slice A3 mm c3) := by rw [(hW4.below hB hW4.lt).cell]; rfl
      by_cases hpe : pre.length = k
      · have hq : ((pre.length : Int) == (k : Int)) = true := by simp [hpe]
        gi_wp2
        rw [hpe] at hu
        exact ⟨KeepsFrom.refl _ _, rfl, hu, hB0⟩
      · have hlt : pre.length < mm := by omega
        have hq : ((pre.length : Int) == (k : Int)) = false := by simp; omega
        have hLW := hL4.below' hB
        obtain ⟨b, o, rfl, hc⟩ := hLW.2 (by omega)
        have hxk : pre.length < us.length := by rw [HUL.out]; exact hlt
        obtain ⟨Ai, ci, h1, h2⟩ := hc pre.length hxk
        have hge : us[pre.length] = xs := by
          obtain ⟨r, hr⟩ := hS
          rw [hall0] at hr
          subst hr
          simp
        rw [hge] at h1 h2
        have hxl := HUS.out xs (by rw [← hge]; exact List.getElem_mem hxk)
        have hbb : (xs == xs) = true := beq_self_eq_true _
        clear hc hge hS hxk hLW
        generalize hul : xs.length = ul at *
        generalize hpl : pre.length = pl at *
        gi_wp2_with (refine ⟨trivial, ((callsIn_wide.2 (eqBytes Ax Ai ul ul cx ci xs xs W hxa h2 (by omega))).inRound l).mono ?_⟩; rintro e W2 ⟨rfl, j, rfl⟩; rw [hbb])
        have hu2 : Blk (W.drewN j) (V).heap.size 3 #[.int .i64 pl] := hu
        have hB2 : Below (V).heap.size V (W.drewN j) := below_drewN hB0 j
        refine ⟨(show KeepsFrom _ W (W.drewN j) from ⟨Nat.le_refl _, fun _ _ _ h _ => h⟩).trans (from_put hu2), below_put (below_drewN (Below.refl _ _) j) (by omega), ?_, ?_, below_put hB2 (by omega)⟩
        · have := hu2.set_ 0 (.int .i64 (pl + 1 : Nat))
          simpa [hpl] using this
        · simp [hpl]; omega
    case fin =>
      rintro D2 V2 hD2D ⟨hu, hB0⟩ hKD2
      have hB : Below w4.heap.size w4 V2 := (HV2).trans (hB0.mono HV2.size)
      have c1 : V2.cell? ⟨(V).heap.size, 0, none⟩ = some (.int .i64 k) := by rw [hu.cell]; rfl
      have c2' : V2.cell? ⟨w2.heap.size + 1, 0, none⟩ = some (.int .i64 k) := by rw [(hN4.below hB hN4.lt).cell]; rfl
      have hq : ((k : Int) != (k : Int)) = false := by simp
      have hsU := hB.size
      have c4 : V2.cell? ⟨w.heap.size, 0, none⟩ = some (.bool false) := by rw [(hR4.below hB hR4.lt).cell]; rfl
      have f4 := (hR4.below hB hR4.lt).frozen 0
      clear hu
      go_wp2_with fail
      rw [rounds_succ]
      go_wp2_with fail
      have hsV1 := HV2.size
      have hVD : V2.heap[D]? = some (.deferred (some [])) := (hB0.block D (lt_of_some hKD)).trans hKD
      have hwlt := hR4.lt
      have hDa := hDD
      have hDb := hD2D
      rw [World.size_alloc] at hDa hDb
      have hne : D ≠ D2 := by have := lt_of_some hKD; rw [World.size_alloc] at hD2D; omega
      have hDw : w.heap.size ≠ D := by rw [World.size_alloc] at hDD; omega
      have hD2w : w.heap.size ≠ D2 := by rw [World.size_alloc] at hD2D; omega
      refine ⟨by simp, .inl ⟨_, _, rfl, run_takeDeferred (by simp only [World.setCell, Array.getElem?_modify]; rw [if_neg hD2w]; exact hKD2), ?_⟩⟩
      refine ⟨by simp, .inl ⟨_, _, rfl, run_takeDeferred ((World.putObj_heap_other hne).trans (by simp only [World.setCell, Array.getElem?_modify]; rw [if_neg hDw]; exact hVD)), ?_⟩⟩
      have hfin : Blk (((V2.setCell ⟨w.heap.size, 0, none⟩ (.bool true)).putObj D2 (.deferred none)).putObj D (.deferred none)) w.heap.size 4 #[.bool true] := by
        unfold Blk
        rw [World.putObj_heap_other hDw, World.putObj_heap_other hD2w]
        exact (hR4.below hB hR4.lt).set_ 0 (.bool true)
      refine ⟨.bool true, ?_, rfl, ?_⟩
      · have hc := hfin.cell 0
        have ht : (#[Value.bool true])[0]? = some (Value.bool true) := rfl
        rw [ht] at hc
        generalize ((V2.setCell ⟨w.heap.size, 0, none⟩ (.bool true)).putObj D2 (.deferred none)).putObj D (.deferred none) = Z at *
        simp [results, Try.results10, go_sem, asAddr, loadVar, hc]
      · exact below_obj (below_obj (below_put (hB4.trans (hB.mono hB4.size)) (Nat.le_refl _)) (by omega)) (by omega)
end Go.Proofs.Ythbegaknlhclpaa
