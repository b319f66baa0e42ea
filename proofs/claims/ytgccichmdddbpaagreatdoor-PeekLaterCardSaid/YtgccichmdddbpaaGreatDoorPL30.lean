/-
  Layer 12, the statements' helpers: a thing as a change.
  Layer 12, the statements' helpers: things laid as changes; tables that have them.
  Layer 12, plain: a transaction, what is found, what is read under a key; how they lie in memory.
  Layer 12: ReadVersion, whole.
-/
import Derived.Test.YtgccichmdddbpaaGreatDoorPL28
import Derived.Test.YtgccichmdddbpaaGreatDoorPL29
import Derived.Test.YtgccichmdddbpaaGreatDoorPL16
set_option linter.unusedVariables false
set_option linter.unusedSimpArgs false
set_option maxRecDepth 100000
namespace Go.Proofs.YtgccichmdddbpaaGreatDoor
open Go.RowKit

theorem kS_sz (s : ByteArray) : (kS s).size ≤ 2002 := by
  unfold kS
  split
  · exact okey_le (ob s) (by show s.size ≤ _; assumption)
  · decide
theorem dS_sz (a b : Int) : (dS a b).size ≤ 9 := by
  unfold dS
  split
  · exact odown_le a b
  · decide
theorem vk_cat (s : ByteArray) (a b : Int) (h : s.size ≤ 1000) (hm : may a b = true) : (⟨#[118]⟩ : ByteArray) ++ kS s ++ dS a b = vkS s a b := by
  unfold vkS kS dS
  rw [if_pos h, if_pos hm, if_pos ⟨h, hm⟩]
  apply ByteArray.ext
  simp [bs, vkey, ob_sb]
theorem ik_cat (s : ByteArray) (h : s.size ≤ 1000) : (⟨#[105]⟩ : ByteArray) ++ kS s = ikS s := by
  unfold ikS kS
  rw [if_pos h, if_pos h]
  apply ByteArray.ext
  simp [bs, ikey, ob_sb]
def vkE (s : ByteArray) (a b : Int) : Int := if s.size ≤ 1000 ∧ may a b = true then 0 else 2
def ikE (s : ByteArray) : Int := if s.size ≤ 1000 then 0 else 2
theorem rVersionKey (s : ByteArray) (a b : Int) (w : World) : Calls Tryz.prog 84 #[.string s, sv a b] w fun e w' => e = .returned (.tuple #[.string (vkS s a b), .int .i64 (vkE s a b)]) ∧ Below w.heap.size w w' := by
  have hX := Blk.new w 26 #[.int .i64 a, .int .i64 b]
  have g0 := nbl w (.cells #[.int .i64 a, .int .i64 b] 26)
  have HK := Lib.hid (fun V => refKeyAny s V)
  have HD := Lib.hid (fun V => refDownAny a b V)
  have z1 := kS_sz s
  have z2 := dS_sz a b
  have HX := Lib.hid hX
  have G0 := Lib.hid g0
  have hE : kE s = if s.size ≤ 1000 then 0 else 5 := rfl
  have hF : dE a b = if may a b = true then 0 else 2 := rfl
  rw [hE] at HK
  rw [hF] at HD
  clear hX g0 hE hF
  by_cases h1 : s.size ≤ 1000
  · rw [if_pos h1] at HK
    cases h2 : may a b
    · rw [h2] at HD
      simp only [Bool.false_eq_true, if_false] at HD
      have hR := Lib.hid (show vkS s a b = ⟨#[]⟩ ∧ vkE s a b = 2 by unfold vkS vkE; rw [if_neg (by rw [h2]; simp), if_neg (by rw [h2]; simp)]; exact ⟨rfl, rfl⟩)
      rw [hR.out.1, hR.out.2]
      clear h2
      go_enter Tryz.func84, Tryz.ntmps84
      go_wp2_with (first
        | (go_at_call 102; refine (HK.out _).mono ?_; rintro e w1 ⟨rfl, b1⟩
           have k := HX.out.below b1 HX.out.lt
           have x0 := k.cell 0
           have x1 := k.cell 1
           simp at x0 x1
           have c1 := Lib.hid (bst G0.out b1)
           clear k)
        | (go_at_call 127; refine (HD.out _).mono ?_; rintro e w2 ⟨rfl, b2⟩))
      go_ret2
      exact ⟨rfl, bst c1.out b2⟩
    · rw [h2] at HD
      simp only [if_true] at HD
      have hR := Lib.hid (show vkE s a b = 0 by unfold vkE; rw [if_pos ⟨h1, h2⟩])
      have hC := Lib.hid (vk_cat s a b h1 h2)
      rw [hR.out]
      generalize vkS s a b = rs at *
      generalize kS s = k1 at *
      generalize dS a b = k2 at *
      have zz : ¬ 9223372036854775807 < 1 + k1.size := by omega
      have hq : (⟨#[118]⟩ ++ k1 : ByteArray).size = 1 + k1.size := by rw [ByteArray.size_append]; rfl
      obtain ⟨k3, hk3⟩ : ∃ k3, (⟨#[118]⟩ ++ k1 : ByteArray) = k3 := ⟨_, rfl⟩
      have zy : ¬ 9223372036854775807 < k3.size + k2.size := by rw [← hk3, hq]; omega
      have hC3 := hC.out
      rw [hk3] at hC3 hq
      clear h2
      go_enter Tryz.func84, Tryz.ntmps84
      go_wp2_with (first
        | (go_at_call 102; refine (HK.out _).mono ?_; rintro e w1 ⟨rfl, b1⟩
           have k := HX.out.below b1 HX.out.lt
           have x0 := k.cell 0
           have x1 := k.cell 1
           simp at x0 x1
           have c1 := Lib.hid (bst G0.out b1)
           clear k)
        | (go_at_call 127; refine (HD.out _).mono ?_; rintro e w2 ⟨rfl, b2⟩))
      go_ret2
      exact ⟨rfl, bst c1.out b2⟩
  · rw [if_neg h1] at HK
    have hR := Lib.hid (show vkS s a b = ⟨#[]⟩ ∧ vkE s a b = 2 by unfold vkS vkE; rw [if_neg (fun h => h1 h.1), if_neg (fun h => h1 h.1)]; exact ⟨rfl, rfl⟩)
    rw [hR.out.1, hR.out.2]
    go_enter Tryz.func84, Tryz.ntmps84
    go_wp2_with (first
      | (go_at_call 102; refine (HK.out _).mono ?_; rintro e w1 ⟨rfl, b1⟩
         have k := HX.out.below b1 HX.out.lt
         have x0 := k.cell 0
         have x1 := k.cell 1
         simp at x0 x1
         have c1 := Lib.hid (bst G0.out b1)
         clear k)
      | (go_at_call 127; refine (HD.out _).mono ?_; rintro e w2 ⟨rfl, b2⟩))
    all_goals go_ret2
    all_goals exact ⟨rfl, bst c1.out b2⟩
theorem rIntentKey (s : ByteArray) (w : World) : Calls Tryz.prog 54 #[.string s] w fun e w' => e = .returned (.tuple #[.string (ikS s), .int .i64 (ikE s)]) ∧ Below w.heap.size w w' := by
  have HK := Lib.hid (fun V => refKeyAny s V)
  have z1 := kS_sz s
  have hE : kE s = if s.size ≤ 1000 then 0 else 5 := rfl
  rw [hE] at HK
  clear hE
  by_cases h1 : s.size ≤ 1000
  · rw [if_pos h1] at HK
    have hR := Lib.hid (show ikE s = 0 by unfold ikE; rw [if_pos h1])
    have hC := ik_cat s h1
    rw [hR.out]
    generalize ikS s = rs at *
    generalize kS s = k1 at *
    have zz : ¬ 9223372036854775807 < 1 + k1.size := by omega
    go_enter Tryz.func54, Tryz.ntmps54
    go_wp2_with (go_at_call 102; refine (HK.out _).mono ?_; rintro e w1 ⟨rfl, b1⟩)
    go_ret2
    exact ⟨rfl, b1⟩
  · rw [if_neg h1] at HK
    have hR := Lib.hid (show ikS s = ⟨#[]⟩ ∧ ikE s = 2 by unfold ikS ikE; rw [if_neg h1, if_neg h1]; exact ⟨rfl, rfl⟩)
    rw [hR.out.1, hR.out.2]
    go_enter Tryz.func54, Tryz.ntmps54
    go_wp2_with (go_at_call 102; refine (HK.out _).mono ?_; rintro e w1 ⟨rfl, b1⟩)
    go_ret2
    exact ⟨rfl, b1⟩
theorem ret_op12 {fn : Func} {Q : Ending → World → Prop} {a : Act} {w : World} {p u : Tmp} {g : Nat} {k v : ByteArray} {d : Bool} (hr : fn.results = #[.cell p 93, .tmp u]) (hp : a.tmps.getD p undef = .pointer (some ⟨g, 0, none⟩))
    (hB : Blk w g 93 #[.string k, .string v, .bool d]) (hd : a.defers = []) (hR : Q (.returned (.tuple #[.agg #[.string k, .string v, .bool d], a.tmps.getD u undef])) w) : bodyPost Tryz.prog fn Q .ret a w := by
  refine bodyPost_ret ?_ hd hR
  have hp' : a.tmps[p]?.getD undef = .pointer (some ⟨g, 0, none⟩) := by simpa using hp
  simp [results, hr, hp', asAddr, run_loadVar_row w g 93 93 _ (0, 0) _ hB Tryz.underlying93 rfl (by kernel_rfl)]
theorem Blk.all3 {w : World} {g : Nat} {t : TypeId} {c0 c1 c2 v0 v1 v2 : Value} (h : Blk w g t #[c0, c1, c2]) : Blk (((w.setCell ⟨g, 0, none⟩ v0).setCell ⟨g, 1, none⟩ v1).setCell ⟨g, 2, none⟩ v2) g t #[v0, v1, v2] := by
  have := ((h.set_ 0 v0).set_ 1 v1).set_ 2 v2
  simpa using this
theorem ansT_form (ok : Bool) (l : List UInt8) : ansT ok l = .returned (.tuple #[.string (if ok then bs l else ⟨#[]⟩), .int .i64 (if ok then 0 else 2)]) := rfl
/-- What op answers: the change, and whether it can stand there. -/
def ThP (x : Th) (w : World) (e : Ending) (w' : World) : Prop := ∃ k v, e = .returned (.tuple #[.agg #[.string k, .string v, .bool false], .bool (opOf x).isSome]) ∧ (∀ o, opOf x = some o → o = ⟨k, v, false⟩) ∧ Below w.heap.size w w'
theorem ThP.mk {x : Th} {w w' : World} {k v : ByteArray} {b : Bool} (hs : opOf x = if b then some ⟨k, v, false⟩ else none) (hb : Below w.heap.size w w') : ThP x w (.returned (.tuple #[.agg #[.string k, .string v, .bool false], .bool b])) w' := by
  refine ⟨k, v, ?_, fun o ho => ?_, hb⟩
  · rw [hs]; cases b <;> rfl
  · rw [hs] at ho
    cases b
    · cases ho
    · injection ho with ho
      exact ho.symm
set_option maxHeartbeats 8000000 in
theorem thOp (x : Th) (A : Option Addr) (n c : Nat) (w : World) (hx : ChAt w A n x.it.l) (hn : n ≤ 9223372036854775807) (hz : TSz x) :
    Calls Tryz.prog 35 #[thv x (.slice A n c)] w (ThP x w) := by
  have g0 := nbl w (.cells (thc x (.slice A n c)) 90)
  have g1 := bsa g0 (.cells #[.string ⟨#[]⟩, .string ⟨#[]⟩, .bool false] 93)
  have kX := (Blk.new w 90 (thc x (.slice A n c))).below (nbl _ (.cells #[.string ⟨#[]⟩, .string ⟨#[]⟩, .bool false] 93)) (by simp)
  have hzz : (w.alloc (.cells (thc x (.slice A n c)) 90)).heap.size = w.heap.size + 1 := by simp
  have kY := Blk.new (w.alloc (.cells (thc x (.slice A n c)) 90)) 93 #[.string ⟨#[]⟩, .string ⟨#[]⟩, .bool false]
  rw [hzz] at kY
  have HL := Lib.hid (hx.below g1)
  have HX := Lib.hid kX
  have HY := Lib.hid kY
  have G1 := Lib.hid g1
  obtain ⟨m, hm⟩ : ∃ m, x.k.tmod 3 = m := ⟨_, rfl⟩
  have m1 : -3 < m := by rw [← hm]; exact Int.lt_tmod_of_pos x.k (by omega)
  have m2 : m < 3 := by rw [← hm]; exact Int.tmod_lt_of_pos x.k (by omega)
  have hk : kd x.k = (m + 3).tmod 3 := by unfold kd; rw [hm]
  have LX := Lib.hid (fun (V : World) (h : Blk V w.heap.size 90 (thc x (.slice A n c))) => (show V.cell? ⟨w.heap.size, 0, none⟩ = some (.int .i64 x.k) ∧ V.cell? ⟨w.heap.size, 1, none⟩ = some (.string x.key) ∧ V.cell? ⟨w.heap.size, 2, none⟩ = some (.string x.value) ∧ V.cell? ⟨w.heap.size, 3, none⟩ = some (.bool x.gone) ∧ V.cell? ⟨w.heap.size, 4, none⟩ = some (.int .i64 x.sw) ∧ V.cell? ⟨w.heap.size, 5, none⟩ = some (.int .i64 x.sl) ∧ V.cell? ⟨w.heap.size, 6, none⟩ = some (.int .i64 x.it.id) ∧ V.cell? ⟨w.heap.size, 7, none⟩ = some (.int .i64 x.it.ep) ∧ V.cell? ⟨w.heap.size, 8, none⟩ = some (.int .i64 x.it.pr) ∧ V.cell? ⟨w.heap.size, 9, none⟩ = some (.string x.it.an) ∧ V.cell? ⟨w.heap.size, 10, none⟩ = some (.int .i64 x.it.sw) ∧ V.cell? ⟨w.heap.size, 11, none⟩ = some (.int .i64 x.it.sl) ∧ V.cell? ⟨w.heap.size, 12, none⟩ = some (.int .i64 x.it.bw) ∧ V.cell? ⟨w.heap.size, 13, none⟩ = some (.int .i64 x.it.bl) ∧ V.cell? ⟨w.heap.size, 14, none⟩ = some (.slice A n c) from ⟨h.cell 0, h.cell 1, h.cell 2, h.cell 3, h.cell 4, h.cell 5, h.cell 6, h.cell 7, h.cell 8, h.cell 9, h.cell 10, h.cell 11, h.cell 12, h.cell 13, h.cell 14⟩))
  clear kX kY g0 g1 hx hzz
  rcases kd_is x.k with h0 | h0 | h0
  all_goals rw [h0] at hk
  all_goals replace hk := hk.symm
  · have hgv : ∃ (vv : ByteArray) (dd : Bool), (if x.gone then ⟨#[]⟩ else x.value) = vv ∧ (!x.gone) = dd := ⟨_, _, rfl, rfl⟩
    obtain ⟨vv, dd, hvv, hdd⟩ := hgv
    have HO2 := Lib.hid (show opOf x = if okV x then some ⟨bs (vkey (sb x.key) x.sw x.sl), bs (txV vv dd), false⟩ else none by unfold opOf; rw [if_pos h0, hvv, hdd])
    have HOK := Lib.hid (show okV x = (decide (x.key.size ≤ 1000) && may x.sw x.sl && isV vv dd) by unfold okV; rw [hvv, hdd])
    by_cases hA : x.key.size ≤ 1000 ∧ may x.sw x.sl = true
    all_goals cases hV : isV vv dd
    · have HKE := Lib.hid (show vkE x.key x.sw x.sl = 0 by unfold vkE; rw [if_pos hA])
      have HVV := Lib.hid hV
      have HO := Lib.hid (show opOf x = if false then some ⟨vkS x.key x.sw x.sl, (if false then bs (txV vv dd) else ⟨#[]⟩), false⟩ else none by
        rw [HO2.out, HOK.out, hV]
        simp)
      cases hg : x.gone
      all_goals (
        rw [hg] at hvv hdd
        simp only [Bool.false_eq_true, if_false, if_true, Bool.not_false, Bool.not_true] at hvv hdd
        subst hvv hdd
        rw [hg] at LX
        clear hA hV HO2 HOK h0)
      all_goals try skip
      · obtain ⟨c0, c1, c2, c3, c4, c5, c6, c7, c8, c9, c10, c11, c12, c13, c14⟩ := LX.out _ HX.out
        go_enter Tryz.func35, Tryz.ntmps35
        go_wp2_with (first
          | (go_at_call 84; refine (rVersionKey x.key x.sw x.sl _).mono ?_; rintro e w1 ⟨rfl, b1⟩; rw [HKE.out]
             obtain ⟨e0, e1, e2, e3, e4, e5, e6, e7, e8, e9, e10, e11, e12, e13, e14⟩ := LX.out _ (HX.out.below b1 HX.out.lt)
             have B1 := Lib.hid b1
             clear b1)
          | (go_at_call 85; refine (rVersion x.value true _).mono ?_; rintro e w2 ⟨he, b2⟩; rw [ansT_form, HVV.out] at he; subst he
             have c2 := bst B1.out b2
             have ky := HY.out.below c2 HY.out.lt
             have y0 := ky.cell 0
             have y1 := ky.cell 1
             have y2 := ky.cell 2
             have f0 := ky.frozen 0
             have f1 := ky.frozen 1
             have f2 := ky.frozen 2
             simp at y0 y1 y2))
        exact ret_op12 rfl rfl ky.all3 rfl (ThP.mk (b := false) HO.out (((bst G1.out c2).setCell (Nat.le_succ _) _).setCell (Nat.le_succ _) _ |>.setCell (Nat.le_succ _) _))
      · obtain ⟨c0, c1, c2, c3, c4, c5, c6, c7, c8, c9, c10, c11, c12, c13, c14⟩ := LX.out _ HX.out
        go_enter Tryz.func35, Tryz.ntmps35
        go_wp2_with (first
          | (go_at_call 84; refine (rVersionKey x.key x.sw x.sl _).mono ?_; rintro e w1 ⟨rfl, b1⟩; rw [HKE.out]
             obtain ⟨e0, e1, e2, e3, e4, e5, e6, e7, e8, e9, e10, e11, e12, e13, e14⟩ := LX.out _ (HX.out.below b1 HX.out.lt)
             have B1 := Lib.hid b1
             clear b1)
          | (go_at_call 85; refine (rVersion ⟨#[]⟩ false _).mono ?_; rintro e w2 ⟨he, b2⟩; rw [ansT_form, HVV.out] at he; subst he
             have c2 := bst B1.out b2
             have ky := HY.out.below c2 HY.out.lt
             have y0 := ky.cell 0
             have y1 := ky.cell 1
             have y2 := ky.cell 2
             have f0 := ky.frozen 0
             have f1 := ky.frozen 1
             have f2 := ky.frozen 2
             simp at y0 y1 y2))
        exact ret_op12 rfl rfl ky.all3 rfl (ThP.mk (b := false) HO.out (((bst G1.out c2).setCell (Nat.le_succ _) _).setCell (Nat.le_succ _) _ |>.setCell (Nat.le_succ _) _))
    · have HKE := Lib.hid (show vkE x.key x.sw x.sl = 0 by unfold vkE; rw [if_pos hA])
      have HVV := Lib.hid hV
      have HO := Lib.hid (show opOf x = if true then some ⟨vkS x.key x.sw x.sl, (if true then bs (txV vv dd) else ⟨#[]⟩), false⟩ else none by
        rw [HO2.out, HOK.out, hV]
        rw [decide_eq_true hA.1, hA.2]; simp [vkS, hA])
      cases hg : x.gone
      all_goals (
        rw [hg] at hvv hdd
        simp only [Bool.false_eq_true, if_false, if_true, Bool.not_false, Bool.not_true] at hvv hdd
        subst hvv hdd
        rw [hg] at LX
        clear hA hV HO2 HOK h0)
      all_goals try skip
      · obtain ⟨c0, c1, c2, c3, c4, c5, c6, c7, c8, c9, c10, c11, c12, c13, c14⟩ := LX.out _ HX.out
        go_enter Tryz.func35, Tryz.ntmps35
        go_wp2_with (first
          | (go_at_call 84; refine (rVersionKey x.key x.sw x.sl _).mono ?_; rintro e w1 ⟨rfl, b1⟩; rw [HKE.out]
             obtain ⟨e0, e1, e2, e3, e4, e5, e6, e7, e8, e9, e10, e11, e12, e13, e14⟩ := LX.out _ (HX.out.below b1 HX.out.lt)
             have B1 := Lib.hid b1
             clear b1)
          | (go_at_call 85; refine (rVersion x.value true _).mono ?_; rintro e w2 ⟨he, b2⟩; rw [ansT_form, HVV.out] at he; subst he
             have c2 := bst B1.out b2
             have ky := HY.out.below c2 HY.out.lt
             have y0 := ky.cell 0
             have y1 := ky.cell 1
             have y2 := ky.cell 2
             have f0 := ky.frozen 0
             have f1 := ky.frozen 1
             have f2 := ky.frozen 2
             simp at y0 y1 y2))
        exact ret_op12 rfl rfl ky.all3 rfl (ThP.mk (b := true) HO.out (((bst G1.out c2).setCell (Nat.le_succ _) _).setCell (Nat.le_succ _) _ |>.setCell (Nat.le_succ _) _))
      · obtain ⟨c0, c1, c2, c3, c4, c5, c6, c7, c8, c9, c10, c11, c12, c13, c14⟩ := LX.out _ HX.out
        go_enter Tryz.func35, Tryz.ntmps35
        go_wp2_with (first
          | (go_at_call 84; refine (rVersionKey x.key x.sw x.sl _).mono ?_; rintro e w1 ⟨rfl, b1⟩; rw [HKE.out]
             obtain ⟨e0, e1, e2, e3, e4, e5, e6, e7, e8, e9, e10, e11, e12, e13, e14⟩ := LX.out _ (HX.out.below b1 HX.out.lt)
             have B1 := Lib.hid b1
             clear b1)
          | (go_at_call 85; refine (rVersion ⟨#[]⟩ false _).mono ?_; rintro e w2 ⟨he, b2⟩; rw [ansT_form, HVV.out] at he; subst he
             have c2 := bst B1.out b2
             have ky := HY.out.below c2 HY.out.lt
             have y0 := ky.cell 0
             have y1 := ky.cell 1
             have y2 := ky.cell 2
             have f0 := ky.frozen 0
             have f1 := ky.frozen 1
             have f2 := ky.frozen 2
             simp at y0 y1 y2))
        exact ret_op12 rfl rfl ky.all3 rfl (ThP.mk (b := true) HO.out (((bst G1.out c2).setCell (Nat.le_succ _) _).setCell (Nat.le_succ _) _ |>.setCell (Nat.le_succ _) _))
    · have HKE := Lib.hid (show vkE x.key x.sw x.sl = 2 by unfold vkE; rw [if_neg hA])
      have HVV := Lib.hid hV
      have HO := Lib.hid (show opOf x = if false then some ⟨vkS x.key x.sw x.sl, (if false then bs (txV vv dd) else ⟨#[]⟩), false⟩ else none by
        rw [HO2.out, HOK.out, hV]
        simp)
      cases hg : x.gone
      all_goals (
        rw [hg] at hvv hdd
        simp only [Bool.false_eq_true, if_false, if_true, Bool.not_false, Bool.not_true] at hvv hdd
        subst hvv hdd
        rw [hg] at LX
        clear hA hV HO2 HOK h0)
      all_goals try skip
      · obtain ⟨c0, c1, c2, c3, c4, c5, c6, c7, c8, c9, c10, c11, c12, c13, c14⟩ := LX.out _ HX.out
        go_enter Tryz.func35, Tryz.ntmps35
        go_wp2_with (first
          | (go_at_call 84; refine (rVersionKey x.key x.sw x.sl _).mono ?_; rintro e w1 ⟨rfl, b1⟩; rw [HKE.out]
             obtain ⟨e0, e1, e2, e3, e4, e5, e6, e7, e8, e9, e10, e11, e12, e13, e14⟩ := LX.out _ (HX.out.below b1 HX.out.lt)
             have B1 := Lib.hid b1
             clear b1)
          | (go_at_call 85; refine (rVersion x.value true _).mono ?_; rintro e w2 ⟨he, b2⟩; rw [ansT_form, HVV.out] at he; subst he
             have c2 := bst B1.out b2
             have ky := HY.out.below c2 HY.out.lt
             have y0 := ky.cell 0
             have y1 := ky.cell 1
             have y2 := ky.cell 2
             have f0 := ky.frozen 0
             have f1 := ky.frozen 1
             have f2 := ky.frozen 2
             simp at y0 y1 y2))
        exact ret_op12 rfl rfl ky.all3 rfl (ThP.mk (b := false) HO.out (((bst G1.out c2).setCell (Nat.le_succ _) _).setCell (Nat.le_succ _) _ |>.setCell (Nat.le_succ _) _))
      · obtain ⟨c0, c1, c2, c3, c4, c5, c6, c7, c8, c9, c10, c11, c12, c13, c14⟩ := LX.out _ HX.out
        go_enter Tryz.func35, Tryz.ntmps35
        go_wp2_with (first
          | (go_at_call 84; refine (rVersionKey x.key x.sw x.sl _).mono ?_; rintro e w1 ⟨rfl, b1⟩; rw [HKE.out]
             obtain ⟨e0, e1, e2, e3, e4, e5, e6, e7, e8, e9, e10, e11, e12, e13, e14⟩ := LX.out _ (HX.out.below b1 HX.out.lt)
             have B1 := Lib.hid b1
             clear b1)
          | (go_at_call 85; refine (rVersion ⟨#[]⟩ false _).mono ?_; rintro e w2 ⟨he, b2⟩; rw [ansT_form, HVV.out] at he; subst he
             have c2 := bst B1.out b2
             have ky := HY.out.below c2 HY.out.lt
             have y0 := ky.cell 0
             have y1 := ky.cell 1
             have y2 := ky.cell 2
             have f0 := ky.frozen 0
             have f1 := ky.frozen 1
             have f2 := ky.frozen 2
             simp at y0 y1 y2))
        exact ret_op12 rfl rfl ky.all3 rfl (ThP.mk (b := false) HO.out (((bst G1.out c2).setCell (Nat.le_succ _) _).setCell (Nat.le_succ _) _ |>.setCell (Nat.le_succ _) _))
    · have HKE := Lib.hid (show vkE x.key x.sw x.sl = 2 by unfold vkE; rw [if_neg hA])
      have HVV := Lib.hid hV
      have HO := Lib.hid (show opOf x = if false then some ⟨vkS x.key x.sw x.sl, (if true then bs (txV vv dd) else ⟨#[]⟩), false⟩ else none by
        rw [HO2.out, HOK.out, hV]
        simp only [Bool.and_true]; rw [if_neg (fun h => hA (by simpa using h))]; simp)
      cases hg : x.gone
      all_goals (
        rw [hg] at hvv hdd
        simp only [Bool.false_eq_true, if_false, if_true, Bool.not_false, Bool.not_true] at hvv hdd
        subst hvv hdd
        rw [hg] at LX
        clear hA hV HO2 HOK h0)
      all_goals try skip
      · obtain ⟨c0, c1, c2, c3, c4, c5, c6, c7, c8, c9, c10, c11, c12, c13, c14⟩ := LX.out _ HX.out
        go_enter Tryz.func35, Tryz.ntmps35
        go_wp2_with (first
          | (go_at_call 84; refine (rVersionKey x.key x.sw x.sl _).mono ?_; rintro e w1 ⟨rfl, b1⟩; rw [HKE.out]
             obtain ⟨e0, e1, e2, e3, e4, e5, e6, e7, e8, e9, e10, e11, e12, e13, e14⟩ := LX.out _ (HX.out.below b1 HX.out.lt)
             have B1 := Lib.hid b1
             clear b1)
          | (go_at_call 85; refine (rVersion x.value true _).mono ?_; rintro e w2 ⟨he, b2⟩; rw [ansT_form, HVV.out] at he; subst he
             have c2 := bst B1.out b2
             have ky := HY.out.below c2 HY.out.lt
             have y0 := ky.cell 0
             have y1 := ky.cell 1
             have y2 := ky.cell 2
             have f0 := ky.frozen 0
             have f1 := ky.frozen 1
             have f2 := ky.frozen 2
             simp at y0 y1 y2))
        exact ret_op12 rfl rfl ky.all3 rfl (ThP.mk (b := false) HO.out (((bst G1.out c2).setCell (Nat.le_succ _) _).setCell (Nat.le_succ _) _ |>.setCell (Nat.le_succ _) _))
      · obtain ⟨c0, c1, c2, c3, c4, c5, c6, c7, c8, c9, c10, c11, c12, c13, c14⟩ := LX.out _ HX.out
        go_enter Tryz.func35, Tryz.ntmps35
        go_wp2_with (first
          | (go_at_call 84; refine (rVersionKey x.key x.sw x.sl _).mono ?_; rintro e w1 ⟨rfl, b1⟩; rw [HKE.out]
             obtain ⟨e0, e1, e2, e3, e4, e5, e6, e7, e8, e9, e10, e11, e12, e13, e14⟩ := LX.out _ (HX.out.below b1 HX.out.lt)
             have B1 := Lib.hid b1
             clear b1)
          | (go_at_call 85; refine (rVersion ⟨#[]⟩ false _).mono ?_; rintro e w2 ⟨he, b2⟩; rw [ansT_form, HVV.out] at he; subst he
             have c2 := bst B1.out b2
             have ky := HY.out.below c2 HY.out.lt
             have y0 := ky.cell 0
             have y1 := ky.cell 1
             have y2 := ky.cell 2
             have f0 := ky.frozen 0
             have f1 := ky.frozen 1
             have f2 := ky.frozen 2
             simp at y0 y1 y2))
        exact ret_op12 rfl rfl ky.all3 rfl (ThP.mk (b := false) HO.out (((bst G1.out c2).setCell (Nat.le_succ _) _).setCell (Nat.le_succ _) _ |>.setCell (Nat.le_succ _) _))
  · have HO2 := Lib.hid (show opOf x = if okI x then some ⟨bs (ikey (sb x.key)), bs (txI x.it), false⟩ else none by unfold opOf; rw [if_neg (by rw [h0]; decide), if_pos h0])
    by_cases hA : x.key.size ≤ 1000
    all_goals cases hV : mayI x.it
    · have HKE := Lib.hid (show ikE x.key = 0 by unfold ikE; rw [if_pos hA])
      have HVV := Lib.hid hV
      have HO := Lib.hid (show opOf x = if false then some ⟨ikS x.key, (if false then bs (txI x.it) else ⟨#[]⟩), false⟩ else none by
        rw [HO2.out]; unfold okI; rw [hV]
        simp)
      clear hA hV HO2 h0
      obtain ⟨c0, c1, c2, c3, c4, c5, c6, c7, c8, c9, c10, c11, c12, c13, c14⟩ := LX.out _ HX.out
      go_enter Tryz.func35, Tryz.ntmps35
      go_wp2_with (first
        | (go_at_call 54; refine (rIntentKey x.key _).mono ?_; rintro e w1 ⟨rfl, b1⟩; rw [HKE.out]
           obtain ⟨e0, e1, e2, e3, e4, e5, e6, e7, e8, e9, e10, e11, e12, e13, e14⟩ := LX.out _ (HX.out.below b1 HX.out.lt)
           have B1 := Lib.hid b1
           have HL1 := Lib.hid (HL.out.below b1)
           clear b1)
        | (go_at_call 55; refine (rIntent_c x.it A n c _ HL1.out hn).mono ?_; rintro e w2 ⟨he, b2⟩; rw [ansT_form, HVV.out] at he; subst he
           have c2 := bst B1.out b2
           have ky := HY.out.below c2 HY.out.lt
           have y0 := ky.cell 0
           have y1 := ky.cell 1
           have y2 := ky.cell 2
           have f0 := ky.frozen 0
           have f1 := ky.frozen 1
           have f2 := ky.frozen 2
           simp at y0 y1 y2))
      exact ret_op12 rfl rfl ky.all3 rfl (ThP.mk (b := false) HO.out (((bst G1.out c2).setCell (Nat.le_succ _) _).setCell (Nat.le_succ _) _ |>.setCell (Nat.le_succ _) _))
    · have HKE := Lib.hid (show ikE x.key = 0 by unfold ikE; rw [if_pos hA])
      have HVV := Lib.hid hV
      have HO := Lib.hid (show opOf x = if true then some ⟨ikS x.key, (if true then bs (txI x.it) else ⟨#[]⟩), false⟩ else none by
        rw [HO2.out]; unfold okI; rw [hV]
        rw [decide_eq_true hA]; simp [ikS, hA])
      clear hA hV HO2 h0
      obtain ⟨c0, c1, c2, c3, c4, c5, c6, c7, c8, c9, c10, c11, c12, c13, c14⟩ := LX.out _ HX.out
      go_enter Tryz.func35, Tryz.ntmps35
      go_wp2_with (first
        | (go_at_call 54; refine (rIntentKey x.key _).mono ?_; rintro e w1 ⟨rfl, b1⟩; rw [HKE.out]
           obtain ⟨e0, e1, e2, e3, e4, e5, e6, e7, e8, e9, e10, e11, e12, e13, e14⟩ := LX.out _ (HX.out.below b1 HX.out.lt)
           have B1 := Lib.hid b1
           have HL1 := Lib.hid (HL.out.below b1)
           clear b1)
        | (go_at_call 55; refine (rIntent_c x.it A n c _ HL1.out hn).mono ?_; rintro e w2 ⟨he, b2⟩; rw [ansT_form, HVV.out] at he; subst he
           have c2 := bst B1.out b2
           have ky := HY.out.below c2 HY.out.lt
           have y0 := ky.cell 0
           have y1 := ky.cell 1
           have y2 := ky.cell 2
           have f0 := ky.frozen 0
           have f1 := ky.frozen 1
           have f2 := ky.frozen 2
           simp at y0 y1 y2))
      exact ret_op12 rfl rfl ky.all3 rfl (ThP.mk (b := true) HO.out (((bst G1.out c2).setCell (Nat.le_succ _) _).setCell (Nat.le_succ _) _ |>.setCell (Nat.le_succ _) _))
    · have HKE := Lib.hid (show ikE x.key = 2 by unfold ikE; rw [if_neg hA])
      have HVV := Lib.hid hV
      have HO := Lib.hid (show opOf x = if false then some ⟨ikS x.key, (if false then bs (txI x.it) else ⟨#[]⟩), false⟩ else none by
        rw [HO2.out]; unfold okI; rw [hV]
        simp)
      clear hA hV HO2 h0
      obtain ⟨c0, c1, c2, c3, c4, c5, c6, c7, c8, c9, c10, c11, c12, c13, c14⟩ := LX.out _ HX.out
      go_enter Tryz.func35, Tryz.ntmps35
      go_wp2_with (first
        | (go_at_call 54; refine (rIntentKey x.key _).mono ?_; rintro e w1 ⟨rfl, b1⟩; rw [HKE.out]
           obtain ⟨e0, e1, e2, e3, e4, e5, e6, e7, e8, e9, e10, e11, e12, e13, e14⟩ := LX.out _ (HX.out.below b1 HX.out.lt)
           have B1 := Lib.hid b1
           have HL1 := Lib.hid (HL.out.below b1)
           clear b1)
        | (go_at_call 55; refine (rIntent_c x.it A n c _ HL1.out hn).mono ?_; rintro e w2 ⟨he, b2⟩; rw [ansT_form, HVV.out] at he; subst he
           have c2 := bst B1.out b2
           have ky := HY.out.below c2 HY.out.lt
           have y0 := ky.cell 0
           have y1 := ky.cell 1
           have y2 := ky.cell 2
           have f0 := ky.frozen 0
           have f1 := ky.frozen 1
           have f2 := ky.frozen 2
           simp at y0 y1 y2))
      exact ret_op12 rfl rfl ky.all3 rfl (ThP.mk (b := false) HO.out (((bst G1.out c2).setCell (Nat.le_succ _) _).setCell (Nat.le_succ _) _ |>.setCell (Nat.le_succ _) _))
    · have HKE := Lib.hid (show ikE x.key = 2 by unfold ikE; rw [if_neg hA])
      have HVV := Lib.hid hV
      have HO := Lib.hid (show opOf x = if false then some ⟨ikS x.key, (if true then bs (txI x.it) else ⟨#[]⟩), false⟩ else none by
        rw [HO2.out]; unfold okI; rw [hV]
        rw [decide_eq_false hA]; simp)
      clear hA hV HO2 h0
      obtain ⟨c0, c1, c2, c3, c4, c5, c6, c7, c8, c9, c10, c11, c12, c13, c14⟩ := LX.out _ HX.out
      go_enter Tryz.func35, Tryz.ntmps35
      go_wp2_with (first
        | (go_at_call 54; refine (rIntentKey x.key _).mono ?_; rintro e w1 ⟨rfl, b1⟩; rw [HKE.out]
           obtain ⟨e0, e1, e2, e3, e4, e5, e6, e7, e8, e9, e10, e11, e12, e13, e14⟩ := LX.out _ (HX.out.below b1 HX.out.lt)
           have B1 := Lib.hid b1
           have HL1 := Lib.hid (HL.out.below b1)
           clear b1)
        | (go_at_call 55; refine (rIntent_c x.it A n c _ HL1.out hn).mono ?_; rintro e w2 ⟨he, b2⟩; rw [ansT_form, HVV.out] at he; subst he
           have c2 := bst B1.out b2
           have ky := HY.out.below c2 HY.out.lt
           have y0 := ky.cell 0
           have y1 := ky.cell 1
           have y2 := ky.cell 2
           have f0 := ky.frozen 0
           have f1 := ky.frozen 1
           have f2 := ky.frozen 2
           simp at y0 y1 y2))
      exact ret_op12 rfl rfl ky.all3 rfl (ThP.mk (b := false) HO.out (((bst G1.out c2).setCell (Nat.le_succ _) _).setCell (Nat.le_succ _) _ |>.setCell (Nat.le_succ _) _))
  · have HO := Lib.hid (show opOf x = if true then some ⟨x.key, x.value, false⟩ else none by unfold opOf; rw [if_neg (by rw [h0]; decide), if_neg (by rw [h0]; decide)]; rfl)
    clear h0
    obtain ⟨c0, c1, c2, c3, c4, c5, c6, c7, c8, c9, c10, c11, c12, c13, c14⟩ := LX.out _ HX.out
    have ky := HY.out.below (Below.refl _ _) HY.out.lt
    have y0 := ky.cell 0
    have y1 := ky.cell 1
    have y2 := ky.cell 2
    have f0 := ky.frozen 0
    have f1 := ky.frozen 1
    have f2 := ky.frozen 2
    simp at y0 y1 y2
    go_enter Tryz.func35, Tryz.ntmps35
    go_wp2_with fail
    exact ret_op12 rfl rfl (by have k := Blk.new (w.alloc (.cells (thc x (.slice A n c)) 90)) 93 #[.string x.key, .string x.value, .bool false]; rw [World.size_alloc] at k; exact k) rfl (ThP.mk (b := true) HO.out (bsa (nbl w _) _))
end Go.Proofs.YtgccichmdddbpaaGreatDoor
set_option linter.unusedVariables false
set_option linter.unusedSimpArgs false
set_option maxRecDepth 100000
namespace Go.Proofs.YtgccichmdddbpaaGreatDoor
open Go.RowKit

theorem ORow.keep {w w' : World} {B n : Nat} {v : Value} {l : List Op_} (h : ORow w B v n l) (hb : Below w.heap.size w w') : ORow w' B v n l :=
  World.ownsRow.kept h (row := none) ⟨hb.os, hb.tape, hb.output, hb.size, fun k hk _ => hb.block k hk⟩ (by
    cases hv : v.ownBlock with
    | none => exact .inl rfl
    | some q => exact .inr (by simp))
theorem ORow.lt {w : World} {B n : Nat} {v : Value} {l : List Op_} (h : ORow w B v n l) (k : Nat) (e : v.ownBlock = some k) : B ≤ k ∧ k < w.heap.size := World.ownsRow.lt h k e
theorem wpList_appOps {w : World} {ops : Array Oper} {rest : List Oper} {o : Oper} {a : Act} {Q : Exit → Act → World → Prop} (hgd : o.guard = none) (s x : Operand)
    (ho : o.op = .call { callee := .builtin .append, args := #[s, x], argTypes := #[35, 35] })
    (B : Nat) (v : Value) (k : Nat) (xs l : List Op_) (hs : a.eval s = v) (hown : ORow w B v k xs)
    (ad : Addr) (n c : Nat) (hx : a.eval x = .slice (some ad) n c) (hr : OAt w (some ad) n l) (hbytes : (k + n) * 40 ≤ 140737488355328) (hbase : B ≤ w.heap.size)
    (h : ∀ v' w', ORow w' B v' (k + n) (xs ++ l) → w.grownBy w' v.ownBlock → wpList Tryz.prog ops Q rest (a.put o.dst v') w') :
    wpList Tryz.prog ops Q (o :: rest) a w := by
  obtain ⟨i, hi, hz, hsz, hby⟩ := info_parts infoOp
  refine wpList_append_own w hgd s x 35 ho B 93 i _ 3 40 Tryz.underlying35 hi hz hsz hby rfl (by decide) v k (ofl xs) hs hown ad n c (ofl l) hx (by rw [ofl_len, hr.1]) hr.news (ofl_one l) (by unfold maxLen; omega) hbytes hbase ?_
  intro v' w' h1 h2 _
  refine h v' w' ?_ h2
  unfold ORow
  rw [ofl_app]
  exact h1
theorem op_one (w : World) (k v : ByteArray) (d : Bool) : OAt (w.alloc (.cells #[.string k, .string v, .bool d] 93)) (some ⟨w.heap.size, 0, none⟩) 1 [⟨k, v, d⟩] := by
  have h := Blk.new w 93 #[.string k, .string v, .bool d]
  refine ⟨rfl, fun _ => ⟨w.heap.size, 0, rfl, fun i hi => ?_⟩⟩
  have : i = 0 := by simp at hi; omega
  subst this
  exact ⟨h.cell 0, h.cell 1, h.cell 2⟩
theorem slo_size (w : World) : (sizeOf 93).run Tryz.prog w = .ok 3 w := by kernel_rfl
theorem slo_elem : Tryz.prog.elem 35 = 93 := by kernel_rfl
theorem slo_under : Tryz.prog.underlying 35 = some (.slice (Tryz.prog.elem 35)) := by rw [slo_elem]; exact Tryz.underlying35
theorem slo_one (q n c j : Nat) (w : World) (h : j + 1 ≤ c) :
    (Instr.slice 35 (.slice (some ⟨q, 0, none⟩) n c) (some (.int .i64 (j : Int))) (some (.int .i64 ((j : Int) + 1))) none).run Tryz.prog w = .ok (.slice (some ⟨q, j * 3, none⟩) 1 (c - j)) w := by
  rw [run_slice_lh w 35 (some ⟨q, 0, none⟩) n c slo_under .i64 .i64 (j : Int) ((j : Int) + 1) (by omega) (by omega) (by omega), slo_elem, slo_size]
  simp only [Result.andThen, sliced, Int.toNat_natCast]
  have e1 : ((j : Int) + 1).toNat = j + 1 := by omega
  rw [e1, if_neg (by omega)]
  simp [Addr.add]
  omega
theorem OAt.pick {w : World} {q n : Nat} {l : List Op_} (h : OAt w (some ⟨q, 0, none⟩) n l) {j : Nat} (hj : j < l.length) : OAt w (some ⟨q, j * 3, none⟩) 1 [l[j]'hj] := by
  obtain ⟨b, o, e, hc⟩ := h.2 (by have := h.1; omega)
  cases e
  refine ⟨rfl, fun _ => ⟨q, j * 3, rfl, fun i hi => ?_⟩⟩
  have : i = 0 := by simp at hi; omega
  subst this
  have := hc j hj
  simpa using this
set_option maxHeartbeats 4000000 in
theorem laid_c (A : Option Addr) (n c : Nat) (l : List Th) (w : World) (hx : ThAt w A n l) (hn : n ≤ 9223372036854775807) (hz : ∀ x ∈ l, TSz x) :
    Calls Tryz.prog 76 #[.slice A n c] w fun e w' => ∃ v, e = .returned v ∧ ORow w' w.heap.size v (laidP l).length (laidP l) ∧ Below w.heap.size w w' := by
  have HX := Lib.hid hx
  have HZ := Lib.hid hz
  have hlen := hx.1
  have HLN := Lib.hid hlen
  clear hx hz hlen
  go_enter Tryz.func76, Tryz.ntmps76
  go_wp2_with fail
  go_loopw [3, 4] (fun v i wr => ∃ (j : Nat), j ≤ n ∧ j ≤ 60 ∧ i = .int .i64 j ∧ Hid (ORow wr w.heap.size v ((l.take j).filterMap opOf).length ((l.take j).filterMap opOf) ∧ Below w.heap.size w wr)) (fun _ i _ => 60 - (intOf i).toNat)
  case atStart => exact ⟨0, Nat.zero_le _, Nat.zero_le _, rfl, World.ownsRow_nil _ _ _ _, Below.refl _ _⟩
  case round =>
    obtain ⟨j, hj, hj2, rfl, HH⟩ := hrel
    by_cases c1 : j < n
    case neg =>
      have HF := Lib.hid (show laidP l = (l.take j).filterMap opOf by unfold laidP; rw [List.take_of_length_le (by have := HLN.out; omega), List.take_of_length_le (by have := HLN.out; omega)])
      go_wp2_with fail
      go_ret
      rw [HF.out]
      exact ⟨_, rfl, HH.out.1, HH.out.2⟩
    by_cases c2 : j < 60
    case neg =>
      have hj60 : j = 60 := by omega
      have HF := Lib.hid (show laidP l = (l.take j).filterMap opOf by rw [hj60]; rfl)
      clear hj60
      go_wp2_with fail
      go_ret
      rw [HF.out]
      exact ⟨_, rfl, HH.out.1, HH.out.2⟩
    obtain ⟨hrow, hb⟩ := HH.out
    have hjl : j < l.length := by rw [HLN.out]; exact c1
    obtain ⟨B, o, rfl, hc⟩ := (HX.out.below hb).2 (by omega)
    obtain ⟨Ai, ni, ci, p, hch, hni⟩ := hc j hjl
    obtain ⟨x, hxx⟩ : ∃ x, l[j]'hjl = x := ⟨_, rfl⟩
    rw [hxx] at p hch
    have HTS := Lib.hid (show TSz x from hxx ▸ HZ.out _ (List.getElem_mem hjl))
    have HTK := Lib.hid (show (l.take (j + 1)).filterMap opOf = (l.take j).filterMap opOf ++ (match opOf x with | some o => [o] | none => []) by
      rw [List.take_succ_eq_append_getElem hjl, hxx, List.filterMap_append]
      congr 1
      simp only [List.filterMap_cons, List.filterMap_nil]
      cases opOf x <;> rfl)
    have c0 := p 0 _ rfl
    have d1 := p 1 _ rfl
    have d2 := p 2 _ rfl
    have d3 := p 3 _ rfl
    have d4 := p 4 _ rfl
    have d5 := p 5 _ rfl
    have d6 := p 6 _ rfl
    have d7 := p 7 _ rfl
    have d8 := p 8 _ rfl
    have d9 := p 9 _ rfl
    have d10 := p 10 _ rfl
    have d11 := p 11 _ rfl
    have d12 := p 12 _ rfl
    have d13 := p 13 _ rfl
    have d14 := p 14 _ rfl
    simp only [Nat.add_zero] at c0
    have jz : (0 : Int) ≤ (j : Int) := by omega
    have jn : (j : Int) < (n : Int) := by omega
    have HCH := Lib.hid hch
    have hcl : ((l.take j).filterMap opOf).length ≤ 60 := Nat.le_trans (List.length_filterMap_le _ _) (by rw [List.length_take]; omega)
    generalize (l.take j).filterMap opOf = outs at *
    have HROW := Lib.hid hrow
    have HB := Lib.hid hb
    clear p hch hrow hb hc HH hxx
    cases hos : opOf x with
    | none =>
      have HOS := Lib.hid (show (opOf x).isSome = false by rw [hos]; rfl)
      have HTE := Lib.hid (show (l.take (j + 1)).filterMap opOf = outs by rw [HTK.out, hos]; simp)
      clear hos HTK
      go_wp2_with (first
      | (go_at_call 35; refine (thOp x Ai ni ci wr HCH.out hni HTS.out).mono ?_; rintro e w1 ⟨k, vv, rfl, ho, hb1⟩; rw [HOS.out]
         have HO := Lib.hid ho
         have r1 := HROW.out.keep hb1
         have e0 := (Blk.new w1 93 #[.string k, .string vv, .bool false]).cell 0
         have e1 := (Blk.new w1 93 #[.string k, .string vv, .bool false]).cell 1
         have e2 := (Blk.new w1 93 #[.string k, .string vv, .bool false]).cell 2
         simp at e0 e1 e2
         have HR1 := Lib.hid (r1.keep (nbl w1 (.cells #[.string k, .string vv, .bool false] 93)))
         have HB1 := Lib.hid (bsa (bst HB.out hb1) (.cells #[.string k, .string vv, .bool false] 93))
         have HR2 := Lib.hid (HR1.out.keep (nbl _ (.cells #[.string k, .string vv, .bool false] 93)))
         have HB2 := Lib.hid (bsa HB1.out (.cells #[.string k, .string vv, .bool false] 93))
         have HN2 := Lib.hid (op_one (w1.alloc (.cells #[.string k, .string vv, .bool false] 93)) k vv false)
         have hzz : (w1.alloc (.cells #[.string k, .string vv, .bool false] 93)).heap.size = w1.heap.size + 1 := by simp
         rw [hzz] at HN2
         clear ho hb1 r1))
      go_roundw
      case rel => exact ⟨j + 1, by omega, by omega, by go_num, by rw [HTE.out]; exact HR1.out, HB1.out⟩
      case measure => simp [intOf]; omega
    | some oo =>
      have HOS := Lib.hid (show (opOf x).isSome = true by rw [hos]; rfl)
      have HTE := Lib.hid (show (l.take (j + 1)).filterMap opOf = outs ++ [oo] by rw [HTK.out, hos])
      have HOO := Lib.hid hos
      clear hos HTK
      go_wp2_with (first
      | (go_at_call 35; refine (thOp x Ai ni ci wr HCH.out hni HTS.out).mono ?_; rintro e w1 ⟨k, vv, rfl, ho, hb1⟩; rw [HOS.out]
         have HO := Lib.hid ho
         have r1 := HROW.out.keep hb1
         have e0 := (Blk.new w1 93 #[.string k, .string vv, .bool false]).cell 0
         have e1 := (Blk.new w1 93 #[.string k, .string vv, .bool false]).cell 1
         have e2 := (Blk.new w1 93 #[.string k, .string vv, .bool false]).cell 2
         simp at e0 e1 e2
         have HR1 := Lib.hid (r1.keep (nbl w1 (.cells #[.string k, .string vv, .bool false] 93)))
         have HB1 := Lib.hid (bsa (bst HB.out hb1) (.cells #[.string k, .string vv, .bool false] 93))
         have HR2 := Lib.hid (HR1.out.keep (nbl _ (.cells #[.string k, .string vv, .bool false] 93)))
         have HB2 := Lib.hid (bsa HB1.out (.cells #[.string k, .string vv, .bool false] 93))
         have HN2 := Lib.hid (op_one (w1.alloc (.cells #[.string k, .string vv, .bool false] 93)) k vv false)
         have hzz : (w1.alloc (.cells #[.string k, .string vv, .bool false] 93)).heap.size = w1.heap.size + 1 := by simp
         rw [hzz] at HN2
         clear ho hb1 r1)
      | (at_builtin; refine wpList_appOps rfl _ _ rfl w.heap.size _ outs.length outs [⟨k, vv, false⟩] rfl HR2.out ⟨w1.heap.size + 1, 0, none⟩ 1 1 rfl HN2.out (by omega) HB2.out.size ?_; intro v5 w5 hr5 hg5
         have HR5 := Lib.hid hr5
         have HB5 := Lib.hid (HB2.out.grown hg5 HB2.out.size (fun k e => (HR2.out.lt k e).1))
         clear hr5 hg5))
      have hoo := HO.out _ HOO.out
      go_roundw
      case rel => exact ⟨j + 1, by omega, by omega, by go_num, by rw [HTE.out, hoo, List.length_append]; exact HR5.out, HB5.out⟩
      case measure => simp [intOf]; omega
section
variable {w V V' : World} {l T : List As} {A2 : As} {p b : Nat} {r : List Rw}
theorem Has.newRt (h : Has w T V) : Has w (rtA V.heap.size [] :: T) (V.alloc (.cells #[.slice none 0 0] 53)) := by
  refine h.new (F := rtF V.heap.size (.slice none 0 0)) (nbl V _) ⟨_, ⟨Blk.new V 53 #[.slice none 0 0], World.ownsRow_nil _ _ _ _, (fun k e => nomatch e)⟩, fun k => Iff.rfl⟩ (fun k e => ?_)
  rcases e with e | e
  · omega
  · cases e
theorem Has.rtApplyB (h : Has w (rtA b r :: A2 :: T) V) (hr : r.length ≤ 999999000) (A : Option Addr) (n c : Nat) (ops : List Op_) (ho : ∀ W F2, A2.p W F2 → OAt W A n ops) (hn : n ≤ 9223372036854775807) :
    Calls Tryz.prog 20 #[pt b, .slice A n c] V fun e w' => e = .returned (.int .i64 (chk ops)) ∧ Has w (rtA b (rapp r ops) :: A2 :: T) w' := by
  obtain ⟨F, h1, h1b, h2, h3⟩ := h.step2
  refine (rt_apply h1 A n c ops (fun W hg => by obtain ⟨F2, h4⟩ := h2 W hg; exact ho W F2 h4) hn hr).mono ?_
  rintro e w' ⟨hq, F', h4, h5, h6⟩
  exact ⟨hq, h3 w' _ F' h5 h4 h6⟩
end
theorem tab_step (L : List Op_) (j : Nat) (h : j < L.length) : (L.take (j + 1)).foldl (fun r o => rapp r [o]) [] = rapp ((L.take j).foldl (fun r o => rapp r [o]) []) [L[j]'h] := by
  rw [List.take_succ_eq_append_getElem h, List.foldl_append]
  rfl
set_option maxHeartbeats 4000000 in
theorem tables_c (A : Option Addr) (n c : Nat) (l : List Th) (w : World) (hx : ThAt w A n l) (hn : n ≤ 9223372036854775807) (hz : ∀ x ∈ l, TSz x) :
    Calls Tryz.prog 28 #[.slice A n c] w fun e w' => ∃ p b, e = .returned (.tuple #[pt p, pt b]) ∧ Has w (tbA p (tabP l) :: rtA b (tabP l) :: []) w' := by
  have HX := Lib.hid hx
  have HZ := Lib.hid hz
  have HSZ := Lib.hid (laidP_sz hz)
  clear hx hz
  obtain ⟨L, hL⟩ : ∃ L, laidP l = L := ⟨_, rfl⟩
  have hL60 : L.length ≤ 60 := by rw [← hL]; exact laidP_len l
  have HT := Lib.hid (show tabP l = L.foldl (fun r o => rapp r [o]) [] by unfold tabP; rw [hL])
  rw [hL] at HSZ
  have HL := Lib.hid hL
  clear hL
  go_enter Tryz.func28, Tryz.ntmps28
  go_wp2_with (first
    | (go_at_call 41; refine ((Has.nil (Below.refl w.heap.size w)).tbNew 1).mono ?_; rintro e w1 ⟨p, rfl, h1⟩
       have H1 := Lib.hid h1.newRt
       have HX1 := Lib.hid (HX.out.below (bsa h1.bel (.cells #[.slice none 0 0] 53)))
       clear h1)
    | (go_at_call 76; refine (laid_c A n c l _ HX1.out hn HZ.out).mono ?_; rintro e w2 ⟨v, rfl, hrow, hb2⟩
       rw [HL.out] at hrow
       have h3 := H1.out.newOp hrow hb2
       have hform := hrow.form
       have H3 := Lib.hid h3
       clear h3 hrow hb2))
  rcases hform with ⟨hl0, rfl⟩ | ⟨q, cap, rfl, hlc, hcm⟩
  · obtain rfl : L = [] := List.eq_nil_of_length_eq_zero hl0
    have H4 := Lib.hid (show Has w (tbA p [] :: rtA w1.heap.size [] :: []) w2 from H3.out.tail.swap)
    clear H3
    go_wp2_with fail
    go_loopw [7] (fun i wr => i = .int .i64 0 ∧ Hid (Has w (tbA p [] :: rtA w1.heap.size [] :: []) wr)) (fun _ _ => 0)
    case atStart => exact ⟨rfl, H4⟩
    case round =>
      obtain ⟨rfl, HR⟩ := hrel
      go_wp2_with fail
      go_ret2
      rw [HT.out]
      exact ⟨p, w1.heap.size, rfl, HR.out⟩
  · have H4 := Lib.hid (show Has w (tbA p [] :: opA (.slice (some ⟨q, 0, none⟩) L.length cap) L :: rtA w1.heap.size [] :: []) w2 from (H3.out.perm (List.Perm.trans (List.Perm.cons _ (List.Perm.swap _ _ _)) (List.Perm.swap _ _ _))))
    clear H3
    go_wp2_with fail
    go_loopw [7] (fun i wr => ∃ j : Nat, j ≤ L.length ∧ i = .int .i64 j ∧ Hid (Has w (tbA p ((L.take j).foldl (fun r o => rapp r [o]) []) :: opA (.slice (some ⟨q, 0, none⟩) L.length cap) L :: rtA w1.heap.size ((L.take j).foldl (fun r o => rapp r [o]) []) :: []) wr)) (fun i _ => L.length - (intOf i).toNat)
    case atStart => exact ⟨0, Nat.zero_le _, rfl, H4⟩
    case round =>
      obtain ⟨j, hj, rfl, HR⟩ := hrel
      by_cases hlt : j < L.length
      · have hjc : j + 1 ≤ cap := by omega
        have k1 := slo_one q L.length cap j wr hjc
        have hok := tab_fold (l := L.take j) ROk.nil (fun o ho => HSZ.out o (List.mem_of_mem_take ho))
        have HOK := Lib.hid (hok.mono (show 0 + 128 * (L.take j).length ≤ 7680 by rw [List.length_take]; omega))
        have HST := Lib.hid (tab_step L j hlt)
        have HOZ := Lib.hid (show OSz [L[j]'hlt] from fun o ho => by rw [List.mem_singleton.1 ho]; exact HSZ.out _ (List.getElem_mem hlt))
        have HOA := Lib.hid (fun W F2 (h : (opA (.slice (some ⟨q, 0, none⟩) L.length cap) L).p W F2) => (opA_at h rfl).pick hlt)
        generalize (L.take j).foldl (fun r o => rapp r [o]) [] = R at *
        generalize L[j]'hlt = o at *
        have HLEN := Lib.hid (show R.length ≤ 999999000 by have := HOK.out.len; omega)
        clear hok
        go_wp2_with (first
      | (go_at_call 19; refine (HR.out.tbApplyB HOK.out (by omega) (some ⟨q, j * 3, none⟩) 1 (cap - j) [o] HOA.out (by omega) HOZ.out).mono ?_; rintro e w3 ⟨rfl, h3, -⟩
         have h4 := h3.perm (List.Perm.trans (List.Perm.swap _ _ _) ((List.Perm.cons _ (List.Perm.swap _ _ _)).trans (List.Perm.swap _ _ _)))
         have H4 := Lib.hid (show Has w (rtA w1.heap.size R :: opA (.slice (some ⟨q, 0, none⟩) L.length cap) L :: tbA p (rapp R [o]) :: []) w3 from h4)
         have k2 := slo_one q L.length cap j w3 hjc
         clear h3 h4)
      | (go_at_call 20; refine (H4.out.rtApplyB HLEN.out (some ⟨q, j * 3, none⟩) 1 (cap - j) [o] HOA.out (by omega)).mono ?_; rintro e w4 ⟨rfl, h5⟩
         have h6 := h5.perm (List.Perm.trans (List.Perm.swap _ _ _) ((List.Perm.cons _ (List.Perm.swap _ _ _)).trans (List.Perm.swap _ _ _)))
         have H6 := Lib.hid (show Has w (tbA p (rapp R [o]) :: opA (.slice (some ⟨q, 0, none⟩) L.length cap) L :: rtA w1.heap.size (rapp R [o]) :: []) w4 from h6)
         clear h5 h6))
        go_roundw
        case rel => exact ⟨j + 1, by omega, by go_num, by rw [HST.out]; exact H6.out⟩
        case measure => simp [intOf]; omega
      · have hr := HR.out
        rw [List.take_of_length_le (show L.length ≤ j by omega), ← HT.out] at hr
        have HF := Lib.hid (show Has w (tbA p (tabP l) :: rtA w1.heap.size (tabP l) :: []) wr from hr.swap.tail)
        clear HR hr
        go_wp2_with fail
        go_ret2
        exact ⟨p, _, rfl, HF.out⟩
end Go.Proofs.YtgccichmdddbpaaGreatDoor
set_option linter.unusedVariables false
set_option linter.unusedSimpArgs false
set_option maxRecDepth 100000
namespace Go.Proofs.YtgccichmdddbpaaGreatDoor
open Go.RowKit

structure Tx where
  id : Int
  ep : Int
  pr : Int
  an : ByteArray
  rw : Int
  rl : Int
  ww : Int
  wl : Int
  lw : Int
  ll : Int
  bw : Int
  bl : Int
abbrev txc (x : Tx) : Array Value := #[.int .i64 x.id, .int .i64 x.ep, .int .i64 x.pr, .string x.an, .int .i64 x.rw, .int .i64 x.rl, .int .i64 x.ww, .int .i64 x.wl, .int .i64 x.lw, .int .i64 x.ll, .int .i64 x.bw, .int .i64 x.bl]
abbrev txv (x : Tx) : Value := .agg (txc x)
def idOk (x : Tx) : Bool := decide (1 ≤ x.id ∧ x.id ≤ 9007199254740991 ∧ 0 ≤ x.ep ∧ x.ep ≤ 9007199254740991)
def mayX (x : Tx) : Bool := idOk x && (may x.rw x.rl && may x.lw x.ll)
def topX (x : Tx) : Int × Int := two (x.rw, x.rl) (x.lw, x.ll)
/-- What is found: 'it' is what is in the way. -/
structure Fd where
  key : ByteArray
  value : ByteArray
  is_ : Bool
  own : Bool
  sw : Int
  sl : Int
  it : It
def zF : Fd := ⟨⟨#[]⟩, ⟨#[]⟩, false, false, 0, 0, zI⟩
abbrev fdc (f : Fd) (v : Value) : Array Value := #[.string f.key, .string f.value, .bool f.is_, .bool f.own, .int .i64 f.sw, .int .i64 f.sl, .int .i64 f.it.id, .int .i64 f.it.ep, .int .i64 f.it.pr, .string f.it.an, .int .i64 f.it.sw, .int .i64 f.it.sl, .int .i64 f.it.bw, .int .i64 f.it.bl, v]
abbrev fdv (f : Fd) (v : Value) : Value := .agg (fdc f v)
/-- What a table's key says, if it is a version's. -/
def rdVK (k : List UInt8) : Option (List UInt8 × Int × Int) :=
  match rk 118 k with
  | none => none
  | some (s, r) => match tdown r with
    | .ok (a, b, []) => some (s, a, b)
    | _ => none
/-- A version: its stamp, value, and whether there is something. -/
abbrev Ver := Int × Int × ByteArray × Bool
def vrow (x : Rw) : Option Ver :=
  match rdVK (sb x.key), tkV (sb x.value) with
  | some (_, a, b), some (v, i) => some (a, b, v, i)
  | _, _ => none
def behK (s : ByteArray) : ByteArray := bs (vkey (sb s) 0 0) ++ zr
/-- The code's: the first row of those between that can be read. -/
def pverC (r : List Rw) (key : ByteArray) (t : Int × Int) : Option Ver := (btw r (bs (vkey (sb key) t.1 t.2)) (behK key)).findSome? vrow
def verF (key : ByteArray) : Option Ver → Fd
  | none => ⟨key, ⟨#[]⟩, false, false, 0, 0, zI⟩
  | some (a, b, v, i) => ⟨key, v, i, false, a, b, zI⟩
/-- A key's intent. -/
def pint (r : List Rw) (key : ByteArray) : Option It := tkI (sb (rval r (bs (ikey (sb key)))))
def ownF (key : ByteArray) (y : It) : Fd := ⟨key, (y.l.getLast?.map Ch.s).getD ⟨#[]⟩, !((y.l.getLast?.map Ch.d).getD false), true, y.sw, y.sl, zI⟩
def newF (v : Option Ver) (key : ByteArray) (x : Tx) : Fd × Int :=
  if lt ((verF key v).sw, (verF key v).sl) (x.rw, x.rl) = false then (⟨key, ⟨#[]⟩, false, false, (verF key v).sw, (verF key v).sl, zI⟩, 121) else (verF key v, 0)
/-- What is read, of an intent and a version. -/
def preadW (y : Option It) (v : Option Ver) (key : ByteArray) (x : Tx) : Fd × Int :=
  match y with
  | none => newF v key x
  | some y =>
    if y.id = x.id ∧ x.ep < y.ep then (zF, 201)
    else if y.id = x.id ∧ y.ep = x.ep then (ownF key y, 0)
    else if ¬ y.id = x.id ∧ lt (topX x) (y.sw, y.sl) = false then (⟨key, ⟨#[]⟩, false, false, 0, 0, y⟩, 120)
    else newF v key x
def preadC (r : List Rw) (key : ByteArray) (x : Tx) : Fd × Int := preadW (pint r key) (pverC r key (topX x)) key x
/-- Get's. -/
def pgetW (ok : Bool) (low : Int × Int) (x : Tx) (o : Fd × Int) : Fd × Int :=
  if (ok && mayX x && may low.1 low.2) = false then (zF, 2)
  else if lt low (x.rw, x.rl) = false then (zF, 122)
  else o
def pgetC (r : List Rw) (key : ByteArray) (x : Tx) (low : Int × Int) : Fd × Int := pgetW (isK key) low x (preadC r key x)
def chkP (ok : Bool) (x : Tx) (low : Int × Int) : Int :=
  if (ok && mayX x && may low.1 low.2) = false then 2 else if lt low (x.rw, x.rl) = false then 122 else 0
theorem pget_chk (ok : Bool) (low : Int × Int) (x : Tx) (o : Fd × Int) : pgetW ok low x o = if chkP ok x low = 0 then o else (zF, chkP ok x low) := by
  unfold pgetW chkP
  split
  · rfl
  · split <;> rfl

/-! ### forms -/
theorem ret_fd {fn : Func} {Q : Ending → World → Prop} {a : Act} {w : World} {p : Tmp} {g : Nat} {cs : Array Value} (hr : fn.results = #[.cell p 73]) (hp : a.tmps.getD p undef = .pointer (some ⟨g, 0, none⟩))
    (hB : Blk w g 73 cs) (hs : cs.size = 15) (hd : a.defers = []) (hR : Q (.returned (.agg cs)) w) : bodyPost Tryz.prog fn Q .ret a w := by
  refine bodyPost_ret ?_ hd hR
  have hp' : a.tmps[p]?.getD undef = .pointer (some ⟨g, 0, none⟩) := by simpa using hp
  simp [results, hr, hp', asAddr, run_loadVar_row w g 73 73 _ (0, 0) _ hB Tryz.underlying73 rfl (by rw [hs]; kernel_rfl)]
theorem ret_fd2 {fn : Func} {Q : Ending → World → Prop} {a : Act} {w : World} {p u : Tmp} {g : Nat} {cs : Array Value} (hr : fn.results = #[.cell p 73, .tmp u]) (hp : a.tmps.getD p undef = .pointer (some ⟨g, 0, none⟩))
    (hB : Blk w g 73 cs) (hs : cs.size = 15) (hd : a.defers = []) (hR : Q (.returned (.tuple #[.agg cs, a.tmps.getD u undef])) w) : bodyPost Tryz.prog fn Q .ret a w := by
  refine bodyPost_ret ?_ hd hR
  have hp' : a.tmps[p]?.getD undef = .pointer (some ⟨g, 0, none⟩) := by simpa using hp
  simp [results, hr, hp', asAddr, run_loadVar_row w g 73 73 _ (0, 0) _ hB Tryz.underlying73 rfl (by rw [hs]; kernel_rfl)]
theorem results_fd {fn : Func} {tmps : Array Value} {w : World} {p : Tmp} {g : Nat} {cs : Array Value} (hr : fn.results = #[.cell p 73]) (hp : tmps.getD p undef = .pointer (some ⟨g, 0, none⟩))
    (hB : Blk w g 73 cs) (hs : cs.size = 15) : (results fn tmps).run Tryz.prog w = .ok (.agg cs) w := by
  have hp' : tmps[p]?.getD undef = .pointer (some ⟨g, 0, none⟩) := by simpa using hp
  simp [results, hr, hp', asAddr, run_loadVar_row w g 73 73 _ (0, 0) _ hB Tryz.underlying73 rfl (by rw [hs]; kernel_rfl)]
theorem Blk.all15 {w : World} {g : Nat} {t : TypeId} {c0 c1 c2 c3 c4 c5 c6 c7 c8 c9 c10 c11 c12 c13 c14 v0 v1 v2 v3 v4 v5 v6 v7 v8 v9 v10 v11 v12 v13 v14 : Value} (h : Blk w g t #[c0, c1, c2, c3, c4, c5, c6, c7, c8, c9, c10, c11, c12, c13, c14]) : Blk (((((((((((((((w.setCell ⟨g, 0, none⟩ v0).setCell ⟨g, 1, none⟩ v1).setCell ⟨g, 2, none⟩ v2).setCell ⟨g, 3, none⟩ v3).setCell ⟨g, 4, none⟩ v4).setCell ⟨g, 5, none⟩ v5).setCell ⟨g, 6, none⟩ v6).setCell ⟨g, 7, none⟩ v7).setCell ⟨g, 8, none⟩ v8).setCell ⟨g, 9, none⟩ v9).setCell ⟨g, 10, none⟩ v10).setCell ⟨g, 11, none⟩ v11).setCell ⟨g, 12, none⟩ v12).setCell ⟨g, 13, none⟩ v13).setCell ⟨g, 14, none⟩ v14) g t #[v0, v1, v2, v3, v4, v5, v6, v7, v8, v9, v10, v11, v12, v13, v14] := by
  have := (((((((((((((((h.set_ 0 v0).set_ 1 v1).set_ 2 v2).set_ 3 v3).set_ 4 v4).set_ 5 v5).set_ 6 v6).set_ 7 v7).set_ 8 v8).set_ 9 v9).set_ 10 v10).set_ 11 v11).set_ 12 v12).set_ 13 v13).set_ 14 v14)
  simpa using this
end Go.Proofs.YtgccichmdddbpaaGreatDoor
set_option linter.unusedVariables false
set_option linter.unusedSimpArgs false
set_option maxRecDepth 100000
namespace Go.Proofs.YtgccichmdddbpaaGreatDoor
open Go.RowKit

/-- What ReadVersion answers. -/
def AnsK (o : Option (List UInt8 × Int × Int)) : Ending :=
  match o with
  | none => .returned (.tuple #[.string ⟨#[]⟩, sv 0 0, .int .i64 4])
  | some (s, a, b) => .returned (.tuple #[.string ⟨s.toArray⟩, sv a b, .int .i64 0])
set_option maxHeartbeats 1000000 in
theorem readVersion_bad (k : ByteArray) (w : World) (hk : k.size ≤ 150000000000000) (s d : ByteArray) (hr : rkA (rk 118 (sb k)) = .returned (.tuple #[.string s, .string d, .bool true]))
    (a b n : Int) (t : ByteArray) (hT : ∀ V, Calls Tryz.prog 193 #[.string d] V fun e w' => e = .returned (.tuple #[sv a b, .string t, .int .i64 n]) ∧ Below V.heap.size V w') (hn : (n != 0) = true ∨ ((n != 0) = false ∧ t.toList ≠ [])) :
    Calls Tryz.prog 150 #[.string k] w fun e w' => e = .returned (.tuple #[.string ⟨#[]⟩, sv 0 0, .int .i64 4]) ∧ Below w.heap.size w w' := by
  have HC := Lib.hid (readKey_c 118 k (w.alloc (.cells #[.int .i64 0, .int .i64 0] 26)) hk)
  rw [hr] at HC
  have HX := Lib.hid (Blk.new w 26 #[.int .i64 0, .int .i64 0])
  have HT := Lib.hid hT
  clear hr hT
  rcases hn with hn | ⟨hn, ht⟩
  · go_enter Tryz.func150, Tryz.ntmps150
    go_wp2_with (first
    | (go_at_call 192; refine HC.out.mono ?_; rintro e w1 ⟨rfl, hb1⟩
       have g1 := (nbl w (.cells #[.int .i64 0, .int .i64 0] 26)).trans (hb1.mono (by simp))
       have k1 : Blk w1 w.heap.size 26 #[.int .i64 0, .int .i64 0] := HX.out.below hb1 (by simp))
    | (go_at_call 193; refine (HT.out _).mono ?_; rintro e w2 ⟨rfl, hb2⟩
       have k2 := k1.below hb2 k1.lt
       have c0 := k2.cell 0
       have c1 := k2.cell 1
       have f0 := k2.frozen 0
       have f1 := k2.frozen 1
       simp at c0 c1
       have g2 := g1.trans (hb2.mono g1.size)))
    refine ret_tct rfl rfl ((k2.all2 (v0 := .int .i64 a) (v1 := .int .i64 b)).all2 (v0 := .int .i64 0) (v1 := .int .i64 0)) rfl ⟨rfl, (((g2.setCell (by exact Nat.le_refl _) _).setCell (by exact Nat.le_refl _) _).setCell (by exact Nat.le_refl _) _).setCell (by exact Nat.le_refl _) _⟩
  · have hte : (t.toList == []) = false := by simpa using ht
    go_enter Tryz.func150, Tryz.ntmps150
    go_wp2_with (first
    | (go_at_call 192; refine HC.out.mono ?_; rintro e w1 ⟨rfl, hb1⟩
       have g1 := (nbl w (.cells #[.int .i64 0, .int .i64 0] 26)).trans (hb1.mono (by simp))
       have k1 : Blk w1 w.heap.size 26 #[.int .i64 0, .int .i64 0] := HX.out.below hb1 (by simp))
    | (go_at_call 193; refine (HT.out _).mono ?_; rintro e w2 ⟨rfl, hb2⟩
       have k2 := k1.below hb2 k1.lt
       have c0 := k2.cell 0
       have c1 := k2.cell 1
       have f0 := k2.frozen 0
       have f1 := k2.frozen 1
       simp at c0 c1
       have g2 := g1.trans (hb2.mono g1.size)))
    refine ret_tct rfl rfl ((k2.all2 (v0 := .int .i64 a) (v1 := .int .i64 b)).all2 (v0 := .int .i64 0) (v1 := .int .i64 0)) rfl ⟨rfl, (((g2.setCell (by exact Nat.le_refl _) _).setCell (by exact Nat.le_refl _) _).setCell (by exact Nat.le_refl _) _).setCell (by exact Nat.le_refl _) _⟩
theorem rk_size {m : UInt8} {k s r : List UInt8} (h : rk m k = some (s, r)) : r.length ≤ k.length ∧ 1 ≤ s.length ∧ s.length ≤ 32 ∧ k = m :: (okey s ++ r) := by
  unfold rk at h
  split at h
  · rename_i hh
    cases ht : tkey 1000 (k.drop 1) with
    | error x => rw [ht] at h; cases h
    | ok p =>
      rw [ht] at h
      simp only at h
      split at h
      · rename_i hl
        cases h
        have hb := (tkey_back _ _ _ _ _ (Nat.le_refl _) ht).1
        have hk : k = m :: (okey s ++ r) := by
          cases k with
          | nil => cases hh
          | cons c k =>
            simp only [List.head?_cons, Option.some.injEq] at hh
            subst hh
            simp only [List.drop_succ_cons, List.drop_zero] at hb
            rw [← hb]
            unfold okey
            simp
        exact ⟨by rw [hk]; simp; omega, hl.1, hl.2, hk⟩
      · cases h
  · cases h
theorem readV_c (k : ByteArray) (w : World) (hk : k.size ≤ 150000000000000) :
    Calls Tryz.prog 150 #[.string k] w fun e w' => e = AnsK (rdVK (sb k)) ∧ Below w.heap.size w w' := by
  unfold rdVK
  cases hr : rk 118 (sb k) with
  | none => exact readVersion_no k w hk hr
  | some p =>
    obtain ⟨s, r⟩ := p
    have hrs := (rk_size hr).1
    rw [sb_len] at hrs
    have hTD := fun V => takeDownAny (bs r) V (by show r.length ≤ _; omega)
    have hob : ob (bs r) = r := rfl
    rw [hob] at hTD
    have hrk : rkA (rk 118 (sb k)) = .returned (.tuple #[.string (bs s), .string (bs r), .bool true]) := by rw [hr]; rfl
    cases ht : tdown r with
    | error x =>
      rw [ht] at hTD
      have hx : x ≠ 0 := by
        unfold tdown at ht
        split at ht
        · cases ht; decide
        · split at ht
          · cases ht
          · cases ht; decide
      simp only [ht]
      exact readVersion_bad k w hk _ _ hrk _ _ _ _ hTD (.inl (by show ((x : Int) != 0) = true; simpa using hx))
    | ok q =>
      obtain ⟨a, b, l⟩ := q
      rw [ht] at hTD
      cases l with
      | nil =>
        obtain ⟨hm, ho⟩ := odown_tdown _ _ _ _ ht
        rw [List.append_nil] at ho
        simp only [ht]
        exact readVersion_c k w hk s a b hm (by rw [hr, ho])
      | cons c l =>
        simp only [ht]
        exact readVersion_bad k w hk _ _ hrk _ _ _ _ hTD (.inr ⟨rfl, by rw [Lib.toList_data]; simp [tdR]⟩)
end Go.Proofs.YtgccichmdddbpaaGreatDoor
