/-
  Layer 11, the document's answers: CopyIntent, CopyRecord.
-/
import Derived.Test.YtiafmbfeigcinaaDoorZ15
import Derived.Maps.AppendAt
import Derived.Laws.OwnMore
set_option linter.unusedVariables false
set_option linter.unusedSimpArgs false
set_option maxRecDepth 100000
namespace Go.Proofs.YtiafmbfeigcinaaDoor
open Go.RowKit

theorem ChAt.news {w : World} {ad : Addr} {n : Nat} {l : List Ch} (hr : ChAt w (some ad) n l) : ∀ j u, (l.flatMap chc)[j]? = some u → w.cell? (ad.add j) = some u := by
  intro j u hj
  have hjl : j < (l.flatMap chc).length := by
    rcases Nat.lt_or_ge j (l.flatMap chc).length with h0 | h0
    · exact h0
    · rw [List.getElem?_eq_none h0] at hj
      cases hj
  rw [chc_len] at hjl
  have hi2 : j / 3 < l.length := by omega
  obtain ⟨b, o2, hh, hc⟩ := hr.2 (by have := hr.1; omega)
  injection hh with hh
  subst hh
  rw [Go.WideShapes.add_plain]
  have hj3 : j / 3 < l.length := by omega
  obtain ⟨c1, c2, c3⟩ := hc (j / 3) hj3
  obtain ⟨g1, g2, g3⟩ := chc_get l (j / 3) hj3
  rcases (show j % 3 = 0 ∨ j % 3 = 1 ∨ j % 3 = 2 from by omega) with h0 | h0 | h0
  · rw [show j / 3 * 3 = j by omega] at c1 g1
    rw [hj] at g1; injection g1 with g1; rw [c1, g1]
  · rw [show o2 + j / 3 * 3 + 1 = o2 + j by omega] at c2
    rw [show j / 3 * 3 + 1 = j by omega] at g2
    rw [hj] at g2; injection g2 with g2; rw [c2, g2]
  · rw [show o2 + j / 3 * 3 + 2 = o2 + j by omega] at c3
    rw [show j / 3 * 3 + 2 = j by omega] at g3
    rw [hj] at g3; injection g3 with g3; rw [c3, g3]
theorem chc_one (l : List Ch) : ∀ u ∈ l.flatMap chc, u.oneCell' = true := by
  intro u hu
  obtain ⟨x, hx, h2⟩ := List.mem_flatMap.1 hu
  simp only [chc, List.mem_cons, List.not_mem_nil, or_false] at h2
  rcases h2 with rfl | rfl | rfl <;> rfl
set_option maxRecDepth 100000 in
theorem wpList_appCh {w : World} {ops : Array Oper} {rest : List Oper} {o : Oper} {a : Act} {Q : Exit → Act → World → Prop} (hgd : o.guard = none) (s x : Operand)
    (ho : o.op = .call { callee := .builtin .append, args := #[s, x], argTypes := #[24, 24] })
    (B : Nat) (v : Value) (k : Nat) (xs l : List Ch) (hs : a.eval s = v) (hown : w.ownsRow B 50 3 v k (xs.flatMap chc))
    (A : Option Addr) (n c : Nat) (hx : a.eval x = .slice A n c) (hr : ChAt w A n l) (hbytes : (k + n) * 32 ≤ 140737488355328) (hbase : B ≤ w.heap.size)
    (h : ∀ v' w', w'.ownsRow B 50 3 v' (k + n) ((xs ++ l).flatMap chc) → w.grownBy w' v.ownBlock → wpList Tryd.prog ops Q rest (a.put o.dst v') w') :
    wpList Tryd.prog ops Q (o :: rest) a w := by
  obtain ⟨i, hi, hz, hsz, hby⟩ := info_parts infoCh
  cases A with
  | none =>
    have hm : n = 0 := by
      rcases Nat.eq_zero_or_pos n with h0 | h0
      · exact h0
      · obtain ⟨b, o, hh, _⟩ := hr.2 h0
        cases hh
    subst hm
    obtain rfl : l = [] := List.eq_nil_of_length_eq_zero hr.1
    have hrun := run_append_none (P := Tryd.prog) w B 24 o.type 50 i 3 Tryd.underlying24 hi v k _ hown c
    refine wpList_plain hgd fun K hK => ?_
    unfold Oper.wp execOp
    simp only [ho, resolve, invoke, builtin, Sem.run_bind, Sem.run_pure, Result.andThen_ok, List.map_toArray, List.map_cons, List.map_nil, hs, hx, hrun]
    exact hK _ _ (h v w (by simpa using hown) (World.grownBy.refl w _))
  | some ad =>
    refine wpList_append_own w hgd s x 24 ho B 50 i _ 3 32 Tryd.underlying24 hi hz hsz hby rfl (by decide) v k (xs.flatMap chc) hs hown ad n c (l.flatMap chc) hx (by rw [chc_len, hr.1]) hr.news (chc_one l) (by unfold maxLen; omega) hbytes hbase ?_
    intro v' w' h1 h2 _
    refine h v' w' ?_ h2
    rw [List.flatMap_append]
    exact h1
theorem Ch_own {w : World} {B n : Nat} {v : Value} {l : List Ch} (h : w.ownsRow B 50 3 v n (l.flatMap chc)) : ∃ A c, v = .slice A n c ∧ ChAt w A n l ∧ ∀ p, A = some p → B ≤ p.block := by
  have hl : l.length = n := by have := h.1; rw [chc_len] at this; omega
  rcases h.2 with ⟨rfl, h0⟩ | ⟨g, cap, cur, rfl, hb, hg, hnc, hcm, _⟩
  · exact ⟨none, 0, by rw [h0], ⟨hl, fun hm => by omega⟩, fun p hp => nomatch hp⟩
  · refine ⟨_, cap, rfl, ⟨hl, fun hm => ⟨g, 0, rfl, fun i hi => ?_⟩⟩, fun p hp => by cases hp; exact hb⟩
    obtain ⟨h1, h2, h3⟩ := chc_get l i hi
    have c1 := World.ownsRow.cells h (g := g) rfl _ _ h1
    have c2 := World.ownsRow.cells h (g := g) rfl _ _ h2
    have c3 := World.ownsRow.cells h (g := g) rfl _ _ h3
    rw [Go.WideShapes.add_plain] at c1 c2 c3
    exact ⟨c1, by rw [Nat.add_assoc]; exact c2, by rw [Nat.add_assoc]; exact c3⟩
theorem ret_cpI {fn : Func} {R : Ending → World → Prop} {a : Act} {w : World} {p : Tmp} {g : Nat} {cs : Array Value} (hr : fn.results = #[.cell p 26]) (hp : a.tmps.getD p undef = .pointer (some ⟨g, 0, none⟩))
    (hB : Blk w g 26 cs) (hs : cs.size = 9) (hd : a.defers = []) (hR : R (.returned (.agg cs)) w) : bodyPost Tryd.prog fn R .ret a w := by
  refine bodyPost_ret ?_ hd hR
  have hp' : a.tmps[p]?.getD undef = .pointer (some ⟨g, 0, none⟩) := by simpa using hp
  simp [results, hr, hp', asAddr, run_loadVar_row w g 26 26 _ (0, 0) _ hB Tryd.underlying26 rfl (by rw [hs]; kernel_rfl)]
set_option maxHeartbeats 4000000 in
theorem rCopyI_c (x : It) (A : Option Addr) (n c : Nat) (w : World) (hx : ChAt w A n x.l) (hn : n * 32 ≤ 140737488351232) :
    Calls Tryd.prog 5 #[itv x (.slice A n c)] w fun e w' => ∃ A' c', e = .returned (itv x (.slice A' n c')) ∧ ChAt w' A' n x.l ∧ Below w.heap.size w w' := by
  obtain ⟨id, ep, pr, an, sw, sl, bw, bl, l⟩ := x
  have g0 := nbl w (.cells (itc ⟨id, ep, pr, an, sw, sl, bw, bl, l⟩ (.slice A n c)) 26)
  have g1 := bsa g0 (.cells #[.int .i64 0, .int .i64 0, .int .i64 0, .string ⟨#[]⟩, .int .i64 0, .int .i64 0, .int .i64 0, .int .i64 0, .slice none 0 0] 26)
  have hX := (Blk.new w 26 (itc ⟨id, ep, pr, an, sw, sl, bw, bl, l⟩ (.slice A n c))).below (nbl _ (.cells #[.int .i64 0, .int .i64 0, .int .i64 0, .string ⟨#[]⟩, .int .i64 0, .int .i64 0, .int .i64 0, .int .i64 0, .slice none 0 0] 26)) (by simp)
  have hY := Blk.new (w.alloc (.cells (itc ⟨id, ep, pr, an, sw, sl, bw, bl, l⟩ (.slice A n c)) 26)) 26 #[.int .i64 0, .int .i64 0, .int .i64 0, .string ⟨#[]⟩, .int .i64 0, .int .i64 0, .int .i64 0, .int .i64 0, .slice none 0 0]
  have hz : (w.alloc (.cells (itc ⟨id, ep, pr, an, sw, sl, bw, bl, l⟩ (.slice A n c)) 26)).heap.size = w.heap.size + 1 := by simp
  rw [hz] at hY
  have HL := Lib.hid (hx.below g1)
  have hx8 := hX.cell 8
  simp at hx8
  have HX := Lib.hid hX
  have HY := Lib.hid hY
  have G1 := Lib.hid g1
  clear hX hY g0 g1 hx hz
  go_enter Tryd.func5, Tryd.ntmps5
  go_wp2_with (first
    | (at_builtin; refine wpList_appCh rfl _ _ rfl (w.heap.size + 2) (.slice none 0 0) 0 [] l rfl (World.ownsRow_nil _ _ _ _) A n c rfl HL.out (by omega) (by simp) ?_; intro v' w2 hown hg
       have bel : Below _ _ w2 := (Below.refl _ _).grown hg (Nat.le_refl _) (fun k e => nomatch e)
       rw [List.nil_append, Nat.zero_add] at hown
       obtain ⟨A', c', rfl, hat, hge⟩ := Ch_own hown
       have kx := HX.out.below bel HX.out.lt
       have ky := HY.out.below bel HY.out.lt
       have bel2 := bst G1.out bel
       have c0 := kx.cell 0
       have f0 := ky.frozen 0
       have y0 := ky.cell 0
       have c1 := kx.cell 1
       have f1 := ky.frozen 1
       have y1 := ky.cell 1
       have c2 := kx.cell 2
       have f2 := ky.frozen 2
       have y2 := ky.cell 2
       have c3 := kx.cell 3
       have f3 := ky.frozen 3
       have y3 := ky.cell 3
       have c4 := kx.cell 4
       have f4 := ky.frozen 4
       have y4 := ky.cell 4
       have c5 := kx.cell 5
       have f5 := ky.frozen 5
       have y5 := ky.cell 5
       have c6 := kx.cell 6
       have f6 := ky.frozen 6
       have y6 := ky.cell 6
       have c7 := kx.cell 7
       have f7 := ky.frozen 7
       have y7 := ky.cell 7
       have c8 := kx.cell 8
       have f8 := ky.frozen 8
       have y8 := ky.cell 8
       have fx := kx.frozen 8
       simp at c0 y0 c1 y1 c2 y2 c3 y3 c4 y4 c5 y5 c6 y6 c7 y7 c8 y8
       have KY := Lib.hid ky
       have HAT := Lib.hid hat
       have HGE := Lib.hid hge
       clear hown hg kx ky hat hge))
  have hY3 : Blk (w2.setCell ⟨w.heap.size, 8, none⟩ (.slice A' n c')) (w.heap.size + 1) 26 #[.int .i64 0, .int .i64 0, .int .i64 0, .string ⟨#[]⟩, .int .i64 0, .int .i64 0, .int .i64 0, .int .i64 0, .slice none 0 0] := by
    have := KY.out
    unfold Blk at this ⊢
    rw [World.setCell, Array.getElem?_modify, if_neg (by simp)]
    exact this
  have bel3 := bel2.setCell (p := ⟨w.heap.size, 8, none⟩) (by simp) (.slice A' n c')
  refine ret_cpI rfl rfl hY3.all9 rfl rfl ⟨A', ⟨c', rfl⟩, ?_, ((((((((((bel3)).setCell (Nat.le_succ _) _).setCell (Nat.le_succ _) _).setCell (Nat.le_succ _) _).setCell (Nat.le_succ _) _).setCell (Nat.le_succ _) _).setCell (Nat.le_succ _) _).setCell (Nat.le_succ _) _).setCell (Nat.le_succ _) _).setCell (Nat.le_succ _) _⟩
  refine HAT.out.keep fun a ha j z hz => ?_
  have h1 := HGE.out a ha
  simp only [World.cell?, World.setCell, Array.getElem?_modify] at hz ⊢
  have h2 : ¬ w.heap.size = a.block := by omega
  have h3 : ¬ w.heap.size + 1 = a.block := by omega
  simpa [h2, h3] using hz
theorem WtAt.news {w : World} {ad : Addr} {n : Nat} {l : List Wt} (hr : WtAt w (some ad) n l) : ∀ j u, (l.flatMap wtc)[j]? = some u → w.cell? (ad.add j) = some u := by
  intro j u hj
  have hjl : j < (l.flatMap wtc).length := by
    rcases Nat.lt_or_ge j (l.flatMap wtc).length with h0 | h0
    · exact h0
    · rw [List.getElem?_eq_none h0] at hj
      cases hj
  rw [wtc_len] at hjl
  have hi2 : j / 2 < l.length := by omega
  obtain ⟨b, o2, hh, hc⟩ := hr.2 (by have := hr.1; omega)
  injection hh with hh
  subst hh
  rw [Go.WideShapes.add_plain]
  have hj3 : j / 2 < l.length := by omega
  obtain ⟨c1, c2⟩ := hc (j / 2) hj3
  obtain ⟨g1, g2⟩ := wtc_get l (j / 2) hj3
  rcases (show j % 2 = 0 ∨ j % 2 = 1 from by omega) with h0 | h0
  · rw [show j / 2 * 2 = j by omega] at c1 g1
    rw [hj] at g1; injection g1 with g1; rw [c1, g1]
  · rw [show o2 + j / 2 * 2 + 1 = o2 + j by omega] at c2
    rw [show j / 2 * 2 + 1 = j by omega] at g2
    rw [hj] at g2; injection g2 with g2; rw [c2, g2]
theorem wtc_one (l : List Wt) : ∀ u ∈ l.flatMap wtc, u.oneCell' = true := by
  intro u hu
  obtain ⟨x, hx, h2⟩ := List.mem_flatMap.1 hu
  simp only [wtc, List.mem_cons, List.not_mem_nil, or_false] at h2
  rcases h2 with rfl | rfl <;> rfl
set_option maxRecDepth 100000 in
theorem wpList_appWt {w : World} {ops : Array Oper} {rest : List Oper} {o : Oper} {a : Act} {Q : Exit → Act → World → Prop} (hgd : o.guard = none) (s x : Operand)
    (ho : o.op = .call { callee := .builtin .append, args := #[s, x], argTypes := #[35, 35] })
    (B : Nat) (v : Value) (k : Nat) (xs l : List Wt) (hs : a.eval s = v) (hown : w.ownsRow B 68 2 v k (xs.flatMap wtc))
    (A : Option Addr) (n c : Nat) (hx : a.eval x = .slice A n c) (hr : WtAt w A n l) (hbytes : (k + n) * 24 ≤ 140737488355328) (hbase : B ≤ w.heap.size)
    (h : ∀ v' w', w'.ownsRow B 68 2 v' (k + n) ((xs ++ l).flatMap wtc) → w.grownBy w' v.ownBlock → wpList Tryd.prog ops Q rest (a.put o.dst v') w') :
    wpList Tryd.prog ops Q (o :: rest) a w := by
  obtain ⟨i, hi, hz, hsz, hby⟩ := info_parts infoWt
  cases A with
  | none =>
    have hm : n = 0 := by
      rcases Nat.eq_zero_or_pos n with h0 | h0
      · exact h0
      · obtain ⟨b, o, hh, _⟩ := hr.2 h0
        cases hh
    subst hm
    obtain rfl : l = [] := List.eq_nil_of_length_eq_zero hr.1
    have hrun := run_append_none (P := Tryd.prog) w B 35 o.type 68 i 2 Tryd.underlying35 hi v k _ hown c
    refine wpList_plain hgd fun K hK => ?_
    unfold Oper.wp execOp
    simp only [ho, resolve, invoke, builtin, Sem.run_bind, Sem.run_pure, Result.andThen_ok, List.map_toArray, List.map_cons, List.map_nil, hs, hx, hrun]
    exact hK _ _ (h v w (by simpa using hown) (World.grownBy.refl w _))
  | some ad =>
    refine wpList_append_own w hgd s x 35 ho B 68 i _ 2 24 Tryd.underlying35 hi hz hsz hby rfl (by decide) v k (xs.flatMap wtc) hs hown ad n c (l.flatMap wtc) hx (by rw [wtc_len, hr.1]) hr.news (wtc_one l) (by unfold maxLen; omega) hbytes hbase ?_
    intro v' w' h1 h2 _
    refine h v' w' ?_ h2
    rw [List.flatMap_append]
    exact h1
theorem Wt_own {w : World} {B n : Nat} {v : Value} {l : List Wt} (h : w.ownsRow B 68 2 v n (l.flatMap wtc)) : ∃ A c, v = .slice A n c ∧ WtAt w A n l ∧ ∀ p, A = some p → B ≤ p.block := by
  have hl : l.length = n := by have := h.1; rw [wtc_len] at this; omega
  rcases h.2 with ⟨rfl, h0⟩ | ⟨g, cap, cur, rfl, hb, hg, hnc, hcm, _⟩
  · exact ⟨none, 0, by rw [h0], ⟨hl, fun hm => by omega⟩, fun p hp => nomatch hp⟩
  · refine ⟨_, cap, rfl, ⟨hl, fun hm => ⟨g, 0, rfl, fun i hi => ?_⟩⟩, fun p hp => by cases hp; exact hb⟩
    obtain ⟨h1, h2⟩ := wtc_get l i hi
    have c1 := World.ownsRow.cells h (g := g) rfl _ _ h1
    have c2 := World.ownsRow.cells h (g := g) rfl _ _ h2
    rw [Go.WideShapes.add_plain] at c1 c2
    exact ⟨c1, by rw [Nat.add_assoc]; exact c2⟩
theorem ret_cpR {fn : Func} {R : Ending → World → Prop} {a : Act} {w : World} {p : Tmp} {g : Nat} {cs : Array Value} (hr : fn.results = #[.cell p 37]) (hp : a.tmps.getD p undef = .pointer (some ⟨g, 0, none⟩))
    (hB : Blk w g 37 cs) (hs : cs.size = 10) (hd : a.defers = []) (hR : R (.returned (.agg cs)) w) : bodyPost Tryd.prog fn R .ret a w := by
  refine bodyPost_ret ?_ hd hR
  have hp' : a.tmps[p]?.getD undef = .pointer (some ⟨g, 0, none⟩) := by simpa using hp
  simp [results, hr, hp', asAddr, run_loadVar_row w g 37 37 _ (0, 0) _ hB Tryd.underlying37 rfl (by rw [hs]; kernel_rfl)]
set_option maxHeartbeats 4000000 in
theorem rCopyR_c (x : Rc) (A : Option Addr) (n c : Nat) (w : World) (hx : WtAt w A n x.l) (hn : n * 24 ≤ 140737488351232) :
    Calls Tryd.prog 13 #[rcv x (.slice A n c)] w fun e w' => ∃ A' c', e = .returned (rcv x (.slice A' n c')) ∧ WtAt w' A' n x.l ∧ Below w.heap.size w w' := by
  obtain ⟨id, ep, st, pr, an, sw, sl, bw, bl, l⟩ := x
  have g0 := nbl w (.cells (rcc ⟨id, ep, st, pr, an, sw, sl, bw, bl, l⟩ (.slice A n c)) 37)
  have g1 := bsa g0 (.cells #[.int .i64 0, .int .i64 0, .int .i64 0, .int .i64 0, .string ⟨#[]⟩, .int .i64 0, .int .i64 0, .int .i64 0, .int .i64 0, .slice none 0 0] 37)
  have hX := (Blk.new w 37 (rcc ⟨id, ep, st, pr, an, sw, sl, bw, bl, l⟩ (.slice A n c))).below (nbl _ (.cells #[.int .i64 0, .int .i64 0, .int .i64 0, .int .i64 0, .string ⟨#[]⟩, .int .i64 0, .int .i64 0, .int .i64 0, .int .i64 0, .slice none 0 0] 37)) (by simp)
  have hY := Blk.new (w.alloc (.cells (rcc ⟨id, ep, st, pr, an, sw, sl, bw, bl, l⟩ (.slice A n c)) 37)) 37 #[.int .i64 0, .int .i64 0, .int .i64 0, .int .i64 0, .string ⟨#[]⟩, .int .i64 0, .int .i64 0, .int .i64 0, .int .i64 0, .slice none 0 0]
  have hz : (w.alloc (.cells (rcc ⟨id, ep, st, pr, an, sw, sl, bw, bl, l⟩ (.slice A n c)) 37)).heap.size = w.heap.size + 1 := by simp
  rw [hz] at hY
  have HL := Lib.hid (hx.below g1)
  have hx8 := hX.cell 9
  simp at hx8
  have HX := Lib.hid hX
  have HY := Lib.hid hY
  have G1 := Lib.hid g1
  clear hX hY g0 g1 hx hz
  go_enter Tryd.func13, Tryd.ntmps13
  go_wp2_with (first
    | (at_builtin; refine wpList_appWt rfl _ _ rfl (w.heap.size + 2) (.slice none 0 0) 0 [] l rfl (World.ownsRow_nil _ _ _ _) A n c rfl HL.out (by omega) (by simp) ?_; intro v' w2 hown hg
       have bel : Below _ _ w2 := (Below.refl _ _).grown hg (Nat.le_refl _) (fun k e => nomatch e)
       rw [List.nil_append, Nat.zero_add] at hown
       obtain ⟨A', c', rfl, hat, hge⟩ := Wt_own hown
       have kx := HX.out.below bel HX.out.lt
       have ky := HY.out.below bel HY.out.lt
       have bel2 := bst G1.out bel
       have c0 := kx.cell 0
       have f0 := ky.frozen 0
       have y0 := ky.cell 0
       have c1 := kx.cell 1
       have f1 := ky.frozen 1
       have y1 := ky.cell 1
       have c2 := kx.cell 2
       have f2 := ky.frozen 2
       have y2 := ky.cell 2
       have c3 := kx.cell 3
       have f3 := ky.frozen 3
       have y3 := ky.cell 3
       have c4 := kx.cell 4
       have f4 := ky.frozen 4
       have y4 := ky.cell 4
       have c5 := kx.cell 5
       have f5 := ky.frozen 5
       have y5 := ky.cell 5
       have c6 := kx.cell 6
       have f6 := ky.frozen 6
       have y6 := ky.cell 6
       have c7 := kx.cell 7
       have f7 := ky.frozen 7
       have y7 := ky.cell 7
       have c8 := kx.cell 8
       have f8 := ky.frozen 8
       have y8 := ky.cell 8
       have c9 := kx.cell 9
       have f9 := ky.frozen 9
       have y9 := ky.cell 9
       have fx := kx.frozen 9
       simp at c0 y0 c1 y1 c2 y2 c3 y3 c4 y4 c5 y5 c6 y6 c7 y7 c8 y8 c9 y9
       have KY := Lib.hid ky
       have HAT := Lib.hid hat
       have HGE := Lib.hid hge
       clear hown hg kx ky hat hge))
  have hY3 : Blk (w2.setCell ⟨w.heap.size, 9, none⟩ (.slice A' n c')) (w.heap.size + 1) 37 #[.int .i64 0, .int .i64 0, .int .i64 0, .int .i64 0, .string ⟨#[]⟩, .int .i64 0, .int .i64 0, .int .i64 0, .int .i64 0, .slice none 0 0] := by
    have := KY.out
    unfold Blk at this ⊢
    rw [World.setCell, Array.getElem?_modify, if_neg (by simp)]
    exact this
  have bel3 := bel2.setCell (p := ⟨w.heap.size, 9, none⟩) (by simp) (.slice A' n c')
  refine ret_cpR rfl rfl hY3.all10 rfl rfl ⟨A', ⟨c', rfl⟩, ?_, (((((((((((bel3)).setCell (Nat.le_succ _) _).setCell (Nat.le_succ _) _).setCell (Nat.le_succ _) _).setCell (Nat.le_succ _) _).setCell (Nat.le_succ _) _).setCell (Nat.le_succ _) _).setCell (Nat.le_succ _) _).setCell (Nat.le_succ _) _).setCell (Nat.le_succ _) _).setCell (Nat.le_succ _) _⟩
  refine HAT.out.keep fun a ha j z hz => ?_
  have h1 := HGE.out a ha
  simp only [World.cell?, World.setCell, Array.getElem?_modify] at hz ⊢
  have h2 : ¬ w.heap.size = a.block := by omega
  have h3 : ¬ w.heap.size + 1 = a.block := by omega
  simpa [h2, h3] using hz
end Go.Proofs.YtiafmbfeigcinaaDoor
