/-
  Layer 11, the document's answers: CopyIntent, CopyRecord.
  Layer 11, the document's Same, SameRecord: of one and the same.
-/
import Derived.Test.YthimheckmpepdaaGreatDoorKU28
import Derived.Maps.AppendAt
import Derived.Laws.OwnMore
import Derived.Test.YthimheckmpepdaaGreatDoorKU12
import Derived.BigQuiet
import Derived.Deep.QuietTactic
set_option linter.unusedVariables false
set_option linter.unusedSimpArgs false
set_option maxRecDepth 100000
namespace Go.Proofs.YthimheckmpepdaaGreatDoor
open Go.RowKit

theorem ChAt.news {w : World} {ad : Addr} {n : Nat} {l : List Ch} (hr : ChAt w (some ad) n l) : ∀ j u, (l.flatMap chc)[j]? = some u → w.cell? (ad.add j) = some u := by
  intro j u hj
  have hjl : j < (l.flatMap chc).length := by
    rcases Nat.lt_or_ge j (l.flatMap chc).length with h0 | h0
    · exact h0
    · rw [List.getElem?_eq_none h0] at hj
      cases hj
  rw [chc_len] at hjl
  have hi2 : j / 3 < l.length := by omega
  obtain ⟨b, o2, hh, hc⟩ := hr.2 (by have := hr.1; omega)
  injection hh with hh
  subst hh
  rw [Go.WideShapes.add_plain]
  have hj3 : j / 3 < l.length := by omega
  obtain ⟨c1, c2, c3⟩ := hc (j / 3) hj3
  obtain ⟨g1, g2, g3⟩ := chc_get l (j / 3) hj3
  rcases (show j % 3 = 0 ∨ j % 3 = 1 ∨ j % 3 = 2 from by omega) with h0 | h0 | h0
  · rw [show j / 3 * 3 = j by omega] at c1 g1
    rw [hj] at g1; injection g1 with g1; rw [c1, g1]
  · rw [show o2 + j / 3 * 3 + 1 = o2 + j by omega] at c2
    rw [show j / 3 * 3 + 1 = j by omega] at g2
    rw [hj] at g2; injection g2 with g2; rw [c2, g2]
  · rw [show o2 + j / 3 * 3 + 2 = o2 + j by omega] at c3
    rw [show j / 3 * 3 + 2 = j by omega] at g3
    rw [hj] at g3; injection g3 with g3; rw [c3, g3]
theorem WtAt.news {w : World} {ad : Addr} {n : Nat} {l : List Wt} (hr : WtAt w (some ad) n l) : ∀ j u, (l.flatMap wtc)[j]? = some u → w.cell? (ad.add j) = some u := by
  intro j u hj
  have hjl : j < (l.flatMap wtc).length := by
    rcases Nat.lt_or_ge j (l.flatMap wtc).length with h0 | h0
    · exact h0
    · rw [List.getElem?_eq_none h0] at hj
      cases hj
  rw [wtc_len] at hjl
  have hi2 : j / 2 < l.length := by omega
  obtain ⟨b, o2, hh, hc⟩ := hr.2 (by have := hr.1; omega)
  injection hh with hh
  subst hh
  rw [Go.WideShapes.add_plain]
  have hj3 : j / 2 < l.length := by omega
  obtain ⟨c1, c2⟩ := hc (j / 2) hj3
  obtain ⟨g1, g2⟩ := wtc_get l (j / 2) hj3
  rcases (show j % 2 = 0 ∨ j % 2 = 1 from by omega) with h0 | h0
  · rw [show j / 2 * 2 = j by omega] at c1 g1
    rw [hj] at g1; injection g1 with g1; rw [c1, g1]
  · rw [show o2 + j / 2 * 2 + 1 = o2 + j by omega] at c2
    rw [show j / 2 * 2 + 1 = j by omega] at g2
    rw [hj] at g2; injection g2 with g2; rw [c2, g2]
theorem wtc_one (l : List Wt) : ∀ u ∈ l.flatMap wtc, u.oneCell' = true := by
  intro u hu
  obtain ⟨x, hx, h2⟩ := List.mem_flatMap.1 hu
  simp only [wtc, List.mem_cons, List.not_mem_nil, or_false] at h2
  rcases h2 with rfl | rfl <;> rfl
set_option maxRecDepth 100000 in
theorem wpList_appWt {w : World} {ops : Array Oper} {rest : List Oper} {o : Oper} {a : Act} {Q : Exit → Act → World → Prop} (hgd : o.guard = none) (s x : Operand)
    (ho : o.op = .call { callee := .builtin .append, args := #[s, x], argTypes := #[62, 62] })
    (B : Nat) (v : Value) (k : Nat) (xs l : List Wt) (hs : a.eval s = v) (hown : w.ownsRow B 201 2 v k (xs.flatMap wtc))
    (A : Option Addr) (n c : Nat) (hx : a.eval x = .slice A n c) (hr : WtAt w A n l) (hbytes : (k + n) * 24 ≤ 140737488355328) (hbase : B ≤ w.heap.size)
    (h : ∀ v' w', w'.ownsRow B 201 2 v' (k + n) ((xs ++ l).flatMap wtc) → w.grownBy w' v.ownBlock → wpList Tryz.prog ops Q rest (a.put o.dst v') w') :
    wpList Tryz.prog ops Q (o :: rest) a w := by
  obtain ⟨i, hi, hz, hsz, hby⟩ := info_parts infoWt
  cases A with
  | none =>
    have hm : n = 0 := by
      rcases Nat.eq_zero_or_pos n with h0 | h0
      · exact h0
      · obtain ⟨b, o, hh, _⟩ := hr.2 h0
        cases hh
    subst hm
    obtain rfl : l = [] := List.eq_nil_of_length_eq_zero hr.1
    have hrun := run_append_none (P := Tryz.prog) w B 62 o.type 201 i 2 Tryz.underlying62 hi v k _ hown c
    refine wpList_plain hgd fun K hK => ?_
    unfold Oper.wp execOp
    simp only [ho, resolve, invoke, builtin, Sem.run_bind, Sem.run_pure, Result.andThen_ok, List.map_toArray, List.map_cons, List.map_nil, hs, hx, hrun]
    exact hK _ _ (h v w (by simpa using hown) (World.grownBy.refl w _))
  | some ad =>
    refine wpList_append_own w hgd s x 62 ho B 201 i _ 2 24 Tryz.underlying62 hi hz hsz hby rfl (by decide) v k (xs.flatMap wtc) hs hown ad n c (l.flatMap wtc) hx (by rw [wtc_len, hr.1]) hr.news (wtc_one l) (by unfold maxLen; omega) hbytes hbase ?_
    intro v' w' h1 h2 _
    refine h v' w' ?_ h2
    rw [List.flatMap_append]
    exact h1
theorem Wt_own {w : World} {B n : Nat} {v : Value} {l : List Wt} (h : w.ownsRow B 201 2 v n (l.flatMap wtc)) : ∃ A c, v = .slice A n c ∧ WtAt w A n l ∧ ∀ p, A = some p → B ≤ p.block := by
  have hl : l.length = n := by have := h.1; rw [wtc_len] at this; omega
  rcases h.2 with ⟨rfl, h0⟩ | ⟨g, cap, cur, rfl, hb, hg, hnc, hcm, _⟩
  · exact ⟨none, 0, by rw [h0], ⟨hl, fun hm => by omega⟩, fun p hp => nomatch hp⟩
  · refine ⟨_, cap, rfl, ⟨hl, fun hm => ⟨g, 0, rfl, fun i hi => ?_⟩⟩, fun p hp => by cases hp; exact hb⟩
    obtain ⟨h1, h2⟩ := wtc_get l i hi
    have c1 := World.ownsRow.cells h (g := g) rfl _ _ h1
    have c2 := World.ownsRow.cells h (g := g) rfl _ _ h2
    rw [Go.WideShapes.add_plain] at c1 c2
    exact ⟨c1, by rw [Nat.add_assoc]; exact c2⟩
theorem ret_cpR {fn : Func} {R : Ending → World → Prop} {a : Act} {w : World} {p : Tmp} {g : Nat} {cs : Array Value} (hr : fn.results = #[.cell p 64]) (hp : a.tmps.getD p undef = .pointer (some ⟨g, 0, none⟩))
    (hB : Blk w g 64 cs) (hs : cs.size = 10) (hd : a.defers = []) (hR : R (.returned (.agg cs)) w) : bodyPost Tryz.prog fn R .ret a w := by
  refine bodyPost_ret ?_ hd hR
  have hp' : a.tmps[p]?.getD undef = .pointer (some ⟨g, 0, none⟩) := by simpa using hp
  simp [results, hr, hp', asAddr, run_loadVar_row w g 64 64 _ (0, 0) _ hB Tryz.underlying64 rfl (by rw [hs]; kernel_rfl)]
end Go.Proofs.YthimheckmpepdaaGreatDoor
set_option linter.unusedVariables false
set_option linter.unusedSimpArgs false
set_option maxRecDepth 100000
namespace Go.Proofs.YthimheckmpepdaaGreatDoor
open Go.RowKit

theorem self_eq (s : ByteArray) : (s.toList == s.toList) = true := by simp

set_option maxHeartbeats 1000000 in
theorem rSameW_refl (l : List Wt) (A1 A2 : Option Addr) (n1 n2 c1 c2 : Nat) (w : World) (h1 : WtAt w A1 n1 l) (h2 : WtAt w A2 n2 l) (hn1 : n1 ≤ 9223372036854775807) :
    Calls Tryz.prog 77 #[.slice A1 n1 c1, .slice A2 n2 c2] w fun e w' => e = .returned (.bool true) ∧ Below w.heap.size w w' := by
  obtain rfl : n1 = n2 := h1.1.symm.trans h2.1
  have H1 := Lib.hid h1
  have H2 := Lib.hid h2
  have HL := Lib.hid h1.1
  clear h1 h2
  go_enter Tryz.func77, Tryz.ntmps77
  go_wp2_with fail
  go_loopw [5] (fun i wr => ∃ (j : Nat), j ≤ n1 ∧ i = .int .i64 j ∧ Hid (∀ p, wr.cell? p = w.cell? p) ∧ Hid (Below w.heap.size w wr)) (fun i _ => n1 - (intOf i).toNat)
  case atStart => exact ⟨0, Nat.zero_le _, rfl, Lib.hid fun _ => rfl, Lib.hid (Below.refl _ _)⟩
  case round =>
    obtain ⟨j, hj, rfl, HC, HBW⟩ := hrel
    by_cases hlt : j < n1
    · have hjl : j < l.length := by rw [HL.out]; exact hlt
      obtain ⟨b1, o1, rfl, hc1⟩ := H1.out.2 (by omega)
      obtain ⟨b2, o2, rfl, hc2⟩ := H2.out.2 (by omega)
      have p := hc1 j hjl
      have q := hc2 j hjl
      obtain ⟨cc, hcc⟩ : ∃ cc, l[j]'hjl = cc := ⟨_, rfl⟩
      rw [hcc] at p q
      obtain ⟨u0, u1⟩ := cc
      obtain ⟨p0, p1⟩ := p
      obtain ⟨q0, q1⟩ := q
      have P0 := (HC.out _).trans p0
      have Q0 := (HC.out _).trans q0
      have P1 := (HC.out _).trans p1
      have Q1 := (HC.out _).trans q1
      clear hc1 hc2 hcc
      go_wp2_with fail
      go_quiet (fail)
      go_wp2
      go_roundw
      case rel => exact ⟨j + 1, by omega, by go_num, Lib.hid fun p => HC.out p, Lib.hid (below_drewN HBW.out nq)⟩
      case measure => simp [intOf]; omega
    · go_wp2
      go_ret
      exact ⟨rfl, HBW.out⟩
set_option maxHeartbeats 1000000 in
theorem rSameR_refl (x : Rc) (A1 A2 : Option Addr) (n1 n2 c1 c2 : Nat) (w : World) (h1 : WtAt w A1 n1 x.l) (h2 : WtAt w A2 n2 x.l) (hn1 : n1 ≤ 9223372036854775807) :
    Calls Tryz.prog 25 #[rcv x (.slice A1 n1 c1), rcv x (.slice A2 n2 c2)] w fun e w' => e = .returned (.bool true) ∧ Below w.heap.size w w' := by
  obtain ⟨id, ep, st, pr, an, sw, sl, bw, bl, l⟩ := x
  simp only at h1 h2
  have hs := self_eq an
  have hbel := (nbl w (.cells (rcc ⟨id, ep, st, pr, an, sw, sl, bw, bl, l⟩ (.slice A1 n1 c1)) 64)).alloc (by simp) (.cells (rcc ⟨id, ep, st, pr, an, sw, sl, bw, bl, l⟩ (.slice A2 n2 c2)) 64)
  have HS := Lib.hid (rSameW_refl l A1 A2 n1 n2 c1 c2 _ (h1.below hbel) (h2.below hbel) hn1)
  have HB := Lib.hid hbel
  clear h1 h2 hbel
  go_enter Tryz.func25, Tryz.ntmps25
  go_wp2_with (go_at_call 77; refine HS.out.mono ?_; rintro e w1 ⟨rfl, hb1⟩; have hb2 := HB.out.trans (hb1.mono (by simp; omega)))
  go_ret
  exact ⟨rfl, hb2⟩
end Go.Proofs.YthimheckmpepdaaGreatDoor
