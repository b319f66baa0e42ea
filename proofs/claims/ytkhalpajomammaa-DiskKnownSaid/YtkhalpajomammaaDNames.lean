/-
  Layer 7: the document's disk: Read, Size, Fail, Crash of any numbers; CopyInts.
  Layer 7: the document's disk: Append.
  Layer 7: the document's disk: Names.
-/
import Derived.Test.YtkhalpajomammaaDCut
set_option linter.unusedVariables false
namespace Go.Proofs.Ytkhalpajomammaa
open Go.RowKit

/-- What a call hands back: bytes in new memory. -/
def NewBytes (w w' : World) (v : Value) (xs : List UInt8) : Prop := Own w' w.heap.size v xs
theorem NewBytes.nil (w w' : World) : NewBytes w w' (.slice none 0 0) [] := World.ownsRow_nil _ _ _ _
theorem NewBytes.form {w w' : World} {v : Value} {xs : List UInt8} (h : NewBytes w w' v xs) : ∃ A c, v = .slice A xs.length c ∧ At w' A xs.length xs ∧ xs.length ≤ c ∧ c ≤ 9223372036854775807 ∧ InF (fun k => w.heap.size ≤ k ∧ k < w'.heap.size) A := by
  obtain ⟨A, c, e, h1, h2, h3, _⟩ := Own.form h
  refine ⟨A, c, e, h1, h2, h3, fun a ea => ?_⟩
  subst e
  subst ea
  exact World.ownsRow.lt h _ rfl

set_option maxHeartbeats 8000000 in
theorem read_ok (w : World) (g : Nat) (D : Dk) (F : Nat → Prop) (nm : ByteArray) (h : RDk w g D F) :
    Calls Try.prog 46 #[pt g, .string nm] w fun e w' => ∃ v, e = .returned (.tuple #[v, .int .i64 (rdE D nm)]) ∧ NewBytes w w' v (rdB D nm) ∧ Below w.heap.size w w' := by
  obtain ⟨Fb, v, KA, kn, kc, qs, h⟩ := h
  have FI := Lib.hid (find_ok w g D F nm ⟨Fb, v, KA, kn, kc, qs, h⟩)
  obtain ⟨p, hp⟩ : ∃ p, pos D.l nm = p := ⟨_, rfl⟩
  obtain ⟨is, his⟩ : ∃ b, isAt D.l nm = b := ⟨_, rfl⟩
  obtain ⟨dd, hd⟩ : ∃ b, D.dead = b := ⟨_, rfl⟩
  have c1 := h.c1
  rw [hp, his] at FI
  rw [hd] at c1
  have HP := Lib.hid hp
  have HI := Lib.hid his
  have HD := Lib.hid hd
  have H := Lib.hid h
  clear h hp his hd
  cases dd with
  | true =>
    have hE : rdE D nm = 71 := by unfold rdE nmE; rw [HD.out]; rfl
    have hB : rdB D nm = [] := by unfold rdB nmE; rw [HD.out]; rfl
    rw [hE, hB]
    go_enter Try.func46, Try.ntmps46
    go_wp2_with fail
    go_ret2
    exact ⟨_, rfl, NewBytes.nil _ _, Below.refl _ _⟩
  | false =>
    cases is with
    | false =>
      have hE : rdE D nm = 70 := by unfold rdE nmE; rw [HD.out, HI.out]; rfl
      have hB : rdB D nm = [] := by unfold rdB nmE; rw [HD.out, HI.out]; rfl
      rw [hE, hB]
      go_enter Try.func46, Try.ntmps46
      go_wp2_with (first | (go_at_call 69; refine FI.out.mono ?_; rintro e w1 ⟨rfl, hb1⟩))
      go_ret2
      exact ⟨_, rfl, NewBytes.nil _ _, hb1⟩
    | true =>
      have hN : nmE D nm = 0 := by unfold nmE; rw [HD.out, HI.out]; rfl
      obtain ⟨b, m, cap, bs, mk, qA, qc, hq, rfl, hgb, hm, hmc, hqe, hfa, hrf, hmk, hbl, ⟨hdl, hde⟩, hm20⟩ := H.out.file HP.out HI.out
      have hE : rdE D nm = 0 := hN
      have hB : rdB D nm = bs := by unfold rdB; rw [hN, if_pos rfl, hfa]
      rw [hE, hB]
      obtain ⟨L, hL⟩ : ∃ L, bs.length = L := ⟨_, rfl⟩
      have HQE := Lib.hid hqe
      have HL := Lib.hid hL
      have hpI : (p : Int) < (m : Int) := by omega
      have hpI0 : (0 : Int) ≤ (p : Int) := by omega
      have HCL := Lib.hid (fun V (hb : Below w.heap.size w V) => (H.out.below hb).cells hq HQE.out)
      have HAT := Lib.hid (fun V (hb : Below w.heap.size w V) => ((H.out.below hb).bytes hq HQE.out).1)
      rw [hL] at HCL HAT hbl
      clear hN hE hB hm hqe hfa hrf hde hL hmk
      go_enter Try.func46, Try.ntmps46
      go_wp2_with (first
        | (go_at_call 69; refine FI.out.mono ?_; rintro e w1 ⟨rfl, hb1⟩; have c0 := (H.out.below hb1).c0; obtain ⟨d0, d1, d2⟩ := HCL.out _ hb1; have hat := HAT.out _ hb1)
        | (go_at_call 11; refine (copyBytes qA L qc bs _ hat (by omega)).mono ?_; rintro e w3 ⟨v1, rfl, hown, hb3⟩))
      go_ret2
      exact ⟨_, rfl, hown.base hb1.size, hb1.trans (hb3.mono hb1.size)⟩

set_option maxHeartbeats 4000000 in
theorem size_ok (w : World) (g : Nat) (D : Dk) (F : Nat → Prop) (nm : ByteArray) (h : RDk w g D F) :
    Calls Try.prog 47 #[pt g, .string nm] w fun e w' => e = .returned (.tuple #[.int .i64 ((rdB D nm).length : Nat), .int .i64 (rdE D nm)]) ∧ Below w.heap.size w w' := by
  have RD := Lib.hid (read_ok w g D F nm h)
  obtain ⟨x, hx⟩ : ∃ x, rdE D nm = x := ⟨_, rfl⟩
  obtain ⟨xs, hxs⟩ : ∃ x, rdB D nm = x := ⟨_, rfl⟩
  rw [hx, hxs] at RD ⊢
  obtain ⟨L, hL⟩ : ∃ L, xs.length = L := ⟨_, rfl⟩
  rw [hL]
  have HL := Lib.hid hL
  clear hx hxs h hL
  go_enter Try.func47, Try.ntmps47
  go_wp2_with (first | (go_at_call 46; refine RD.out.mono ?_; rintro e w1 ⟨v, rfl, hnb, hb1⟩; obtain ⟨A, c, rfl, _, _, _, _⟩ := hnb.form; rw [HL.out]))
  go_ret2
  exact ⟨rfl, hb1⟩

theorem IAt.keepB {w w' : World} {A : Option Addr} {n : Nat} {xs : List Int} (h : IAt w A n xs) (hb : Below w.heap.size w w') : IAt w' A n xs := by
  refine ⟨h.1, fun hn => ?_⟩
  obtain ⟨b, o, e, hc⟩ := h.2 hn
  exact ⟨b, o, e, fun i hi => (hb.cell (World.block_lt_of_cell? w _ (hc i hi))).trans (hc i hi)⟩
theorem infoI : (Try.prog.info? 3).map (fun i => (i.zero, i.size, i.bytes)) = some (some (.int .i64 0), 1, 8) := by kernel_rfl
set_option maxHeartbeats 4000000 in
theorem copyI (A : Option Addr) (n c : Nat) (xs : List Int) (w : World) (hx : IAt w A n xs) (hn : n ≤ 17592186044416) :
    Calls Try.prog 12 #[.slice A n c] w fun e w' => ∃ A' c', e = .returned (.slice A' n c') ∧ IAt w' A' n xs ∧ n ≤ c' ∧ c' ≤ 9223372036854775807 ∧ InF (fun k => w.heap.size ≤ k ∧ k < w'.heap.size) A' ∧ Below w.heap.size w w' := by
  obtain ⟨i, hi, hz, hsz, hby⟩ := info_parts infoI
  have hl := hx.1
  have HX := Lib.hid (show 0 < n → ∃ b o, A = some ⟨b, o, none⟩ ∧ ∀ j u, (xs.map (Value.int .i64))[j]? = some u → w.cell? ⟨b, o + j, none⟩ = some u from fun h => by
    obtain ⟨b, o, e, hc⟩ := hx.2 h
    refine ⟨b, o, e, fun j u hj => ?_⟩
    have hj2 : j < xs.length := by simpa using (List.getElem?_eq_some_iff.1 hj).1
    rw [hc j hj2, ← hj]
    simp [List.getElem?_eq_getElem hj2])
  have HO := Lib.hid (show ∀ u ∈ xs.map (Value.int .i64), u.oneCell' = true from fun u hu => by obtain ⟨z, _, rfl⟩ := List.mem_map.1 hu; rfl)
  have HN := Lib.hid (World.ownsRow_nil w w.heap.size 3 1)
  have HLL := Lib.hid (show (xs.map (Value.int .i64)).length = n * 1 by simp [hl])
  have hm : 0 + n ≤ maxLen := by unfold maxLen; omega
  have hb8 : (0 + n) * 8 ≤ 140737488355328 := by omega
  clear hx
  go_enter Try.func12, Try.ntmps12
  go_wp2_with (at_builtin; refine wpList_appV rfl _ _ 28 rfl w.heap.size 3 i (.int .i64 0) 1 8 Try.underlying28 hi hz hsz hby rfl (by decide) (.slice none 0 0) 0 [] rfl HN.out A n c (xs.map (Value.int .i64)) rfl HLL.out HX.out HO.out hm hb8 (Nat.le_refl _) ?_; intro v' w' hr hg; have hr' := Lib.hid hr; clear hr)
  go_ret
  have hr := hr'.out
  rw [Nat.zero_add, List.nil_append] at hr
  have hb : Below w.heap.size w w' := ⟨hg.os, hg.tape, hg.output, hg.size, fun k hk => hg.block k hk (by simp [Value.ownBlock])⟩
  rcases hr.2 with ⟨rfl, hn0⟩ | ⟨q, cap, cur, rfl, hq, hh, hnc, hcm, hcs, htk⟩
  · subst hn0
    obtain rfl : xs = [] := List.eq_nil_of_length_eq_zero hl
    exact ⟨none, 0, rfl, IAt.nil _ _, by omega, by omega, (fun a e => nomatch e), hb⟩
  · refine ⟨_, cap, rfl, ⟨hl, fun _ => ⟨q, 0, rfl, fun j hj => ?_⟩⟩, hnc, hcm, fun a e => ?_, hb⟩
    · rw [Nat.zero_add, hr.cellAt j (by omega), List.getElem?_map, List.getElem?_eq_getElem hj]
      rfl
    · injection e with e
      subst e
      exact ⟨hq, (Array.getElem?_eq_some_iff.1 hh).1⟩

theorem crash_ok (w : World) (g : Nat) (D : Dk) (F : Nat → Prop) (A : Option Addr) (n c : Nat) (keep : List Int) (h : RDk w g D F) (hK : IAt w A n keep) (hKF : InF (fun k => k < w.heap.size ∧ ¬ F k) A) (hnc : n ≤ c) (hc : c ≤ 9223372036854775807) :
    Calls Try.prog 40 #[pt g, .slice A n c] w fun e w' => e = .returned (.tuple #[]) ∧ Turns RDk w g F (crash D keep) w' := by
  obtain ⟨Fb, v, KA, kn, kc, qs, h⟩ := h
  exact crash_b w g D F Fb v KA kn kc qs A n c keep h hK (fun a e => ⟨(hKF a e).1, fun e2 => (hKF a e).2 (e2 ▸ h.fg.1), fun e2 => (hKF a e).2 (h.list.own _ e2).1⟩) hnc hc

set_option maxHeartbeats 4000000 in
theorem fail_ok (w : World) (g : Nat) (D : Dk) (F : Nat → Prop) (k : Int) (A : Option Addr) (n c : Nat) (keep : List Int) (hk1 : -9223372036854775808 ≤ k) (hk2 : k ≤ 9223372036854775807) (h : RDk w g D F) (hK : IAt w A n keep) (hKF : InF (fun k => ¬ F k) A) (hn : n ≤ 17592186044416) :
    Calls Try.prog 41 #[pt g, .int .i64 k, .slice A n c] w fun e w' => e = .returned (.tuple #[]) ∧ Turns RDk w g F (fal D k keep) w' := by
  obtain ⟨Fb, v, KA, kn, kc, qs, h⟩ := h
  have c1 := h.c1
  have c2 := h.c2
  have c3 := h.c3
  have z2 := h.fz 2
  obtain ⟨dd, hd⟩ : ∃ b, D.dead = b := ⟨_, rfl⟩
  rw [hd] at c1
  have HD := Lib.hid hd
  have H := Lib.hid h
  have hgl := h.lt g h.fg.1
  cases dd with
  | true =>
    have hC : fal D k keep = D := by unfold fal; rw [HD.out]; rfl
    rw [hC]
    clear h hd
    go_enter Try.func41, Try.ntmps41
    go_wp2_with fail
    first | go_end0 | (refine bodyPost_ret (results_none rfl _ _ _) rfl ?_)
    exact ⟨rfl, H.out.ends (fun k e => .inl e) (Grow.refl _ _) H.out.lt⟩
  | false =>
    have hC : fal D k keep = { D with left := max k (-1), keep := keep } := by unfold fal; rw [HD.out]; rfl
    obtain ⟨D', hD'⟩ : ∃ x, fal D k keep = x := ⟨_, rfl⟩
    rw [hD']
    have HC := Lib.hid (hD'.symm.trans hC)
    obtain ⟨l1, hl1⟩ : ∃ x, max k (-1) = x := ⟨_, rfl⟩
    have hlo : -1 ≤ l1 := by rw [← hl1]; omega
    have hhi : l1 ≤ 9223372036854775807 := by rw [← hl1]; omega
    have HL1 := Lib.hid hl1
    have h2 := h.setLeft l1 hlo hhi
    have H2 := Lib.hid h2
    have hK2 : IAt (w.setCell ⟨g, 2, none⟩ (.int .i64 l1)) A n keep := hK.on hKF (fun k e => set_blk w g 2 _ (fun e2 => e (e2 ▸ h.fg.1)))
    have CI := Lib.hid (copyI A n c keep _ hK2 hn)
    clear h hd hC hD' h2 hK hK2
    go_enter Try.func41, Try.ntmps41
    go_wp2_with (first | (go_at_call 12; refine CI.out.mono ?_; rintro e w2 ⟨A1, c1', rfl, hi1, hc1b, hc1m, hin1, hb2⟩; have h3 := H2.out.grow hb2; have y3 := h3.c3; have x3 := h3.fz 3; have H3 := Lib.hid h3; clear h3))
    first | go_end0 | (refine bodyPost_ret (results_none rfl _ _ _) rfl ?_)
    have h3 := H3.out
    have h4 := h3.field 3 (.slice A1 n c1') (D' := { D with left := l1, keep := keep }) (A' := A1) (n' := n) (c' := c1') rfl h3.eq h3.list hi1 (fun a e => .inr (hin1 a e)) ⟨hc1b, hc1m⟩ h3.fg.2.2 ⟨h3.ok.sorted, h3.ok.marks, h3.ok.few, h3.ok.sum, hlo, hhi⟩
    have hFg := H.out.fg.1
    have hG1 : Grow F w (w.setCell ⟨g, 2, none⟩ (.int .i64 l1)) := (Grow.refl F w).set (p := ⟨g, 2, none⟩) (.inl hFg) _
    have hG := (hG1.trans (Grow.of_below hb2)).set (p := ⟨g, 3, none⟩) (.inl hFg) (.slice A1 n c1')
    rw [HC.out, HL1.out]
    refine ⟨rfl, h4.ends (fun k e => ?_) hG H.out.lt⟩
    unfold nF at e ⊢
    rw [set_size] at e ⊢
    exact e
end Go.Proofs.Ytkhalpajomammaa

namespace Go.Proofs.Ytkhalpajomammaa
open Go.RowKit

theorem At.moved {w w1 w2 : World} {A : Option Addr} {n : Nat} {xs : List UInt8} {F : Nat → Prop} (h : At w A n xs) (hF : InF (fun k => ¬ F k) A) (hb : Below w.heap.size w w1) (hG : Grow F w1 w2) : At w2 A n xs := by
  refine ⟨h.1, fun hn => ?_⟩
  obtain ⟨b, o, e, hc⟩ := h.2 hn
  refine ⟨b, o, e, fun i hi => ?_⟩
  have h1 := (hb.cell (World.block_lt_of_cell? w _ (hc i hi))).trans (hc i hi)
  exact (World.cell?_of_block (a := ⟨b, o + i, none⟩) (hG.block b (World.block_lt_of_cell? w1 _ h1) (hF _ e))).trans h1
/-- The middle of Append: the file with its new bytes is put. -/
theorem append_mid {w w1 w2 w5 : World} {g : Nat} {D D2 : Dk} {F Fb : Nat → Prop} {v : Value} {KA : Option Addr} {kn kc : Nat} {qs : List Fv} {nm : ByteArray} {bt : List UInt8} {mk L N : Nat} {qA A1 : Option Addr} {qc c1 : Nat}
    (h : RDkB w g D F Fb v KA kn kc qs) (hb1 : Below w.heap.size w w1) (h2 : RDkB w2 g D2 F Fb v KA kn kc qs) (hG2 : Grow F w1 w2)
    (hB : Below (w2.alloc (.cells #[.string nm, .slice qA L qc, .int .i64 (mk : Int)] 97)).heap.size (w2.alloc (.cells #[.string nm, .slice qA L qc, .int .i64 (mk : Int)] 97)) w5)
    (hat : At w5 A1 N bt) (hc1 : N ≤ c1) (hc2 : c1 ≤ 9223372036854775807) (hin : InF (fun k => (w2.alloc (.cells #[.string nm, .slice qA L qc, .int .i64 (mk : Int)] 97)).heap.size ≤ k ∧ k < w5.heap.size) A1)
    (hok : ({ D2 with l := withF D2.l ⟨nm, bt, mk⟩ } : Dk).ok) :
    (∃ u, w5.cell? ⟨w2.heap.size, 1, none⟩ = some u) ∧ w5.frozen? ⟨w2.heap.size, 1, none⟩ = false ∧
    ((w5.setCell ⟨w2.heap.size, 1, none⟩ (.slice A1 N c1)).cell? ⟨w2.heap.size, 0, none⟩ = some (.string nm) ∧ (w5.setCell ⟨w2.heap.size, 1, none⟩ (.slice A1 N c1)).cell? ⟨w2.heap.size, 1, none⟩ = some (.slice A1 N c1) ∧ (w5.setCell ⟨w2.heap.size, 1, none⟩ (.slice A1 N c1)).cell? ⟨w2.heap.size, 2, none⟩ = some (.int .i64 (mk : Int))) ∧
    (w2.heap.size < w5.heap.size) ∧
    Calls Try.prog 72 #[pt g, .agg #[.string nm, .slice A1 N c1, .int .i64 (mk : Int)]] (w5.setCell ⟨w2.heap.size, 1, none⟩ (.slice A1 N c1)) fun e w' => e = .returned (.tuple #[]) ∧
      ∃ v' qs' Fb', RDkB w' g { D2 with l := withF D2.l ⟨nm, bt, mk⟩ } (nF (nF F (w2.alloc (.cells #[.string nm, .slice qA L qc, .int .i64 (mk : Int)] 97)) w5) (w5.setCell ⟨w2.heap.size, 1, none⟩ (.slice A1 N c1)) w') Fb' v' KA kn kc qs' ∧ Grow (fun k => k = g) (w5.setCell ⟨w2.heap.size, 1, none⟩ (.slice A1 N c1)) w' := by
  have hgl : g < w2.heap.size := Nat.lt_of_lt_of_le (h.lt g h.fg.1) (Nat.le_trans hb1.size hG2.size)
  have hz : w2.heap.size < (w2.alloc (.cells #[.string nm, .slice qA L qc, .int .i64 (mk : Int)] 97)).heap.size := by simp
  have hx : w5.heap[w2.heap.size]? = some (.cells #[.string nm, .slice qA L qc, .int .i64 (mk : Int)] 97 (0, 0)) := (hB.block _ hz).trans (heap_alloc_new w2 _)
  have hx6 : (w5.setCell ⟨w2.heap.size, 1, none⟩ (.slice A1 N c1)).heap[w2.heap.size]? = some (.cells #[.string nm, .slice A1 N c1, .int .i64 (mk : Int)] 97 (0, 0)) := by
    simp only [World.setCell, Array.getElem?_modify, if_true, hx, Option.map_some]
    rfl
  have hF : ∀ k, F k → k < w2.heap.size := fun k e => Nat.lt_of_lt_of_le (h.lt k e) (Nat.le_trans hb1.size hG2.size)
  refine ⟨⟨_, cell_of_row w5 w2.heap.size 1 _ _ (0, 0) hx⟩, frozen_of_row w5 w2.heap.size 1 _ _ hx, ⟨cell_of_row _ w2.heap.size 0 _ _ (0, 0) hx6, cell_of_row _ w2.heap.size 1 _ _ (0, 0) hx6, cell_of_row _ w2.heap.size 2 _ _ (0, 0) hx6⟩, Nat.lt_of_lt_of_le hz hB.size, ?_⟩
  have h4 := ((h2.below ((Below.refl w2.heap.size w2).alloc (Nat.le_refl _) (.cells #[.string nm, .slice qA L qc, .int .i64 (mk : Int)] 97))).grow hB).far (p := ⟨w2.heap.size, 1, none⟩) (by rintro (e | e); exact absurd (hF _ e) (by simp); exact absurd e.1 (by simp)) (.slice A1 N c1)
  have hN := hat.1
  subst hN
  have hr : RFl (w5.setCell ⟨w2.heap.size, 1, none⟩ (.slice A1 bt.length c1)) (nF Fb (w2.alloc (.cells #[.string nm, .slice qA L qc, .int .i64 (mk : Int)] 97)) w5) ⟨⟨nm, bt, mk⟩, A1, c1⟩ :=
    ⟨hat.on hin (fun k e => set_blk w5 _ _ _ (by have := e.1; omega)), hc1, hc2, fun a e => .inr (hin a e)⟩
  refine (with_b _ g _ _ _ v KA kn kc qs ⟨⟨nm, bt, mk⟩, A1, c1⟩ h4 hr hok).mono ?_
  rintro e w' ⟨rfl, v', qs', g1, g2⟩
  exact ⟨rfl, v', qs', _, g1, g2⟩
theorem ownLen {w : World} {B n : Nat} {v : Value} {xs : List UInt8} (h : Own w B v xs) (hn : xs.length = n) : w.ownsRow B 5 1 v n (xs.map bv) := by
  subst hn
  exact h
theorem lenApp {xs ys : List UInt8} {n m : Nat} (h1 : xs.length = n) (h2 : ys.length = m) : (xs ++ ys).length = n + m := by rw [List.length_append, h1, h2]
theorem ownNew {w : World} {B : Nat} {v : Value} {n : Nat} {xs : List UInt8} (hn : xs.length = n) (h : w.ownsRow B 5 1 v n (xs.map bv)) : ∃ A c, v = .slice A n c ∧ At w A n xs ∧ n ≤ c ∧ c ≤ 9223372036854775807 ∧ InF (fun k => B ≤ k ∧ k < w.heap.size) A := by
  subst hn
  have h0 : Own w B v xs := h
  obtain ⟨A, c, rfl, hat, h1, h2, _⟩ := h0.form
  refine ⟨A, c, rfl, hat, h1, h2, fun a e => ?_⟩
  subst e
  exact rowOwn h _ rfl

set_option maxRecDepth 100000 in
set_option maxHeartbeats 8000000 in
theorem append_ok (w : World) (g : Nat) (D : Dk) (F : Nat → Prop) (nm : ByteArray) (XA : Option Addr) (xn xc : Nat) (xs : List UInt8) (h : RDk w g D F) (hX : At w XA xn xs) (hXF : InF (fun k => ¬ F k) XA) (hxn : xn ≤ 140000000000000) :
    Calls Try.prog 35 #[pt g, .string nm, .slice XA xn xc] w fun e w' => e = .returned (.int .i64 (appE D nm xs.length)) ∧ Turns RDk w g F (app D nm xs) w' := by
  obtain ⟨Fb, v, KA, kn, kc, qs, h⟩ := h
  have hxl := hX.1
  obtain ⟨E, hE0⟩ : ∃ x, appE D nm xs.length = x := ⟨_, rfl⟩
  rw [hE0]
  rw [hxl] at hE0
  have HE0 := Lib.hid hE0
  have FI := Lib.hid (find_ok w g D F nm ⟨Fb, v, KA, kn, kc, qs, h⟩)
  have MY := Lib.hid (fun V => may_ok V nm)
  have AL := Lib.hid (fun V (hb : Below w.heap.size w V) => all_ok V g D F ⟨Fb, v, KA, kn, kc, qs, h.below hb⟩)
  obtain ⟨S, hS⟩ : ∃ x, sum D.l = x := ⟨_, rfl⟩
  obtain ⟨p, hp⟩ : ∃ p, pos D.l nm = p := ⟨_, rfl⟩
  obtain ⟨is, his⟩ : ∃ b, isAt D.l nm = b := ⟨_, rfl⟩
  obtain ⟨dd, hd⟩ : ∃ b, D.dead = b := ⟨_, rfl⟩
  obtain ⟨my, hmy⟩ : ∃ b, mayN nm = b := ⟨_, rfl⟩
  have hS20 := h.ok.sum
  have c1 := h.c1
  rw [hp, his] at FI
  rw [hd] at c1
  rw [hmy] at MY
  rw [hS] at AL hS20
  have HS := Lib.hid hS
  have HP := Lib.hid hp
  have HI := Lib.hid his
  have HD := Lib.hid hd
  have HMY := Lib.hid hmy
  have H := Lib.hid h
  have HXL := Lib.hid hxl
  have HX := Lib.hid hX
  clear h hp his hd hmy hS hE0 hxl hX
  cases dd with
  | true =>
    have hE : E = 71 := by rw [← HE0.out]; unfold appE; rw [HD.out]; rfl
    have hC : app D nm xs = D := by unfold app; rw [HD.out]; rfl
    rw [hE, hC]
    clear hE hC
    go_enter Try.func35, Try.ntmps35
    go_wp2_with fail
    go_ret
    exact ⟨rfl, H.out.ends (fun k e => .inl e) (Grow.refl _ _) H.out.lt⟩
  | false =>
    cases my with
    | false =>
      have hE : E = 70 := by rw [← HE0.out]; unfold appE; rw [HD.out, HMY.out]; rfl
      have hC : app D nm xs = D := by unfold app; rw [HD.out, HMY.out]; rfl
      rw [hE, hC]
      clear hE hC
      go_enter Try.func35, Try.ntmps35
      go_wp2_with (first | (go_at_call 68; refine (MY.out _).mono ?_; rintro e w2' ⟨rfl, rfl⟩))
      go_ret
      exact ⟨rfl, H.out.ends (fun k e => .inl e) (Grow.refl _ _) H.out.lt⟩
    | true =>
      obtain ⟨A0, cap, rfl, hcap, hcapm, _, _⟩ := H.out.list.form
      obtain ⟨m, hm⟩ : ∃ x, qs.length = x := ⟨_, rfl⟩
      have hlen := H.out.len
      have hfew := H.out.ok.few
      rw [hm] at H hcap hlen
      have HM := Lib.hid hm
      have hm20 : m ≤ 20 := by omega
      have hE1 : E = if (is = false ∧ 20 ≤ m) ∨ 4194304 < S + xn then 7 else workE D := by rw [← HE0.out]; unfold appE; rw [HD.out, HMY.out, HI.out, HS.out, ← hlen]; rfl
      have hC1 : app D nm xs = if (is = false ∧ 20 ≤ m) ∨ 4194304 < S + xn then D else work D (fun l => withF l ⟨nm, (fileAt l nm).bs ++ xs, (fileAt l nm).mark⟩) := by unfold app; rw [HD.out, HMY.out, HI.out, HS.out, HXL.out, ← hlen]; rfl
      have HE1 := Lib.hid hE1
      have HC1 := Lib.hid hC1
      have hw : IntKind.i64.wrap ((S : Int) + (xn : Int)) = (S : Int) + (xn : Int) := IntWalk.i64_in _ (by omega)
      clear hm hlen hfew hE1 hC1
      by_cases hf : (is = false ∧ 20 ≤ m) ∨ 4194304 < S + xn
      · have hE : E = 7 := by rw [HE1.out, if_pos hf]
        have hC : app D nm xs = D := by rw [HC1.out, if_pos hf]
        rw [hE, hC]
        clear hE hC
        by_cases h20 : is = false ∧ 20 ≤ m
        · obtain ⟨rfl, h20⟩ := h20
          have hd0 : decide ((20 : Int) ≤ (m : Int)) = true := decide_eq_true (by omega)
          go_enter Try.func35, Try.ntmps35
          go_wp2_with (first
            | (go_at_call 68; refine (MY.out _).mono ?_; rintro e w2' ⟨rfl, rfl⟩)
            | (go_at_call 69; refine FI.out.mono ?_; rintro e w1 ⟨rfl, hb1⟩; have c0 := (H.out.below hb1).c0))
          first | go_ret | (go_quiet (fail); go_wp2_with fail; go_ret)
          exact ⟨rfl, ((H.out.below hb1).below (by first | exact Below.refl _ _ | exact below_drewN (Below.refl _ _) _)).ends (fun k e => .inl e) (Grow.of_below (by first | exact hb1 | exact below_drewN hb1 _)) H.out.lt⟩
        · have hS2 : 4194304 < S + xn := hf.resolve_left h20
          have hd1 : decide ((4194304 : Int) < (S : Int) + (xn : Int)) = true := decide_eq_true (by omega)
          cases is with
          | true =>
            go_enter Try.func35, Try.ntmps35
            go_wp2_with (first
              | (go_at_call 68; refine (MY.out _).mono ?_; rintro e w2' ⟨rfl, rfl⟩)
              | (go_at_call 69; refine FI.out.mono ?_; rintro e w1 ⟨rfl, hb1⟩; have c0 := (H.out.below hb1).c0)
              | (go_at_call 70; refine (AL.out _ hb1).mono ?_; rintro e w2'' ⟨rfl, rfl⟩))
            go_ret
            exact ⟨rfl, ((H.out.below hb1).below (by first | exact Below.refl _ _ | exact below_drewN (Below.refl _ _) _)).ends (fun k e => .inl e) (Grow.of_below (by first | exact hb1 | exact below_drewN hb1 _)) H.out.lt⟩
          | false =>
            have hd0 : decide ((20 : Int) ≤ (m : Int)) = false := decide_eq_false (fun e => h20 ⟨rfl, by omega⟩)
            go_enter Try.func35, Try.ntmps35
            go_wp2_with (first
              | (go_at_call 68; refine (MY.out _).mono ?_; rintro e w2' ⟨rfl, rfl⟩)
              | (go_at_call 69; refine FI.out.mono ?_; rintro e w1 ⟨rfl, hb1⟩; have c0 := (H.out.below hb1).c0)
              | (go_at_call 70; refine (AL.out _ hb1).mono ?_; rintro e w2'' ⟨rfl, rfl⟩))
            go_ret
            exact ⟨rfl, ((H.out.below hb1).below (by first | exact Below.refl _ _ | exact below_drewN (Below.refl _ _) _)).ends (fun k e => .inl e) (Grow.of_below (by first | exact hb1 | exact below_drewN hb1 _)) H.out.lt⟩
      · have hd1 : decide ((4194304 : Int) < (S : Int) + (xn : Int)) = false := decide_eq_false (by omega)
        have hd0 : is = false → decide ((20 : Int) ≤ (m : Int)) = false := fun e => decide_eq_false (fun e2 => hf (.inl ⟨e, by omega⟩))
        have hE2 : E = workE D := by rw [HE1.out, if_neg hf]
        have hC2 : app D nm xs = work D (fun l => withF l ⟨nm, (fileAt l nm).bs ++ xs, (fileAt l nm).mark⟩) := by rw [HC1.out, if_neg hf]
        by_cases hl : D.left = 0
        · have hE : E = 71 := by rw [hE2]; unfold workE; rw [if_pos hl]
          have hC : app D nm xs = crash D D.keep := by rw [hC2, work_yes hl]
          rw [hE, hC]
          have FA := Lib.hid (fun V (hb : Below w.heap.size w V) => fails_yes V g D F Fb _ KA kn kc qs (H.out.below hb) hl)
          clear hl hE hC hE2 hC2 hf
          cases is with
          | true =>
            clear hd0
            go_enter Try.func35, Try.ntmps35
            go_wp2_with (first
              | (go_at_call 68; refine (MY.out _).mono ?_; rintro e w2' ⟨rfl, rfl⟩)
              | (go_at_call 69; refine FI.out.mono ?_; rintro e w1 ⟨rfl, hb1⟩; have c0 := (H.out.below hb1).c0)
              | (go_at_call 70; refine (AL.out _ hb1).mono ?_; rintro e w2'' ⟨rfl, rfl⟩)
              | (go_at_call 71; refine (FA.out _ hb1).mono ?_; rintro e w2 ⟨rfl, ht2⟩))
            go_ret
            exact ⟨rfl, turns_below hb1 ht2 H.out.lt⟩
          | false =>
            replace hd0 := hd0 rfl
            go_enter Try.func35, Try.ntmps35
            go_wp2_with (first
              | (go_at_call 68; refine (MY.out _).mono ?_; rintro e w2' ⟨rfl, rfl⟩)
              | (go_at_call 69; refine FI.out.mono ?_; rintro e w1 ⟨rfl, hb1⟩; have c0 := (H.out.below hb1).c0)
              | (go_at_call 70; refine (AL.out _ hb1).mono ?_; rintro e w2'' ⟨rfl, rfl⟩)
              | (go_at_call 71; refine (FA.out _ hb1).mono ?_; rintro e w2 ⟨rfl, ht2⟩))
            go_ret
            exact ⟨rfl, turns_below hb1 ht2 H.out.lt⟩
        · have hE : E = 0 := by rw [hE2]; unfold workE; rw [if_neg hl]
          obtain ⟨D', hD'⟩ : ∃ x, app D nm xs = x := ⟨_, rfl⟩
          have hC := hC2
          rw [work_no hl] at hC
          rw [hE, hD']
          have HC := Lib.hid (hD'.symm.trans hC)
          have FA := Lib.hid (fun V (hb : Below w.heap.size w V) => fails_no V g D F Fb _ KA kn kc qs (H.out.below hb) hl)
          obtain ⟨l1, hl1⟩ : ∃ x, (if 0 < D.left then D.left - 1 else D.left) = x := ⟨_, rfl⟩
          simp only [hl1] at FA
          have HL1 := Lib.hid hl1
          have hlo1 : -1 ≤ l1 := by have := H.out.ok.low; rw [← hl1]; split <;> omega
          have hhi1 : l1 ≤ 9223372036854775807 := by have := H.out.ok.high; rw [← hl1]; split <;> omega
          clear hl hE hC hE2 hC2 hD' hl1
          cases is with
          | true =>
            obtain ⟨b, m', cap', bs, mk, qA, qc, hq, hv, hgb, hm', hmc, hqe, hfa, hrf, hmk, hbl, ⟨hdl, hde⟩, _⟩ := H.out.file HP.out HI.out
            injection hv with hv1 hv2 hv3
            subst hv1 hv2 hv3
            obtain ⟨L, hL⟩ : ∃ L, bs.length = L := ⟨_, rfl⟩
            have HQE := Lib.hid hqe
            have HFA := Lib.hid hfa
            have hpI : (p : Int) < (m : Int) := by omega
            have hpI0 : (0 : Int) ≤ (p : Int) := by omega
            have hSx : S + xn ≤ 4194304 := by have h9 := of_decide_eq_false hd1; omega
            have hok : ({ D with l := withF D.l ⟨nm, bs ++ xs, mk⟩, left := l1 } : Dk).ok := ok_left (ok_with (f := ⟨nm, bs ++ xs, mk⟩) H.out.ok (by show mk ≤ (bs ++ xs).length; rw [List.length_append]; omega) (.inl HI.out) (by rw [if_pos HI.out, hfa]; show sum D.l + (bs ++ xs).length ≤ 4194304 + bs.length; rw [List.length_append, HS.out, HXL.out]; omega)) l1 hlo1 hhi1
            have HOK := Lib.hid hok
            have HL := Lib.hid hL
            rw [hL] at hbl hmk
            clear hd0 hqe hfa hrf hde hok hL hm'
            have hbd : L + xn ≤ 225000000000000 := by omega
            go_enter Try.func35, Try.ntmps35
            go_wp2_with (first
              | (go_at_call 68; refine (MY.out _).mono ?_; rintro e w2' ⟨rfl, rfl⟩)
              | (go_at_call 69; refine FI.out.mono ?_; rintro e w1 ⟨rfl, hb1⟩; have c0 := (H.out.below hb1).c0)
              | (go_at_call 70; refine (AL.out _ hb1).mono ?_; rintro e w2'' ⟨rfl, rfl⟩)
              | (go_at_call 71; refine (FA.out _ hb1).mono ?_; rintro e w2 ⟨rfl, hR2, hG2⟩; have hR2' := hR2.below ((Below.refl w2.heap.size w2).alloc (Nat.le_refl _) (.cells #[.string nm, .slice none 0 0, .int .i64 0] 97)); have y0 := hR2'.c0; obtain ⟨d0, d1, d2⟩ := hR2'.cells hq HQE.out; rw [HL.out] at d1; have hat := (hR2.bytes hq HQE.out).1; rw [HL.out] at hat; have HR2 := Lib.hid hR2; clear hR2 hR2'; have HX2 := Lib.hid (HX.out.moved hXF hb1 hG2); have hat3 := Lib.hid (hat.alloc (.cells #[.string nm, .slice qA L qc, .int .i64 (mk : Int)] 97)); clear hat)
              | (go_at_call 11; refine (copyBytes qA L qc bs _ hat3.out (by omega)).mono ?_; rintro e w4 ⟨v1, rfl, hown, hb4⟩; have hr4 := Lib.hid (ownLen hown HL.out); have HX4 := Lib.hid ((HX2.out.alloc (.cells #[.string nm, .slice qA L qc, .int .i64 (mk : Int)] 97)).below' hb4); have HB4 := Lib.hid hb4; have HS4 := Lib.hid hb4.size; clear hown hb4 hat3)
              | (at_builtin; refine wpList_app rfl _ _ 27 rfl (w2.alloc (.cells #[.string nm, .slice qA L qc, .int .i64 (mk : Int)] 97)).heap.size 5 Try.underlying27 info5 v1 L bs xs rfl hr4.out XA xn xc rfl HX4.out hbd HS4.out ?_; intro v5 w5 hr5 hg5 _;  have hLN : (bs ++ xs).length = L + xn := (lenApp HL.out HXL.out); have HB5 := Lib.hid (HB4.out.grown hg5 HB4.out.size (fun k e => (rowOwn hr4.out k e).1)); obtain ⟨A1, c1, rfl, hat5, hc5, hc5m, hin5⟩ := ownNew hLN hr5; obtain ⟨⟨u0, x0⟩, x1, ⟨y0', y1, y2⟩, x3, WB⟩ := append_mid H.out hb1 HR2.out hG2 HB5.out hat5 hc5 hc5m hin5 HOK.out; clear hat5 hin5 hr5 hLN)
              | (go_at_call 72; refine WB.mono ?_; rintro e w6 ⟨rfl, v6, qs6, Fb6, hR6, hG6⟩; have HR6 := Lib.hid hR6; have HG6 := Lib.hid hG6; clear hR6 hG6))
            go_ret
            have hFg := H.out.fg.1
            have hG := (Grow.of_below (F := F) hb1).trans (hG2.mono (fun k e => .inl e))
            have hGa := hG.trans (Grow.of_below ((Below.refl w2.heap.size w2).alloc (Nat.le_refl _) (.cells #[.string nm, .slice qA L qc, .int .i64 (mk : Int)] 97)))
            have hGb := hGa.trans (Grow.of_below HB5.out)
            have hGc := hGb.set (p := ⟨w2.heap.size, 1, none⟩) (.inr hG.size) (.slice A1 (L + xn) c1)
            have hGd := hGc.trans (HG6.out.mono (fun k e => .inl (e ▸ hFg)))
            rw [HC.out, HL1.out, HFA.out]
            refine ⟨rfl, HR6.out.ends (fun k e => ?_) hGd H.out.lt⟩
            have z1 := HG6.out.size
            have z2 := hGa.size
            have z3 := hGc.size
            rw [set_size] at z1 z3
            unfold nF at e ⊢
            rw [set_size] at e
            rcases e with (e | e) | e
            · exact .inl e
            · exact .inr (by omega)
            · exact .inr (by omega)
          | false =>
            replace hd0 := hd0 rfl
            have hm20' : m < 20 := by have := of_decide_eq_false hd0; omega
            have hfa : fileAt D.l nm = ⟨nm, [], 0⟩ := by unfold fileAt; rw [HI.out]; rfl
            have HFA := Lib.hid hfa
            have hok : ({ D with l := withF D.l ⟨nm, ([] : List UInt8) ++ xs, 0⟩, left := l1 } : Dk).ok := ok_left (ok_with (f := ⟨nm, ([] : List UInt8) ++ xs, 0⟩) H.out.ok (Nat.zero_le _) (.inr (by rw [← H.out.len, HM.out]; exact hm20')) (by rw [if_neg (by show ¬ isAt D.l nm = true; rw [HI.out]; decide)]; show sum D.l + ([] ++ xs).length ≤ 4194304 + 0; rw [List.nil_append, HS.out, HXL.out]; have := of_decide_eq_false hd1; omega)) l1 hlo1 hhi1
            have HOK := Lib.hid hok
            clear hfa hok
            have hbd : 0 + xn ≤ 225000000000000 := by omega
            go_enter Try.func35, Try.ntmps35
            go_wp2_with (first
              | (go_at_call 68; refine (MY.out _).mono ?_; rintro e w2' ⟨rfl, rfl⟩)
              | (go_at_call 69; refine FI.out.mono ?_; rintro e w1 ⟨rfl, hb1⟩; have c0 := (H.out.below hb1).c0)
              | (go_at_call 70; refine (AL.out _ hb1).mono ?_; rintro e w2'' ⟨rfl, rfl⟩)
              | (go_at_call 71; refine (FA.out _ hb1).mono ?_; rintro e w2 ⟨rfl, hR2, hG2⟩; have hat : At w2 none 0 ([] : List UInt8) := At.nil _ _; have HR2 := Lib.hid hR2; clear hR2; have HX2 := Lib.hid (HX.out.moved hXF hb1 hG2); have hat3 := Lib.hid (hat.alloc (.cells #[.string nm, .slice none 0 0, .int .i64 ((0 : Nat) : Int)] 97)); clear hat)
              | (go_at_call 11; refine (copyBytes none 0 0 ([] : List UInt8) _ hat3.out (by omega)).mono ?_; rintro e w4 ⟨v1, rfl, hown, hb4⟩; have hr4 := Lib.hid (ownLen hown rfl); have HX4 := Lib.hid ((HX2.out.alloc (.cells #[.string nm, .slice none 0 0, .int .i64 ((0 : Nat) : Int)] 97)).below' hb4); have HB4 := Lib.hid hb4; have HS4 := Lib.hid hb4.size; clear hown hb4 hat3)
              | (at_builtin; refine wpList_app rfl _ _ 27 rfl (w2.alloc (.cells #[.string nm, .slice none 0 0, .int .i64 ((0 : Nat) : Int)] 97)).heap.size 5 Try.underlying27 info5 v1 0 ([] : List UInt8) xs rfl hr4.out XA xn xc rfl HX4.out hbd HS4.out ?_; intro v5 w5 hr5 hg5 _; rw [Nat.zero_add] at hr5; have hLN : (([] : List UInt8) ++ xs).length = xn := HXL.out; have HB5 := Lib.hid (HB4.out.grown hg5 HB4.out.size (fun k e => (rowOwn hr4.out k e).1)); obtain ⟨A1, c1, rfl, hat5, hc5, hc5m, hin5⟩ := ownNew hLN hr5; obtain ⟨⟨u0, x0⟩, x1, ⟨y0', y1, y2⟩, x3, WB⟩ := append_mid H.out hb1 HR2.out hG2 HB5.out hat5 hc5 hc5m hin5 HOK.out; clear hat5 hin5 hr5 hLN)
              | (go_at_call 72; refine WB.mono ?_; rintro e w6 ⟨rfl, v6, qs6, Fb6, hR6, hG6⟩; have HR6 := Lib.hid hR6; have HG6 := Lib.hid hG6; clear hR6 hG6))
            go_ret
            have hFg := H.out.fg.1
            have hG := (Grow.of_below (F := F) hb1).trans (hG2.mono (fun k e => .inl e))
            have hGa := hG.trans (Grow.of_below ((Below.refl w2.heap.size w2).alloc (Nat.le_refl _) (.cells #[.string nm, .slice none 0 0, .int .i64 ((0 : Nat) : Int)] 97)))
            have hGb := hGa.trans (Grow.of_below HB5.out)
            have hGc := hGb.set (p := ⟨w2.heap.size, 1, none⟩) (.inr hG.size) (.slice A1 xn c1)
            have hGd := hGc.trans (HG6.out.mono (fun k e => .inl (e ▸ hFg)))
            rw [HC.out, HL1.out, HFA.out]
            refine ⟨rfl, HR6.out.ends (fun k e => ?_) hGd H.out.lt⟩
            have z1 := HG6.out.size
            have z2 := hGa.size
            have z3 := hGc.size
            rw [set_size] at z1 z3
            unfold nF at e ⊢
            rw [set_size] at e
            rcases e with (e | e) | e
            · exact .inl e
            · exact .inr (by omega)
            · exact .inr (by omega)
end Go.Proofs.Ytkhalpajomammaa

namespace Go.Proofs.Ytkhalpajomammaa
open Go.RowKit

/-- Texts that lie in memory. -/
def TAt (w : World) (A : Option Addr) (n : Nat) (xs : List ByteArray) : Prop :=
  xs.length = n ∧ (0 < n → ∃ b o, A = some ⟨b, o, none⟩ ∧ ∀ i, (h : i < xs.length) → w.cell? ⟨b, o + i, none⟩ = some (.string xs[i]))
theorem TAt.below {w w' : World} {A : Option Addr} {n : Nat} {xs : List ByteArray} (h : TAt w A n xs) (hb : Below w.heap.size w w') : TAt w' A n xs := by
  refine ⟨h.1, fun hn => ?_⟩
  obtain ⟨b, o, e, hc⟩ := h.2 hn
  exact ⟨b, o, e, fun i hi => (hb.cell (World.block_lt_of_cell? w _ (hc i hi))).trans (hc i hi)⟩
theorem infoT : (Try.prog.info? 9).map (fun i => (i.zero, i.size, i.bytes)) = some (some (.string ByteArray.empty), 1, 16) := by kernel_rfl
theorem rowTexts {w : World} {B n : Nat} {v : Value} {xs : List ByteArray} (hn : xs.length = n) (h : w.ownsRow B 9 1 v n (xs.map Value.string)) : ∃ A c, v = .slice A n c ∧ TAt w A n xs ∧ n ≤ c ∧ c ≤ 9223372036854775807 ∧ InF (fun k => B ≤ k ∧ k < w.heap.size) A := by
  subst hn
  rcases h.2 with ⟨rfl, hn0⟩ | ⟨q, cap, cur, rfl, hq, hh, hnc, hcm, hcs, htk⟩
  · obtain rfl : xs = [] := List.eq_nil_of_length_eq_zero hn0
    exact ⟨none, 0, rfl, ⟨rfl, fun h => absurd h (by simp)⟩, by simp, by omega, (fun a e => nomatch e)⟩
  · refine ⟨_, cap, rfl, ⟨rfl, fun _ => ⟨q, 0, rfl, fun j hj => ?_⟩⟩, hnc, hcm, fun a e => ?_⟩
    · rw [Nat.zero_add, h.cellAt j (by omega), List.getElem?_map, List.getElem?_eq_getElem hj]
      rfl
    · injection e with e
      subst e
      exact ⟨hq, (Array.getElem?_eq_some_iff.1 hh).1⟩
theorem text_one (w : World) (s : ByteArray) : ∀ j u, [Value.string s][j]? = some u → (w.alloc (.cells #[.string s] 9)).cell? ⟨w.heap.size, 0 + j, none⟩ = some u := by
  intro j u hu
  rw [Nat.zero_add, cell_of_row _ _ j _ _ (0, 0) (heap_alloc_new w _)]
  simpa using hu

set_option maxRecDepth 100000 in
set_option maxHeartbeats 8000000 in
theorem names_ok (w : World) (g : Nat) (D : Dk) (F : Nat → Prop) (h : RDk w g D F) :
    Calls Try.prog 45 #[pt g] w fun e w' => ∃ A c, e = .returned (.slice A (nms D).length c) ∧ TAt w' A (nms D).length (nms D) ∧ (nms D).length ≤ c ∧ c ≤ 9223372036854775807 ∧ InF (fun k => w.heap.size ≤ k ∧ k < w'.heap.size) A ∧ Below w.heap.size w w' := by
  obtain ⟨Fb, v, KA, kn, kc, qs, h⟩ := h
  obtain ⟨A0, cap, rfl, hcap, hcapm, _, hcell⟩ := h.list.form
  have c0 := h.c0
  have c1 := h.c1
  obtain ⟨dd, hd⟩ : ∃ b, D.dead = b := ⟨_, rfl⟩
  rw [hd] at c1
  obtain ⟨m, hm⟩ : ∃ x, qs.length = x := ⟨_, rfl⟩
  have hlen := h.len
  have hfew := h.ok.few
  have hm20 : m ≤ 20 := by omega
  rw [hm] at c0 hcap
  have HM := Lib.hid hm
  have H := Lib.hid h
  have HD := Lib.hid hd
  have HCE := Lib.hid hcell
  have HLEN := Lib.hid hlen
  have hgl := h.lt g h.fg.1
  obtain ⟨i0, hi0, hz, hsz, hby⟩ := info_parts infoT
  clear h hd hm hcell hlen hfew
  cases dd with
  | true =>
    have hN : nms D = [] := by unfold nms; rw [HD.out]; rfl
    rw [hN]
    by_cases h0 : 0 < m
    · go_enter Try.func45, Try.ntmps45
      go_wp2_with fail
      go_loopw [3, 4] (fun ov iv wr => ov = .slice none 0 0 ∧ iv = .int .i64 0 ∧ wr = w) (fun _ _ _ => 0)
      case atStart => exact ⟨rfl, rfl, rfl⟩
      case round =>
        obtain ⟨rfl, rfl, rfl⟩ := hrel
        go_wp2
        go_ret
        exact ⟨none, 0, rfl, ⟨rfl, fun h => absurd h (by simp)⟩, by simp, by omega, (fun a e => nomatch e), Below.refl _ _⟩
    · go_enter Try.func45, Try.ntmps45
      go_wp2_with fail
      go_loopw [3, 4] (fun ov iv wr => ov = .slice none 0 0 ∧ iv = .int .i64 0 ∧ wr = w) (fun _ _ _ => 0)
      case atStart => exact ⟨rfl, rfl, rfl⟩
      case round =>
        obtain ⟨rfl, rfl, rfl⟩ := hrel
        go_wp2
        go_ret
        exact ⟨none, 0, rfl, ⟨rfl, fun h => absurd h (by simp)⟩, by simp, by omega, (fun a e => nomatch e), Below.refl _ _⟩
  | false =>
    have hN : nms D = D.l.map Fl.name := by unfold nms; rw [HD.out]; rfl
    obtain ⟨ns, hns⟩ : ∃ x, nms D = x := ⟨_, rfl⟩
    rw [hns]
    have HNS := Lib.hid (hns.symm.trans hN)
    clear hN hns
    go_enter Try.func45, Try.ntmps45
    go_wp2_with fail
    go_loopw [3, 4] (fun ov iv wr => ∃ i : Nat, i ≤ m ∧ iv = .int .i64 i ∧ Hid (wr.ownsRow w.heap.size 9 1 ov i ((ns.take i).map Value.string)) ∧ Hid (Below w.heap.size w wr)) (fun _ iv _ => m - (intOf iv).toNat)
    case atStart => exact ⟨0, Nat.zero_le _, rfl, Lib.hid (World.ownsRow_nil _ _ _ _), Lib.hid (Below.refl _ _)⟩
    case round =>
      obtain ⟨i, hi, rfl, hrow, hB⟩ := hrel
      have hRx := H.out.below hB.out
      have x0 := hRx.c0
      have x1 := hRx.c1
      rw [HD.out] at x1
      rw [HM.out] at x0
      clear c0 c1
      by_cases hlt : i < m
      · have hq : i < qs.length := by rw [HM.out]; exact hlt
        obtain ⟨b, rfl, hFb, hnb, hcl⟩ := HCE.out (by rw [HM.out]; omega)
        have d0 := (hB.out.cell (World.block_lt_of_cell? w _ (hcl i hq).1)).trans (hcl i hq).1
        obtain ⟨nm, hnm⟩ : ∃ x, qs[i].f.name = x := ⟨_, rfl⟩
        rw [hnm] at d0
        have hil : i < D.l.length := by rw [← HLEN.out]; exact hq
        have hin : i < ns.length := by rw [HNS.out, List.length_map]; exact hil
        have hne : ns[i] = nm := by
          have h1 : ns[i] = (D.l.map Fl.name)[i]'(by rw [List.length_map]; exact hil) := by simp only [HNS.out]
          rw [h1, List.getElem_map, H.out.get hq, hnm]
        have HT := Lib.hid (show (ns.take i).map Value.string ++ [Value.string nm] = (ns.take (i + 1)).map Value.string by rw [List.take_succ_eq_append_getElem hin, List.map_append, hne]; rfl)
        have hr2 := Lib.hid (hrow.out.alloc (.cells #[.string nm] 9))
        have hB2 := Lib.hid (hB.out.alloc hB.out.size (.cells #[.string nm] 9))
        have hs2 := Lib.hid hB2.out.size
        have hn2 := Lib.hid (show 0 < 1 → ∃ b o, (some (⟨wr.heap.size, 0, none⟩ : Addr)) = some ⟨b, o, none⟩ ∧ ∀ j u, [Value.string nm][j]? = some u → (wr.alloc (.cells #[.string nm] 9)).cell? ⟨b, o + j, none⟩ = some u from fun _ => ⟨_, 0, rfl, text_one wr nm⟩)
        have ho2 := Lib.hid (show ∀ u ∈ [Value.string nm], u.oneCell' = true from fun u hu => by obtain rfl := List.mem_singleton.1 hu; rfl)
        have hm63 : i + 1 ≤ maxLen := by unfold maxLen; omega
        have hb16 : (i + 1) * 16 ≤ 140737488355328 := by omega
        clear hnm hne hrow hin hcl hRx hFb hnb
        go_wp2_with (at_builtin; refine wpList_appV rfl _ _ 54 rfl w.heap.size 9 i0 (.string ByteArray.empty) 1 16 Try.underlying54 hi0 hz hsz hby rfl (by decide) u3 i ((ns.take i).map Value.string) rfl hr2.out (some ⟨wr.heap.size, 0, none⟩) 1 1 [.string nm] rfl rfl hn2.out ho2.out hm63 hb16 hs2.out ?_; intro v5 w5 hr5 hg5; have HR5 := Lib.hid hr5; have HB5 := Lib.hid (hB2.out.grown hg5 hB2.out.size (fun k e => (rowOwn hr2.out k e).1)); clear hr5 hg5)
        go_roundw
        case rel => exact ⟨i + 1, by omega, by go_num, Lib.hid (by rw [← HT.out]; exact HR5.out), HB5⟩
        case measure => simp [intOf]; omega
      · have him : i = m := by omega
        have hr3 := hrow.out
        rw [List.take_of_length_le (by rw [HNS.out, List.length_map, ← HLEN.out, HM.out]; omega)] at hr3
        obtain ⟨A1, cc, rfl, h1, h2, h3, h4⟩ := rowTexts (xs := ns) (by rw [HNS.out, List.length_map, ← HLEN.out, HM.out]; omega) hr3
        have H1 := Lib.hid h1
        have HL := Lib.hid h1.1
        clear h1 hr3 hrow him
        go_wp2
        go_ret
        rw [HL.out]
        exact ⟨A1, cc, rfl, H1.out, h2, h3, h4, hB.out⟩
end Go.Proofs.Ytkhalpajomammaa
