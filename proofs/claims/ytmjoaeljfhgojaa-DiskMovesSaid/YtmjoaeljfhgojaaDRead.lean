/-
  Layer 7: the document's disk: Read, Size, Fail, Crash of any numbers; CopyInts.
-/
import Derived.Test.YtmjoaeljfhgojaaDCut
set_option linter.unusedVariables false
namespace Go.Proofs.Ytmjoaeljfhgojaa
open Go.RowKit

/-- What a call hands back: bytes in new memory. -/
def NewBytes (w w' : World) (v : Value) (xs : List UInt8) : Prop := Own w' w.heap.size v xs
theorem NewBytes.nil (w w' : World) : NewBytes w w' (.slice none 0 0) [] := World.ownsRow_nil _ _ _ _
theorem NewBytes.form {w w' : World} {v : Value} {xs : List UInt8} (h : NewBytes w w' v xs) : ∃ A c, v = .slice A xs.length c ∧ At w' A xs.length xs ∧ xs.length ≤ c ∧ c ≤ 9223372036854775807 ∧ InF (fun k => w.heap.size ≤ k ∧ k < w'.heap.size) A := by
  obtain ⟨A, c, e, h1, h2, h3, _⟩ := Own.form h
  refine ⟨A, c, e, h1, h2, h3, fun a ea => ?_⟩
  subst e
  subst ea
  exact World.ownsRow.lt h _ rfl

set_option maxHeartbeats 8000000 in
theorem read_ok (w : World) (g : Nat) (D : Dk) (F : Nat → Prop) (nm : ByteArray) (h : RDk w g D F) :
    Calls Try.prog 46 #[pt g, .string nm] w fun e w' => ∃ v, e = .returned (.tuple #[v, .int .i64 (rdE D nm)]) ∧ NewBytes w w' v (rdB D nm) ∧ Below w.heap.size w w' := by
  obtain ⟨Fb, v, KA, kn, kc, qs, h⟩ := h
  have FI := Lib.hid (find_ok w g D F nm ⟨Fb, v, KA, kn, kc, qs, h⟩)
  obtain ⟨p, hp⟩ : ∃ p, pos D.l nm = p := ⟨_, rfl⟩
  obtain ⟨is, his⟩ : ∃ b, isAt D.l nm = b := ⟨_, rfl⟩
  obtain ⟨dd, hd⟩ : ∃ b, D.dead = b := ⟨_, rfl⟩
  have c1 := h.c1
  rw [hp, his] at FI
  rw [hd] at c1
  have HP := Lib.hid hp
  have HI := Lib.hid his
  have HD := Lib.hid hd
  have H := Lib.hid h
  clear h hp his hd
  cases dd with
  | true =>
    have hE : rdE D nm = 71 := by unfold rdE nmE; rw [HD.out]; rfl
    have hB : rdB D nm = [] := by unfold rdB nmE; rw [HD.out]; rfl
    rw [hE, hB]
    go_enter Try.func46, Try.ntmps46
    go_wp2_with fail
    go_ret2
    exact ⟨_, rfl, NewBytes.nil _ _, Below.refl _ _⟩
  | false =>
    cases is with
    | false =>
      have hE : rdE D nm = 70 := by unfold rdE nmE; rw [HD.out, HI.out]; rfl
      have hB : rdB D nm = [] := by unfold rdB nmE; rw [HD.out, HI.out]; rfl
      rw [hE, hB]
      go_enter Try.func46, Try.ntmps46
      go_wp2_with (first | (go_at_call 69; refine FI.out.mono ?_; rintro e w1 ⟨rfl, hb1⟩))
      go_ret2
      exact ⟨_, rfl, NewBytes.nil _ _, hb1⟩
    | true =>
      have hN : nmE D nm = 0 := by unfold nmE; rw [HD.out, HI.out]; rfl
      obtain ⟨b, m, cap, bs, mk, qA, qc, hq, rfl, hgb, hm, hmc, hqe, hfa, hrf, hmk, hbl, ⟨hdl, hde⟩, hm20⟩ := H.out.file HP.out HI.out
      have hE : rdE D nm = 0 := hN
      have hB : rdB D nm = bs := by unfold rdB; rw [hN, if_pos rfl, hfa]
      rw [hE, hB]
      obtain ⟨L, hL⟩ : ∃ L, bs.length = L := ⟨_, rfl⟩
      have HQE := Lib.hid hqe
      have HL := Lib.hid hL
      have hpI : (p : Int) < (m : Int) := by omega
      have hpI0 : (0 : Int) ≤ (p : Int) := by omega
      have HCL := Lib.hid (fun V (hb : Below w.heap.size w V) => (H.out.below hb).cells hq HQE.out)
      have HAT := Lib.hid (fun V (hb : Below w.heap.size w V) => ((H.out.below hb).bytes hq HQE.out).1)
      rw [hL] at HCL HAT hbl
      clear hN hE hB hm hqe hfa hrf hde hL hmk
      go_enter Try.func46, Try.ntmps46
      go_wp2_with (first
        | (go_at_call 69; refine FI.out.mono ?_; rintro e w1 ⟨rfl, hb1⟩; have c0 := (H.out.below hb1).c0; obtain ⟨d0, d1, d2⟩ := HCL.out _ hb1; have hat := HAT.out _ hb1)
        | (go_at_call 11; refine (copyBytes qA L qc bs _ hat (by omega)).mono ?_; rintro e w3 ⟨v1, rfl, hown, hb3⟩))
      go_ret2
      exact ⟨_, rfl, hown.base hb1.size, hb1.trans (hb3.mono hb1.size)⟩

set_option maxHeartbeats 4000000 in
theorem size_ok (w : World) (g : Nat) (D : Dk) (F : Nat → Prop) (nm : ByteArray) (h : RDk w g D F) :
    Calls Try.prog 47 #[pt g, .string nm] w fun e w' => e = .returned (.tuple #[.int .i64 ((rdB D nm).length : Nat), .int .i64 (rdE D nm)]) ∧ Below w.heap.size w w' := by
  have RD := Lib.hid (read_ok w g D F nm h)
  obtain ⟨x, hx⟩ : ∃ x, rdE D nm = x := ⟨_, rfl⟩
  obtain ⟨xs, hxs⟩ : ∃ x, rdB D nm = x := ⟨_, rfl⟩
  rw [hx, hxs] at RD ⊢
  obtain ⟨L, hL⟩ : ∃ L, xs.length = L := ⟨_, rfl⟩
  rw [hL]
  have HL := Lib.hid hL
  clear hx hxs h hL
  go_enter Try.func47, Try.ntmps47
  go_wp2_with (first | (go_at_call 46; refine RD.out.mono ?_; rintro e w1 ⟨v, rfl, hnb, hb1⟩; obtain ⟨A, c, rfl, _, _, _, _⟩ := hnb.form; rw [HL.out]))
  go_ret2
  exact ⟨rfl, hb1⟩

theorem IAt.keepB {w w' : World} {A : Option Addr} {n : Nat} {xs : List Int} (h : IAt w A n xs) (hb : Below w.heap.size w w') : IAt w' A n xs := by
  refine ⟨h.1, fun hn => ?_⟩
  obtain ⟨b, o, e, hc⟩ := h.2 hn
  exact ⟨b, o, e, fun i hi => (hb.cell (World.block_lt_of_cell? w _ (hc i hi))).trans (hc i hi)⟩
theorem infoI : (Try.prog.info? 3).map (fun i => (i.zero, i.size, i.bytes)) = some (some (.int .i64 0), 1, 8) := by kernel_rfl
set_option maxHeartbeats 4000000 in
theorem copyI (A : Option Addr) (n c : Nat) (xs : List Int) (w : World) (hx : IAt w A n xs) (hn : n ≤ 17592186044416) :
    Calls Try.prog 12 #[.slice A n c] w fun e w' => ∃ A' c', e = .returned (.slice A' n c') ∧ IAt w' A' n xs ∧ n ≤ c' ∧ c' ≤ 9223372036854775807 ∧ InF (fun k => w.heap.size ≤ k ∧ k < w'.heap.size) A' ∧ Below w.heap.size w w' := by
  obtain ⟨i, hi, hz, hsz, hby⟩ := info_parts infoI
  have hl := hx.1
  have HX := Lib.hid (show 0 < n → ∃ b o, A = some ⟨b, o, none⟩ ∧ ∀ j u, (xs.map (Value.int .i64))[j]? = some u → w.cell? ⟨b, o + j, none⟩ = some u from fun h => by
    obtain ⟨b, o, e, hc⟩ := hx.2 h
    refine ⟨b, o, e, fun j u hj => ?_⟩
    have hj2 : j < xs.length := by simpa using (List.getElem?_eq_some_iff.1 hj).1
    rw [hc j hj2, ← hj]
    simp [List.getElem?_eq_getElem hj2])
  have HO := Lib.hid (show ∀ u ∈ xs.map (Value.int .i64), u.oneCell' = true from fun u hu => by obtain ⟨z, _, rfl⟩ := List.mem_map.1 hu; rfl)
  have HN := Lib.hid (World.ownsRow_nil w w.heap.size 3 1)
  have HLL := Lib.hid (show (xs.map (Value.int .i64)).length = n * 1 by simp [hl])
  have hm : 0 + n ≤ maxLen := by unfold maxLen; omega
  have hb8 : (0 + n) * 8 ≤ 140737488355328 := by omega
  clear hx
  go_enter Try.func12, Try.ntmps12
  go_wp2_with (at_builtin; refine wpList_appV rfl _ _ 28 rfl w.heap.size 3 i (.int .i64 0) 1 8 Try.underlying28 hi hz hsz hby rfl (by decide) (.slice none 0 0) 0 [] rfl HN.out A n c (xs.map (Value.int .i64)) rfl HLL.out HX.out HO.out hm hb8 (Nat.le_refl _) ?_; intro v' w' hr hg; have hr' := Lib.hid hr; clear hr)
  go_ret
  have hr := hr'.out
  rw [Nat.zero_add, List.nil_append] at hr
  have hb : Below w.heap.size w w' := ⟨hg.os, hg.tape, hg.output, hg.size, fun k hk => hg.block k hk (by simp [Value.ownBlock])⟩
  rcases hr.2 with ⟨rfl, hn0⟩ | ⟨q, cap, cur, rfl, hq, hh, hnc, hcm, hcs, htk⟩
  · subst hn0
    obtain rfl : xs = [] := List.eq_nil_of_length_eq_zero hl
    exact ⟨none, 0, rfl, IAt.nil _ _, by omega, by omega, (fun a e => nomatch e), hb⟩
  · refine ⟨_, cap, rfl, ⟨hl, fun _ => ⟨q, 0, rfl, fun j hj => ?_⟩⟩, hnc, hcm, fun a e => ?_, hb⟩
    · rw [Nat.zero_add, hr.cellAt j (by omega), List.getElem?_map, List.getElem?_eq_getElem hj]
      rfl
    · injection e with e
      subst e
      exact ⟨hq, (Array.getElem?_eq_some_iff.1 hh).1⟩

theorem crash_ok (w : World) (g : Nat) (D : Dk) (F : Nat → Prop) (A : Option Addr) (n c : Nat) (keep : List Int) (h : RDk w g D F) (hK : IAt w A n keep) (hKF : InF (fun k => k < w.heap.size ∧ ¬ F k) A) (hnc : n ≤ c) (hc : c ≤ 9223372036854775807) :
    Calls Try.prog 40 #[pt g, .slice A n c] w fun e w' => e = .returned (.tuple #[]) ∧ Turns RDk w g F (crash D keep) w' := by
  obtain ⟨Fb, v, KA, kn, kc, qs, h⟩ := h
  exact crash_b w g D F Fb v KA kn kc qs A n c keep h hK (fun a e => ⟨(hKF a e).1, fun e2 => (hKF a e).2 (e2 ▸ h.fg.1), fun e2 => (hKF a e).2 (h.list.own _ e2).1⟩) hnc hc

set_option maxHeartbeats 4000000 in
theorem fail_ok (w : World) (g : Nat) (D : Dk) (F : Nat → Prop) (k : Int) (A : Option Addr) (n c : Nat) (keep : List Int) (hk1 : -9223372036854775808 ≤ k) (hk2 : k ≤ 9223372036854775807) (h : RDk w g D F) (hK : IAt w A n keep) (hKF : InF (fun k => ¬ F k) A) (hn : n ≤ 17592186044416) :
    Calls Try.prog 41 #[pt g, .int .i64 k, .slice A n c] w fun e w' => e = .returned (.tuple #[]) ∧ Turns RDk w g F (fal D k keep) w' := by
  obtain ⟨Fb, v, KA, kn, kc, qs, h⟩ := h
  have c1 := h.c1
  have c2 := h.c2
  have c3 := h.c3
  have z2 := h.fz 2
  obtain ⟨dd, hd⟩ : ∃ b, D.dead = b := ⟨_, rfl⟩
  rw [hd] at c1
  have HD := Lib.hid hd
  have H := Lib.hid h
  have hgl := h.lt g h.fg.1
  cases dd with
  | true =>
    have hC : fal D k keep = D := by unfold fal; rw [HD.out]; rfl
    rw [hC]
    clear h hd
    go_enter Try.func41, Try.ntmps41
    go_wp2_with fail
    first | go_end0 | (refine bodyPost_ret (results_none rfl _ _ _) rfl ?_)
    exact ⟨rfl, H.out.ends (fun k e => .inl e) (Grow.refl _ _) H.out.lt⟩
  | false =>
    have hC : fal D k keep = { D with left := max k (-1), keep := keep } := by unfold fal; rw [HD.out]; rfl
    obtain ⟨D', hD'⟩ : ∃ x, fal D k keep = x := ⟨_, rfl⟩
    rw [hD']
    have HC := Lib.hid (hD'.symm.trans hC)
    obtain ⟨l1, hl1⟩ : ∃ x, max k (-1) = x := ⟨_, rfl⟩
    have hlo : -1 ≤ l1 := by rw [← hl1]; omega
    have hhi : l1 ≤ 9223372036854775807 := by rw [← hl1]; omega
    have HL1 := Lib.hid hl1
    have h2 := h.setLeft l1 hlo hhi
    have H2 := Lib.hid h2
    have hK2 : IAt (w.setCell ⟨g, 2, none⟩ (.int .i64 l1)) A n keep := hK.on hKF (fun k e => set_blk w g 2 _ (fun e2 => e (e2 ▸ h.fg.1)))
    have CI := Lib.hid (copyI A n c keep _ hK2 hn)
    clear h hd hC hD' h2 hK hK2
    go_enter Try.func41, Try.ntmps41
    go_wp2_with (first | (go_at_call 12; refine CI.out.mono ?_; rintro e w2 ⟨A1, c1', rfl, hi1, hc1b, hc1m, hin1, hb2⟩; have h3 := H2.out.grow hb2; have y3 := h3.c3; have x3 := h3.fz 3; have H3 := Lib.hid h3; clear h3))
    first | go_end0 | (refine bodyPost_ret (results_none rfl _ _ _) rfl ?_)
    have h3 := H3.out
    have h4 := h3.field 3 (.slice A1 n c1') (D' := { D with left := l1, keep := keep }) (A' := A1) (n' := n) (c' := c1') rfl h3.eq h3.list hi1 (fun a e => .inr (hin1 a e)) ⟨hc1b, hc1m⟩ h3.fg.2.2 ⟨h3.ok.sorted, h3.ok.marks, h3.ok.few, h3.ok.sum, hlo, hhi⟩
    have hFg := H.out.fg.1
    have hG1 : Grow F w (w.setCell ⟨g, 2, none⟩ (.int .i64 l1)) := (Grow.refl F w).set (p := ⟨g, 2, none⟩) (.inl hFg) _
    have hG := (hG1.trans (Grow.of_below hb2)).set (p := ⟨g, 3, none⟩) (.inl hFg) (.slice A1 n c1')
    rw [HC.out, HL1.out]
    refine ⟨rfl, h4.ends (fun k e => ?_) hG H.out.lt⟩
    unfold nF at e ⊢
    rw [set_size] at e ⊢
    exact e
end Go.Proofs.Ytmjoaeljfhgojaa
