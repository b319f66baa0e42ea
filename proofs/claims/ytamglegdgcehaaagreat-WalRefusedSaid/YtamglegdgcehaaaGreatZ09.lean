/-
  Layer 7: the document's disk: Cut.
  Layer 7: the document's disk: Read, Size, Fail, Crash of any numbers; CopyInts.
  Layer 7: the document's disk: Append.
  Layer 7: the document's disk: Names.
  Layer 7: the document's disk: Turn.
  Layer 7: what the code's disk owes, as the statements' walks take it: over whatever way it lies in memory (R: the world, its block, what it is, its blocks).
  Layer 7: numbers of the walk's own.
  Layer 7: the code's disk in a walk of its own: each call takes it one step further.
-/
import Derived.Test.YtamglegdgcehaaaGreatZ08
import Derived.Lib.MinMax
import Derived.Laws.BitsAllLaws
set_option linter.unusedVariables false
namespace Go.Proofs.YtamglegdgcehaaaGreat
open Go.RowKit

set_option maxRecDepth 100000 in
set_option maxHeartbeats 8000000 in
theorem cut_ok (w : World) (g : Nat) (D : Dk) (F : Nat → Prop) (nm : ByteArray) (k : Int) (hk64 : -9223372036854775808 ≤ k ∧ k ≤ 9223372036854775807) (h : RDk w g D F) :
    Calls Tryz.prog 152 #[pt g, .string nm, .int .i64 k] w fun e w' => e = .returned (.int .i64 (cutE D nm k)) ∧ Turns RDk w g F (cut D nm k) w' := by
  obtain ⟨Fb, v, KA, kn, kc, qs, h⟩ := h
  have FI := Lib.hid (find_ok w g D F nm ⟨Fb, v, KA, kn, kc, qs, h⟩)
  obtain ⟨p, hp⟩ : ∃ p, pos D.l nm = p := ⟨_, rfl⟩
  obtain ⟨is, his⟩ : ∃ b, isAt D.l nm = b := ⟨_, rfl⟩
  obtain ⟨dd, hd⟩ : ∃ b, D.dead = b := ⟨_, rfl⟩
  have c1 := h.c1
  rw [hp, his] at FI
  rw [hd] at c1
  have HP := Lib.hid hp
  have HI := Lib.hid his
  have HD := Lib.hid hd
  have H := Lib.hid h
  clear h hp his hd
  cases dd with
  | true =>
    have hE : cutE D nm k = 71 := by unfold cutE nmE; rw [HD.out]; rfl
    have hC : cut D nm k = D := by unfold cut nmE; rw [HD.out]; rfl
    rw [hE, hC]
    go_enter Tryz.func152, Tryz.ntmps152
    go_wp2_with fail
    go_ret
    exact ⟨rfl, H.out.ends (fun k e => .inl e) (Grow.refl _ _) H.out.lt⟩
  | false =>
    cases is with
    | false =>
      have hE : cutE D nm k = 70 := by unfold cutE nmE; rw [HD.out, HI.out]; rfl
      have hC : cut D nm k = D := by unfold cut nmE; rw [HD.out, HI.out]; rfl
      rw [hE, hC]
      go_enter Tryz.func152, Tryz.ntmps152
      go_wp2_with (first | (go_at_call 59; refine FI.out.mono ?_; rintro e w1 ⟨rfl, hb1⟩))
      go_ret
      exact ⟨rfl, (H.out.below hb1).ends (fun k e => .inl e) (Grow.of_below hb1) H.out.lt⟩
    | true =>
      have hN : nmE D nm = 0 := by unfold nmE; rw [HD.out, HI.out]; rfl
      obtain ⟨b, m, cap, bs, mk, qA, qc, hq, rfl, hgb, hm, hmc, hqe, hfa, hrf, hmk, hbl, ⟨hdl, hde⟩, hm20⟩ := H.out.file HP.out HI.out
      obtain ⟨L, hL⟩ : ∃ L, bs.length = L := ⟨_, rfl⟩
      have HQE := Lib.hid hqe
      have HL := Lib.hid hL
      have hpI : (p : Int) < (m : Int) := by omega
      have hpI0 : (0 : Int) ≤ (p : Int) := by omega
      have HCL := Lib.hid (fun V (hb : Below w.heap.size w V) => (H.out.below hb).cells hq HQE.out)
      rw [hL] at HCL hbl hmk
      by_cases hr : k < 0 ∨ (L : Int) < k
      · have hr' : k < 0 ∨ ((fileAt D.l nm).bs.length : Int) < k := by rw [hfa]; show k < 0 ∨ (bs.length : Int) < k; rw [hL]; exact hr
        have hE : cutE D nm k = 9 := by unfold cutE; rw [hN, if_pos rfl, if_pos hr']
        have hC : cut D nm k = D := by unfold cut; rw [hN, if_pos rfl, if_pos hr']
        rw [hE, hC]
        clear hE hC hN hr' hL hm hqe hfa hrf hde
        by_cases h0 : k < 0
        · have hd0 : decide (k < 0) = true := decide_eq_true h0
          go_enter Tryz.func152, Tryz.ntmps152
          go_wp2_with (first
            | (go_at_call 59; refine FI.out.mono ?_; rintro e w1 ⟨rfl, hb1⟩))
          first | go_ret | (go_quiet (fail); go_wp2_with fail; go_ret)
          exact ⟨rfl, ((H.out.below hb1).below (by first | exact Below.refl _ _ | exact below_drewN (Below.refl _ _) _)).ends (fun k e => .inl e) (Grow.of_below (by first | exact hb1 | exact below_drewN hb1 _)) H.out.lt⟩
        · have hd0 : decide (k < 0) = false := decide_eq_false h0
          have h1 : (L : Int) < k := hr.resolve_left h0
          have hd1 : decide ((L : Int) < k) = true := decide_eq_true h1
          go_enter Tryz.func152, Tryz.ntmps152
          go_wp2_with (first
            | (go_at_call 59; refine FI.out.mono ?_; rintro e w1 ⟨rfl, hb1⟩; have c0 := (H.out.below hb1).c0; obtain ⟨d0, d1, d2⟩ := HCL.out _ hb1))
          first | go_ret | (go_quiet (fail); go_wp2_with fail; go_ret)
          exact ⟨rfl, ((H.out.below hb1).below (by first | exact Below.refl _ _ | exact below_drewN (Below.refl _ _) _)).ends (fun k e => .inl e) (Grow.of_below (by first | exact hb1 | exact below_drewN hb1 _)) H.out.lt⟩
      · have hr' : ¬ (k < 0 ∨ ((fileAt D.l nm).bs.length : Int) < k) := by rw [hfa]; show ¬ (k < 0 ∨ (bs.length : Int) < k); rw [hL]; exact hr
        have hd0 : decide (k < 0) = false := decide_eq_false (by omega)
        have hd1 : decide ((L : Int) < k) = false := decide_eq_false (by omega)
        by_cases hl : D.left = 0
        · have hE : cutE D nm k = 71 := by unfold cutE workE; rw [hN, if_pos rfl, if_neg hr', if_pos hl]
          have hC : cut D nm k = crash D D.keep := by unfold cut; rw [hN, if_pos rfl, if_neg hr', work_yes hl]
          rw [hE, hC]
          have FA := Lib.hid (fun V (hb : Below w.heap.size w V) => fails_yes V g D F Fb _ KA kn kc qs (H.out.below hb) hl)
          clear hl hN hE hC hr hr' hL hm hqe hfa hrf hde
          go_enter Tryz.func152, Tryz.ntmps152
          go_wp2_with (first
            | (go_at_call 59; refine FI.out.mono ?_; rintro e w1 ⟨rfl, hb1⟩; have c0 := (H.out.below hb1).c0; obtain ⟨d0, d1, d2⟩ := HCL.out _ hb1)
            | (go_at_call 61; refine (FA.out _ hb1).mono ?_; rintro e w2 ⟨rfl, ht2⟩))
          go_ret
          exact ⟨rfl, turns_below hb1 ht2 H.out.lt⟩
        · obtain ⟨K, rfl⟩ : ∃ K : Nat, k = (K : Int) := ⟨k.toNat, by omega⟩
          have hKL : K ≤ L := by omega
          have hE : cutE D nm (K : Int) = 0 := by unfold cutE workE; rw [hN, if_pos rfl, if_neg hr', if_neg hl]
          have hC : cut D nm (K : Int) = { D with l := D.l.set p ⟨nm, bs.take K, min mk K⟩, left := if 0 < D.left then D.left - 1 else D.left } := by unfold cut; rw [hN, if_pos rfl, if_neg hr', work_no hl]; unfold setAt; rw [HP.out, hfa]; rfl
          obtain ⟨D', hD'⟩ : ∃ x, cut D nm (K : Int) = x := ⟨_, rfl⟩
          rw [hE, hD']
          have HC := Lib.hid (hD'.symm.trans hC)
          have FA := Lib.hid (fun V (hb : Below w.heap.size w V) => fails_no V g D F Fb _ KA kn kc qs (H.out.below hb) hl)
          obtain ⟨l1, hl1⟩ : ∃ x, (if 0 < D.left then D.left - 1 else D.left) = x := ⟨_, rfl⟩
          simp only [hl1] at FA
          have HL1 := Lib.hid hl1
          have hlow := H.out.ok.low
          have hhigh := H.out.ok.high
          have hlo1 : -1 ≤ l1 := by rw [← hl1]; split <;> omega
          have hhi1 : l1 ≤ 9223372036854775807 := by rw [← hl1]; split <;> omega
          obtain ⟨bt, hbt⟩ : ∃ x, bs.take K = x := ⟨_, rfl⟩
          have HTL := Lib.hid (show bt.length = K by rw [← hbt, List.length_take, hL]; omega)
          have HBT := Lib.hid hbt
          have hFb := (H.out.list.own b rfl).1
          have HDE := Lib.hid hde
          have hM2 : min mk K ≤ K := Nat.min_le_right _ _
          obtain ⟨M2, hm2⟩ : ∃ x, min mk K = x := ⟨_, rfl⟩
          have hmin : min (mk : Int) (K : Int) = (M2 : Int) := by rw [← hm2]; omega
          rw [hm2] at hM2
          have HM2 := Lib.hid hm2
          have hcapq : L ≤ qc := by have := hrf.cap; rw [← hL]; exact this
          have hSL := fun W : World => by simpa using slb_h qA L qc .i64 (K : Int) W (by omega) (by omega)
          have hkI0 : (0 : Int) ≤ (K : Int) := by omega
          clear hr hr' hd0 hd1 hl hN hE hC hqe hfa hrf hde hm hD' hl1 hL hbt hm2
          have hd0 : decide ((K : Int) < 0) = false := decide_eq_false (by omega)
          have hd1 : decide ((L : Int) < (K : Int)) = false := decide_eq_false (by omega)
          go_enter Tryz.func152, Tryz.ntmps152
          go_wp2_with (first
            | (go_at_call 59; refine FI.out.mono ?_; rintro e w1 ⟨rfl, hb1⟩; have c0 := (H.out.below hb1).c0; obtain ⟨d0, d1, d2⟩ := HCL.out _ hb1)
            | (go_at_call 61; refine (FA.out _ hb1).mono ?_; rintro e w2 ⟨rfl, hR2, hG2⟩; have y0 := hR2.c0; obtain ⟨e0, e1, e2⟩ := hR2.cells hq HQE.out; rw [HL.out] at e1; have HR2 := Lib.hid hR2; have hat := (hR2.bytes hq HQE.out).1; rw [HL.out] at hat; clear hR2 c0 d0 d1 d2))
          have CB := Lib.hid (copyB qA K qc bt w2.drew (by have h := hat.cut (l := 0) (k := K) (m := qc) (by omega) hKL (by omega); rw [cutA_zero] at h; simp at h; rw [HBT.out] at h; exact h) (by omega))
          clear hat
          have y0d : w2.drew.cell? ⟨g, 0, none⟩ = some (.slice (some ⟨b, 0, none⟩) m cap) := y0
          go_region_with (first
            | (go_at_call 62; refine CB.out.mono ?_; rintro e w3 ⟨A1, c1, rfl, hat1, hc1b, hc1m, hin1, hb3⟩; have hb3' := (Below.refl w2.heap.size w2).drew.trans hb3; have hR3 := HR2.out.grow hb3'; have z0 := hR3.c0; obtain ⟨⟨ou, hou⟩, hofz⟩ := hR3.wr (i := p) (j := 1) hq (by omega); obtain ⟨⟨ou2, hou2⟩, hofz2⟩ := hR3.wr (i := p) (j := 2) hq (by omega); have x2 := (hR3.cells hq HQE.out).2.2; have HR3 := Lib.hid hR3; have HAT1 := Lib.hid hat1; have HIN1 := Lib.hid hin1; have HB3 := Lib.hid hb3'; clear hR3 hat1 hin1 hb3 hb3'))
          all_goals
            have u0 : (w3.setCell ⟨b, p * 3 + 1, none⟩ (.slice A1 K c1)).cell? ⟨g, 0, none⟩ = some (.slice (some ⟨b, 0, none⟩) m cap) := (set_cell w3 _ hgb).trans z0
            have u2 : (w3.setCell ⟨b, p * 3 + 1, none⟩ (.slice A1 K c1)).cell? ⟨b, p * 3 + 2, none⟩ = some (.int .i64 (mk : Int)) := (set_off w3 _ (by omega)).trans x2
            have hfz : (w3.setCell ⟨b, p * 3 + 1, none⟩ (.slice A1 K c1)).frozen? ⟨b, p * 3 + 2, none⟩ = false := by rw [World.frozen?_setCell]; exact hofz2
            have hok : ({ D with l := D.l.set p ⟨nm, bt, M2⟩, left := l1 } : Dk).ok := ok_left (ok_set H.out.ok hdl (by rw [HDE.out]) (by show M2 ≤ bt.length; rw [HTL.out]; exact hM2) (by rw [HDE.out]; have := H.out.ok.sum; show sum D.l + bt.length ≤ 4194304 + bs.length; rw [HTL.out, HL.out]; omega)) l1 hlo1 hhi1
            have hR5 := HR3.out.store2 hq HQE.out HTL.out (M := M2) (A1 := A1) (c1 := c1) ⟨by show At w3 A1 bt.length bt; rw [HTL.out]; exact HAT1.out, by show bt.length ≤ c1; rw [HTL.out]; exact hc1b, hc1m, fun a e => .inr (HIN1.out a e)⟩ hok
            have HR5 := Lib.hid hR5
            clear hR5 hok y0 y0d e0 e1 e2 z0 hou hofz hou2 hofz2 x2
            go_wp2_with fail
            go_region_with (fail)
            all_goals
              go_wp2_with fail
              go_ret
              have hG := (Grow.of_below (F := F) hb1).trans (hG2.mono (fun k e => .inl e))
              have hGb := (((hG.trans (Grow.of_below HB3.out)).set (p := ⟨b, p * 3 + 1, none⟩) (.inl hFb) (.slice A1 K c1)).set (p := ⟨b, p * 3 + 2, none⟩) (.inl hFb) (.int .i64 (M2 : Int))).drewN 1
              rw [HC.out, HBT.out, HL1.out, HM2.out]
              refine ⟨rfl, (HR5.out.below (Below.refl _ _).drew).ends (fun k e => ?_) hGb H.out.lt⟩
              have z1 := hG.size
              unfold nF at e ⊢
              rcases e with e | e
              · exact .inl e
              · refine .inr ⟨by omega, ?_⟩
                show k < ((w3.setCell ⟨b, p * 3 + 1, none⟩ (.slice A1 K c1)).setCell ⟨b, p * 3 + 2, none⟩ (.int .i64 (M2 : Int))).heap.size
                rw [set_size, set_size]
                exact e.2
end Go.Proofs.YtamglegdgcehaaaGreat
set_option linter.unusedVariables false
namespace Go.Proofs.YtamglegdgcehaaaGreat
open Go.RowKit

/-- What a call hands back: bytes in new memory. -/
def NewBytes (w w' : World) (v : Value) (xs : List UInt8) : Prop := Own w' w.heap.size v xs
theorem NewBytes.nil (w w' : World) : NewBytes w w' (.slice none 0 0) [] := World.ownsRow_nil _ _ _ _
theorem NewBytes.form {w w' : World} {v : Value} {xs : List UInt8} (h : NewBytes w w' v xs) : ∃ A c, v = .slice A xs.length c ∧ At w' A xs.length xs ∧ xs.length ≤ c ∧ c ≤ 9223372036854775807 ∧ InF (fun k => w.heap.size ≤ k ∧ k < w'.heap.size) A := by
  obtain ⟨A, c, e, h1, h2, h3, _⟩ := Own.form h
  refine ⟨A, c, e, h1, h2, h3, fun a ea => ?_⟩
  subst e
  subst ea
  exact World.ownsRow.lt h _ rfl

set_option maxHeartbeats 8000000 in
theorem read_ok (w : World) (g : Nat) (D : Dk) (F : Nat → Prop) (nm : ByteArray) (h : RDk w g D F) :
    Calls Tryz.prog 101 #[pt g, .string nm] w fun e w' => ∃ v, e = .returned (.tuple #[v, .int .i64 (rdE D nm)]) ∧ NewBytes w w' v (rdB D nm) ∧ Below w.heap.size w w' := by
  obtain ⟨Fb, v, KA, kn, kc, qs, h⟩ := h
  have FI := Lib.hid (find_ok w g D F nm ⟨Fb, v, KA, kn, kc, qs, h⟩)
  obtain ⟨p, hp⟩ : ∃ p, pos D.l nm = p := ⟨_, rfl⟩
  obtain ⟨is, his⟩ : ∃ b, isAt D.l nm = b := ⟨_, rfl⟩
  obtain ⟨dd, hd⟩ : ∃ b, D.dead = b := ⟨_, rfl⟩
  have c1 := h.c1
  rw [hp, his] at FI
  rw [hd] at c1
  have HP := Lib.hid hp
  have HI := Lib.hid his
  have HD := Lib.hid hd
  have H := Lib.hid h
  clear h hp his hd
  cases dd with
  | true =>
    have hE : rdE D nm = 71 := by unfold rdE nmE; rw [HD.out]; rfl
    have hB : rdB D nm = [] := by unfold rdB nmE; rw [HD.out]; rfl
    rw [hE, hB]
    go_enter Tryz.func101, Tryz.ntmps101
    go_wp2_with fail
    go_ret2
    exact ⟨_, rfl, NewBytes.nil _ _, Below.refl _ _⟩
  | false =>
    cases is with
    | false =>
      have hE : rdE D nm = 70 := by unfold rdE nmE; rw [HD.out, HI.out]; rfl
      have hB : rdB D nm = [] := by unfold rdB nmE; rw [HD.out, HI.out]; rfl
      rw [hE, hB]
      go_enter Tryz.func101, Tryz.ntmps101
      go_wp2_with (first | (go_at_call 59; refine FI.out.mono ?_; rintro e w1 ⟨rfl, hb1⟩))
      go_ret2
      exact ⟨_, rfl, NewBytes.nil _ _, hb1⟩
    | true =>
      have hN : nmE D nm = 0 := by unfold nmE; rw [HD.out, HI.out]; rfl
      obtain ⟨b, m, cap, bs, mk, qA, qc, hq, rfl, hgb, hm, hmc, hqe, hfa, hrf, hmk, hbl, ⟨hdl, hde⟩, hm20⟩ := H.out.file HP.out HI.out
      have hE : rdE D nm = 0 := hN
      have hB : rdB D nm = bs := by unfold rdB; rw [hN, if_pos rfl, hfa]
      rw [hE, hB]
      obtain ⟨L, hL⟩ : ∃ L, bs.length = L := ⟨_, rfl⟩
      have HQE := Lib.hid hqe
      have HL := Lib.hid hL
      have hpI : (p : Int) < (m : Int) := by omega
      have hpI0 : (0 : Int) ≤ (p : Int) := by omega
      have HCL := Lib.hid (fun V (hb : Below w.heap.size w V) => (H.out.below hb).cells hq HQE.out)
      have HAT := Lib.hid (fun V (hb : Below w.heap.size w V) => ((H.out.below hb).bytes hq HQE.out).1)
      rw [hL] at HCL HAT hbl
      clear hN hE hB hm hqe hfa hrf hde hL hmk
      go_enter Tryz.func101, Tryz.ntmps101
      go_wp2_with (first
        | (go_at_call 59; refine FI.out.mono ?_; rintro e w1 ⟨rfl, hb1⟩; have c0 := (H.out.below hb1).c0; obtain ⟨d0, d1, d2⟩ := HCL.out _ hb1; have hat := HAT.out _ hb1)
        | (go_at_call 62; refine (copyBytes qA L qc bs _ hat (by omega)).mono ?_; rintro e w3 ⟨v1, rfl, hown, hb3⟩))
      go_ret2
      exact ⟨_, rfl, hown.base hb1.size, hb1.trans (hb3.mono hb1.size)⟩

set_option maxHeartbeats 4000000 in
theorem size_ok (w : World) (g : Nat) (D : Dk) (F : Nat → Prop) (nm : ByteArray) (h : RDk w g D F) :
    Calls Tryz.prog 99 #[pt g, .string nm] w fun e w' => e = .returned (.tuple #[.int .i64 ((rdB D nm).length : Nat), .int .i64 (rdE D nm)]) ∧ Below w.heap.size w w' := by
  have RD := Lib.hid (read_ok w g D F nm h)
  obtain ⟨x, hx⟩ : ∃ x, rdE D nm = x := ⟨_, rfl⟩
  obtain ⟨xs, hxs⟩ : ∃ x, rdB D nm = x := ⟨_, rfl⟩
  rw [hx, hxs] at RD ⊢
  obtain ⟨L, hL⟩ : ∃ L, xs.length = L := ⟨_, rfl⟩
  rw [hL]
  have HL := Lib.hid hL
  clear hx hxs h hL
  go_enter Tryz.func99, Tryz.ntmps99
  go_wp2_with (first | (go_at_call 101; refine RD.out.mono ?_; rintro e w1 ⟨v, rfl, hnb, hb1⟩; obtain ⟨A, c, rfl, _, _, _, _⟩ := hnb.form; rw [HL.out]))
  go_ret2
  exact ⟨rfl, hb1⟩

theorem IAt.keepB {w w' : World} {A : Option Addr} {n : Nat} {xs : List Int} (h : IAt w A n xs) (hb : Below w.heap.size w w') : IAt w' A n xs := by
  refine ⟨h.1, fun hn => ?_⟩
  obtain ⟨b, o, e, hc⟩ := h.2 hn
  exact ⟨b, o, e, fun i hi => (hb.cell (World.block_lt_of_cell? w _ (hc i hi))).trans (hc i hi)⟩
theorem infoI : (Tryz.prog.info? 3).map (fun i => (i.zero, i.size, i.bytes)) = some (some (.int .i64 0), 1, 8) := by kernel_rfl
set_option maxHeartbeats 4000000 in
theorem copyI (A : Option Addr) (n c : Nat) (xs : List Int) (w : World) (hx : IAt w A n xs) (hn : n ≤ 17592186044416) :
    Calls Tryz.prog 120 #[.slice A n c] w fun e w' => ∃ A' c', e = .returned (.slice A' n c') ∧ IAt w' A' n xs ∧ n ≤ c' ∧ c' ≤ 9223372036854775807 ∧ InF (fun k => w.heap.size ≤ k ∧ k < w'.heap.size) A' ∧ Below w.heap.size w w' := by
  obtain ⟨i, hi, hz, hsz, hby⟩ := info_parts infoI
  have hl := hx.1
  have HX := Lib.hid (show 0 < n → ∃ b o, A = some ⟨b, o, none⟩ ∧ ∀ j u, (xs.map (Value.int .i64))[j]? = some u → w.cell? ⟨b, o + j, none⟩ = some u from fun h => by
    obtain ⟨b, o, e, hc⟩ := hx.2 h
    refine ⟨b, o, e, fun j u hj => ?_⟩
    have hj2 : j < xs.length := by simpa using (List.getElem?_eq_some_iff.1 hj).1
    rw [hc j hj2, ← hj]
    simp [List.getElem?_eq_getElem hj2])
  have HO := Lib.hid (show ∀ u ∈ xs.map (Value.int .i64), u.oneCell' = true from fun u hu => by obtain ⟨z, _, rfl⟩ := List.mem_map.1 hu; rfl)
  have HN := Lib.hid (World.ownsRow_nil w w.heap.size 3 1)
  have HLL := Lib.hid (show (xs.map (Value.int .i64)).length = n * 1 by simp [hl])
  have hm : 0 + n ≤ maxLen := by unfold maxLen; omega
  have hb8 : (0 + n) * 8 ≤ 140737488355328 := by omega
  clear hx
  go_enter Tryz.func120, Tryz.ntmps120
  go_wp2_with (at_builtin; refine wpList_appV rfl _ _ 36 rfl w.heap.size 3 i (.int .i64 0) 1 8 Tryz.underlying36 hi hz hsz hby rfl (by decide) (.slice none 0 0) 0 [] rfl HN.out A n c (xs.map (Value.int .i64)) rfl HLL.out HX.out HO.out hm hb8 (Nat.le_refl _) ?_; intro v' w' hr hg; have hr' := Lib.hid hr; clear hr)
  go_ret
  have hr := hr'.out
  rw [Nat.zero_add, List.nil_append] at hr
  have hb : Below w.heap.size w w' := ⟨hg.os, hg.tape, hg.output, hg.size, fun k hk => hg.block k hk (by simp [Value.ownBlock])⟩
  rcases hr.2 with ⟨rfl, hn0⟩ | ⟨q, cap, cur, rfl, hq, hh, hnc, hcm, hcs, htk⟩
  · subst hn0
    obtain rfl : xs = [] := List.eq_nil_of_length_eq_zero hl
    exact ⟨none, 0, rfl, IAt.nil _ _, by omega, by omega, (fun a e => nomatch e), hb⟩
  · refine ⟨_, cap, rfl, ⟨hl, fun _ => ⟨q, 0, rfl, fun j hj => ?_⟩⟩, hnc, hcm, fun a e => ?_, hb⟩
    · rw [Nat.zero_add, hr.cellAt j (by omega), List.getElem?_map, List.getElem?_eq_getElem hj]
      rfl
    · injection e with e
      subst e
      exact ⟨hq, (Array.getElem?_eq_some_iff.1 hh).1⟩

theorem crash_ok (w : World) (g : Nat) (D : Dk) (F : Nat → Prop) (A : Option Addr) (n c : Nat) (keep : List Int) (h : RDk w g D F) (hK : IAt w A n keep) (hKF : InF (fun k => k < w.heap.size ∧ ¬ F k) A) (hnc : n ≤ c) (hc : c ≤ 9223372036854775807) :
    Calls Tryz.prog 110 #[pt g, .slice A n c] w fun e w' => e = .returned (.tuple #[]) ∧ Turns RDk w g F (crash D keep) w' := by
  obtain ⟨Fb, v, KA, kn, kc, qs, h⟩ := h
  exact crash_b w g D F Fb v KA kn kc qs A n c keep h hK (fun a e => ⟨(hKF a e).1, fun e2 => (hKF a e).2 (e2 ▸ h.fg.1), fun e2 => (hKF a e).2 (h.list.own _ e2).1⟩) hnc hc

set_option maxHeartbeats 4000000 in
theorem fail_ok (w : World) (g : Nat) (D : Dk) (F : Nat → Prop) (k : Int) (A : Option Addr) (n c : Nat) (keep : List Int) (hk1 : -9223372036854775808 ≤ k) (hk2 : k ≤ 9223372036854775807) (h : RDk w g D F) (hK : IAt w A n keep) (hKF : InF (fun k => ¬ F k) A) (hn : n ≤ 17592186044416) :
    Calls Tryz.prog 47 #[pt g, .int .i64 k, .slice A n c] w fun e w' => e = .returned (.tuple #[]) ∧ Turns RDk w g F (fal D k keep) w' := by
  obtain ⟨Fb, v, KA, kn, kc, qs, h⟩ := h
  have c1 := h.c1
  have c2 := h.c2
  have c3 := h.c3
  have z2 := h.fz 2
  obtain ⟨dd, hd⟩ : ∃ b, D.dead = b := ⟨_, rfl⟩
  rw [hd] at c1
  have HD := Lib.hid hd
  have H := Lib.hid h
  have hgl := h.lt g h.fg.1
  cases dd with
  | true =>
    have hC : fal D k keep = D := by unfold fal; rw [HD.out]; rfl
    rw [hC]
    clear h hd
    go_enter Tryz.func47, Tryz.ntmps47
    go_wp2_with fail
    first | go_end0 | (refine bodyPost_ret (results_none rfl _ _ _) rfl ?_)
    exact ⟨rfl, H.out.ends (fun k e => .inl e) (Grow.refl _ _) H.out.lt⟩
  | false =>
    have hC : fal D k keep = { D with left := max k (-1), keep := keep } := by unfold fal; rw [HD.out]; rfl
    obtain ⟨D', hD'⟩ : ∃ x, fal D k keep = x := ⟨_, rfl⟩
    rw [hD']
    have HC := Lib.hid (hD'.symm.trans hC)
    obtain ⟨l1, hl1⟩ : ∃ x, max k (-1) = x := ⟨_, rfl⟩
    have hlo : -1 ≤ l1 := by rw [← hl1]; omega
    have hhi : l1 ≤ 9223372036854775807 := by rw [← hl1]; omega
    have HL1 := Lib.hid hl1
    have h2 := h.setLeft l1 hlo hhi
    have H2 := Lib.hid h2
    have hK2 : IAt (w.setCell ⟨g, 2, none⟩ (.int .i64 l1)) A n keep := hK.on hKF (fun k e => set_blk w g 2 _ (fun e2 => e (e2 ▸ h.fg.1)))
    have CI := Lib.hid (copyI A n c keep _ hK2 hn)
    clear h hd hC hD' h2 hK hK2
    go_enter Tryz.func47, Tryz.ntmps47
    go_wp2_with (first | (go_at_call 120; refine CI.out.mono ?_; rintro e w2 ⟨A1, c1', rfl, hi1, hc1b, hc1m, hin1, hb2⟩; have h3 := H2.out.grow hb2; have y3 := h3.c3; have x3 := h3.fz 3; have H3 := Lib.hid h3; clear h3))
    first | go_end0 | (refine bodyPost_ret (results_none rfl _ _ _) rfl ?_)
    have h3 := H3.out
    have h4 := h3.field 3 (.slice A1 n c1') (D' := { D with left := l1, keep := keep }) (A' := A1) (n' := n) (c' := c1') rfl h3.eq h3.list hi1 (fun a e => .inr (hin1 a e)) ⟨hc1b, hc1m⟩ h3.fg.2.2 ⟨h3.ok.sorted, h3.ok.marks, h3.ok.few, h3.ok.sum, hlo, hhi⟩
    have hFg := H.out.fg.1
    have hG1 : Grow F w (w.setCell ⟨g, 2, none⟩ (.int .i64 l1)) := (Grow.refl F w).set (p := ⟨g, 2, none⟩) (.inl hFg) _
    have hG := (hG1.trans (Grow.of_below hb2)).set (p := ⟨g, 3, none⟩) (.inl hFg) (.slice A1 n c1')
    rw [HC.out, HL1.out]
    refine ⟨rfl, h4.ends (fun k e => ?_) hG H.out.lt⟩
    unfold nF at e ⊢
    rw [set_size] at e ⊢
    exact e
end Go.Proofs.YtamglegdgcehaaaGreat

namespace Go.Proofs.YtamglegdgcehaaaGreat
open Go.RowKit

theorem At.moved {w w1 w2 : World} {A : Option Addr} {n : Nat} {xs : List UInt8} {F : Nat → Prop} (h : At w A n xs) (hF : InF (fun k => ¬ F k) A) (hb : Below w.heap.size w w1) (hG : Grow F w1 w2) : At w2 A n xs := by
  refine ⟨h.1, fun hn => ?_⟩
  obtain ⟨b, o, e, hc⟩ := h.2 hn
  refine ⟨b, o, e, fun i hi => ?_⟩
  have h1 := (hb.cell (World.block_lt_of_cell? w _ (hc i hi))).trans (hc i hi)
  exact (World.cell?_of_block (a := ⟨b, o + i, none⟩) (hG.block b (World.block_lt_of_cell? w1 _ h1) (hF _ e))).trans h1
/-- The middle of Append: the file with its new bytes is put. -/
theorem append_mid {w w1 w2 w5 : World} {g : Nat} {D D2 : Dk} {F Fb : Nat → Prop} {v : Value} {KA : Option Addr} {kn kc : Nat} {qs : List Fv} {nm : ByteArray} {bt : List UInt8} {mk L N : Nat} {qA A1 : Option Addr} {qc c1 : Nat}
    (h : RDkB w g D F Fb v KA kn kc qs) (hb1 : Below w.heap.size w w1) (h2 : RDkB w2 g D2 F Fb v KA kn kc qs) (hG2 : Grow F w1 w2)
    (hB : Below (w2.alloc (.cells #[.string nm, .slice qA L qc, .int .i64 (mk : Int)] 106)).heap.size (w2.alloc (.cells #[.string nm, .slice qA L qc, .int .i64 (mk : Int)] 106)) w5)
    (hat : At w5 A1 N bt) (hc1 : N ≤ c1) (hc2 : c1 ≤ 9223372036854775807) (hin : InF (fun k => (w2.alloc (.cells #[.string nm, .slice qA L qc, .int .i64 (mk : Int)] 106)).heap.size ≤ k ∧ k < w5.heap.size) A1)
    (hok : ({ D2 with l := withF D2.l ⟨nm, bt, mk⟩ } : Dk).ok) :
    (∃ u, w5.cell? ⟨w2.heap.size, 1, none⟩ = some u) ∧ w5.frozen? ⟨w2.heap.size, 1, none⟩ = false ∧
    ((w5.setCell ⟨w2.heap.size, 1, none⟩ (.slice A1 N c1)).cell? ⟨w2.heap.size, 0, none⟩ = some (.string nm) ∧ (w5.setCell ⟨w2.heap.size, 1, none⟩ (.slice A1 N c1)).cell? ⟨w2.heap.size, 1, none⟩ = some (.slice A1 N c1) ∧ (w5.setCell ⟨w2.heap.size, 1, none⟩ (.slice A1 N c1)).cell? ⟨w2.heap.size, 2, none⟩ = some (.int .i64 (mk : Int))) ∧
    (w2.heap.size < w5.heap.size) ∧
    Calls Tryz.prog 63 #[pt g, .agg #[.string nm, .slice A1 N c1, .int .i64 (mk : Int)]] (w5.setCell ⟨w2.heap.size, 1, none⟩ (.slice A1 N c1)) fun e w' => e = .returned (.tuple #[]) ∧
      ∃ v' qs' Fb', RDkB w' g { D2 with l := withF D2.l ⟨nm, bt, mk⟩ } (nF (nF F (w2.alloc (.cells #[.string nm, .slice qA L qc, .int .i64 (mk : Int)] 106)) w5) (w5.setCell ⟨w2.heap.size, 1, none⟩ (.slice A1 N c1)) w') Fb' v' KA kn kc qs' ∧ Grow (fun k => k = g) (w5.setCell ⟨w2.heap.size, 1, none⟩ (.slice A1 N c1)) w' := by
  have hgl : g < w2.heap.size := Nat.lt_of_lt_of_le (h.lt g h.fg.1) (Nat.le_trans hb1.size hG2.size)
  have hz : w2.heap.size < (w2.alloc (.cells #[.string nm, .slice qA L qc, .int .i64 (mk : Int)] 106)).heap.size := by simp
  have hx : w5.heap[w2.heap.size]? = some (.cells #[.string nm, .slice qA L qc, .int .i64 (mk : Int)] 106 (0, 0)) := (hB.block _ hz).trans (heap_alloc_new w2 _)
  have hx6 : (w5.setCell ⟨w2.heap.size, 1, none⟩ (.slice A1 N c1)).heap[w2.heap.size]? = some (.cells #[.string nm, .slice A1 N c1, .int .i64 (mk : Int)] 106 (0, 0)) := by
    simp only [World.setCell, Array.getElem?_modify, if_true, hx, Option.map_some]
    rfl
  have hF : ∀ k, F k → k < w2.heap.size := fun k e => Nat.lt_of_lt_of_le (h.lt k e) (Nat.le_trans hb1.size hG2.size)
  refine ⟨⟨_, cell_of_row w5 w2.heap.size 1 _ _ (0, 0) hx⟩, frozen_of_row w5 w2.heap.size 1 _ _ hx, ⟨cell_of_row _ w2.heap.size 0 _ _ (0, 0) hx6, cell_of_row _ w2.heap.size 1 _ _ (0, 0) hx6, cell_of_row _ w2.heap.size 2 _ _ (0, 0) hx6⟩, Nat.lt_of_lt_of_le hz hB.size, ?_⟩
  have h4 := ((h2.below ((Below.refl w2.heap.size w2).alloc (Nat.le_refl _) (.cells #[.string nm, .slice qA L qc, .int .i64 (mk : Int)] 106))).grow hB).far (p := ⟨w2.heap.size, 1, none⟩) (by rintro (e | e); exact absurd (hF _ e) (by simp); exact absurd e.1 (by simp)) (.slice A1 N c1)
  have hN := hat.1
  subst hN
  have hr : RFl (w5.setCell ⟨w2.heap.size, 1, none⟩ (.slice A1 bt.length c1)) (nF Fb (w2.alloc (.cells #[.string nm, .slice qA L qc, .int .i64 (mk : Int)] 106)) w5) ⟨⟨nm, bt, mk⟩, A1, c1⟩ :=
    ⟨hat.on hin (fun k e => set_blk w5 _ _ _ (by have := e.1; omega)), hc1, hc2, fun a e => .inr (hin a e)⟩
  refine (with_b _ g _ _ _ v KA kn kc qs ⟨⟨nm, bt, mk⟩, A1, c1⟩ h4 hr hok).mono ?_
  rintro e w' ⟨rfl, v', qs', g1, g2⟩
  exact ⟨rfl, v', qs', _, g1, g2⟩
theorem ownLen {w : World} {B n : Nat} {v : Value} {xs : List UInt8} (h : Own w B v xs) (hn : xs.length = n) : w.ownsRow B 5 1 v n (xs.map bv) := by
  subst hn
  exact h
theorem lenApp {xs ys : List UInt8} {n m : Nat} (h1 : xs.length = n) (h2 : ys.length = m) : (xs ++ ys).length = n + m := by rw [List.length_append, h1, h2]
theorem ownNew {w : World} {B : Nat} {v : Value} {n : Nat} {xs : List UInt8} (hn : xs.length = n) (h : w.ownsRow B 5 1 v n (xs.map bv)) : ∃ A c, v = .slice A n c ∧ At w A n xs ∧ n ≤ c ∧ c ≤ 9223372036854775807 ∧ InF (fun k => B ≤ k ∧ k < w.heap.size) A := by
  subst hn
  have h0 : Own w B v xs := h
  obtain ⟨A, c, rfl, hat, h1, h2, _⟩ := h0.form
  refine ⟨A, c, rfl, hat, h1, h2, fun a e => ?_⟩
  subst e
  exact rowOwn h _ rfl

set_option maxRecDepth 100000 in
set_option maxHeartbeats 8000000 in
theorem append_ok (w : World) (g : Nat) (D : Dk) (F : Nat → Prop) (nm : ByteArray) (XA : Option Addr) (xn xc : Nat) (xs : List UInt8) (h : RDk w g D F) (hX : At w XA xn xs) (hXF : InF (fun k => ¬ F k) XA) (hxn : xn ≤ 140000000000000) :
    Calls Tryz.prog 17 #[pt g, .string nm, .slice XA xn xc] w fun e w' => e = .returned (.int .i64 (appE D nm xs.length)) ∧ Turns RDk w g F (app D nm xs) w' := by
  obtain ⟨Fb, v, KA, kn, kc, qs, h⟩ := h
  have hxl := hX.1
  obtain ⟨E, hE0⟩ : ∃ x, appE D nm xs.length = x := ⟨_, rfl⟩
  rw [hE0]
  rw [hxl] at hE0
  have HE0 := Lib.hid hE0
  have FI := Lib.hid (find_ok w g D F nm ⟨Fb, v, KA, kn, kc, qs, h⟩)
  have MY := Lib.hid (fun V => may_ok V nm)
  have AL := Lib.hid (fun V (hb : Below w.heap.size w V) => all_ok V g D F ⟨Fb, v, KA, kn, kc, qs, h.below hb⟩)
  obtain ⟨S, hS⟩ : ∃ x, sum D.l = x := ⟨_, rfl⟩
  obtain ⟨p, hp⟩ : ∃ p, pos D.l nm = p := ⟨_, rfl⟩
  obtain ⟨is, his⟩ : ∃ b, isAt D.l nm = b := ⟨_, rfl⟩
  obtain ⟨dd, hd⟩ : ∃ b, D.dead = b := ⟨_, rfl⟩
  obtain ⟨my, hmy⟩ : ∃ b, mayN nm = b := ⟨_, rfl⟩
  have hS20 := h.ok.sum
  have c1 := h.c1
  rw [hp, his] at FI
  rw [hd] at c1
  rw [hmy] at MY
  rw [hS] at AL hS20
  have HS := Lib.hid hS
  have HP := Lib.hid hp
  have HI := Lib.hid his
  have HD := Lib.hid hd
  have HMY := Lib.hid hmy
  have H := Lib.hid h
  have HXL := Lib.hid hxl
  have HX := Lib.hid hX
  clear h hp his hd hmy hS hE0 hxl hX
  cases dd with
  | true =>
    have hE : E = 71 := by rw [← HE0.out]; unfold appE; rw [HD.out]; rfl
    have hC : app D nm xs = D := by unfold app; rw [HD.out]; rfl
    rw [hE, hC]
    clear hE hC
    go_enter Tryz.func17, Tryz.ntmps17
    go_wp2_with fail
    go_ret
    exact ⟨rfl, H.out.ends (fun k e => .inl e) (Grow.refl _ _) H.out.lt⟩
  | false =>
    cases my with
    | false =>
      have hE : E = 70 := by rw [← HE0.out]; unfold appE; rw [HD.out, HMY.out]; rfl
      have hC : app D nm xs = D := by unfold app; rw [HD.out, HMY.out]; rfl
      rw [hE, hC]
      clear hE hC
      go_enter Tryz.func17, Tryz.ntmps17
      go_wp2_with (first | (go_at_call 58; refine (MY.out _).mono ?_; rintro e w2' ⟨rfl, rfl⟩))
      go_ret
      exact ⟨rfl, H.out.ends (fun k e => .inl e) (Grow.refl _ _) H.out.lt⟩
    | true =>
      obtain ⟨A0, cap, rfl, hcap, hcapm, _, _⟩ := H.out.list.form
      obtain ⟨m, hm⟩ : ∃ x, qs.length = x := ⟨_, rfl⟩
      have hlen := H.out.len
      have hfew := H.out.ok.few
      rw [hm] at H hcap hlen
      have HM := Lib.hid hm
      have hm20 : m ≤ 20 := by omega
      have hE1 : E = if (is = false ∧ 20 ≤ m) ∨ 4194304 < S + xn then 7 else workE D := by rw [← HE0.out]; unfold appE; rw [HD.out, HMY.out, HI.out, HS.out, ← hlen]; rfl
      have hC1 : app D nm xs = if (is = false ∧ 20 ≤ m) ∨ 4194304 < S + xn then D else work D (fun l => withF l ⟨nm, (fileAt l nm).bs ++ xs, (fileAt l nm).mark⟩) := by unfold app; rw [HD.out, HMY.out, HI.out, HS.out, HXL.out, ← hlen]; rfl
      have HE1 := Lib.hid hE1
      have HC1 := Lib.hid hC1
      have hw : IntKind.i64.wrap ((S : Int) + (xn : Int)) = (S : Int) + (xn : Int) := IntWalk.i64_in _ (by omega)
      clear hm hlen hfew hE1 hC1
      by_cases hf : (is = false ∧ 20 ≤ m) ∨ 4194304 < S + xn
      · have hE : E = 7 := by rw [HE1.out, if_pos hf]
        have hC : app D nm xs = D := by rw [HC1.out, if_pos hf]
        rw [hE, hC]
        clear hE hC
        by_cases h20 : is = false ∧ 20 ≤ m
        · obtain ⟨rfl, h20⟩ := h20
          have hd0 : decide ((20 : Int) ≤ (m : Int)) = true := decide_eq_true (by omega)
          go_enter Tryz.func17, Tryz.ntmps17
          go_wp2_with (first
            | (go_at_call 58; refine (MY.out _).mono ?_; rintro e w2' ⟨rfl, rfl⟩)
            | (go_at_call 59; refine FI.out.mono ?_; rintro e w1 ⟨rfl, hb1⟩; have c0 := (H.out.below hb1).c0))
          first | go_ret | (go_quiet (fail); go_wp2_with fail; go_ret)
          exact ⟨rfl, ((H.out.below hb1).below (by first | exact Below.refl _ _ | exact below_drewN (Below.refl _ _) _)).ends (fun k e => .inl e) (Grow.of_below (by first | exact hb1 | exact below_drewN hb1 _)) H.out.lt⟩
        · have hS2 : 4194304 < S + xn := hf.resolve_left h20
          have hd1 : decide ((4194304 : Int) < (S : Int) + (xn : Int)) = true := decide_eq_true (by omega)
          cases is with
          | true =>
            go_enter Tryz.func17, Tryz.ntmps17
            go_wp2_with (first
              | (go_at_call 58; refine (MY.out _).mono ?_; rintro e w2' ⟨rfl, rfl⟩)
              | (go_at_call 59; refine FI.out.mono ?_; rintro e w1 ⟨rfl, hb1⟩; have c0 := (H.out.below hb1).c0)
              | (go_at_call 60; refine (AL.out _ hb1).mono ?_; rintro e w2'' ⟨rfl, rfl⟩))
            go_ret
            exact ⟨rfl, ((H.out.below hb1).below (by first | exact Below.refl _ _ | exact below_drewN (Below.refl _ _) _)).ends (fun k e => .inl e) (Grow.of_below (by first | exact hb1 | exact below_drewN hb1 _)) H.out.lt⟩
          | false =>
            have hd0 : decide ((20 : Int) ≤ (m : Int)) = false := decide_eq_false (fun e => h20 ⟨rfl, by omega⟩)
            go_enter Tryz.func17, Tryz.ntmps17
            go_wp2_with (first
              | (go_at_call 58; refine (MY.out _).mono ?_; rintro e w2' ⟨rfl, rfl⟩)
              | (go_at_call 59; refine FI.out.mono ?_; rintro e w1 ⟨rfl, hb1⟩; have c0 := (H.out.below hb1).c0)
              | (go_at_call 60; refine (AL.out _ hb1).mono ?_; rintro e w2'' ⟨rfl, rfl⟩))
            go_ret
            exact ⟨rfl, ((H.out.below hb1).below (by first | exact Below.refl _ _ | exact below_drewN (Below.refl _ _) _)).ends (fun k e => .inl e) (Grow.of_below (by first | exact hb1 | exact below_drewN hb1 _)) H.out.lt⟩
      · have hd1 : decide ((4194304 : Int) < (S : Int) + (xn : Int)) = false := decide_eq_false (by omega)
        have hd0 : is = false → decide ((20 : Int) ≤ (m : Int)) = false := fun e => decide_eq_false (fun e2 => hf (.inl ⟨e, by omega⟩))
        have hE2 : E = workE D := by rw [HE1.out, if_neg hf]
        have hC2 : app D nm xs = work D (fun l => withF l ⟨nm, (fileAt l nm).bs ++ xs, (fileAt l nm).mark⟩) := by rw [HC1.out, if_neg hf]
        by_cases hl : D.left = 0
        · have hE : E = 71 := by rw [hE2]; unfold workE; rw [if_pos hl]
          have hC : app D nm xs = crash D D.keep := by rw [hC2, work_yes hl]
          rw [hE, hC]
          have FA := Lib.hid (fun V (hb : Below w.heap.size w V) => fails_yes V g D F Fb _ KA kn kc qs (H.out.below hb) hl)
          clear hl hE hC hE2 hC2 hf
          cases is with
          | true =>
            clear hd0
            go_enter Tryz.func17, Tryz.ntmps17
            go_wp2_with (first
              | (go_at_call 58; refine (MY.out _).mono ?_; rintro e w2' ⟨rfl, rfl⟩)
              | (go_at_call 59; refine FI.out.mono ?_; rintro e w1 ⟨rfl, hb1⟩; have c0 := (H.out.below hb1).c0)
              | (go_at_call 60; refine (AL.out _ hb1).mono ?_; rintro e w2'' ⟨rfl, rfl⟩)
              | (go_at_call 61; refine (FA.out _ hb1).mono ?_; rintro e w2 ⟨rfl, ht2⟩))
            go_ret
            exact ⟨rfl, turns_below hb1 ht2 H.out.lt⟩
          | false =>
            replace hd0 := hd0 rfl
            go_enter Tryz.func17, Tryz.ntmps17
            go_wp2_with (first
              | (go_at_call 58; refine (MY.out _).mono ?_; rintro e w2' ⟨rfl, rfl⟩)
              | (go_at_call 59; refine FI.out.mono ?_; rintro e w1 ⟨rfl, hb1⟩; have c0 := (H.out.below hb1).c0)
              | (go_at_call 60; refine (AL.out _ hb1).mono ?_; rintro e w2'' ⟨rfl, rfl⟩)
              | (go_at_call 61; refine (FA.out _ hb1).mono ?_; rintro e w2 ⟨rfl, ht2⟩))
            go_ret
            exact ⟨rfl, turns_below hb1 ht2 H.out.lt⟩
        · have hE : E = 0 := by rw [hE2]; unfold workE; rw [if_neg hl]
          obtain ⟨D', hD'⟩ : ∃ x, app D nm xs = x := ⟨_, rfl⟩
          have hC := hC2
          rw [work_no hl] at hC
          rw [hE, hD']
          have HC := Lib.hid (hD'.symm.trans hC)
          have FA := Lib.hid (fun V (hb : Below w.heap.size w V) => fails_no V g D F Fb _ KA kn kc qs (H.out.below hb) hl)
          obtain ⟨l1, hl1⟩ : ∃ x, (if 0 < D.left then D.left - 1 else D.left) = x := ⟨_, rfl⟩
          simp only [hl1] at FA
          have HL1 := Lib.hid hl1
          have hlo1 : -1 ≤ l1 := by have := H.out.ok.low; rw [← hl1]; split <;> omega
          have hhi1 : l1 ≤ 9223372036854775807 := by have := H.out.ok.high; rw [← hl1]; split <;> omega
          clear hl hE hC hE2 hC2 hD' hl1
          cases is with
          | true =>
            obtain ⟨b, m', cap', bs, mk, qA, qc, hq, hv, hgb, hm', hmc, hqe, hfa, hrf, hmk, hbl, ⟨hdl, hde⟩, _⟩ := H.out.file HP.out HI.out
            injection hv with hv1 hv2 hv3
            subst hv1 hv2 hv3
            obtain ⟨L, hL⟩ : ∃ L, bs.length = L := ⟨_, rfl⟩
            have HQE := Lib.hid hqe
            have HFA := Lib.hid hfa
            have hpI : (p : Int) < (m : Int) := by omega
            have hpI0 : (0 : Int) ≤ (p : Int) := by omega
            have hSx : S + xn ≤ 4194304 := by have h9 := of_decide_eq_false hd1; omega
            have hok : ({ D with l := withF D.l ⟨nm, bs ++ xs, mk⟩, left := l1 } : Dk).ok := ok_left (ok_with (f := ⟨nm, bs ++ xs, mk⟩) H.out.ok (by show mk ≤ (bs ++ xs).length; rw [List.length_append]; omega) (.inl HI.out) (by rw [if_pos HI.out, hfa]; show sum D.l + (bs ++ xs).length ≤ 4194304 + bs.length; rw [List.length_append, HS.out, HXL.out]; omega)) l1 hlo1 hhi1
            have HOK := Lib.hid hok
            have HL := Lib.hid hL
            rw [hL] at hbl hmk
            clear hd0 hqe hfa hrf hde hok hL hm'
            have hbd : L + xn ≤ 225000000000000 := by omega
            go_enter Tryz.func17, Tryz.ntmps17
            go_wp2_with (first
              | (go_at_call 58; refine (MY.out _).mono ?_; rintro e w2' ⟨rfl, rfl⟩)
              | (go_at_call 59; refine FI.out.mono ?_; rintro e w1 ⟨rfl, hb1⟩; have c0 := (H.out.below hb1).c0)
              | (go_at_call 60; refine (AL.out _ hb1).mono ?_; rintro e w2'' ⟨rfl, rfl⟩)
              | (go_at_call 61; refine (FA.out _ hb1).mono ?_; rintro e w2 ⟨rfl, hR2, hG2⟩; have hR2' := hR2.below ((Below.refl w2.heap.size w2).alloc (Nat.le_refl _) (.cells #[.string nm, .slice none 0 0, .int .i64 0] 106)); have y0 := hR2'.c0; obtain ⟨d0, d1, d2⟩ := hR2'.cells hq HQE.out; rw [HL.out] at d1; have hat := (hR2.bytes hq HQE.out).1; rw [HL.out] at hat; have HR2 := Lib.hid hR2; clear hR2 hR2'; have HX2 := Lib.hid (HX.out.moved hXF hb1 hG2); have hat3 := Lib.hid (hat.alloc (.cells #[.string nm, .slice qA L qc, .int .i64 (mk : Int)] 106)); clear hat)
              | (go_at_call 62; refine (copyBytes qA L qc bs _ hat3.out (by omega)).mono ?_; rintro e w4 ⟨v1, rfl, hown, hb4⟩; have hr4 := Lib.hid (ownLen hown HL.out); have HX4 := Lib.hid ((HX2.out.alloc (.cells #[.string nm, .slice qA L qc, .int .i64 (mk : Int)] 106)).below' hb4); have HB4 := Lib.hid hb4; have HS4 := Lib.hid hb4.size; clear hown hb4 hat3)
              | (at_builtin; refine wpList_app rfl _ _ 40 rfl (w2.alloc (.cells #[.string nm, .slice qA L qc, .int .i64 (mk : Int)] 106)).heap.size 5 Tryz.underlying40 info5 v1 L bs xs rfl hr4.out XA xn xc rfl HX4.out hbd HS4.out ?_; intro v5 w5 hr5 hg5 _;  have hLN : (bs ++ xs).length = L + xn := (lenApp HL.out HXL.out); have HB5 := Lib.hid (HB4.out.grown hg5 HB4.out.size (fun k e => (rowOwn hr4.out k e).1)); obtain ⟨A1, c1, rfl, hat5, hc5, hc5m, hin5⟩ := ownNew hLN hr5; obtain ⟨⟨u0, x0⟩, x1, ⟨y0', y1, y2⟩, x3, WB⟩ := append_mid H.out hb1 HR2.out hG2 HB5.out hat5 hc5 hc5m hin5 HOK.out; clear hat5 hin5 hr5 hLN)
              | (go_at_call 63; refine WB.mono ?_; rintro e w6 ⟨rfl, v6, qs6, Fb6, hR6, hG6⟩; have HR6 := Lib.hid hR6; have HG6 := Lib.hid hG6; clear hR6 hG6))
            go_ret
            have hFg := H.out.fg.1
            have hG := (Grow.of_below (F := F) hb1).trans (hG2.mono (fun k e => .inl e))
            have hGa := hG.trans (Grow.of_below ((Below.refl w2.heap.size w2).alloc (Nat.le_refl _) (.cells #[.string nm, .slice qA L qc, .int .i64 (mk : Int)] 106)))
            have hGb := hGa.trans (Grow.of_below HB5.out)
            have hGc := hGb.set (p := ⟨w2.heap.size, 1, none⟩) (.inr hG.size) (.slice A1 (L + xn) c1)
            have hGd := hGc.trans (HG6.out.mono (fun k e => .inl (e ▸ hFg)))
            rw [HC.out, HL1.out, HFA.out]
            refine ⟨rfl, HR6.out.ends (fun k e => ?_) hGd H.out.lt⟩
            have z1 := HG6.out.size
            have z2 := hGa.size
            have z3 := hGc.size
            rw [set_size] at z1 z3
            unfold nF at e ⊢
            rw [set_size] at e
            rcases e with (e | e) | e
            · exact .inl e
            · exact .inr (by omega)
            · exact .inr (by omega)
          | false =>
            replace hd0 := hd0 rfl
            have hm20' : m < 20 := by have := of_decide_eq_false hd0; omega
            have hfa : fileAt D.l nm = ⟨nm, [], 0⟩ := by unfold fileAt; rw [HI.out]; rfl
            have HFA := Lib.hid hfa
            have hok : ({ D with l := withF D.l ⟨nm, ([] : List UInt8) ++ xs, 0⟩, left := l1 } : Dk).ok := ok_left (ok_with (f := ⟨nm, ([] : List UInt8) ++ xs, 0⟩) H.out.ok (Nat.zero_le _) (.inr (by rw [← H.out.len, HM.out]; exact hm20')) (by rw [if_neg (by show ¬ isAt D.l nm = true; rw [HI.out]; decide)]; show sum D.l + ([] ++ xs).length ≤ 4194304 + 0; rw [List.nil_append, HS.out, HXL.out]; have := of_decide_eq_false hd1; omega)) l1 hlo1 hhi1
            have HOK := Lib.hid hok
            clear hfa hok
            have hbd : 0 + xn ≤ 225000000000000 := by omega
            go_enter Tryz.func17, Tryz.ntmps17
            go_wp2_with (first
              | (go_at_call 58; refine (MY.out _).mono ?_; rintro e w2' ⟨rfl, rfl⟩)
              | (go_at_call 59; refine FI.out.mono ?_; rintro e w1 ⟨rfl, hb1⟩; have c0 := (H.out.below hb1).c0)
              | (go_at_call 60; refine (AL.out _ hb1).mono ?_; rintro e w2'' ⟨rfl, rfl⟩)
              | (go_at_call 61; refine (FA.out _ hb1).mono ?_; rintro e w2 ⟨rfl, hR2, hG2⟩; have hat : At w2 none 0 ([] : List UInt8) := At.nil _ _; have HR2 := Lib.hid hR2; clear hR2; have HX2 := Lib.hid (HX.out.moved hXF hb1 hG2); have hat3 := Lib.hid (hat.alloc (.cells #[.string nm, .slice none 0 0, .int .i64 ((0 : Nat) : Int)] 106)); clear hat)
              | (go_at_call 62; refine (copyBytes none 0 0 ([] : List UInt8) _ hat3.out (by omega)).mono ?_; rintro e w4 ⟨v1, rfl, hown, hb4⟩; have hr4 := Lib.hid (ownLen hown rfl); have HX4 := Lib.hid ((HX2.out.alloc (.cells #[.string nm, .slice none 0 0, .int .i64 ((0 : Nat) : Int)] 106)).below' hb4); have HB4 := Lib.hid hb4; have HS4 := Lib.hid hb4.size; clear hown hb4 hat3)
              | (at_builtin; refine wpList_app rfl _ _ 40 rfl (w2.alloc (.cells #[.string nm, .slice none 0 0, .int .i64 ((0 : Nat) : Int)] 106)).heap.size 5 Tryz.underlying40 info5 v1 0 ([] : List UInt8) xs rfl hr4.out XA xn xc rfl HX4.out hbd HS4.out ?_; intro v5 w5 hr5 hg5 _; rw [Nat.zero_add] at hr5; have hLN : (([] : List UInt8) ++ xs).length = xn := HXL.out; have HB5 := Lib.hid (HB4.out.grown hg5 HB4.out.size (fun k e => (rowOwn hr4.out k e).1)); obtain ⟨A1, c1, rfl, hat5, hc5, hc5m, hin5⟩ := ownNew hLN hr5; obtain ⟨⟨u0, x0⟩, x1, ⟨y0', y1, y2⟩, x3, WB⟩ := append_mid H.out hb1 HR2.out hG2 HB5.out hat5 hc5 hc5m hin5 HOK.out; clear hat5 hin5 hr5 hLN)
              | (go_at_call 63; refine WB.mono ?_; rintro e w6 ⟨rfl, v6, qs6, Fb6, hR6, hG6⟩; have HR6 := Lib.hid hR6; have HG6 := Lib.hid hG6; clear hR6 hG6))
            go_ret
            have hFg := H.out.fg.1
            have hG := (Grow.of_below (F := F) hb1).trans (hG2.mono (fun k e => .inl e))
            have hGa := hG.trans (Grow.of_below ((Below.refl w2.heap.size w2).alloc (Nat.le_refl _) (.cells #[.string nm, .slice none 0 0, .int .i64 ((0 : Nat) : Int)] 106)))
            have hGb := hGa.trans (Grow.of_below HB5.out)
            have hGc := hGb.set (p := ⟨w2.heap.size, 1, none⟩) (.inr hG.size) (.slice A1 xn c1)
            have hGd := hGc.trans (HG6.out.mono (fun k e => .inl (e ▸ hFg)))
            rw [HC.out, HL1.out, HFA.out]
            refine ⟨rfl, HR6.out.ends (fun k e => ?_) hGd H.out.lt⟩
            have z1 := HG6.out.size
            have z2 := hGa.size
            have z3 := hGc.size
            rw [set_size] at z1 z3
            unfold nF at e ⊢
            rw [set_size] at e
            rcases e with (e | e) | e
            · exact .inl e
            · exact .inr (by omega)
            · exact .inr (by omega)
end Go.Proofs.YtamglegdgcehaaaGreat

namespace Go.Proofs.YtamglegdgcehaaaGreat
open Go.RowKit

/-- Texts that lie in memory. -/
def TAt (w : World) (A : Option Addr) (n : Nat) (xs : List ByteArray) : Prop :=
  xs.length = n ∧ (0 < n → ∃ b o, A = some ⟨b, o, none⟩ ∧ ∀ i, (h : i < xs.length) → w.cell? ⟨b, o + i, none⟩ = some (.string xs[i]))
theorem TAt.below {w w' : World} {A : Option Addr} {n : Nat} {xs : List ByteArray} (h : TAt w A n xs) (hb : Below w.heap.size w w') : TAt w' A n xs := by
  refine ⟨h.1, fun hn => ?_⟩
  obtain ⟨b, o, e, hc⟩ := h.2 hn
  exact ⟨b, o, e, fun i hi => (hb.cell (World.block_lt_of_cell? w _ (hc i hi))).trans (hc i hi)⟩
theorem infoT : (Tryz.prog.info? 9).map (fun i => (i.zero, i.size, i.bytes)) = some (some (.string ByteArray.empty), 1, 16) := by kernel_rfl
theorem rowTexts {w : World} {B n : Nat} {v : Value} {xs : List ByteArray} (hn : xs.length = n) (h : w.ownsRow B 9 1 v n (xs.map Value.string)) : ∃ A c, v = .slice A n c ∧ TAt w A n xs ∧ n ≤ c ∧ c ≤ 9223372036854775807 ∧ InF (fun k => B ≤ k ∧ k < w.heap.size) A := by
  subst hn
  rcases h.2 with ⟨rfl, hn0⟩ | ⟨q, cap, cur, rfl, hq, hh, hnc, hcm, hcs, htk⟩
  · obtain rfl : xs = [] := List.eq_nil_of_length_eq_zero hn0
    exact ⟨none, 0, rfl, ⟨rfl, fun h => absurd h (by simp)⟩, by simp, by omega, (fun a e => nomatch e)⟩
  · refine ⟨_, cap, rfl, ⟨rfl, fun _ => ⟨q, 0, rfl, fun j hj => ?_⟩⟩, hnc, hcm, fun a e => ?_⟩
    · rw [Nat.zero_add, h.cellAt j (by omega), List.getElem?_map, List.getElem?_eq_getElem hj]
      rfl
    · injection e with e
      subst e
      exact ⟨hq, (Array.getElem?_eq_some_iff.1 hh).1⟩
theorem text_one (w : World) (s : ByteArray) : ∀ j u, [Value.string s][j]? = some u → (w.alloc (.cells #[.string s] 9)).cell? ⟨w.heap.size, 0 + j, none⟩ = some u := by
  intro j u hu
  rw [Nat.zero_add, cell_of_row _ _ j _ _ (0, 0) (heap_alloc_new w _)]
  simpa using hu

set_option maxRecDepth 100000 in
set_option maxHeartbeats 8000000 in
theorem names_ok (w : World) (g : Nat) (D : Dk) (F : Nat → Prop) (h : RDk w g D F) :
    Calls Tryz.prog 108 #[pt g] w fun e w' => ∃ A c, e = .returned (.slice A (nms D).length c) ∧ TAt w' A (nms D).length (nms D) ∧ (nms D).length ≤ c ∧ c ≤ 9223372036854775807 ∧ InF (fun k => w.heap.size ≤ k ∧ k < w'.heap.size) A ∧ Below w.heap.size w w' := by
  obtain ⟨Fb, v, KA, kn, kc, qs, h⟩ := h
  obtain ⟨A0, cap, rfl, hcap, hcapm, _, hcell⟩ := h.list.form
  have c0 := h.c0
  have c1 := h.c1
  obtain ⟨dd, hd⟩ : ∃ b, D.dead = b := ⟨_, rfl⟩
  rw [hd] at c1
  obtain ⟨m, hm⟩ : ∃ x, qs.length = x := ⟨_, rfl⟩
  have hlen := h.len
  have hfew := h.ok.few
  have hm20 : m ≤ 20 := by omega
  rw [hm] at c0 hcap
  have HM := Lib.hid hm
  have H := Lib.hid h
  have HD := Lib.hid hd
  have HCE := Lib.hid hcell
  have HLEN := Lib.hid hlen
  have hgl := h.lt g h.fg.1
  obtain ⟨i0, hi0, hz, hsz, hby⟩ := info_parts infoT
  clear h hd hm hcell hlen hfew
  cases dd with
  | true =>
    have hN : nms D = [] := by unfold nms; rw [HD.out]; rfl
    rw [hN]
    by_cases h0 : 0 < m
    · go_enter Tryz.func108, Tryz.ntmps108
      go_wp2_with fail
      go_loopw [3, 4] (fun ov iv wr => ov = .slice none 0 0 ∧ iv = .int .i64 0 ∧ wr = w) (fun _ _ _ => 0)
      case atStart => exact ⟨rfl, rfl, rfl⟩
      case round =>
        obtain ⟨rfl, rfl, rfl⟩ := hrel
        go_wp2
        go_ret
        exact ⟨none, 0, rfl, ⟨rfl, fun h => absurd h (by simp)⟩, by simp, by omega, (fun a e => nomatch e), Below.refl _ _⟩
    · go_enter Tryz.func108, Tryz.ntmps108
      go_wp2_with fail
      go_loopw [3, 4] (fun ov iv wr => ov = .slice none 0 0 ∧ iv = .int .i64 0 ∧ wr = w) (fun _ _ _ => 0)
      case atStart => exact ⟨rfl, rfl, rfl⟩
      case round =>
        obtain ⟨rfl, rfl, rfl⟩ := hrel
        go_wp2
        go_ret
        exact ⟨none, 0, rfl, ⟨rfl, fun h => absurd h (by simp)⟩, by simp, by omega, (fun a e => nomatch e), Below.refl _ _⟩
  | false =>
    have hN : nms D = D.l.map Fl.name := by unfold nms; rw [HD.out]; rfl
    obtain ⟨ns, hns⟩ : ∃ x, nms D = x := ⟨_, rfl⟩
    rw [hns]
    have HNS := Lib.hid (hns.symm.trans hN)
    clear hN hns
    go_enter Tryz.func108, Tryz.ntmps108
    go_wp2_with fail
    go_loopw [3, 4] (fun ov iv wr => ∃ i : Nat, i ≤ m ∧ iv = .int .i64 i ∧ Hid (wr.ownsRow w.heap.size 9 1 ov i ((ns.take i).map Value.string)) ∧ Hid (Below w.heap.size w wr)) (fun _ iv _ => m - (intOf iv).toNat)
    case atStart => exact ⟨0, Nat.zero_le _, rfl, Lib.hid (World.ownsRow_nil _ _ _ _), Lib.hid (Below.refl _ _)⟩
    case round =>
      obtain ⟨i, hi, rfl, hrow, hB⟩ := hrel
      have hRx := H.out.below hB.out
      have x0 := hRx.c0
      have x1 := hRx.c1
      rw [HD.out] at x1
      rw [HM.out] at x0
      clear c0 c1
      by_cases hlt : i < m
      · have hq : i < qs.length := by rw [HM.out]; exact hlt
        obtain ⟨b, rfl, hFb, hnb, hcl⟩ := HCE.out (by rw [HM.out]; omega)
        have d0 := (hB.out.cell (World.block_lt_of_cell? w _ (hcl i hq).1)).trans (hcl i hq).1
        obtain ⟨nm, hnm⟩ : ∃ x, qs[i].f.name = x := ⟨_, rfl⟩
        rw [hnm] at d0
        have hil : i < D.l.length := by rw [← HLEN.out]; exact hq
        have hin : i < ns.length := by rw [HNS.out, List.length_map]; exact hil
        have hne : ns[i] = nm := by
          have h1 : ns[i] = (D.l.map Fl.name)[i]'(by rw [List.length_map]; exact hil) := by simp only [HNS.out]
          rw [h1, List.getElem_map, H.out.get hq, hnm]
        have HT := Lib.hid (show (ns.take i).map Value.string ++ [Value.string nm] = (ns.take (i + 1)).map Value.string by rw [List.take_succ_eq_append_getElem hin, List.map_append, hne]; rfl)
        have hr2 := Lib.hid (hrow.out.alloc (.cells #[.string nm] 9))
        have hB2 := Lib.hid (hB.out.alloc hB.out.size (.cells #[.string nm] 9))
        have hs2 := Lib.hid hB2.out.size
        have hn2 := Lib.hid (show 0 < 1 → ∃ b o, (some (⟨wr.heap.size, 0, none⟩ : Addr)) = some ⟨b, o, none⟩ ∧ ∀ j u, [Value.string nm][j]? = some u → (wr.alloc (.cells #[.string nm] 9)).cell? ⟨b, o + j, none⟩ = some u from fun _ => ⟨_, 0, rfl, text_one wr nm⟩)
        have ho2 := Lib.hid (show ∀ u ∈ [Value.string nm], u.oneCell' = true from fun u hu => by obtain rfl := List.mem_singleton.1 hu; rfl)
        have hm63 : i + 1 ≤ maxLen := by unfold maxLen; omega
        have hb16 : (i + 1) * 16 ≤ 140737488355328 := by omega
        clear hnm hne hrow hin hcl hRx hFb hnb
        go_wp2_with (at_builtin; refine wpList_appV rfl _ _ 41 rfl w.heap.size 9 i0 (.string ByteArray.empty) 1 16 Tryz.underlying41 hi0 hz hsz hby rfl (by decide) u3 i ((ns.take i).map Value.string) rfl hr2.out (some ⟨wr.heap.size, 0, none⟩) 1 1 [.string nm] rfl rfl hn2.out ho2.out hm63 hb16 hs2.out ?_; intro v5 w5 hr5 hg5; have HR5 := Lib.hid hr5; have HB5 := Lib.hid (hB2.out.grown hg5 hB2.out.size (fun k e => (rowOwn hr2.out k e).1)); clear hr5 hg5)
        go_roundw
        case rel => exact ⟨i + 1, by omega, by go_num, Lib.hid (by rw [← HT.out]; exact HR5.out), HB5⟩
        case measure => simp [intOf]; omega
      · have him : i = m := by omega
        have hr3 := hrow.out
        rw [List.take_of_length_le (by rw [HNS.out, List.length_map, ← HLEN.out, HM.out]; omega)] at hr3
        obtain ⟨A1, cc, rfl, h1, h2, h3, h4⟩ := rowTexts (xs := ns) (by rw [HNS.out, List.length_map, ← HLEN.out, HM.out]; omega) hr3
        have H1 := Lib.hid h1
        have HL := Lib.hid h1.1
        clear h1 hr3 hrow him
        go_wp2
        go_ret
        rw [HL.out]
        exact ⟨A1, cc, rfl, H1.out, h2, h3, h4, hB.out⟩
end Go.Proofs.YtamglegdgcehaaaGreat
set_option linter.unusedVariables false
namespace Go.Proofs.YtamglegdgcehaaaGreat
open Go.RowKit

/-- Blocks of one's own are added. -/
theorem RDkB.widen {V : World} {g : Nat} {D : Dk} {F Fb : Nat → Prop} {v : Value} {A : Option Addr} {n c : Nat} {qs : List Fv} (h : RDkB V g D F Fb v A n c qs) (N : Nat → Prop) (hN : ∀ k, N k → ¬ F k ∧ k < V.heap.size) :
    RDkB V g D (fun k => F k ∨ N k) (fun k => Fb k ∨ N k) v A n c qs := by
  refine ⟨h.obj, h.eq, ⟨h.list.row, fun k e => ⟨.inl (h.list.own k e).1, ?_⟩, fun q hq => (h.list.each q hq).on (fun _ _ => rfl) (fun _ e => .inl e)⟩, h.keep, fun a e => .inl (h.keepF a e), h.kcap, ⟨.inl h.fg.1, ?_, h.fg.2.2⟩, fun k e => ?_, fun k e => ?_, h.ok⟩
  · rintro (e2 | e2)
    · exact (h.list.own k e).2 e2
    · exact (hN k e2).1 (h.list.own k e).1
  · rintro (e2 | e2)
    · exact h.fg.2.1 e2
    · exact (hN g e2).1 h.fg.1
  · rcases e with e | e
    · exact .inl (h.sub k e)
    · exact .inr e
  · rcases e with e | e
    · exact h.lt k e
    · exact (hN k e).2
theorem shl_t : ∀ t : Nat, t ≤ 7 → IntKind.u8.wrap ((2 : Int) ^ t) = (((1 : UInt8) <<< UInt8.ofNat t).toNat : Int) := by
  intro t ht
  rcases (show t = 0 ∨ t = 1 ∨ t = 2 ∨ t = 3 ∨ t = 4 ∨ t = 5 ∨ t = 6 ∨ t = 7 by omega) with rfl | rfl | rfl | rfl | rfl | rfl | rfl | rfl <;> decide
theorem xor_u8 (x y : UInt8) : Go.bits .xor .u8 (x.toNat : Int) (y.toNat : Int) = ((x ^^^ y).toNat : Int) := by
  rw [u8_xor_nat _ _ x.toNat_lt y.toNat_lt, UInt8.toNat_xor]
section
variable {w : World} {B g m c : Nat} {xs : List UInt8}
theorem Own.some_' {A : Option Addr} (h : Own w B (.slice A m c) xs) (hl : xs.length = m) (hm : 0 < m) : ∃ g, A = some ⟨g, 0, none⟩ ∧ B ≤ g ∧ g < w.heap.size := by
  subst hl
  exact h.some_ hm
theorem Own.cell' (h : Own w B (.slice (some ⟨g, 0, none⟩) m c) xs) (hl : xs.length = m) (k : Nat) (hk : k < m) : w.cell? ⟨g, k, none⟩ = some (.int .u8 ((xs[k]'(by rw [hl]; exact hk)).toNat : Int)) := h.cell k hk
theorem Own.set' (h : Own w B (.slice (some ⟨g, 0, none⟩) m c) xs) (hl : xs.length = m) (k : Nat) (y : UInt8) : At (w.setCell ⟨g, k, none⟩ (.int .u8 (y.toNat : Int))) (some ⟨g, 0, none⟩) m (xs.set k y) := by
  subst hl
  have h1 := (h.set k y).at_
  exact h1
theorem Own.free' (h : Own w B (.slice (some ⟨g, 0, none⟩) m c) xs) (hl : xs.length = m) (k : Nat) : w.frozen? ⟨g, k, none⟩ = false := h.free k
end
end Go.Proofs.YtamglegdgcehaaaGreat
set_option linter.unusedVariables false
namespace Go.Proofs.YtamglegdgcehaaaGreat
open Go.RowKit

abbrev DRep : Type := World → Nat → Dk → (Nat → Prop) → Prop
def newF (w w' : World) : Nat → Prop := fun k => w.heap.size ≤ k ∧ k < w'.heap.size

structure DiskOk (R : DRep) : Prop where
  on : ∀ {V V' : World} {g : Nat} {D : Dk} {F : Nat → Prop}, R V g D F → V.heap.size ≤ V'.heap.size → (∀ k, F k → V'.heap[k]? = V.heap[k]?) → R V' g D F
  mono : ∀ {V : World} {g : Nat} {D : Dk} {F G : Nat → Prop}, R V g D F → (∀ k, F k → G k) → (∀ k, G k → k < V.heap.size) → R V g D G
  lt : ∀ {V : World} {g : Nat} {D : Dk} {F : Nat → Prop}, R V g D F → ∀ k, F k → k < V.heap.size
  ok : ∀ {V : World} {g : Nat} {D : Dk} {F : Nat → Prop}, R V g D F → D.ok
  new : ∀ (w : World), Calls Tryz.prog 10 #[] w fun e w' => ∃ g, e = .returned (pt g) ∧ w.heap.size ≤ g ∧ R w' g dk0 (newF w w') ∧ Below w.heap.size w w'
  append : ∀ (w : World) (g : Nat) (D : Dk) (F : Nat → Prop) (nm : ByteArray) (XA : Option Addr) (xn xc : Nat) (xs : List UInt8), R w g D F → At w XA xn xs → (0 < xn → InF (fun k => ¬ F k) XA) → xn ≤ 140000000000000 →
    Calls Tryz.prog 15 #[pt g, .string nm, .slice XA xn xc] w fun e w' => e = .returned (.int .i64 (appE D nm xs.length)) ∧ Turns R w g F (app D nm xs) w'
  sync : ∀ (w : World) (g : Nat) (D : Dk) (F : Nat → Prop) (nm : ByteArray), R w g D F → Calls Tryz.prog 16 #[pt g, .string nm] w fun e w' => e = .returned (.int .i64 (synE D nm)) ∧ Turns R w g F (syn D nm) w'
  cut : ∀ (w : World) (g : Nat) (D : Dk) (F : Nat → Prop) (nm : ByteArray) (k : Int), (-9223372036854775808 ≤ k ∧ k ≤ 9223372036854775807) → R w g D F → Calls Tryz.prog 163 #[pt g, .string nm, .int .i64 k] w fun e w' => e = .returned (.int .i64 (cutE D nm k)) ∧ Turns R w g F (cut D nm k) w'
  rename : ∀ (w : World) (g : Nat) (D : Dk) (F : Nat → Prop) (nm t : ByteArray), R w g D F → Calls Tryz.prog 79 #[pt g, .string nm, .string t] w fun e w' => e = .returned (.int .i64 (renE D nm t)) ∧ Turns R w g F (ren D nm t) w'
  remove : ∀ (w : World) (g : Nat) (D : Dk) (F : Nat → Prop) (nm : ByteArray), R w g D F → Calls Tryz.prog 81 #[pt g, .string nm] w fun e w' => e = .returned (.int .i64 (remE D nm)) ∧ Turns R w g F (rem D nm) w'
  crash : ∀ (w : World) (g : Nat) (D : Dk) (F : Nat → Prop) (A : Option Addr) (n c : Nat) (keep : List Int), R w g D F → IAt w A n keep → (0 < n → InF (fun k => k < w.heap.size ∧ ¬ F k) A) → n ≤ c → c ≤ 9223372036854775807 →
    Calls Tryz.prog 25 #[pt g, .slice A n c] w fun e w' => e = .returned (.tuple #[]) ∧ Turns R w g F (crash D keep) w'
  fail : ∀ (w : World) (g : Nat) (D : Dk) (F : Nat → Prop) (k : Int) (A : Option Addr) (n c : Nat) (keep : List Int), -9223372036854775808 ≤ k → k ≤ 9223372036854775807 → R w g D F → IAt w A n keep → (0 < n → InF (fun k => ¬ F k) A) → n ≤ 17592186044416 → n ≤ c →
    Calls Tryz.prog 24 #[pt g, .int .i64 k, .slice A n c] w fun e w' => e = .returned (.tuple #[]) ∧ Turns R w g F (fal D k keep) w'
  boot : ∀ (w : World) (g : Nat) (D : Dk) (F : Nat → Prop), R w g D F → Calls Tryz.prog 27 #[pt g] w fun e w' => e = .returned (.tuple #[]) ∧ Turns R w g F (boot D) w'
  turn : ∀ (w : World) (g : Nat) (D : Dk) (F : Nat → Prop) (nm : ByteArray) (i b : Int), (-9223372036854775808 ≤ i ∧ i ≤ 9223372036854775807) → (-9223372036854775808 ≤ b ∧ b ≤ 9223372036854775807) → R w g D F →
    Calls Tryz.prog 36 #[pt g, .string nm, .int .i64 i, .int .i64 b] w fun e w' => e = .returned (.int .i64 (trnE D nm i b)) ∧ Turns R w g F (trn D nm i b) w'
  read : ∀ (w : World) (g : Nat) (D : Dk) (F : Nat → Prop) (nm : ByteArray), R w g D F → Calls Tryz.prog 34 #[pt g, .string nm] w fun e w' => ∃ v, e = .returned (.tuple #[v, .int .i64 (rdE D nm)]) ∧ NewBytes w w' v (rdB D nm) ∧ Below w.heap.size w w'
  size : ∀ (w : World) (g : Nat) (D : Dk) (F : Nat → Prop) (nm : ByteArray), R w g D F → Calls Tryz.prog 32 #[pt g, .string nm] w fun e w' => e = .returned (.tuple #[.int .i64 ((rdB D nm).length : Nat), .int .i64 (rdE D nm)]) ∧ Below w.heap.size w w'
  names : ∀ (w : World) (g : Nat) (D : Dk) (F : Nat → Prop), R w g D F → Calls Tryz.prog 107 #[pt g] w fun e w' => ∃ A c, e = .returned (.slice A (nms D).length c) ∧ TAt w' A (nms D).length (nms D) ∧ (nms D).length ≤ c ∧ c ≤ 9223372036854775807 ∧ Below w.heap.size w w'
  dead : ∀ (w : World) (g : Nat) (D : Dk) (F : Nat → Prop), R w g D F → Calls Tryz.prog 26 #[pt g] w fun e w' => e = .returned (.bool D.dead) ∧ Below w.heap.size w w'
section
variable {R : DRep} {V V' w : World} {g : Nat} {D D' : Dk} {F : Nat → Prop}
theorem DiskOk.below (hR : DiskOk R) (h : R V g D F) (hb : Below V.heap.size V V') : R V' g D F := hR.on h hb.size (fun k e => hb.block k (hR.lt h k e))
end
/-- A disk of the call's own, and nothing older has changed. -/
def DOwn (R : DRep) (w : World) (g : Nat) (D : Dk) (V : World) : Prop := ∃ F, R V g D F ∧ (∀ k, F k → w.heap.size ≤ k) ∧ Below w.heap.size w V
section
variable {R : DRep} {w V V' : World} {g : Nat} {D D' : Dk} {f : FuncId} {args : Array Value} {v : Value}
theorem DOwn.keep (hR : DiskOk R) (h : DOwn R w g D V) (hb : Below V.heap.size V V') : DOwn R w g D V' := by
  obtain ⟨F, h1, h2, h3⟩ := h
  exact ⟨F, hR.below h1 hb, h2, h3.trans (hb.mono h3.size)⟩
theorem DOwn.turn {F : Nat → Prop} (hF : ∀ k, F k → w.heap.size ≤ k) (hb : Below w.heap.size w V) (h : Turns R V g F D' V') : DOwn R w g D' V' :=
  ⟨_, h.1, fun k e => by rcases e with e | e; exact hF k e; exact Nat.le_trans hb.size e.1, h.2.below hb hb.size hF⟩
end
end Go.Proofs.YtamglegdgcehaaaGreat
set_option linter.unusedVariables false
namespace Go.Proofs.YtamglegdgcehaaaGreat
open Go.RowKit

/-- Numbers of the walk's own. -/
def OwnI (w : World) (B : Nat) (v : Value) (xs : List Int) : Prop := w.ownsRow B 3 1 v xs.length (xs.map (Value.int .i64))
theorem OwnI.form {w : World} {B : Nat} {v : Value} {xs : List Int} (h : OwnI w B v xs) : ∃ A c, v = .slice A xs.length c ∧ IAt w A xs.length xs ∧ xs.length ≤ c ∧ c ≤ 9223372036854775807 ∧ InF (fun k => B ≤ k ∧ k < w.heap.size) A := by
  unfold OwnI at h
  rcases h.2 with ⟨rfl, hn0⟩ | ⟨q, cap, cur, rfl, hq, hh, hnc, hcm, hcs, htk⟩
  · obtain rfl : xs = [] := List.eq_nil_of_length_eq_zero hn0
    exact ⟨none, 0, rfl, IAt.nil _ _, by simp, by omega, (fun a e => nomatch e)⟩
  · refine ⟨_, cap, rfl, ⟨rfl, fun _ => ⟨q, 0, rfl, fun j hj => ?_⟩⟩, hnc, hcm, fun a e => ?_⟩
    · rw [Nat.zero_add, h.cellAt j (by omega), List.getElem?_map, List.getElem?_eq_getElem hj]
      rfl
    · injection e with e
      subst e
      exact ⟨hq, (Array.getElem?_eq_some_iff.1 hh).1⟩
theorem OwnI.base_ {w : World} {B B' : Nat} {v : Value} {xs : List Int} (h : OwnI w B v xs) (hB : B' ≤ B) : OwnI w B' v xs := by
  unfold OwnI at h ⊢
  refine ⟨h.1, ?_⟩
  rcases h.2 with ⟨e, h0⟩ | ⟨q, cap, cur, e, hq, r⟩
  · exact .inl ⟨e, h0⟩
  · exact .inr ⟨q, cap, cur, e, Nat.le_trans hB hq, r⟩
theorem InF.of {P : Nat → Prop} {A : Option Addr} {n c j : Nat} (h : InF P A) (e : (Value.slice A n c).ownBlock = some j) : P j := by
  cases A with
  | none => exact nomatch e
  | some a =>
    have e' : some a.block = some j := e
    injection e' with e'
    subst e'
    exact h a rfl
theorem OwnI.onS {V V' : World} {B : Nat} {v : Value} {ys : List Int} (h : OwnI V B v ys) (hk : ∀ k, v.ownBlock = some k → V'.heap[k]? = V.heap[k]?) : OwnI V' B v ys := by
  unfold OwnI at h ⊢
  refine ⟨h.1, ?_⟩
  rcases h.2 with ⟨e, h0⟩ | ⟨q, cap, cur, e, hq, hh, r⟩
  · exact .inl ⟨e, h0⟩
  · subst e
    exact .inr ⟨q, cap, cur, rfl, hq, (hk q rfl).trans hh, r⟩
theorem Own.onS {V V' : World} {B : Nat} {v : Value} {ys : List UInt8} (h : Own V B v ys) (hk : ∀ k, v.ownBlock = some k → V'.heap[k]? = V.heap[k]?) : Own V' B v ys := by
  unfold Own at h ⊢
  refine ⟨h.1, ?_⟩
  rcases h.2 with ⟨e, h0⟩ | ⟨q, cap, cur, e, hq, hh, r⟩
  · exact .inl ⟨e, h0⟩
  · subst e
    exact .inr ⟨q, cap, cur, rfl, hq, (hk q rfl).trans hh, r⟩
end Go.Proofs.YtamglegdgcehaaaGreat
set_option linter.unusedVariables false
namespace Go.Proofs.YtamglegdgcehaaaGreat
open Go.RowKit

section
variable {R : DRep} {w V V' : World} {g : Nat} {D D' : Dk}
theorem DOwn.bel (h : DOwn R w g D V) : Below w.heap.size w V := by obtain ⟨F, _, _, hb⟩ := h; exact hb
theorem DOwn.ok (hD : DiskOk R) (h : DOwn R w g D V) : D.ok := by obtain ⟨F, h, _, _⟩ := h; exact hD.ok h
theorem DOwn.drewN (hD : DiskOk R) (h : DOwn R w g D V) (n : Nat) : DOwn R w g D (V.drewN n) := h.keep hD (below_drewN (Below.refl _ _) n)
theorem DOwn.alloc (hD : DiskOk R) (h : DOwn R w g D V) (o : Obj) : DOwn R w g D (V.alloc o) := h.keep hD ((Below.refl _ _).alloc (Nat.le_refl _) o)
theorem DOwn.new_ (hD : DiskOk R) (hb : Below w.heap.size w V) : Calls Tryz.prog 10 #[] V fun e w' => ∃ g, e = .returned (pt g) ∧ w.heap.size ≤ g ∧ DOwn R w g dk0 w' ∧ Below w.heap.size w w' :=
  (hD.new V).mono fun e w' ⟨g, he, hg, h, hb'⟩ => ⟨g, he, Nat.le_trans hb.size hg, ⟨_, h, fun k hk => Nat.le_trans hb.size hk.1, hb.trans (hb'.mono hb.size)⟩, hb.trans (hb'.mono hb.size)⟩

/-- What is handed in lies elsewhere: it is older than all of this, or younger than the disk. -/
def Away (w V : World) (A : Option Addr) : Prop := ∀ a, A = some a → a.block < w.heap.size ∨ V.heap.size ≤ a.block
theorem Away.old {A : Option Addr} (h : ∀ a, A = some a → a.block < w.heap.size) : Away w V A := fun a e => .inl (h a e)
theorem Away.new_ (q : Nat) (hq : V.heap.size ≤ q) : Away w V (some ⟨q, 0, none⟩) := fun a e => .inr (by injection e with e; subst e; exact hq)
theorem Away.none_ : Away w V none := fun a e => nomatch e
theorem Away.inF {A : Option Addr} {F : Nat → Prop} (hA : Away w V A) (h1 : ∀ k, F k → k < V.heap.size) (h2 : ∀ k, F k → w.heap.size ≤ k) : InF (fun k => ¬ F k) A := fun a e hF => by
  have := h1 _ hF
  have := h2 _ hF
  rcases hA a e with h | h <;> omega

theorem DOwn.append (hD : DiskOk R) (h : DOwn R w g D V) (hb : Below V.heap.size V V') (nm : ByteArray) {XA : Option Addr} {xn : Nat} (xc : Nat) {xs : List UInt8} (hx : At V' XA xn xs) (hA : 0 < xn → Away w V XA) (hn : xn ≤ 140000000000000) :
    Calls Tryz.prog 15 #[pt g, .string nm, .slice XA xn xc] V' fun e w' => e = .returned (.int .i64 (appE D nm xs.length)) ∧ DOwn R w g (app D nm xs) w' := by
  obtain ⟨F, h1, h2, h3⟩ := h
  exact (hD.append V' g D F nm XA xn xc xs (hD.below h1 hb) hx (fun h0 => (hA h0).inF (hD.lt h1) h2) hn).mono fun e w' hh => ⟨hh.1, DOwn.turn h2 (h3.trans (hb.mono h3.size)) hh.2⟩
theorem DOwn.sync (hD : DiskOk R) (h : DOwn R w g D V) (nm : ByteArray) :
    Calls Tryz.prog 16 #[pt g, .string nm] V fun e w' => e = .returned (.int .i64 (synE D nm)) ∧ DOwn R w g (syn D nm) w' := by
  obtain ⟨F, h1, h2, h3⟩ := h
  exact (hD.sync V g D F nm h1).mono fun e w' hh => ⟨hh.1, DOwn.turn h2 h3 hh.2⟩
theorem DOwn.cut (hD : DiskOk R) (h : DOwn R w g D V) (nm : ByteArray) (k : Int) (hk : -9223372036854775808 ≤ k ∧ k ≤ 9223372036854775807) :
    Calls Tryz.prog 163 #[pt g, .string nm, .int .i64 k] V fun e w' => e = .returned (.int .i64 (cutE D nm k)) ∧ DOwn R w g (Go.Proofs.YtamglegdgcehaaaGreat.cut D nm k) w' := by
  obtain ⟨F, h1, h2, h3⟩ := h
  exact (hD.cut V g D F nm k hk h1).mono fun e w' hh => ⟨hh.1, DOwn.turn h2 h3 hh.2⟩
theorem DOwn.rename (hD : DiskOk R) (h : DOwn R w g D V) (nm t : ByteArray) :
    Calls Tryz.prog 79 #[pt g, .string nm, .string t] V fun e w' => e = .returned (.int .i64 (renE D nm t)) ∧ DOwn R w g (ren D nm t) w' := by
  obtain ⟨F, h1, h2, h3⟩ := h
  exact (hD.rename V g D F nm t h1).mono fun e w' hh => ⟨hh.1, DOwn.turn h2 h3 hh.2⟩
theorem DOwn.remove (hD : DiskOk R) (h : DOwn R w g D V) (nm : ByteArray) :
    Calls Tryz.prog 81 #[pt g, .string nm] V fun e w' => e = .returned (.int .i64 (remE D nm)) ∧ DOwn R w g (rem D nm) w' := by
  obtain ⟨F, h1, h2, h3⟩ := h
  exact (hD.remove V g D F nm h1).mono fun e w' hh => ⟨hh.1, DOwn.turn h2 h3 hh.2⟩
theorem DOwn.crash (hD : DiskOk R) (h : DOwn R w g D V) (hb : Below V.heap.size V V') {A : Option Addr} {n c : Nat} {keep : List Int} (hK : IAt V' A n keep) (hA : 0 < n → Away w V A) (hl : 0 < n → ∀ a, A = some a → a.block < V'.heap.size) (hnc : n ≤ c) (hc : c ≤ 9223372036854775807) :
    Calls Tryz.prog 25 #[pt g, .slice A n c] V' fun e w' => e = .returned (.tuple #[]) ∧ DOwn R w g (Go.Proofs.YtamglegdgcehaaaGreat.crash D keep) w' := by
  obtain ⟨F, h1, h2, h3⟩ := h
  exact (hD.crash V' g D F A n c keep (hD.below h1 hb) hK (fun h0 a e => ⟨hl h0 a e, (hA h0).inF (hD.lt h1) h2 a e⟩) hnc hc).mono fun e w' hh => ⟨hh.1, DOwn.turn h2 (h3.trans (hb.mono h3.size)) hh.2⟩
theorem DOwn.fail (hD : DiskOk R) (h : DOwn R w g D V) (hb : Below V.heap.size V V') (k : Int) {A : Option Addr} {n : Nat} (c : Nat) {keep : List Int} (hk : -9223372036854775808 ≤ k ∧ k ≤ 9223372036854775807) (hK : IAt V' A n keep) (hA : 0 < n → Away w V A) (hn : n ≤ 17592186044416) (hnc : n ≤ c) :
    Calls Tryz.prog 24 #[pt g, .int .i64 k, .slice A n c] V' fun e w' => e = .returned (.tuple #[]) ∧ DOwn R w g (fal D k keep) w' := by
  obtain ⟨F, h1, h2, h3⟩ := h
  exact (hD.fail V' g D F k A n c keep hk.1 hk.2 (hD.below h1 hb) hK (fun h0 => (hA h0).inF (hD.lt h1) h2) hn hnc).mono fun e w' hh => ⟨hh.1, DOwn.turn h2 (h3.trans (hb.mono h3.size)) hh.2⟩
theorem DOwn.boot (hD : DiskOk R) (h : DOwn R w g D V) :
    Calls Tryz.prog 27 #[pt g] V fun e w' => e = .returned (.tuple #[]) ∧ DOwn R w g (Go.Proofs.YtamglegdgcehaaaGreat.boot D) w' := by
  obtain ⟨F, h1, h2, h3⟩ := h
  exact (hD.boot V g D F h1).mono fun e w' hh => ⟨hh.1, DOwn.turn h2 h3 hh.2⟩
theorem DOwn.turn_ (hD : DiskOk R) (h : DOwn R w g D V) (nm : ByteArray) (i b : Int) (hi : -9223372036854775808 ≤ i ∧ i ≤ 9223372036854775807) (hb : -9223372036854775808 ≤ b ∧ b ≤ 9223372036854775807) :
    Calls Tryz.prog 36 #[pt g, .string nm, .int .i64 i, .int .i64 b] V fun e w' => e = .returned (.int .i64 (trnE D nm i b)) ∧ DOwn R w g (trn D nm i b) w' := by
  obtain ⟨F, h1, h2, h3⟩ := h
  exact (hD.turn V g D F nm i b hi hb h1).mono fun e w' hh => ⟨hh.1, DOwn.turn h2 h3 hh.2⟩
theorem DOwn.read (hD : DiskOk R) (h : DOwn R w g D V) (nm : ByteArray) :
    Calls Tryz.prog 34 #[pt g, .string nm] V fun e w' => ∃ v, e = .returned (.tuple #[v, .int .i64 (rdE D nm)]) ∧ NewBytes V w' v (rdB D nm) ∧ Below V.heap.size V w' ∧ DOwn R w g D w' := by
  have h' := h
  obtain ⟨F, h1, h2, h3⟩ := h'
  exact (hD.read V g D F nm h1).mono fun e w' ⟨v, he, hv, hb⟩ => ⟨v, he, hv, hb, h.keep hD hb⟩
theorem DOwn.size (hD : DiskOk R) (h : DOwn R w g D V) (nm : ByteArray) :
    Calls Tryz.prog 32 #[pt g, .string nm] V fun e w' => e = .returned (.tuple #[.int .i64 ((rdB D nm).length : Nat), .int .i64 (rdE D nm)]) ∧ Below V.heap.size V w' ∧ DOwn R w g D w' := by
  have h' := h
  obtain ⟨F, h1, h2, h3⟩ := h'
  exact (hD.size V g D F nm h1).mono fun e w' ⟨he, hb⟩ => ⟨he, hb, h.keep hD hb⟩
theorem DOwn.names (hD : DiskOk R) (h : DOwn R w g D V) :
    Calls Tryz.prog 107 #[pt g] V fun e w' => ∃ A c, e = .returned (.slice A (nms D).length c) ∧ TAt w' A (nms D).length (nms D) ∧ (nms D).length ≤ c ∧ c ≤ 9223372036854775807 ∧ Below V.heap.size V w' ∧ DOwn R w g D w' := by
  have h' := h
  obtain ⟨F, h1, h2, h3⟩ := h'
  exact (hD.names V g D F h1).mono fun e w' ⟨A, c, he, ht, hc, hcm, hb⟩ => ⟨A, c, he, ht, hc, hcm, hb, h.keep hD hb⟩
theorem DOwn.dead (hD : DiskOk R) (h : DOwn R w g D V) :
    Calls Tryz.prog 26 #[pt g] V fun e w' => e = .returned (.bool D.dead) ∧ Below V.heap.size V w' ∧ DOwn R w g D w' := by
  have h' := h
  obtain ⟨F, h1, h2, h3⟩ := h'
  exact (hD.dead V g D F h1).mono fun e w' ⟨he, hb⟩ => ⟨he, hb, h.keep hD hb⟩
end

/-! ### a disk of one file -/
section
variable (f : Fl) (s : ByteArray)
theorem pos_nil : pos [] s = 0 := rfl
theorem isAt_nil : isAt [] s = false := rfl
theorem pos_one : pos [f] f.name = 0 := by unfold pos; rw [List.takeWhile_cons_of_neg (by rw [nl_irr]; decide)]; rfl
theorem isAt_one : isAt [f] f.name = true := by unfold isAt; rw [pos_one]; simp
theorem isAt_other (h : f.name ≠ s) : isAt [f] s = false := by
  unfold isAt
  by_cases h0 : pos [f] s = 0
  · rw [h0]; simpa using h
  · rw [List.getElem?_eq_none (by simp; omega)]
end
theorem pos_one' (s : ByteArray) (bs : List UInt8) (m : Nat) : pos [⟨s, bs, m⟩] s = 0 := pos_one ⟨s, bs, m⟩
theorem isAt_one' (s : ByteArray) (bs : List UInt8) (m : Nat) : isAt [⟨s, bs, m⟩] s = true := isAt_one ⟨s, bs, m⟩
theorem fileAt_one (s : ByteArray) (bs : List UInt8) (m : Nat) : fileAt [⟨s, bs, m⟩] s = ⟨s, bs, m⟩ := by unfold fileAt; rw [isAt_one', pos_one']; rfl
theorem sum_one (f : Fl) : sum [f] = f.bs.length := by unfold sum; simp
theorem app_new (s : ByteArray) (bs : List UInt8) (lf : Int) (kp : List Int) (hs : mayN s = true) (hb : bs.length ≤ 4194304) (hl : lf ≠ 0) :
    app ⟨[], false, lf, kp⟩ s bs = ⟨[⟨s, bs, 0⟩], false, if 0 < lf then lf - 1 else lf, kp⟩ ∧ appE ⟨[], false, lf, kp⟩ s bs.length = 0 := by
  have e0 : sum [] = 0 := rfl
  constructor
  · unfold app work
    simp only [hs, isAt_nil, e0]
    rw [if_neg (by decide), if_neg (by decide), if_neg (by simp; omega), if_neg hl]
    simp [withF, pos_nil, isAt_nil, fileAt]
  · unfold appE workE
    simp only [hs, isAt_nil, e0]
    rw [if_neg (by decide), if_neg (by decide), if_neg (by simp; omega), if_neg hl]
theorem app_one (s : ByteArray) (ys bs : List UInt8) (m : Nat) (lf : Int) (kp : List Int) (hs : mayN s = true) (hb : ys.length + bs.length ≤ 4194304) (hl : lf ≠ 0) :
    app ⟨[⟨s, ys, m⟩], false, lf, kp⟩ s bs = ⟨[⟨s, ys ++ bs, m⟩], false, if 0 < lf then lf - 1 else lf, kp⟩ ∧ appE ⟨[⟨s, ys, m⟩], false, lf, kp⟩ s bs.length = 0 := by
  constructor
  · unfold app work
    simp only [hs, isAt_one', sum_one]
    rw [if_neg (by decide), if_neg (by decide), if_neg (by simp; omega), if_neg hl]
    simp [withF, pos_one', isAt_one', fileAt_one]
  · unfold appE workE
    simp only [hs, isAt_one', sum_one]
    rw [if_neg (by decide), if_neg (by decide), if_neg (by simp; omega), if_neg hl]
theorem syn_one (s : ByteArray) (ys : List UInt8) (m : Nat) (lf : Int) (kp : List Int) (hl : lf ≠ 0) :
    syn ⟨[⟨s, ys, m⟩], false, lf, kp⟩ s = ⟨[⟨s, ys, ys.length⟩], false, if 0 < lf then lf - 1 else lf, kp⟩ ∧ synE ⟨[⟨s, ys, m⟩], false, lf, kp⟩ s = 0 := by
  constructor
  · unfold syn work nmE
    simp [isAt_one', hl, setAt, pos_one', fileAt_one]
  · unfold synE workE nmE
    simp [isAt_one', hl]
theorem cut_one (s : ByteArray) (ys : List UInt8) (m : Nat) (lf : Int) (kp : List Int) (k : Nat) (hk : k ≤ ys.length) (hl : lf ≠ 0) :
    cut ⟨[⟨s, ys, m⟩], false, lf, kp⟩ s k = ⟨[⟨s, ys.take k, min m k⟩], false, if 0 < lf then lf - 1 else lf, kp⟩ ∧ cutE ⟨[⟨s, ys, m⟩], false, lf, kp⟩ s k = 0 := by
  have e : ¬ ((k : Int) < 0 ∨ (ys.length : Int) < k) := by omega
  constructor
  · unfold cut work nmE
    simp only [isAt_one', fileAt_one, setAt, pos_one']
    rw [if_pos (by simp), if_neg e, if_neg hl]
    simp
  · unfold cutE workE nmE
    simp only [isAt_one', fileAt_one]
    rw [if_pos (by simp), if_neg e, if_neg hl]
theorem ren_one (s t : ByteArray) (ys : List UInt8) (m : Nat) (lf : Int) (kp : List Int) (ht : mayN t = true) (hl : lf ≠ 0) :
    ren ⟨[⟨s, ys, m⟩], false, lf, kp⟩ s t = ⟨[⟨t, ys, m⟩], false, if 0 < lf then lf - 1 else lf, kp⟩ ∧ renE ⟨[⟨s, ys, m⟩], false, lf, kp⟩ s t = 0 := by
  constructor
  · unfold ren work nmE
    simp [isAt_one', ht, hl, without, pos_one', withF, pos_nil, isAt_nil, fileAt_one]
  · unfold renE workE nmE
    simp [isAt_one', ht, hl]
theorem rd_one (s : ByteArray) (ys : List UInt8) (m : Nat) (lf : Int) (kp : List Int) :
    rdE ⟨[⟨s, ys, m⟩], false, lf, kp⟩ s = 0 ∧ rdB ⟨[⟨s, ys, m⟩], false, lf, kp⟩ s = ys := by
  constructor
  · unfold rdE nmE; simp [isAt_one']
  · unfold rdB nmE; simp [isAt_one', fileAt_one]
theorem rd_other (f : Fl) (s : ByteArray) (h : f.name ≠ s) (lf : Int) (kp : List Int) : rdE ⟨[f], false, lf, kp⟩ s = 70 := by unfold rdE nmE; simp [isAt_other f s h]
theorem rd_dead (l : List Fl) (s : ByteArray) (lf : Int) (kp : List Int) : rdE ⟨l, true, lf, kp⟩ s = 71 ∧ rdB ⟨l, true, lf, kp⟩ s = [] := ⟨by simp [rdE, nmE], by simp [rdB, nmE]⟩
end Go.Proofs.YtamglegdgcehaaaGreat
