/-
  Layer 7: the document's disk: Rename.
-/
import Derived.Test.YtkhalpajomammaaDPut
set_option linter.unusedVariables false
namespace Go.Proofs.Ytkhalpajomammaa
open Go.RowKit

/-- The middle of Rename: the file that was copied out gets its new name, and is put. -/
theorem rename_mid {w w1 w2 w3 : World} {g : Nat} {D D2 : Dk} {F Fb : Nat → Prop} {v v3 : Value} {KA : Option Addr} {kn kc : Nat} {qs qs3 : List Fv} {nm t : ByteArray} {p : Nat} {bs : List UInt8} {mk L : Nat} {qA : Option Addr} {qc : Nat}
    (h : RDkB w g D F Fb v KA kn kc qs) (hb1 : Below w.heap.size w w1) (h2 : RDkB w2 g D2 F Fb v KA kn kc qs) (hG2 : Grow F w1 w2)
    (h3 : RDkB w3 g { D2 with l := without D2.l nm } (nF F (w2.alloc (.cells #[.string nm, .slice qA L qc, .int .i64 (mk : Int)] 97)) w3) Fb v3 KA kn kc qs3)
    (hG3 : Grow (fun k => k = g) (w2.alloc (.cells #[.string nm, .slice qA L qc, .int .i64 (mk : Int)] 97)) w3)
    (hq : p < qs.length) (hqe : qs[p] = ⟨⟨nm, bs, mk⟩, qA, qc⟩) (hL : bs.length = L) (hok : ({ D2 with l := withF (without D2.l nm) ⟨t, bs, mk⟩ } : Dk).ok) :
    (∃ u, w3.cell? ⟨w2.heap.size, 0, none⟩ = some u) ∧ w3.frozen? ⟨w2.heap.size, 0, none⟩ = false ∧
    ((w3.setCell ⟨w2.heap.size, 0, none⟩ (.string t)).cell? ⟨w2.heap.size, 0, none⟩ = some (.string t) ∧ (w3.setCell ⟨w2.heap.size, 0, none⟩ (.string t)).cell? ⟨w2.heap.size, 1, none⟩ = some (.slice qA L qc) ∧ (w3.setCell ⟨w2.heap.size, 0, none⟩ (.string t)).cell? ⟨w2.heap.size, 2, none⟩ = some (.int .i64 (mk : Int))) ∧
    (w2.heap.size < w3.heap.size) ∧
    Calls Try.prog 72 #[pt g, .agg #[.string t, .slice qA L qc, .int .i64 (mk : Int)]] (w3.setCell ⟨w2.heap.size, 0, none⟩ (.string t)) fun e w' => e = .returned (.tuple #[]) ∧
      ∃ v' qs', RDkB w' g { D2 with l := withF (without D2.l nm) ⟨t, bs, mk⟩ } (nF (nF F (w2.alloc (.cells #[.string nm, .slice qA L qc, .int .i64 (mk : Int)] 97)) w3) (w3.setCell ⟨w2.heap.size, 0, none⟩ (.string t)) w') Fb v' KA kn kc qs' ∧ Grow (fun k => k = g) (w3.setCell ⟨w2.heap.size, 0, none⟩ (.string t)) w' := by
  have hgl : g < w2.heap.size := Nat.lt_of_lt_of_le (h.lt g h.fg.1) (Nat.le_trans hb1.size hG2.size)
  have hz : w2.heap.size < (w2.alloc (.cells #[.string nm, .slice qA L qc, .int .i64 (mk : Int)] 97)).heap.size := by simp
  have hx : w3.heap[w2.heap.size]? = some (.cells #[.string nm, .slice qA L qc, .int .i64 (mk : Int)] 97 (0, 0)) := (hG3.block _ hz (by omega)).trans (heap_alloc_new w2 _)
  have hx4 : (w3.setCell ⟨w2.heap.size, 0, none⟩ (.string t)).heap[w2.heap.size]? = some (.cells #[.string t, .slice qA L qc, .int .i64 (mk : Int)] 97 (0, 0)) := by
    simp only [World.setCell, Array.getElem?_modify, if_true, hx, Option.map_some]
    rfl
  have hF : ∀ k, F k → k < w2.heap.size := fun k e => Nat.lt_of_lt_of_le (h.lt k e) (Nat.le_trans hb1.size hG2.size)
  refine ⟨⟨_, cell_of_row w3 w2.heap.size 0 _ _ (0, 0) hx⟩, frozen_of_row w3 w2.heap.size 0 _ _ hx, ⟨cell_of_row _ w2.heap.size 0 _ _ (0, 0) hx4, cell_of_row _ w2.heap.size 1 _ _ (0, 0) hx4, cell_of_row _ w2.heap.size 2 _ _ (0, 0) hx4⟩, Nat.lt_of_lt_of_le hz hG3.size, ?_⟩
  have h4 := h3.far (p := ⟨w2.heap.size, 0, none⟩) (by rintro (e | e); exact absurd (hF _ e) (by simp); exact absurd e.1 (by simp)) (.string t)
  have hr := h2.list.each _ (List.getElem_mem hq)
  rw [hqe] at hr
  have hr4 : RFl (w3.setCell ⟨w2.heap.size, 0, none⟩ (.string t)) Fb ⟨⟨t, bs, mk⟩, qA, qc⟩ := by
    have hk : ∀ k, Fb k → (w3.setCell ⟨w2.heap.size, 0, none⟩ (.string t)).heap[k]? = w2.heap[k]? := fun k e => by
      have hl := hF k (h.sub k e)
      rw [set_blk w3 _ _ _ (by omega), hG3.block k (by omega) (fun e2 => h.fg.2.1 (e2 ▸ e))]
      exact ((Below.refl w2.heap.size w2).alloc (Nat.le_refl _) _).block k hl
    exact ⟨hr.at_.on hr.inF hk, hr.cap, hr.capm, hr.inF⟩
  have hw := with_b _ g _ _ Fb v3 KA kn kc qs3 ⟨⟨t, bs, mk⟩, qA, qc⟩ h4 hr4 hok
  simp only [hL] at hw
  exact hw

set_option maxRecDepth 100000 in
set_option maxHeartbeats 8000000 in
theorem rename_ok (w : World) (g : Nat) (D : Dk) (F : Nat → Prop) (nm : ByteArray) (t : ByteArray) (h : RDk w g D F) :
    Calls Try.prog 38 #[pt g, .string nm, .string t] w fun e w' => e = .returned (.int .i64 (renE D nm t)) ∧ Turns RDk w g F (ren D nm t) w' := by
  obtain ⟨Fb, v, KA, kn, kc, qs, h⟩ := h
  have FI := Lib.hid (find_ok w g D F nm ⟨Fb, v, KA, kn, kc, qs, h⟩)
  obtain ⟨p, hp⟩ : ∃ p, pos D.l nm = p := ⟨_, rfl⟩
  obtain ⟨is, his⟩ : ∃ b, isAt D.l nm = b := ⟨_, rfl⟩
  obtain ⟨dd, hd⟩ : ∃ b, D.dead = b := ⟨_, rfl⟩
  have c1 := h.c1
  rw [hp, his] at FI
  rw [hd] at c1
  have HP := Lib.hid hp
  have HI := Lib.hid his
  have HD := Lib.hid hd
  have H := Lib.hid h
  clear h hp his hd
  cases dd with
  | true =>
    have hE : renE D nm t = 71 := by unfold renE nmE; rw [HD.out]; rfl
    have hC : ren D nm t = D := by unfold ren nmE; rw [HD.out]; rfl
    rw [hE, hC]
    go_enter Try.func38, Try.ntmps38
    go_wp2_with fail
    go_ret
    exact ⟨rfl, H.out.ends (fun k e => .inl e) (Grow.refl _ _) H.out.lt⟩
  | false =>
    cases is with
    | false =>
      have hE : renE D nm t = 70 := by unfold renE nmE; rw [HD.out, HI.out]; rfl
      have hC : ren D nm t = D := by unfold ren nmE; rw [HD.out, HI.out]; rfl
      rw [hE, hC]
      go_enter Try.func38, Try.ntmps38
      go_wp2_with (first | (go_at_call 69; refine FI.out.mono ?_; rintro e w1 ⟨rfl, hb1⟩))
      go_ret
      exact ⟨rfl, (H.out.below hb1).ends (fun k e => .inl e) (Grow.of_below hb1) H.out.lt⟩
    | true =>
      have hN : nmE D nm = 0 := by unfold nmE; rw [HD.out, HI.out]; rfl
      have MY := Lib.hid (fun V => may_ok V t)
      obtain ⟨my, hmy⟩ : ∃ x, mayN t = x := ⟨_, rfl⟩
      rw [hmy] at MY
      have HMY := Lib.hid hmy
      clear hmy
      cases my with
      | false =>
        have hE : renE D nm t = 70 := by unfold renE; rw [hN, if_pos rfl, if_pos HMY.out]
        have hC : ren D nm t = D := by unfold ren; rw [hN, if_pos rfl, if_pos HMY.out]
        rw [hE, hC]
        clear hE hC hN
        go_enter Try.func38, Try.ntmps38
        go_wp2_with (first
          | (go_at_call 69; refine FI.out.mono ?_; rintro e w1 ⟨rfl, hb1⟩)
          | (go_at_call 68; refine (MY.out _).mono ?_; rintro e w2 ⟨rfl, rfl⟩))
        go_ret
        exact ⟨rfl, (H.out.below hb1).ends (fun k e => .inl e) (Grow.of_below hb1) H.out.lt⟩
      | true =>
        have hMY : ¬ mayN t = false := by rw [HMY.out]; decide
        by_cases hl : D.left = 0
        · have hE : renE D nm t = 71 := by unfold renE workE; rw [hN, if_pos rfl, if_neg hMY, if_pos hl]
          have hC : ren D nm t = crash D D.keep := by unfold ren; rw [hN, if_pos rfl, if_neg hMY, work_yes hl]
          rw [hE, hC]
          have FA := Lib.hid (fun V (hb : Below w.heap.size w V) => fails_yes V g D F Fb _ KA kn kc qs (H.out.below hb) hl)
          clear hl hN hE hC hMY
          go_enter Try.func38, Try.ntmps38
          go_wp2_with (first
            | (go_at_call 69; refine FI.out.mono ?_; rintro e w1 ⟨rfl, hb1⟩)
            | (go_at_call 68; refine (MY.out _).mono ?_; rintro e w2' ⟨rfl, rfl⟩)
            | (go_at_call 71; refine (FA.out _ hb1).mono ?_; rintro e w2 ⟨rfl, ht2⟩))
          go_ret
          exact ⟨rfl, turns_below hb1 ht2 H.out.lt⟩
        · have hE : renE D nm t = 0 := by unfold renE workE; rw [hN, if_pos rfl, if_neg hMY, if_neg hl]
          obtain ⟨b, m, cap, bs, mk, qA, qc, hq, rfl, hgb, hm, hmc, hqe, hfa, hrf, hmk, hbl, ⟨hdl, hde⟩, hm20⟩ := H.out.file HP.out HI.out
          have hC : ren D nm t = { D with l := withF (without D.l nm) ⟨t, bs, mk⟩, left := if 0 < D.left then D.left - 1 else D.left } := by unfold ren; rw [hN, if_pos rfl, if_neg hMY, work_no hl]; rw [hfa]
          obtain ⟨D', hD'⟩ : ∃ x, ren D nm t = x := ⟨_, rfl⟩
          rw [hE, hD']
          have HC := Lib.hid (hD'.symm.trans hC)
          have FA := Lib.hid (fun V (hb : Below w.heap.size w V) => fails_no V g D F Fb _ KA kn kc qs (H.out.below hb) hl)
          have hok1 : ({ D with left := if 0 < D.left then D.left - 1 else D.left } : Dk).ok := ok_left H.out.ok _ (by have := H.out.ok.low; split <;> omega) (by have := H.out.ok.high; split <;> omega)
          have hok2 := ok_without hok1 nm
          have hok : ({ D with l := withF (without D.l nm) ⟨t, bs, mk⟩, left := if 0 < D.left then D.left - 1 else D.left } : Dk).ok := ok_with (D := { D with l := without D.l nm, left := if 0 < D.left then D.left - 1 else D.left }) (f := ⟨t, bs, mk⟩) hok2 hmk (.inr (by have := without_len HI.out; have := H.out.ok.few; show (without D.l nm).length < 20; omega)) (by have h1 := without_sum HI.out; rw [hfa] at h1; have := H.out.ok.sum; show sum (without D.l nm) + bs.length ≤ 4194304 + _; simp only at h1; omega)
          have HOK := Lib.hid hok
          have HQE := Lib.hid hqe
          obtain ⟨L, hL⟩ : ∃ L, bs.length = L := ⟨_, rfl⟩
          have hpm : p < m := by omega
          have hpI : (p : Int) < (m : Int) := by omega
          have HL := Lib.hid hL
          have hgs := H.out.lt g H.out.fg.1
          obtain ⟨l1, hl1⟩ : ∃ x, (if 0 < D.left then D.left - 1 else D.left) = x := ⟨_, rfl⟩
          rw [hl1] at HOK
          simp only [hl1] at FA
          have HL1 := Lib.hid hl1
          clear hl hN hE hC hqe hfa hrf hde hm hok hok1 hok2 hD' hMY hmk hbl hL hl1
          go_enter Try.func38, Try.ntmps38
          go_wp2_with (first
            | (go_at_call 69; refine FI.out.mono ?_; rintro e w1 ⟨rfl, hb1⟩)
            | (go_at_call 68; refine (MY.out _).mono ?_; rintro e w2' ⟨rfl, rfl⟩)
            | (go_at_call 71; refine (FA.out _ hb1).mono ?_; rintro e w2 ⟨rfl, hR2, hG2⟩; have c0 := hR2.c0; obtain ⟨d0, d1, d2⟩ := hR2.cells hq HQE.out; rw [HL.out] at d1; have HR2 := Lib.hid hR2; have WO := Lib.hid (without_b _ g _ F Fb _ KA kn kc qs nm (hR2.below ((Below.refl w2.heap.size w2).alloc (Nat.le_refl _) (.cells #[.string nm, .slice qA L qc, .int .i64 (mk : Int)] 97)))); clear hR2)
            | (go_at_call 73; refine WO.out.mono ?_; rintro e w3 ⟨rfl, v3, qs3, hR3, hG3⟩; have HR3 := Lib.hid hR3; obtain ⟨⟨u0, x0⟩, x1, ⟨y0, y1, y2⟩, x3, WB⟩ := rename_mid H.out hb1 HR2.out hG2 HR3.out hG3 hq HQE.out HL.out HOK.out; clear hR3 WO)
            | (go_at_call 72; refine WB.mono ?_; rintro e w5 ⟨rfl, v5, qs5, hR5, hG5⟩; have HR5 := Lib.hid hR5; have HG5 := Lib.hid hG5; clear hR5 hG5))
          go_ret
          have hFg := H.out.fg.1
          have hG := (Grow.of_below (F := F) hb1).trans (hG2.mono (fun k e => .inl e))
          have hGa := hG.trans (Grow.of_below ((Below.refl w2.heap.size w2).alloc (Nat.le_refl _) (.cells #[.string nm, .slice qA L qc, .int .i64 (mk : Int)] 97)))
          have hGb := hGa.trans (hG3.mono (fun k e => .inl (e ▸ hFg)))
          have hGc := hGb.set (p := ⟨w2.heap.size, 0, none⟩) (.inr hG.size) (.string t)
          have hGd := hGc.trans (HG5.out.mono (fun k e => .inl (e ▸ hFg)))
          rw [HC.out, HL1.out]
          refine ⟨rfl, HR5.out.ends (fun k e => ?_) hGd H.out.lt⟩
          have z1 := HG5.out.size
          have z2 := hGa.size
          have z3 := hGc.size
          rw [set_size] at z1 z3
          unfold nF at e ⊢
          rw [set_size] at e
          rcases e with (e | e) | e
          · exact .inl e
          · exact .inr (by omega)
          · exact .inr (by omega)
end Go.Proofs.Ytkhalpajomammaa
