/-
  FrameBack: the walk, over what the code's functions promise.
-/
import Derived.Test.YthbegaknlhclpaaFWorks
import Derived.Test.YthbegaknlhclpaaFPut
import Derived.Test.YthbegaknlhclpaaFOut
set_option linter.unusedVariables false
namespace Go.Proofs.Ythbegaknlhclpaa
open Go.RowKit

theorem alls_nil : alls [] = [] := alls_no (p := []) (n := 0) (e := 3) (by decide +kernel) (by decide)
theorem alls_of_recs (us : List (List UInt8)) (h : ∀ u ∈ us, u.length ≤ 1000) : alls (recs us) = us := by
  have := alls_recs us [] (fun u hu => by have := h u hu; omega)
  rw [List.append_nil, alls_nil, List.append_nil] at this
  exact this

set_option maxHeartbeats 2000000 in
theorem frameBack_w (hF : FrameOk) (hN : NextOk) (hall : AllOk) (A : Option Addr) (m c : Nat) (ls : List (List UInt8)) (w : World) (hx : Lists w A m ls) (hm : m ≤ 9223372036854775807)
    (hcap : ∀ b o i (h : i < ls.length) Ai ci, A = some ⟨b, o, none⟩ → w.cell? ⟨b, o + i, none⟩ = some (.slice Ai ls[i].length ci) → ls[i].length ≤ ci ∧ ci ≤ 9223372036854775807) :
    Calls Try.prog 5 #[.slice A m c] w fun e w' => e = .returned (.bool true) ∧ Below w.heap.size w w' := by
  have HW := Lib.hid (works hF hN)
  have hus := cutL_small ls (min m 20)
  have hul := cutL_len ls (min m 20) (by have := hx.1; omega)
  have hrl := recs_len _ hus
  have hall0 := alls_of_recs _ hus
  have HP := Lib.hid (fun V h1 h2 => put hF A m c ls V h1 hm h2)
  go_enter Try.func5, Try.ntmps5
  go_wp2_with fail
  refine (HW.out _).mono ?_
  rintro e1 w1 ⟨rfl, hb1⟩
  have hcap1 : ∀ b o i (h : i < ls.length) Ai ci, A = some ⟨b, o, none⟩ → w1.cell? ⟨b, o + i, none⟩ = some (.slice Ai ls[i].length ci) → ls[i].length ≤ ci ∧ ci ≤ 9223372036854775807 := by
    intro b o i h Ai ci hA hc
    have hm0 : 0 < m := by have := hx.1; omega
    obtain ⟨b', o', hA', hcc⟩ := hx.2 hm0
    rw [hA] at hA'
    cases hA'
    obtain ⟨Ai', ci', h1, _⟩ := hcc i h
    have h1' := (hb1.cell (World.block_lt_of_cell? w _ h1)).trans h1
    rw [hc] at h1'
    cases h1'
    exact hcap b o i h Ai ci hA h1
  have HC1 := Lib.hid hcap1
  clear hcap hcap1
  go_wp2_with fail
  refine (HP.out _ (hx.below' hb1) HC1.out).mono ?_
  rintro e2 w2 ⟨vb, vw, ve, ps, rfl, hps, hOb, hOw, hR, hOe, hb2⟩
  have hB2 := hb1.trans (hb2.mono hb1.size)
  obtain ⟨A2, c2, rfl, hA2, h21, h22, _⟩ := hOb.form
  obtain ⟨A3, c3, rfl, hL3, h31, h32⟩ := lists_row hOw (fun x hx' => (hR x hx').below hb2)
  rw [hps] at hL3
  generalize cutL ls (min m 20) = us at *
  generalize hrr : recs us = rr at *
  have HA := Lib.hid (fun V h => out_all hall A2 rr.length c2 rr V h h21 h22 (by omega) (by rw [hall0]; omega))
  rw [hall0] at HA
  generalize hrL : rr.length = rl at *
  generalize hmm : min m 20 = mm at *
  have hul2 : mm ≤ 20 := by omega
  have HUS := Lib.hid hus
  clear hus hul hrl hall0 hps hOb hOw hR hOe hb1 hb2 hx hrr hrL hmm HP HC1 HW
  go_wp2_with fail
  refine (HA.out _ hA2).mono ?_
  rintro e4 w4 ⟨v4, qs, rfl, hqs, hOq, hOo, hb4⟩
  have hL4 := hL3.below' hb4
  have hB4 := hB2.trans (hb4.mono hB2.size)
  obtain ⟨A5, c5, rfl, hL5, h51, h52⟩ := lists_row hOq (fun x hx' => (hOo x hx').reads)
  rw [hqs] at hL5
  generalize hql : qs.length = ql at *
  have hqb : ql ≤ 9223372036854775807 := by omega
  have hq : (us == us) = true := beq_self_eq_true _
  clear hqs hOq hOo hb4 hL3 hA2 hql
  go_wp2_with fail
  refine (same A5 ql c5 us A3 mm c3 us _ hL5 hL4 hqb (fun l hl => by have := HUS.out l hl; omega)).mono ?_
  rintro e6 w6 ⟨rfl, j, rfl⟩
  rw [hq]
  go_wp2
  go_ret
  exact ⟨rfl, below_drewN hB4 j⟩
end Go.Proofs.Ythbegaknlhclpaa
