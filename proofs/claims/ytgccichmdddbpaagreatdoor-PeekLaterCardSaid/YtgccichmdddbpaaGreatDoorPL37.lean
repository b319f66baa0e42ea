/-
  Layer 11: are two intents, two records, the same? (the code's Same, SameRecord; the document's.)
  Layer 11: are two intents, two records, the same? (the code's Same, SameRecord; the document's.)
-/
import Derived.Test.YtgccichmdddbpaaGreatDoorPL29
import Derived.Deep.Cut
import Derived.Deep.CutRange
set_option linter.unusedVariables false
set_option linter.unusedSimpArgs false
set_option maxRecDepth 100000
namespace Go.Proofs.YtgccichmdddbpaaGreatDoor
open Go.RowKit



end Go.Proofs.YtgccichmdddbpaaGreatDoor
set_option linter.unusedVariables false
set_option linter.unusedSimpArgs false
set_option maxRecDepth 100000
namespace Go.Proofs.YtgccichmdddbpaaGreatDoor
open Go.RowKit

set_option maxHeartbeats 4000000 in
theorem rSame_c (x y : It) (b : Bool) (hb : b = true ↔ x = y) (A1 A2 : Option Addr) (n1 n2 c1 c2 : Nat) (w : World) (h1 : ChAt w A1 n1 x.l) (h2 : ChAt w A2 n2 y.l) (hn1 : n1 ≤ 9223372036854775807) (hn2 : n2 ≤ 9223372036854775807) :
    Calls Tryz.prog 39 #[itv x (.slice A1 n1 c1), itv y (.slice A2 n2 c2)] w fun e w' => e = .returned (.bool b) ∧ Below w.heap.size w w' := by
  obtain ⟨id, ep, pr, an, sw, sl, bw, bl, l⟩ := x
  obtain ⟨id', ep', pr', an', sw', sl', bw', bl', l'⟩ := y
  simp only at h1 h2
  have hbel := (nbl w (.cells (itc ⟨id, ep, pr, an, sw, sl, bw, bl, l⟩ (.slice A1 n1 c1)) 38)).alloc (by simp) (.cells (itc ⟨id', ep', pr', an', sw', sl', bw', bl', l'⟩ (.slice A2 n2 c2)) 38)
  have HF : Hid (∀ h : ¬ ((⟨id, ep, pr, an, sw, sl, bw, bl, l⟩ : It) = (⟨id', ep', pr', an', sw', sl', bw', bl', l'⟩ : It)), b = false) := Lib.hid fun h => by
    cases hh : b with
    | false => rfl
    | true => exact absurd (hb.1 hh) h
  have HH : Hid (b = true ↔ (⟨id, ep, pr, an, sw, sl, bw, bl, l⟩ : It) = (⟨id', ep', pr', an', sw', sl', bw', bl', l'⟩ : It)) := Lib.hid hb
  have H1 := Lib.hid h1
  have H2 := Lib.hid h2
  clear hb h1 h2
  go_enter Tryz.func39, Tryz.ntmps39
  go_upto_region 1 with fail
  by_cases e_id : id = id'
  · subst e_id
    by_cases e_ep : ep = ep'
    · subst e_ep
      by_cases e_pr : pr = pr'
      · subst e_pr
        by_cases e_an : an = an'
        · subst e_an
          have t_an := text_eq an
          by_cases e_sw : sw = sw'
          · subst e_sw
            by_cases e_sl : sl = sl'
            · subst e_sl
              by_cases e_bw : bw = bw'
              · subst e_bw
                by_cases e_bl : bl = bl'
                · subst e_bl
                  have HB := Lib.hid (HH.out.trans ⟨fun e => by injection e, fun e => by rw [e]⟩ : b = true ↔ l = l')
                  clear HF HH
                  by_cases hn : n1 = n2
                  · subst hn
                    have kx := (Blk.new w 38 (itc ⟨id, ep, pr, an, sw, sl, bw, bl, l⟩ (.slice A1 n1 c1))).below (nbl _ (.cells (itc ⟨id, ep, pr, an, sw, sl, bw, bl, l'⟩ (.slice A2 n1 c2)) 38)) (by simp)
                    have ky := Blk.new (w.alloc (.cells (itc ⟨id, ep, pr, an, sw, sl, bw, bl, l⟩ (.slice A1 n1 c1)) 38)) 38 (itc ⟨id, ep, pr, an, sw, sl, bw, bl, l'⟩ (.slice A2 n1 c2))
                    have hz : (w.alloc (.cells (itc ⟨id, ep, pr, an, sw, sl, bw, bl, l⟩ (.slice A1 n1 c1)) 38)).heap.size = w.heap.size + 1 := by simp
                    rw [hz] at ky
                    have H1 := Lib.hid (H1.out.below hbel)
                    have H2 := Lib.hid (H2.out.below hbel)
                    have HBL := Lib.hid hbel
                    obtain ⟨V, hV⟩ : ∃ V, V = (w.alloc (.cells (itc ⟨id, ep, pr, an, sw, sl, bw, bl, l⟩ (.slice A1 n1 c1)) 38)).alloc (.cells (itc ⟨id, ep, pr, an, sw, sl, bw, bl, l'⟩ (.slice A2 n1 c2)) 38) := ⟨_, rfl⟩
                    have x8 := kx.cell 8
                    have y8 := ky.cell 8
                    rw [← hV] at x8 y8
                    simp at x8 y8
                    rw [← hV] at H1 H2 HBL
                    have HV := Lib.hid hV
                    clear kx ky hz hbel hV
                    go_wp2_with fail
                    rw [← HV.out]
                    go_loopw [5] (fun i wr => ∃ (j : Nat), j ≤ n1 ∧ i = .int .i64 j ∧ Hid (∀ i (h : i < l.length) (h' : i < l'.length), i < j → l[i]'h = l'[i]'h') ∧ Hid (∀ p, wr.cell? p = V.cell? p) ∧ Hid (Below w.heap.size w wr)) (fun i _ => n1 - (intOf i).toNat)
                    case atStart => exact ⟨0, Nat.zero_le _, rfl, Lib.hid (fun i _ _ h => absurd h (Nat.not_lt_zero i)), Lib.hid fun _ => rfl, HBL⟩
                    case round =>
                      obtain ⟨j, hj, rfl, HE, HC, HBW⟩ := hrel
                      have x9 := (HC.out _).trans x8
                      have y9 := (HC.out _).trans y8
                      by_cases hlt : j < n1
                      · have hjl : j < l.length := by rw [H1.out.1]; exact hlt
                        have hjm : j < l'.length := by rw [H2.out.1]; exact hlt
                        obtain ⟨b1, o1, rfl, hc1⟩ := H1.out.2 (by omega)
                        obtain ⟨b2, o2, rfl, hc2⟩ := H2.out.2 (by omega)
                        have p := hc1 j hjl
                        have q := hc2 j hjm
                        obtain ⟨cc, hcc⟩ : ∃ cc, l[j]'hjl = cc := ⟨_, rfl⟩
                        obtain ⟨dd, hdd⟩ : ∃ dd, l'[j]'hjm = dd := ⟨_, rfl⟩
                        rw [hcc] at p
                        rw [hdd] at q
                        have HCC := Lib.hid hcc
                        have HDD := Lib.hid hdd
                        obtain ⟨u0, u1, u2⟩ := cc
                        obtain ⟨v0, v1, v2⟩ := dd
                        obtain ⟨p0, p1, p2⟩ := p
                        obtain ⟨q0, q1, q2⟩ := q
                        have P0 := (HC.out _).trans p0
                        have Q0 := (HC.out _).trans q0
                        have P1 := (HC.out _).trans p1
                        have Q1 := (HC.out _).trans q1
                        have P2 := (HC.out _).trans p2
                        have Q2 := (HC.out _).trans q2
                        clear hc1 hc2 hcc hdd
                        have HF : Hid (∀ h : ¬ ((⟨u0, u1, u2⟩ : Ch) = (⟨v0, v1, v2⟩ : Ch)), b = false) := Lib.hid fun h => by
                          cases hh : b with
                          | false => rfl
                          | true =>
                            exfalso
                            have := HB.out.1 hh
                            subst this
                            exact h (HCC.out.symm.trans HDD.out)
                        by_cases e_u0 : u0 = v0
                        · subst e_u0
                          by_cases e_u1 : u1 = v1
                          · subst e_u1
                            have t_u1 := text_eq u1
                            by_cases e_u2 : u2 = v2
                            · subst e_u2
                              have HE2 := Lib.hid (fun i (h : i < l.length) (h' : i < l'.length) (hi : i < j + 1) => show l[i]'h = l'[i]'h' from by
                                by_cases hij : i = j
                                · subst hij; exact HCC.out.trans HDD.out.symm
                                · exact HE.out i h h' (by omega))
                              clear HF
                              go_wp2_with fail
                              go_quiet (fail)
                              have x7 : (wr.drewN nq).cell? ⟨w.heap.size, 8, none⟩ = _ := x9
                              go_wp2
                              go_roundw
                              case rel => exact ⟨j + 1, by omega, by go_num, HE2, Lib.hid fun p => HC.out p, Lib.hid (below_drewN HBW.out nq)⟩
                              case measure => simp [intOf]; omega
                            · have n1_ := show (u2 == v2) = false from by simpa using e_u2
                              go_wp2_with fail
                              go_quiet (fail)
                              have x7 : (wr.drewN nq).cell? ⟨w.heap.size, 8, none⟩ = _ := x9
                              go_wp2
                              go_ret
                              exact ⟨by rw [HF.out (by intro e; injection e; contradiction)]; try rfl, (below_drewN HBW.out nq)⟩
                          · have n1_ := text_ne e_u1
                            go_wp2_with fail
                            go_quiet (fail)
                            have x7 : (wr.drewN nq).cell? ⟨w.heap.size, 8, none⟩ = _ := x9
                            go_wp2
                            go_ret
                            exact ⟨by rw [HF.out (by intro e; injection e; contradiction)]; try rfl, (below_drewN HBW.out nq)⟩
                        · have n1_ := show (u0 == v0) = false from by simpa using e_u0
                          go_wp2_with fail
                          go_quiet (fail)
                          have x7 : (wr.drewN nq).cell? ⟨w.heap.size, 8, none⟩ = _ := x9
                          go_wp2
                          go_ret
                          exact ⟨by rw [HF.out (by intro e; injection e; contradiction)]; try rfl, (below_drewN HBW.out nq)⟩
                      · obtain rfl : j = n1 := by omega
                        have HT : Hid (b = true) := Lib.hid (HB.out.2 (list_is (H1.out.1.trans H2.out.1.symm) fun i h h' => HE.out i h h' (by have := H1.out.1; omega)))
                        go_wp2
                        go_ret
                        exact ⟨by rw [HT.out]; try rfl, HBW.out⟩
                  · have hF : b = false := by
                      cases hh : b with
                      | false => rfl
                      | true =>
                        exfalso
                        have := HB.out.1 hh
                        subst this
                        exact hn (H1.out.1.symm.trans H2.out.1)
                    subst hF
                    have hn' : ¬ ((n1 : Int) = (n2 : Int)) := by omega
                    have hn'' : ((n1 : Int) == (n2 : Int)) = false := by simpa using hn'
                    clear HB hn
                    go_wp2_with fail
                    go_ret
                    exact ⟨rfl, hbel⟩
                · have n1_ := show (bl == bl') = false from by simpa using e_bl
                  go_wp2_with fail
                  go_ret
                  exact ⟨by rw [HF.out (by intro e; injection e; contradiction)]; try rfl, hbel⟩
              · have n1_ := show (bw == bw') = false from by simpa using e_bw
                go_wp2_with fail
                go_ret
                exact ⟨by rw [HF.out (by intro e; injection e; contradiction)]; try rfl, hbel⟩
            · have n1_ := show (sl == sl') = false from by simpa using e_sl
              go_wp2_with fail
              go_ret
              exact ⟨by rw [HF.out (by intro e; injection e; contradiction)]; try rfl, hbel⟩
          · have n1_ := show (sw == sw') = false from by simpa using e_sw
            go_wp2_with fail
            go_ret
            exact ⟨by rw [HF.out (by intro e; injection e; contradiction)]; try rfl, hbel⟩
        · have n1_ := text_ne e_an
          go_wp2_with fail
          go_ret
          exact ⟨by rw [HF.out (by intro e; injection e; contradiction)]; try rfl, hbel⟩
      · have n1_ := show (pr == pr') = false from by simpa using e_pr
        go_wp2_with fail
        go_ret
        exact ⟨by rw [HF.out (by intro e; injection e; contradiction)]; try rfl, hbel⟩
    · have n1_ := show (ep == ep') = false from by simpa using e_ep
      go_wp2_with fail
      go_ret
      exact ⟨by rw [HF.out (by intro e; injection e; contradiction)]; try rfl, hbel⟩
  · have n1_ := show (id == id') = false from by simpa using e_id
    go_wp2_with fail
    go_ret
    exact ⟨by rw [HF.out (by intro e; injection e; contradiction)]; try rfl, hbel⟩
end Go.Proofs.YtgccichmdddbpaaGreatDoor
