/-
  ClockRises: the walk, over what the code's calls promise.
-/
import Derived.Test.YtmjniibeomjkkaaKList
import Derived.Test.YtmjniibeomjkkaaKAwake
import Derived.Test.YtmjniibeomjkkaaKRise
import Derived.Test.YtmjniibeomjkkaaKBring
import Derived.Test.YtmjniibeomjkkaaKDo
import Derived.Lib.MinMax
set_option linter.unusedVariables false
namespace Go.Proofs.Ytmjniibeomjkkaa
open Go.RowKit

/-- A clock, and the stamp beside it. -/
def RS (w : World) (g : Nat) (c : Ck) (q : Nat) (a b : Int) (V : World) : Prop := AK w g c V ∧ Box V q a b
section
variable {w V : World} {g q : Nat} {c c' : Ck} {a b : Int} {f : FuncId} {args : Array Value} {v : Value}
theorem RS.clk (p : RS w g c q a b V) : Clk V g c := p.1.1
theorem RS.bel (p : RS w g c q a b V) : Below w.heap.size w V := p.1.2.1
theorem RS.drew (p : RS w g c q a b V) : RS w g c q a b V.drew := ⟨⟨p.1.1, p.1.2.1.drew, p.1.2.2⟩, p.2⟩
theorem RS.alloc (p : RS w g c q a b V) (o : Obj) : RS w g c q a b (V.alloc o) := ⟨p.1.alloc o, p.2.alloc o⟩
theorem RS.read (p : RS w g c q a b V) (hc : Calls Try.prog f args V fun e V' => e = .returned v ∧ Below V.heap.size V V') :
    Calls Try.prog f args V fun e V' => e = .returned v ∧ Below V.heap.size V V' ∧ RS w g c q a b V' :=
  hc.mono fun _ _ hh => ⟨hh.1, hh.2, ⟨p.1.1.below hh.2, p.1.2.1.trans (hh.2.mono p.1.2.1.size), p.1.2.2⟩, p.2.keep hh.2⟩
end

theorem stamps2 (V : World) (a b c d : Int) : Stamps (V.alloc (.cells #[.int .i64 a, .int .i64 b, .int .i64 c, .int .i64 d] 32)) (some ⟨V.heap.size, 0, none⟩) 2 [(a, b), (c, d)] := by
  have h := heap_alloc_new V (.cells #[.int .i64 a, .int .i64 b, .int .i64 c, .int .i64 d] 32)
  refine ⟨rfl, fun _ => ⟨_, _, rfl, fun i hi => ?_⟩⟩
  rcases (show i = 0 ∨ i = 1 by simp at hi; omega) with rfl | rfl
  · exact ⟨cell_of_row _ _ 0 _ _ (0, 0) h, cell_of_row _ _ 1 _ _ (0, 0) h⟩
  · exact ⟨cell_of_row _ _ 2 _ _ (0, 0) h, cell_of_row _ _ 3 _ _ (0, 0) h⟩

set_option maxRecDepth 100000 in
set_option maxHeartbeats 20000000 in
theorem clockRises_w (hc : ClockOk) (hS : LessOk) (hM : MaxOk) (b : Int) (A : Option Addr) (n c : Nat) (w : World) (hb : I64 b) (hx : Dos w A n) (hnc : n ≤ c) (hk : c ≤ 9223372036854775807) :
    Calls Try.prog 4 #[.int .i64 b, .slice A n c] w fun e w' => e = .returned (.bool true) ∧ Below w.heap.size w w' := by
  have AW := Lib.hid (awakeK hc)
  have HC := Lib.hid hc
  have S1 := Lib.hid hS
  have M1 := Lib.hid hM
  have B1 := Lib.hid (fun V => bring b 500 V (by omega) (by omega))
  have hnb : newBad 20 (b % 500) = false := newBad_no.2 ⟨⟨by omega, by omega⟩, ⟨by omega, by omega⟩⟩
  generalize b % 500 = b' at B1 hnb
  have N1 := Lib.hid (fun V => HC.out.new 20 b' V hnb)
  have hG := newC_good hnb
  generalize hc0 : newC 20 b' = c0 at hG
  have HC0 := Lib.hid hc0
  clear hc hnb hb hS hM hc0
  go_enter Try.func4, Try.ntmps4
  go_wp2_with fail
  refine (B1.out _).mono ?_
  rintro e w1 ⟨rfl, rfl⟩
  go_wp2_with fail
  refine (N1.out _).mono ?_
  rintro e w2 ⟨g, hg, rfl, hC2, hB2⟩
  rw [HC0.out] at hC2
  have hP2 : AK w g c0 w2 := ⟨hC2, hB2, hg⟩
  clear hC2 hB2 N1 B1
  go_wp2_with fail
  refine (hP2.read (HC.out.last _ _ _ hP2.1)).mono ?_
  rintro e w3 ⟨rfl, hP3⟩
  clear hP2
  have hR3 : RS w g c0 w3.heap.size c0.s1 c0.s2 (w3.alloc (.cells #[.int .i64 c0.s1, .int .i64 c0.s2] 32)) := ⟨hP3.alloc _, Box.new _ _ _⟩
  have hqg : w3.heap.size ≠ g := by have := hP3.1.lt; omega
  have hqw : w.heap.size ≤ w3.heap.size := hP3.2.1.size
  clear hP3
  go_wp2_with fail
  generalize w3.alloc (.cells #[.int .i64 c0.s1, .int .i64 c0.s2] 32) = W at hR3 ⊢
  generalize w3.heap.size = q at hR3 hqg hqw ⊢
  go_loopw [8] (fun iv wr => ∃ (i : Nat) (cc : Ck), i ≤ n ∧ iv = .int .i64 i ∧ Hid (Good cc) ∧ RS w g cc q cc.s1 cc.s2 wr) (fun iv _ => n - (intOf iv).toNat)
  case atStart => exact ⟨0, _, Nat.zero_le _, rfl, Lib.hid hG, hR3⟩
  case round =>
    obtain ⟨i, cc, hin, rfl, HG, hP⟩ := hrel
    clear hR3 hG HC0
    by_cases hlt : i < n
    · by_cases h2 : i < 200
      · obtain ⟨lb, lo, k, a, x, y, rfl, hL, hk1, ha1, hx1, hy1⟩ := hx.get hlt
        have hL2 := hL.below hL.lt hP.bel
        obtain ⟨l0, l1, l2, l3⟩ := hL2
        have D1 := Lib.hid (fun V => bringD k a x y V ha1 hx1 hy1)
        generalize a % 500 = a' at D1
        generalize x % 500 = x' at D1
        generalize y % 1048576 = y' at D1
        clear hx hL ha1 hx1 hy1
        go_wp2_with fail
        refine (hP.read (D1.out _)).mono ?_
        rintro e w4 ⟨rfl, _, hP4⟩
        have hP5 := hP4.alloc (.cells #[.int .i64 k, .int .i64 a', .int .i64 x', .int .i64 y'] 34)
        clear hP hP4 D1 l0 l1 l2 l3
        obtain ⟨hGu, hUp⟩ := do_up HG.out k a' x' y'
        have hmade := do_made HG.out k a' x' y'
        have DD := does_w HC.out (w4.alloc (.cells #[.int .i64 k, .int .i64 a', .int .i64 x', .int .i64 y'] 34)) g cc k a' x' y' hP5.clk hk1
        unfold Did at DD
        obtain ⟨t1, t2, is, hdS⟩ : ∃ u v z, doS cc k = (u, v, z) := ⟨_, _, _, rfl⟩
        rw [hdS] at DD hmade
        generalize doC cc k a' x' y' = c' at DD hGu hUp hmade
        replace DD := Lib.hid DD
        replace hmade := Lib.hid hmade
        replace hGu := Lib.hid hGu
        replace hUp := Lib.hid hUp
        clear hdS hk1
        go_wp2_with fail
        refine DD.out.mono ?_
        rintro e w6 ⟨rfl, hC6, ho6⟩
        have hX6 := hP5.2.other ho6 hqg
        have hR6 : RS w g c' q cc.s1 cc.s2 w6 := ⟨⟨hC6, hP5.bel.grown ho6 hP5.bel.size (fun _ e => Option.some.inj e ▸ hP5.1.2.2), hP5.1.2.2⟩, hX6⟩
        clear hP5 DD hC6 ho6 hX6
        have hR7 := hR6.alloc (.cells #[.int .i64 t1, .int .i64 t2] 32)
        have hX7 := Box.new w6 t1 t2
        have hs7 : w6.heap.size ≠ q := by have := hR6.2.lt; omega
        clear hR6
        cases is with
        | true =>
          obtain ⟨g1, g2, g3, g4, g5⟩ := hmade.out rfl
          have L1 := Lib.hid (fun V => by have h := S1.out cc.s1 cc.s2 t1 t2 V; rw [g1] at h; exact h)
          have hRd := hR7.drew
          have hXd : Box (w6.alloc (.cells #[.int .i64 t1, .int .i64 t2] 32)).drew w6.heap.size t1 t2 := hX7
          have hSd := And.intro hRd.2.c0 (And.intro hRd.2.c1 (And.intro hXd.c0 hXd.c1))
          have hlow : lt (c'.s1, c'.s2) (t1, t2) = false := by rw [g4, g5]; exact lt_irr _
          have G4 := Lib.hid g4
          have G5 := Lib.hid g5
          have d1 : decide (c'.most ≤ t1) = false := by simpa using g2
          have d2 : decide (t1 < c'.rd) = false := by simpa using g3
          clear hmade hX7 hR7 g1 g4 g5 hUp
          go_wp2_with fail
          go_region_held3 (fun V => V.cell? ⟨q, 0, none⟩ = some (.int .i64 cc.s1) ∧ V.cell? ⟨q, 1, none⟩ = some (.int .i64 cc.s2) ∧ V.cell? ⟨w6.heap.size, 0, none⟩ = some (.int .i64 t1) ∧ V.cell? ⟨w6.heap.size, 1, none⟩ = some (.int .i64 t2))
            (first | with_reducible assumption | with_reducible exact hSd)
            (first
              | (go_at_call 21; refine (hRd.read (L1.out _)).mono ?_; rintro e w8 ⟨rfl, hb8, hR8⟩; have hX8 := hXd.keep hb8; have hS8 := And.intro hR8.2.c0 (And.intro hR8.2.c1 (And.intro hX8.c0 hX8.c1)))
              | (go_at_call 16; refine (hR8.read (HC.out.bound _ _ _ hR8.clk)).mono ?_; rintro e w9 ⟨rfl, hb9, hR9⟩; have hX9 := hX8.keep hb9; have hS9 := And.intro hR9.2.c0 (And.intro hR9.2.c1 (And.intro hX9.c0 hX9.c1)))
              | (go_at_call 14; refine (hR9.read (HC.out.reading _ _ _ hR9.clk)).mono ?_; rintro e w10 ⟨rfl, hb10, hR10⟩; have hX10 := hX9.keep hb10; have hS10 := And.intro hR10.2.c0 (And.intro hR10.2.c1 (And.intro hX10.c0 hX10.c1))))
          have x0 := hX10.c0
          have x1 := hX10.c1
          have y0 := hR10.2.c0
          have y1 := hR10.2.c1
          have z0 := hR10.2.fz 0
          have z1 := hR10.2.fz 1
          have hR11 : RS w g c' q t1 t2 ((w10.setCell ⟨q, 0, none⟩ (.int .i64 t1)).setCell ⟨q, 1, none⟩ (.int .i64 t2)) := ⟨⟨(hR10.clk.far (fun e => hqg e.symm) _ _).far (fun e => hqg e.symm) _ _, (hR10.bel.setCell hqw _).setCell hqw _, hR10.1.2.2⟩, (hR10.2.put0 t1).put1 t2⟩
          clear hRd hXd hSd hb8 hR8 hX8 hS8 hb9 hR9 hX9 hS9 hb10 L1 g2 g3
          go_wp2_with fail
          clear x0 x1 y0 y1 z0 z1 hR10 hX10 hS10
          generalize (w10.setCell ⟨q, 0, none⟩ (.int .i64 t1)).setCell ⟨q, 1, none⟩ (.int .i64 t2) = V at hR11 ⊢
          obtain ⟨l1, hl1⟩ : ∃ z, z = t1 := ⟨_, rfl⟩
          obtain ⟨l2, hl2⟩ : ∃ z, z = t2 := ⟨_, rfl⟩
          rw [← hl1, ← hl2] at hR11 hlow
          have L2 := Lib.hid (fun V => by have h := S1.out c'.s1 c'.s2 l1 l2 V; rw [hlow] at h; exact h)
          have MX := Lib.hid (fun A V (h : Stamps V A 2 [(l1, l2), (c'.s1, c'.s2)]) => by have h := M1.out A 2 2 _ V h (by omega); rw [mx_two hlow] at h; exact h)
          have hmax := good_last hGu.out
          have hmax2 : decide (max c'.most 1 ≤ c'.s1) = false := by simp; omega
          have hfld : ∀ V, Sem.run Try.prog (Instr.field 32 (sv c'.s1 c'.s2) 0) V = .ok (.int .i64 c'.s1) V := fun V => by kernel_rfl
          have hRd := hR11.drew
          have hSd := And.intro hRd.2.c0 hRd.2.c1
          clear hR11 hlow hl1 hl2
          go_region_held3 (fun V => V.cell? ⟨q, 0, none⟩ = some (.int .i64 l1) ∧ V.cell? ⟨q, 1, none⟩ = some (.int .i64 l2))
            (first | with_reducible assumption | with_reducible exact hSd)
            (first
              | (go_at_call 15; refine (RS.read (by assumption) (HC.out.last _ _ _ (RS.clk (by assumption)))).mono ?_; rintro e v1 ⟨rfl, _, hQ1⟩; have hT1 := And.intro hQ1.2.c0 hQ1.2.c1)
              | (go_at_call 21; refine (RS.read (by assumption) (L2.out _)).mono ?_; rintro e v2 ⟨rfl, _, hQ2⟩; have hT2 := And.intro hQ2.2.c0 hQ2.2.c1)
              | (go_at_call 16; refine (RS.read (by assumption) (HC.out.bound _ _ _ (RS.clk (by assumption)))).mono ?_; rintro e v3 ⟨rfl, _, hQ3⟩; have hT3 := And.intro hQ3.2.c0 hQ3.2.c1))
          all_goals
            go_wp2_with fail
          all_goals
            have hQ3d := hQ3.drew
            have hQ1d := hQ1.drew
            have j0 := hQ3d.2.c0
            have j1 := hQ3d.2.c1
            have j2 := hQ1d.2.c0
            have j3 := hQ1d.2.c1
            clear hT1 hT2 hT3 hSd hRd L2 hmax hmax2 hfld hQ2 hQ3 hQ1
          all_goals
            go_region_with (first
              | (go_at_call 15; refine (RS.read (by assumption) (HC.out.last _ _ _ (RS.clk (by assumption)))).mono ?_; rintro e v5 ⟨rfl, _, hQ5⟩; have u0 := hQ5.2.c0; have u1 := hQ5.2.c1)
              | (go_at_call 22; refine (RS.read (RS.alloc hQ5 _) (MX.out _ _ (stamps2 _ _ _ _ _))).mono ?_; rintro e v6 ⟨rfl, _, hQ6⟩; have y0 := hQ6.2.c0; have y1 := hQ6.2.c1; have y2 := hQ6.2.fz 0; have y3 := hQ6.2.fz 1))
          all_goals
            go_wp2_with fail
            go_roundw
            case rel => exact ⟨i + 1, c', by omega, by go_num, hGu, ⟨⟨(hQ6.clk.far (fun e => hqg e.symm) _ _).far (fun e => hqg e.symm) _ _, (hQ6.bel.setCell hqw _).setCell hqw _, hQ6.1.2.2⟩, (hQ6.2.put0 _).put1 _⟩⟩
            case measure => simp [intOf]; omega
        | false =>
          have hlow := hUp.out.1
          clear hmade hX7 hUp
          go_wp2_with fail
          generalize w6.alloc (.cells #[.int .i64 t1, .int .i64 t2] 32) = V at hR7 ⊢
          have hR11 := hR7
          clear hR7
          obtain ⟨l1, hl1⟩ : ∃ z, z = cc.s1 := ⟨_, rfl⟩
          obtain ⟨l2, hl2⟩ : ∃ z, z = cc.s2 := ⟨_, rfl⟩
          rw [← hl1, ← hl2] at hR11 hlow
          have L2 := Lib.hid (fun V => by have h := S1.out c'.s1 c'.s2 l1 l2 V; rw [hlow] at h; exact h)
          have MX := Lib.hid (fun A V (h : Stamps V A 2 [(l1, l2), (c'.s1, c'.s2)]) => by have h := M1.out A 2 2 _ V h (by omega); rw [mx_two hlow] at h; exact h)
          have hmax := good_last hGu.out
          have hmax2 : decide (max c'.most 1 ≤ c'.s1) = false := by simp; omega
          have hfld : ∀ V, Sem.run Try.prog (Instr.field 32 (sv c'.s1 c'.s2) 0) V = .ok (.int .i64 c'.s1) V := fun V => by kernel_rfl
          have hRd := hR11.drew
          have hSd := And.intro hRd.2.c0 hRd.2.c1
          clear hR11 hlow hl1 hl2
          go_region_held3 (fun V => V.cell? ⟨q, 0, none⟩ = some (.int .i64 l1) ∧ V.cell? ⟨q, 1, none⟩ = some (.int .i64 l2))
            (first | with_reducible assumption | with_reducible exact hSd)
            (first
              | (go_at_call 15; refine (RS.read (by assumption) (HC.out.last _ _ _ (RS.clk (by assumption)))).mono ?_; rintro e v1 ⟨rfl, _, hQ1⟩; have hT1 := And.intro hQ1.2.c0 hQ1.2.c1)
              | (go_at_call 21; refine (RS.read (by assumption) (L2.out _)).mono ?_; rintro e v2 ⟨rfl, _, hQ2⟩; have hT2 := And.intro hQ2.2.c0 hQ2.2.c1)
              | (go_at_call 16; refine (RS.read (by assumption) (HC.out.bound _ _ _ (RS.clk (by assumption)))).mono ?_; rintro e v3 ⟨rfl, _, hQ3⟩; have hT3 := And.intro hQ3.2.c0 hQ3.2.c1))
          all_goals
            go_wp2_with fail
          all_goals
            have hQ3d := hQ3.drew
            have hQ1d := hQ1.drew
            have j0 := hQ3d.2.c0
            have j1 := hQ3d.2.c1
            have j2 := hQ1d.2.c0
            have j3 := hQ1d.2.c1
            clear hT1 hT2 hT3 hSd hRd L2 hmax hmax2 hfld hQ2 hQ3 hQ1
          all_goals
            go_region_with (first
              | (go_at_call 15; refine (RS.read (by assumption) (HC.out.last _ _ _ (RS.clk (by assumption)))).mono ?_; rintro e v5 ⟨rfl, _, hQ5⟩; have u0 := hQ5.2.c0; have u1 := hQ5.2.c1)
              | (go_at_call 22; refine (RS.read (RS.alloc hQ5 _) (MX.out _ _ (stamps2 _ _ _ _ _))).mono ?_; rintro e v6 ⟨rfl, _, hQ6⟩; have y0 := hQ6.2.c0; have y1 := hQ6.2.c1; have y2 := hQ6.2.fz 0; have y3 := hQ6.2.fz 1))
          all_goals
            go_wp2_with fail
            go_roundw
            case rel => exact ⟨i + 1, c', by omega, by go_num, hGu, ⟨⟨(hQ6.clk.far (fun e => hqg e.symm) _ _).far (fun e => hqg e.symm) _ _, (hQ6.bel.setCell hqw _).setCell hqw _, hQ6.1.2.2⟩, (hQ6.2.put0 _).put1 _⟩⟩
            case measure => simp [intOf]; omega
      · go_wp2_with fail
        refine (AW.out _).mono ?_
        rintro e w3 ⟨rfl, hb3⟩
        have hB3 := hP.bel.trans (hb3.mono hP.bel.size)
        go_wp2
        go_ret
        exact ⟨rfl, hB3⟩
    · go_wp2_with fail
      refine (AW.out _).mono ?_
      rintro e w3 ⟨rfl, hb3⟩
      have hB3 := hP.bel.trans (hb3.mono hP.bel.size)
      go_wp2
      go_ret
      exact ⟨rfl, hB3⟩
end Go.Proofs.Ytmjniibeomjkkaa
