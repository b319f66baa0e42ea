/-
  ClockAnew: the walk, over what the code's calls promise.
-/
import Derived.Test.YtmjniibeomjkkaaVClockRises
set_option linter.unusedVariables false
namespace Go.Proofs.Ytmjniibeomjkkaa
open Go.RowKit

/-- A clock that begins with another one's bound. -/
theorem anew_up {c : Ck} (h : Good c) : newBad 30 c.most = false ∧ lt ((newC 30 c.most).s1, (newC 30 c.most).s2) (c.s1, c.s2) = false := by
  obtain ⟨h1, h2, h3, h4, h5⟩ := h.1
  have hh := h.2
  unfold In at h4
  have hm := may_iff.1 h5
  refine ⟨newBad_no.2 ⟨⟨by omega, by omega⟩, h4⟩, ?_⟩
  rw [lt_no]
  unfold newC
  dsimp only
  split <;> omega
theorem made_behind {c d : Ck} {t : Int × Int} (h1 : lt (d.s1, d.s2) (c.s1, c.s2) = false) (h2 : lt (d.s1, d.s2) t = true) : lt (c.s1, c.s2) t = true := by
  rw [lt_iff] at *
  rw [lt_no] at h1
  dsimp only at *
  omega

/-- Two clocks. -/
def CD (w : World) (g d : Nat) (c e : Ck) (V : World) : Prop := AK w g c V ∧ AK w d e V
section
variable {w V : World} {g d : Nat} {c e e' : Ck} {f : FuncId} {args : Array Value} {v : Value}
theorem CD.read (p : CD w g d c e V) (hc : Calls Try.prog f args V fun e V' => e = .returned v ∧ Below V.heap.size V V') :
    Calls Try.prog f args V fun e0 V' => e0 = .returned v ∧ Below V.heap.size V V' ∧ CD w g d c e V' :=
  hc.mono fun _ _ hh => ⟨hh.1, hh.2, ⟨p.1.1.below hh.2, p.1.2.1.trans (hh.2.mono p.1.2.1.size), p.1.2.2⟩, ⟨p.2.1.below hh.2, p.2.2.1.trans (hh.2.mono p.2.2.1.size), p.2.2.2⟩⟩
theorem CD.alloc (p : CD w g d c e V) (o : Obj) : CD w g d c e (V.alloc o) := ⟨p.1.alloc o, p.2.alloc o⟩
theorem CD.drew (p : CD w g d c e V) : CD w g d c e V.drew := ⟨⟨p.1.1, p.1.2.1.drew, p.1.2.2⟩, ⟨p.2.1, p.2.2.1.drew, p.2.2.2⟩⟩
end

set_option maxRecDepth 100000 in
set_option maxHeartbeats 20000000 in
theorem clockAnew_w (hc : ClockOk) (hS : LessOk) (A1 : Option Addr) (n1 c1 : Nat) (A2 : Option Addr) (n2 c2 : Nat) (w : World) (hx : Dos w A1 n1) (hx2 : Dos w A2 n2) (hnc : n1 ≤ c1) (hk : c1 ≤ 9223372036854775807) (hnc2 : n2 ≤ c2) (hk2 : c2 ≤ 9223372036854775807) :
    Calls Try.prog 5 #[.slice A1 n1 c1, .slice A2 n2 c2] w fun e w' => e = .returned (.bool true) ∧ Below w.heap.size w w' := by
  have AW := Lib.hid (awakeK hc)
  have HC := Lib.hid hc
  have S1 := Lib.hid hS
  have hnb : newBad 30 0 = false := rfl
  have N1 := Lib.hid (fun V => HC.out.new 30 0 V hnb)
  have hG := newC_good hnb
  generalize hc0 : newC 30 0 = c0 at hG
  have HC0 := Lib.hid hc0
  clear hc hnb hS hc0
  go_enter Try.func5, Try.ntmps5
  go_wp2_with fail
  refine (N1.out _).mono ?_
  rintro e w2 ⟨g, hg, rfl, hC2, hB2⟩
  rw [HC0.out] at hC2
  have hP2 : AK w g c0 w2 := ⟨hC2, hB2, hg⟩
  clear hC2 hB2 N1
  go_wp2_with fail
  go_loopw [7] (fun iv wr => ∃ (i : Nat) (cc : Ck), i ≤ n1 ∧ iv = .int .i64 i ∧ Hid (Good cc) ∧ AK w g cc wr) (fun iv _ => n1 - (intOf iv).toNat)
  case atStart => exact ⟨0, _, Nat.zero_le _, rfl, Lib.hid hG, hP2⟩
  case round =>
    obtain ⟨i, cc, hin, rfl, HG, hP⟩ := hrel
    clear hP2 hG HC0
    by_cases hin2 : i < n1 ∧ i < 100
    · obtain ⟨hlt, h2⟩ := hin2
      obtain ⟨lb, lo, k, a, x, y, rfl, hL, hk1, ha1, hx1, hy1⟩ := hx.get hlt
      have hL2 := hL.below hL.lt hP.2.1
      obtain ⟨l0, l1, l2, l3⟩ := hL2
      have D1 := Lib.hid (fun V => bringD k a x y V ha1 hx1 hy1)
      generalize a % 500 = a' at D1
      generalize x % 500 = x' at D1
      generalize y % 1048576 = y' at D1
      clear hx hL ha1 hx1 hy1
      go_wp2_with fail
      refine (hP.read (D1.out _)).mono ?_
      rintro e w4 ⟨rfl, hP4⟩
      obtain ⟨hGu, hUp⟩ := do_up HG.out k a' x' y'
      have DD := does_w HC.out w4 g cc k a' x' y' hP4.1 hk1
      unfold Did at DD
      obtain ⟨t1, t2, is, hdS⟩ : ∃ u v z, doS cc k = (u, v, z) := ⟨_, _, _, rfl⟩
      rw [hdS] at DD
      generalize doC cc k a' x' y' = c' at DD hGu hUp
      replace DD := Lib.hid DD
      clear hdS hk1 hP D1 l0 l1 l2 l3
      go_wp2_with fail
      refine (hP4.mut DD.out).mono ?_
      rintro e w6 ⟨rfl, hP6⟩
      go_wp2_with fail
      go_roundw
      case rel => exact ⟨i + 1, c', by omega, by go_num, Lib.hid hGu, hP6⟩
      case measure => simp [intOf]; omega
    · have hdec : i < n1 → ¬ i < 100 := fun h1 h2 => hin2 ⟨h1, h2⟩
      obtain ⟨hnb2, hup2⟩ := anew_up HG.out
      have N2 := Lib.hid (fun V => HC.out.new 30 cc.most V hnb2)
      have hG2 := Lib.hid (newC_good hnb2)
      clear hin2
      by_cases hlt : i < n1
      · have h2 := hdec hlt
        clear hdec
        go_wp2_with fail
        refine (hP.read (HC.out.bound _ _ _ hP.1)).mono ?_
        rintro e w3 ⟨rfl, hP3⟩
        go_wp2_with fail
        refine (N2.out _).mono ?_
        rintro e w4 ⟨d, hd, rfl, hD4, hb4⟩
        have hgd : d ≠ g := by have := hP3.1.lt; omega
        have hCD : CD w g d cc (newC 30 cc.most) w4 := ⟨⟨hP3.1.below hb4, hP3.2.1.trans (hb4.mono hP3.2.1.size), hP3.2.2⟩, ⟨hD4, hP3.2.1.trans (hb4.mono hP3.2.1.size), Nat.le_trans hP3.2.1.size hd⟩⟩
        have hfst : (newC 30 cc.most).fst = cc.most := rfl
        clear hP hP3 hD4 hb4 N2 hnb2 hx hd
        generalize newC 30 cc.most = e0 at hCD hG2 hup2 hfst
        have HF := Lib.hid hfst
        have L1 := Lib.hid (fun V => by have h := S1.out e0.s1 e0.s2 cc.s1 cc.s2 V; rw [hup2] at h; exact h)
        have HU := Lib.hid hup2
        clear hfst hup2
        go_wp2_with fail
        refine (hCD.read (HC.out.last _ _ _ hCD.2.1)).mono ?_
        rintro e w5 ⟨rfl, _, hCD5⟩
        clear hCD
        go_wp2_with fail
        refine (hCD5.read (HC.out.last _ _ _ hCD5.1.1)).mono ?_
        rintro e w6 ⟨rfl, _, hCD6⟩
        clear hCD5
        go_wp2_with fail
        refine (hCD6.read (L1.out _)).mono ?_
        rintro e w7 ⟨rfl, _, hCD7⟩
        clear hCD6 L1
        go_wp2_with fail
        go_loopw [10] (fun iv wr => ∃ (j : Nat) (ee : Ck), j ≤ n2 ∧ iv = .int .i64 j ∧ Hid (Good ee) ∧ Hid (Up e0 ee) ∧ CD w g d cc ee wr) (fun iv _ => n2 - (intOf iv).toNat)
        case atStart => exact ⟨0, _, Nat.zero_le _, rfl, hG2, Lib.hid (Up.refl _), hCD7⟩
        case round =>
          obtain ⟨j, ee, hjn, rfl, HE, HUp, hP⟩ := hrel
          clear hCD7 hG2
          by_cases hjn2 : j < n2 ∧ j < 100
          · obtain ⟨hlt2, h22⟩ := hjn2
            obtain ⟨lb, lo, k, a, x, y, rfl, hL, hk1, ha1, hx1, hy1⟩ := hx2.get hlt2
            have hL2 := hL.below hL.lt hP.1.2.1
            obtain ⟨l0, l1, l2, l3⟩ := hL2
            have D1 := Lib.hid (fun V => bringD k a x y V ha1 hx1 hy1)
            generalize a % 500 = a' at D1
            generalize x % 500 = x' at D1
            generalize y % 1048576 = y' at D1
            clear hx2 hL ha1 hx1 hy1
            go_wp2_with fail
            refine (hP.read (D1.out _)).mono ?_
            rintro e w8 ⟨rfl, _, hP8⟩
            obtain ⟨hGu, hUp2⟩ := do_up HE.out k a' x' y'
            have hmade := do_made HE.out k a' x' y'
            have hUp3 := Lib.hid (HUp.out.trans hUp2)
            have DD := does_w HC.out w8 d ee k a' x' y' hP8.2.1 hk1
            unfold Did at DD
            obtain ⟨t1, t2, is, hdS⟩ : ∃ u v z, doS ee k = (u, v, z) := ⟨_, _, _, rfl⟩
            rw [hdS] at DD hmade
            have hlate : is = true → lt (cc.s1, cc.s2) (t1, t2) = true := fun h => made_behind (lt_trans' HUp.out.1 HU.out) (hmade h).1
            generalize doC ee k a' x' y' = c' at DD hGu hUp3
            replace DD := Lib.hid DD
            replace hlate := Lib.hid hlate
            replace hGu := Lib.hid hGu
            clear hdS hk1 hP D1 l0 l1 l2 l3 hmade hUp2
            go_wp2_with fail
            refine DD.out.mono ?_
            rintro e w9 ⟨rfl, hC9, ho9⟩
            have hP9 : CD w g d cc c' w9 := ⟨⟨hP8.1.1.other ho9 (fun e => hgd e.symm), hP8.1.2.1.grown ho9 hP8.1.2.1.size (fun _ e => Option.some.inj e ▸ hP8.2.2.2), hP8.1.2.2⟩, ⟨hC9, hP8.1.2.1.grown ho9 hP8.1.2.1.size (fun _ e => Option.some.inj e ▸ hP8.2.2.2), hP8.2.2.2⟩⟩
            clear hP8 DD hC9 ho9
            have hP10 := hP9.alloc (.cells #[.int .i64 t1, .int .i64 t2] 32)
            have hX10 := Box.new w9 t1 t2
            clear hP9
            cases is with
            | false =>
              clear hX10 hlate
              go_wp2_with fail
              go_quiet (fail)
              go_wp2_with fail
              go_roundw
              case rel => exact ⟨j + 1, c', by omega, by go_num, hGu, hUp3, ⟨hP10.1.1, below_drewN hP10.1.2.1 _, hP10.1.2.2⟩, ⟨hP10.2.1, below_drewN hP10.2.2.1 _, hP10.2.2.2⟩⟩
              case measure => simp [intOf]; omega
            | true =>
              have hlt3 := hlate.out rfl
              have L3 := Lib.hid (fun V => by have h := S1.out cc.s1 cc.s2 t1 t2 V; rw [hlt3] at h; exact h)
              have hPd := hP10.drew
              have hXd : Box (w9.alloc (.cells #[.int .i64 t1, .int .i64 t2] 32)).drew w9.heap.size t1 t2 := hX10
              have hSd := And.intro hXd.c0 hXd.c1
              clear hlt3 hP10 hX10 hlate
              go_wp2_with fail
              go_region_held3 (fun V => V.cell? ⟨w9.heap.size, 0, none⟩ = some (.int .i64 t1) ∧ V.cell? ⟨w9.heap.size, 1, none⟩ = some (.int .i64 t2))
                (first | with_reducible assumption | with_reducible exact hSd)
                (first
                  | (go_at_call 15; refine (hPd.read (HC.out.last _ _ _ hPd.1.1)).mono ?_; rintro e v1 ⟨rfl, hb1, hQ1⟩; have hX1 := hXd.keep hb1; have hT1 := And.intro hX1.c0 hX1.c1)
                  | (go_at_call 21; refine (hQ1.read (L3.out _)).mono ?_; rintro e v2 ⟨rfl, hb2, hQ2⟩; have hX2 := hX1.keep hb2; have hT2 := And.intro hX2.c0 hX2.c1))
              all_goals
                go_wp2_with fail
                go_roundw
                case rel => exact ⟨j + 1, c', by omega, by go_num, hGu, hUp3, hQ2⟩
                case measure => simp [intOf]; omega
          · have hdec2 : j < n2 → ¬ j < 100 := fun h1 h2 => hjn2 ⟨h1, h2⟩
            have hrd : rdy ee = decide (cc.most ≤ ee.rd) := by unfold rdy; rw [HUp.out.2.2, HF.out]
            have HR := Lib.hid (fun V (h : Clk V d ee) => by have h := HC.out.ready V d ee h; rw [hrd] at h; exact h)
            have q1 : (decide (cc.most ≤ ee.rd) == decide (cc.most ≤ ee.rd)) = true := beq_self_eq_true _
            clear hjn2 hrd
            by_cases hlt2 : j < n2
            · have h22 := hdec2 hlt2
              clear hdec2
              go_wp2_with fail
              refine (hP.read (HR.out _ hP.2.1)).mono ?_
              rintro e v5 ⟨rfl, _, hQ5⟩
              go_wp2_with fail
              refine (hQ5.read (HC.out.reading _ _ _ hQ5.2.1)).mono ?_
              rintro e v6 ⟨rfl, _, hQ6⟩
              go_wp2_with fail
              refine (hQ6.read (HC.out.bound _ _ _ hQ6.1.1)).mono ?_
              rintro e v7 ⟨rfl, _, hQ7⟩
              go_wp2_with fail
              refine (AW.out _).mono ?_
              rintro e v8 ⟨rfl, hb8⟩
              have hB8 := hQ7.1.2.1.trans (hb8.mono hQ7.1.2.1.size)
              go_wp2
              go_ret
              exact ⟨rfl, hB8⟩
            · clear hdec2
              go_wp2_with fail
              refine (hP.read (HR.out _ hP.2.1)).mono ?_
              rintro e v5 ⟨rfl, _, hQ5⟩
              go_wp2_with fail
              refine (hQ5.read (HC.out.reading _ _ _ hQ5.2.1)).mono ?_
              rintro e v6 ⟨rfl, _, hQ6⟩
              go_wp2_with fail
              refine (hQ6.read (HC.out.bound _ _ _ hQ6.1.1)).mono ?_
              rintro e v7 ⟨rfl, _, hQ7⟩
              go_wp2_with fail
              refine (AW.out _).mono ?_
              rintro e v8 ⟨rfl, hb8⟩
              have hB8 := hQ7.1.2.1.trans (hb8.mono hQ7.1.2.1.size)
              go_wp2
              go_ret
              exact ⟨rfl, hB8⟩
      · clear hdec
        go_wp2_with fail
        refine (hP.read (HC.out.bound _ _ _ hP.1)).mono ?_
        rintro e w3 ⟨rfl, hP3⟩
        go_wp2_with fail
        refine (N2.out _).mono ?_
        rintro e w4 ⟨d, hd, rfl, hD4, hb4⟩
        have hgd : d ≠ g := by have := hP3.1.lt; omega
        have hCD : CD w g d cc (newC 30 cc.most) w4 := ⟨⟨hP3.1.below hb4, hP3.2.1.trans (hb4.mono hP3.2.1.size), hP3.2.2⟩, ⟨hD4, hP3.2.1.trans (hb4.mono hP3.2.1.size), Nat.le_trans hP3.2.1.size hd⟩⟩
        have hfst : (newC 30 cc.most).fst = cc.most := rfl
        clear hP hP3 hD4 hb4 N2 hnb2 hx hd
        generalize newC 30 cc.most = e0 at hCD hG2 hup2 hfst
        have HF := Lib.hid hfst
        have L1 := Lib.hid (fun V => by have h := S1.out e0.s1 e0.s2 cc.s1 cc.s2 V; rw [hup2] at h; exact h)
        have HU := Lib.hid hup2
        clear hfst hup2
        go_wp2_with fail
        refine (hCD.read (HC.out.last _ _ _ hCD.2.1)).mono ?_
        rintro e w5 ⟨rfl, _, hCD5⟩
        clear hCD
        go_wp2_with fail
        refine (hCD5.read (HC.out.last _ _ _ hCD5.1.1)).mono ?_
        rintro e w6 ⟨rfl, _, hCD6⟩
        clear hCD5
        go_wp2_with fail
        refine (hCD6.read (L1.out _)).mono ?_
        rintro e w7 ⟨rfl, _, hCD7⟩
        clear hCD6 L1
        go_wp2_with fail
        go_loopw [10] (fun iv wr => ∃ (j : Nat) (ee : Ck), j ≤ n2 ∧ iv = .int .i64 j ∧ Hid (Good ee) ∧ Hid (Up e0 ee) ∧ CD w g d cc ee wr) (fun iv _ => n2 - (intOf iv).toNat)
        case atStart => exact ⟨0, _, Nat.zero_le _, rfl, hG2, Lib.hid (Up.refl _), hCD7⟩
        case round =>
          obtain ⟨j, ee, hjn, rfl, HE, HUp, hP⟩ := hrel
          clear hCD7 hG2
          by_cases hjn2 : j < n2 ∧ j < 100
          · obtain ⟨hlt2, h22⟩ := hjn2
            obtain ⟨lb, lo, k, a, x, y, rfl, hL, hk1, ha1, hx1, hy1⟩ := hx2.get hlt2
            have hL2 := hL.below hL.lt hP.1.2.1
            obtain ⟨l0, l1, l2, l3⟩ := hL2
            have D1 := Lib.hid (fun V => bringD k a x y V ha1 hx1 hy1)
            generalize a % 500 = a' at D1
            generalize x % 500 = x' at D1
            generalize y % 1048576 = y' at D1
            clear hx2 hL ha1 hx1 hy1
            go_wp2_with fail
            refine (hP.read (D1.out _)).mono ?_
            rintro e w8 ⟨rfl, _, hP8⟩
            obtain ⟨hGu, hUp2⟩ := do_up HE.out k a' x' y'
            have hmade := do_made HE.out k a' x' y'
            have hUp3 := Lib.hid (HUp.out.trans hUp2)
            have DD := does_w HC.out w8 d ee k a' x' y' hP8.2.1 hk1
            unfold Did at DD
            obtain ⟨t1, t2, is, hdS⟩ : ∃ u v z, doS ee k = (u, v, z) := ⟨_, _, _, rfl⟩
            rw [hdS] at DD hmade
            have hlate : is = true → lt (cc.s1, cc.s2) (t1, t2) = true := fun h => made_behind (lt_trans' HUp.out.1 HU.out) (hmade h).1
            generalize doC ee k a' x' y' = c' at DD hGu hUp3
            replace DD := Lib.hid DD
            replace hlate := Lib.hid hlate
            replace hGu := Lib.hid hGu
            clear hdS hk1 hP D1 l0 l1 l2 l3 hmade hUp2
            go_wp2_with fail
            refine DD.out.mono ?_
            rintro e w9 ⟨rfl, hC9, ho9⟩
            have hP9 : CD w g d cc c' w9 := ⟨⟨hP8.1.1.other ho9 (fun e => hgd e.symm), hP8.1.2.1.grown ho9 hP8.1.2.1.size (fun _ e => Option.some.inj e ▸ hP8.2.2.2), hP8.1.2.2⟩, ⟨hC9, hP8.1.2.1.grown ho9 hP8.1.2.1.size (fun _ e => Option.some.inj e ▸ hP8.2.2.2), hP8.2.2.2⟩⟩
            clear hP8 DD hC9 ho9
            have hP10 := hP9.alloc (.cells #[.int .i64 t1, .int .i64 t2] 32)
            have hX10 := Box.new w9 t1 t2
            clear hP9
            cases is with
            | false =>
              clear hX10 hlate
              go_wp2_with fail
              go_quiet (fail)
              go_wp2_with fail
              go_roundw
              case rel => exact ⟨j + 1, c', by omega, by go_num, hGu, hUp3, ⟨hP10.1.1, below_drewN hP10.1.2.1 _, hP10.1.2.2⟩, ⟨hP10.2.1, below_drewN hP10.2.2.1 _, hP10.2.2.2⟩⟩
              case measure => simp [intOf]; omega
            | true =>
              have hlt3 := hlate.out rfl
              have L3 := Lib.hid (fun V => by have h := S1.out cc.s1 cc.s2 t1 t2 V; rw [hlt3] at h; exact h)
              have hPd := hP10.drew
              have hXd : Box (w9.alloc (.cells #[.int .i64 t1, .int .i64 t2] 32)).drew w9.heap.size t1 t2 := hX10
              have hSd := And.intro hXd.c0 hXd.c1
              clear hlt3 hP10 hX10 hlate
              go_wp2_with fail
              go_region_held3 (fun V => V.cell? ⟨w9.heap.size, 0, none⟩ = some (.int .i64 t1) ∧ V.cell? ⟨w9.heap.size, 1, none⟩ = some (.int .i64 t2))
                (first | with_reducible assumption | with_reducible exact hSd)
                (first
                  | (go_at_call 15; refine (hPd.read (HC.out.last _ _ _ hPd.1.1)).mono ?_; rintro e v1 ⟨rfl, hb1, hQ1⟩; have hX1 := hXd.keep hb1; have hT1 := And.intro hX1.c0 hX1.c1)
                  | (go_at_call 21; refine (hQ1.read (L3.out _)).mono ?_; rintro e v2 ⟨rfl, hb2, hQ2⟩; have hX2 := hX1.keep hb2; have hT2 := And.intro hX2.c0 hX2.c1))
              all_goals
                go_wp2_with fail
                go_roundw
                case rel => exact ⟨j + 1, c', by omega, by go_num, hGu, hUp3, hQ2⟩
                case measure => simp [intOf]; omega
          · have hdec2 : j < n2 → ¬ j < 100 := fun h1 h2 => hjn2 ⟨h1, h2⟩
            have hrd : rdy ee = decide (cc.most ≤ ee.rd) := by unfold rdy; rw [HUp.out.2.2, HF.out]
            have HR := Lib.hid (fun V (h : Clk V d ee) => by have h := HC.out.ready V d ee h; rw [hrd] at h; exact h)
            have q1 : (decide (cc.most ≤ ee.rd) == decide (cc.most ≤ ee.rd)) = true := beq_self_eq_true _
            clear hjn2 hrd
            by_cases hlt2 : j < n2
            · have h22 := hdec2 hlt2
              clear hdec2
              go_wp2_with fail
              refine (hP.read (HR.out _ hP.2.1)).mono ?_
              rintro e v5 ⟨rfl, _, hQ5⟩
              go_wp2_with fail
              refine (hQ5.read (HC.out.reading _ _ _ hQ5.2.1)).mono ?_
              rintro e v6 ⟨rfl, _, hQ6⟩
              go_wp2_with fail
              refine (hQ6.read (HC.out.bound _ _ _ hQ6.1.1)).mono ?_
              rintro e v7 ⟨rfl, _, hQ7⟩
              go_wp2_with fail
              refine (AW.out _).mono ?_
              rintro e v8 ⟨rfl, hb8⟩
              have hB8 := hQ7.1.2.1.trans (hb8.mono hQ7.1.2.1.size)
              go_wp2
              go_ret
              exact ⟨rfl, hB8⟩
            · clear hdec2
              go_wp2_with fail
              refine (hP.read (HR.out _ hP.2.1)).mono ?_
              rintro e v5 ⟨rfl, _, hQ5⟩
              go_wp2_with fail
              refine (hQ5.read (HC.out.reading _ _ _ hQ5.2.1)).mono ?_
              rintro e v6 ⟨rfl, _, hQ6⟩
              go_wp2_with fail
              refine (hQ6.read (HC.out.bound _ _ _ hQ6.1.1)).mono ?_
              rintro e v7 ⟨rfl, _, hQ7⟩
              go_wp2_with fail
              refine (AW.out _).mono ?_
              rintro e v8 ⟨rfl, hb8⟩
              have hB8 := hQ7.1.2.1.trans (hb8.mono hQ7.1.2.1.size)
              go_wp2
              go_ret
              exact ⟨rfl, hB8⟩
end Go.Proofs.Ytmjniibeomjkkaa
