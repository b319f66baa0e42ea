/-
  ClockStays: the walk, over what the code's calls promise.
-/
import Derived.Test.YtmjniibeomjkkaaKList
import Derived.Test.YtmjniibeomjkkaaKAwake
set_option linter.unusedVariables false
namespace Go.Proofs.Ytmjniibeomjkkaa
open Go.RowKit

theorem setE_stay (c : Ck) (r : Int) : setE c r = 0 ∨ setC c r = c := by unfold setE setC; split <;> simp
theorem rseE_stay (c : Ck) (r : Int) : rseE c r = 0 ∨ rseC c r = c := by unfold rseE rseC; split <;> simp
theorem now_stay (c : Ck) : (nowR c).2.2 = 0 ∨ nowC c = c := by unfold nowR nowC; (repeat' split) <;> simp
theorem seeE_stay (c : Ck) (a b : Int) : seeE c a b = 0 ∨ seeC c a b = c := by unfold seeE seeC; (repeat' split) <;> simp

abbrev SB (q : Nat) (a b : Int) (V : World) : Prop := V.cell? ⟨q, 0, none⟩ = some (.int .i64 a) ∧ V.cell? ⟨q, 1, none⟩ = some (.int .i64 b)
theorem SB.keep {q : Nat} {a b : Int} {V V' : World} (h : SB q a b V) (hb : Below V.heap.size V V') : SB q a b V' :=
  ⟨(hb.cell (World.block_lt_of_cell? V _ h.1)).trans h.1, (hb.cell (World.block_lt_of_cell? V _ h.2)).trans h.2⟩
theorem AK.readS {w V : World} {g q : Nat} {c : Ck} {a b : Int} {f : FuncId} {args : Array Value} {v : Value} (p : AK w g c V) (s : SB q a b V) (hc : Calls Try.prog f args V fun e V' => e = .returned v ∧ Below V.heap.size V V') :
    Calls Try.prog f args V fun e V' => e = .returned v ∧ SB q a b V' ∧ AK w g c V' :=
  hc.mono fun _ _ hh => ⟨hh.1, s.keep hh.2, p.1.below hh.2, p.2.1.trans (hh.2.mono p.2.1.size), p.2.2⟩
theorem AK.drew {w V : World} {g : Nat} {c : Ck} (p : AK w g c V) : AK w g c V.drew := ⟨p.1, p.2.1.drew, p.2.2⟩

set_option maxRecDepth 100000 in
set_option maxHeartbeats 20000000 in
theorem clockStays_w (hc : ClockOk) (o b : Int) (A : Option Addr) (n c : Nat) (w : World) (ho : I64 o) (hb : I64 b) (hx : Dos w A n) (hnc : n ≤ c) (hk : c ≤ 9223372036854775807) :
    Calls Try.prog 7 #[.int .i64 o, .int .i64 b, .slice A n c] w fun e w' => e = .returned (.bool true) ∧ Below w.heap.size w w' := by
  have AW := Lib.hid (awakeK hc)
  have HC := Lib.hid hc
  have B1 := Lib.hid (fun V => bring o 500 V (by omega) (by omega))
  have B2 := Lib.hid (fun V => bring b 500 V (by omega) (by omega))
  have hnb : newBad (o % 500) (b % 500) = false := newBad_no.2 ⟨⟨by omega, by omega⟩, ⟨by omega, by omega⟩⟩
  generalize o % 500 = o' at B1 hnb
  generalize b % 500 = b' at B2 hnb
  have N1 := Lib.hid (fun V => HC.out.new o' b' V hnb)
  have BK := Lib.hid (fun (k : Int) V => bring k 4 V (by omega) (by omega))
  clear hc hnb ho hb
  go_enter Try.func7, Try.ntmps7
  go_wp2_with fail
  refine (B1.out _).mono ?_
  rintro e w1 ⟨rfl, rfl⟩
  go_wp2_with fail
  refine (B2.out _).mono ?_
  rintro e w1 ⟨rfl, rfl⟩
  go_wp2_with fail
  refine (N1.out _).mono ?_
  rintro e w2 ⟨g, hg, rfl, hC2, hB2⟩
  have hP2 : AK w g (newC o' b') w2 := ⟨hC2, hB2, hg⟩
  clear hC2 hB2 N1 B1 B2
  go_wp2_with fail
  go_loopw [9] (fun iv wr => ∃ (i : Nat) (cc : Ck), i ≤ n ∧ iv = .int .i64 i ∧ AK w g cc wr) (fun iv _ => n - (intOf iv).toNat)
  case atStart => exact ⟨0, _, Nat.zero_le _, rfl, hP2⟩
  case round =>
    obtain ⟨i, cc, hin, rfl, hP⟩ := hrel
    clear hP2
    by_cases hlt : i < n
    · by_cases h2 : i < 100
      · obtain ⟨lb, lo, k, a, x, y, rfl, hL, hk1, _, _, _⟩ := hx.get hlt
        have hk4 : k % 4 = 0 ∨ k % 4 = 1 ∨ k % 4 = 2 ∨ k % 4 = 3 := by omega
        have C1 := BK.out k
        go_wp2_with fail
        refine (hP.read (HC.out.reading _ _ _ hP.1)).mono ?_
        rintro e w3 ⟨rfl, hP3⟩
        clear hP
        go_wp2_with fail
        refine (hP3.read (HC.out.last _ _ _ hP3.1)).mono ?_
        rintro e w4 ⟨rfl, hP4⟩
        clear hP3
        go_wp2_with fail
        refine (hP4.read (HC.out.bound _ _ _ hP4.1)).mono ?_
        rintro e w5 ⟨rfl, hP5⟩
        clear hP4
        have hP6 := hP5.alloc (.cells #[.int .i64 cc.s1, .int .i64 cc.s2] 32)
        have hX6 := Box.new w5 cc.s1 cc.s2
        have hq : w5.heap.size ≠ g := by have := hP5.1.lt; omega
        have hL6 := hL.below hL.lt hP6.2.1
        have hL5 := hL.below hL.lt hP5.2.1
        obtain ⟨l0, l1, l2, l3⟩ := hL6
        obtain ⟨m0, m1, m2, m3⟩ := hL5
        clear hP5 hx hL
        rcases hk4 with h4 | h4 | h4 | h4
        · rw [h4] at C1
          replace C1 := Lib.hid C1
          clear h4 hk1
          obtain ⟨c', hc'⟩ : ∃ z, z = setC cc a := ⟨_, rfl⟩
          obtain ⟨ee, hee⟩ : ∃ z, z = setE cc a := ⟨_, rfl⟩
          have hst : ee = 0 ∨ c' = cc := by rw [hee, hc']; exact setE_stay _ _
          have S1 := HC.out.set _ _ _ a hP6.1
          rw [← hc', ← hee] at S1
          replace S1 := Lib.hid S1
          clear hc' hee
          go_wp2_with (first | (go_at_call 18; refine (C1.out _).mono ?_; rintro e2 w2' ⟨rfl, rfl⟩))
          refine S1.out.mono ?_
          rintro e w7 ⟨rfl, hC7, ho7⟩
          have hX7 := hX6.other ho7 hq
          have hP7 : AK w g c' w7 := ⟨hC7, hP6.2.1.grown ho7 hP6.2.1.size (fun _ e => Option.some.inj e ▸ hP6.2.2), hP6.2.2⟩
          clear hP6 hX6 hC7 ho7 S1 l0 l1 l2 l3 m0 m1 m2 m3 C1
          by_cases he : ee = 0
          · have he0 : (ee != 0) = false := by rw [he]; rfl
            have he1 : (ee == 0) = true := by rw [he]; rfl
            go_wp2_with fail
            go_quiet (fail)
            go_wp2_with fail
            go_roundw
            case rel => exact ⟨i + 1, c', by omega, by go_num, hP7.1, below_drewN hP7.2.1 _, hP7.2.2⟩
            case measure => simp [intOf]; omega
          · have he0 : (ee != 0) = true := by simpa using he
            have he1 : (ee == 0) = false := by simpa using he
            obtain rfl : c' = cc := hst.resolve_left he
            have t2 : (c'.rd != c'.rd) = false := by simp
            have t3 : (c'.s1 == c'.s1) = true := by simp
            have t4 : (c'.s2 == c'.s2) = true := by simp
            have t5 : (c'.most != c'.most) = false := by simp
            have hPd := hP7.drew
            have hSd : SB w5.heap.size c'.s1 c'.s2 w7.drew := ⟨hX7.c0, hX7.c1⟩
            clear hX7 hP7 hst
            go_wp2_with fail
            go_region_held3 (fun V => V.cell? ⟨w5.heap.size, 0, none⟩ = some (.int .i64 c'.s1) ∧ V.cell? ⟨w5.heap.size, 1, none⟩ = some (.int .i64 c'.s2))
              (first | with_reducible assumption | with_reducible exact hSd)
              (first
                | (go_at_call 14; refine (hPd.readS hSd (HC.out.reading _ _ _ hPd.1)).mono ?_; rintro e w8 ⟨rfl, hS8, hP8⟩)
                | (go_at_call 15; refine (hP8.readS hS8 (HC.out.last _ _ _ hP8.1)).mono ?_; rintro e w9 ⟨rfl, hS9, hP9⟩)
                | (go_at_call 16; refine (hP9.readS hS9 (HC.out.bound _ _ _ hP9.1)).mono ?_; rintro e w10 ⟨rfl, hS10, hP10⟩))
            all_goals
              go_wp2_with fail
              go_roundw
              case rel => exact ⟨i + 1, c', by omega, by go_num, hP10⟩
              case measure => simp [intOf]; omega
        · rw [h4] at C1
          replace C1 := Lib.hid C1
          clear h4 hk1
          obtain ⟨c', hc'⟩ : ∃ z, z = rseC cc a := ⟨_, rfl⟩
          obtain ⟨ee, hee⟩ : ∃ z, z = rseE cc a := ⟨_, rfl⟩
          have hst : ee = 0 ∨ c' = cc := by rw [hee, hc']; exact rseE_stay _ _
          have S1 := HC.out.raise _ _ _ a hP6.1
          rw [← hc', ← hee] at S1
          replace S1 := Lib.hid S1
          clear hc' hee
          go_wp2_with (first | (go_at_call 18; refine (C1.out _).mono ?_; rintro e2 w2' ⟨rfl, rfl⟩))
          refine S1.out.mono ?_
          rintro e w7 ⟨rfl, hC7, ho7⟩
          have hX7 := hX6.other ho7 hq
          have hP7 : AK w g c' w7 := ⟨hC7, hP6.2.1.grown ho7 hP6.2.1.size (fun _ e => Option.some.inj e ▸ hP6.2.2), hP6.2.2⟩
          clear hP6 hX6 hC7 ho7 S1 l0 l1 l2 l3 m0 m1 m2 m3 C1
          by_cases he : ee = 0
          · have he0 : (ee != 0) = false := by rw [he]; rfl
            have he1 : (ee == 0) = true := by rw [he]; rfl
            go_wp2_with fail
            go_quiet (fail)
            go_wp2_with fail
            go_roundw
            case rel => exact ⟨i + 1, c', by omega, by go_num, hP7.1, below_drewN hP7.2.1 _, hP7.2.2⟩
            case measure => simp [intOf]; omega
          · have he0 : (ee != 0) = true := by simpa using he
            have he1 : (ee == 0) = false := by simpa using he
            obtain rfl : c' = cc := hst.resolve_left he
            have t2 : (c'.rd != c'.rd) = false := by simp
            have t3 : (c'.s1 == c'.s1) = true := by simp
            have t4 : (c'.s2 == c'.s2) = true := by simp
            have t5 : (c'.most != c'.most) = false := by simp
            have hPd := hP7.drew
            have hSd : SB w5.heap.size c'.s1 c'.s2 w7.drew := ⟨hX7.c0, hX7.c1⟩
            clear hX7 hP7 hst
            go_wp2_with fail
            go_region_held3 (fun V => V.cell? ⟨w5.heap.size, 0, none⟩ = some (.int .i64 c'.s1) ∧ V.cell? ⟨w5.heap.size, 1, none⟩ = some (.int .i64 c'.s2))
              (first | with_reducible assumption | with_reducible exact hSd)
              (first
                | (go_at_call 14; refine (hPd.readS hSd (HC.out.reading _ _ _ hPd.1)).mono ?_; rintro e w8 ⟨rfl, hS8, hP8⟩)
                | (go_at_call 15; refine (hP8.readS hS8 (HC.out.last _ _ _ hP8.1)).mono ?_; rintro e w9 ⟨rfl, hS9, hP9⟩)
                | (go_at_call 16; refine (hP9.readS hS9 (HC.out.bound _ _ _ hP9.1)).mono ?_; rintro e w10 ⟨rfl, hS10, hP10⟩))
            all_goals
              go_wp2_with fail
              go_roundw
              case rel => exact ⟨i + 1, c', by omega, by go_num, hP10⟩
              case measure => simp [intOf]; omega
        · rw [h4] at C1
          replace C1 := Lib.hid C1
          clear h4 hk1
          obtain ⟨c', hc'⟩ : ∃ z, z = nowC cc := ⟨_, rfl⟩
          obtain ⟨ee, hee⟩ : ∃ z, z = (nowR cc).2.2 := ⟨_, rfl⟩
          have hst : ee = 0 ∨ c' = cc := by rw [hee, hc']; exact now_stay _
          have S1 := HC.out.now _ _ _  hP6.1
          rw [← hc', ← hee] at S1
          replace S1 := Lib.hid S1
          clear hc' hee
          go_wp2_with (first | (go_at_call 18; refine (C1.out _).mono ?_; rintro e2 w2' ⟨rfl, rfl⟩))
          refine S1.out.mono ?_
          rintro e w7 ⟨rfl, hC7, ho7⟩
          have hX7 := hX6.other ho7 hq
          have hP7 : AK w g c' w7 := ⟨hC7, hP6.2.1.grown ho7 hP6.2.1.size (fun _ e => Option.some.inj e ▸ hP6.2.2), hP6.2.2⟩
          clear hP6 hX6 hC7 ho7 S1 l0 l1 l2 l3 m0 m1 m2 m3 C1
          by_cases he : ee = 0
          · have he0 : (ee != 0) = false := by rw [he]; rfl
            have he1 : (ee == 0) = true := by rw [he]; rfl
            go_wp2_with fail
            go_quiet (fail)
            go_wp2_with fail
            go_roundw
            case rel => exact ⟨i + 1, c', by omega, by go_num, hP7.1, below_drewN hP7.2.1 _, hP7.2.2⟩
            case measure => simp [intOf]; omega
          · have he0 : (ee != 0) = true := by simpa using he
            have he1 : (ee == 0) = false := by simpa using he
            obtain rfl : c' = cc := hst.resolve_left he
            have t2 : (c'.rd != c'.rd) = false := by simp
            have t3 : (c'.s1 == c'.s1) = true := by simp
            have t4 : (c'.s2 == c'.s2) = true := by simp
            have t5 : (c'.most != c'.most) = false := by simp
            have hPd := hP7.drew
            have hSd : SB w5.heap.size c'.s1 c'.s2 w7.drew := ⟨hX7.c0, hX7.c1⟩
            clear hX7 hP7 hst
            go_wp2_with fail
            go_region_held3 (fun V => V.cell? ⟨w5.heap.size, 0, none⟩ = some (.int .i64 c'.s1) ∧ V.cell? ⟨w5.heap.size, 1, none⟩ = some (.int .i64 c'.s2))
              (first | with_reducible assumption | with_reducible exact hSd)
              (first
                | (go_at_call 14; refine (hPd.readS hSd (HC.out.reading _ _ _ hPd.1)).mono ?_; rintro e w8 ⟨rfl, hS8, hP8⟩)
                | (go_at_call 15; refine (hP8.readS hS8 (HC.out.last _ _ _ hP8.1)).mono ?_; rintro e w9 ⟨rfl, hS9, hP9⟩)
                | (go_at_call 16; refine (hP9.readS hS9 (HC.out.bound _ _ _ hP9.1)).mono ?_; rintro e w10 ⟨rfl, hS10, hP10⟩))
            all_goals
              go_wp2_with fail
              go_roundw
              case rel => exact ⟨i + 1, c', by omega, by go_num, hP10⟩
              case measure => simp [intOf]; omega
        · rw [h4] at C1
          replace C1 := Lib.hid C1
          clear h4 hk1
          obtain ⟨c', hc'⟩ : ∃ z, z = seeC cc x y := ⟨_, rfl⟩
          obtain ⟨ee, hee⟩ : ∃ z, z = seeE cc x y := ⟨_, rfl⟩
          have hst : ee = 0 ∨ c' = cc := by rw [hee, hc']; exact seeE_stay _ _ _
          have S1 := HC.out.see _ _ _ x y hP6.1
          rw [← hc', ← hee] at S1
          replace S1 := Lib.hid S1
          clear hc' hee
          go_wp2_with (first | (go_at_call 18; refine (C1.out _).mono ?_; rintro e2 w2' ⟨rfl, rfl⟩))
          refine S1.out.mono ?_
          rintro e w7 ⟨rfl, hC7, ho7⟩
          have hX7 := hX6.other ho7 hq
          have hP7 : AK w g c' w7 := ⟨hC7, hP6.2.1.grown ho7 hP6.2.1.size (fun _ e => Option.some.inj e ▸ hP6.2.2), hP6.2.2⟩
          clear hP6 hX6 hC7 ho7 S1 l0 l1 l2 l3 m0 m1 m2 m3 C1
          by_cases he : ee = 0
          · have he0 : (ee != 0) = false := by rw [he]; rfl
            have he1 : (ee == 0) = true := by rw [he]; rfl
            go_wp2_with fail
            go_quiet (fail)
            go_wp2_with fail
            go_roundw
            case rel => exact ⟨i + 1, c', by omega, by go_num, hP7.1, below_drewN hP7.2.1 _, hP7.2.2⟩
            case measure => simp [intOf]; omega
          · have he0 : (ee != 0) = true := by simpa using he
            have he1 : (ee == 0) = false := by simpa using he
            obtain rfl : c' = cc := hst.resolve_left he
            have t2 : (c'.rd != c'.rd) = false := by simp
            have t3 : (c'.s1 == c'.s1) = true := by simp
            have t4 : (c'.s2 == c'.s2) = true := by simp
            have t5 : (c'.most != c'.most) = false := by simp
            have hPd := hP7.drew
            have hSd : SB w5.heap.size c'.s1 c'.s2 w7.drew := ⟨hX7.c0, hX7.c1⟩
            clear hX7 hP7 hst
            go_wp2_with fail
            go_region_held3 (fun V => V.cell? ⟨w5.heap.size, 0, none⟩ = some (.int .i64 c'.s1) ∧ V.cell? ⟨w5.heap.size, 1, none⟩ = some (.int .i64 c'.s2))
              (first | with_reducible assumption | with_reducible exact hSd)
              (first
                | (go_at_call 14; refine (hPd.readS hSd (HC.out.reading _ _ _ hPd.1)).mono ?_; rintro e w8 ⟨rfl, hS8, hP8⟩)
                | (go_at_call 15; refine (hP8.readS hS8 (HC.out.last _ _ _ hP8.1)).mono ?_; rintro e w9 ⟨rfl, hS9, hP9⟩)
                | (go_at_call 16; refine (hP9.readS hS9 (HC.out.bound _ _ _ hP9.1)).mono ?_; rintro e w10 ⟨rfl, hS10, hP10⟩))
            all_goals
              go_wp2_with fail
              go_roundw
              case rel => exact ⟨i + 1, c', by omega, by go_num, hP10⟩
              case measure => simp [intOf]; omega
      · go_wp2_with fail
        refine (AW.out _).mono ?_
        rintro e w3 ⟨rfl, hb3⟩
        have hB3 := hP.2.1.trans (hb3.mono hP.2.1.size)
        go_wp2
        go_ret
        exact ⟨rfl, hB3⟩
    · go_wp2_with fail
      refine (AW.out _).mono ?_
      rintro e w3 ⟨rfl, hb3⟩
      have hB3 := hP.2.1.trans (hb3.mono hP.2.1.size)
      go_wp2
      go_ret
      exact ⟨rfl, hB3⟩
end Go.Proofs.Ytmjniibeomjkkaa
