/-
  ClockPlays: the walk, over what the code's calls promise.
-/
import Derived.Test.YtmjniibeomjkkaaKStep
import Derived.Test.YtmjniibeomjkkaaKList
import Derived.Test.YtmjniibeomjkkaaKAwake
import Derived.Deep.CutRange
set_option linter.unusedVariables false
namespace Go.Proofs.Ytmjniibeomjkkaa
open Go.RowKit

/-- Both clocks in the midst of a round. -/
def QQ (w : World) (g h : Nat) (c : Ck) (b o : Nat) (k a x y : Int) (V : World) : Prop := Clk V g c ∧ RClk V h c ∧ Below w.heap.size w V ∧ L4 b o k a x y V
section
variable {w V : World} {g h b o : Nat} {c : Ck} {k a x y : Int} {f : FuncId} {args : Array Value} {v : Value}
theorem QQ.clk (p : QQ w g h c b o k a x y V) : Clk V g c := p.1
theorem QQ.rclk (p : QQ w g h c b o k a x y V) : RClk V h c := p.2.1
theorem QQ.rd (p : QQ w g h c b o k a x y V) : V.cell? ⟨h, 1, none⟩ = some (.int .i64 c.rd) := p.2.1.cell 1
theorem QQ.most (p : QQ w g h c b o k a x y V) : V.cell? ⟨h, 3, none⟩ = some (.int .i64 c.most) := p.2.1.cell 3
theorem QQ.s1 (p : QQ w g h c b o k a x y V) : V.cell? ⟨h, 4, none⟩ = some (.int .i64 c.s1) := p.2.1.cell 4
theorem QQ.s2 (p : QQ w g h c b o k a x y V) : V.cell? ⟨h, 5, none⟩ = some (.int .i64 c.s2) := p.2.1.cell 5
theorem QQ.read (p : QQ w g h c b o k a x y V) (hc : Calls Try.prog f args V fun e V' => e = .returned v ∧ Below V.heap.size V V') :
    Calls Try.prog f args V fun e V' => e = .returned v ∧ L4 b o k a x y V' ∧ QQ w g h c b o k a x y V' :=
  hc.mono fun _ _ hh => ⟨hh.1, p.2.2.2.below p.2.2.2.lt hh.2, p.1.below hh.2, p.2.1.below hh.2, p.2.2.1.trans (hh.2.mono p.2.2.1.size), p.2.2.2.below p.2.2.2.lt hh.2⟩
end

set_option maxRecDepth 100000 in
set_option maxHeartbeats 20000000 in
theorem clockPlays_w (hc : ClockOk) (o b : Int) (A : Option Addr) (n c : Nat) (w : World) (ho : I64 o) (hb : I64 b) (hx : Dos w A n) (hnc : n ≤ c) (hk : c ≤ 9223372036854775807) :
    Calls Try.prog 3 #[.int .i64 o, .int .i64 b, .slice A n c] w fun e w' => e = .returned (.bool true) ∧ Below w.heap.size w w' := by
  have AW := Lib.hid (awakeK hc)
  have HC := Lib.hid hc
  cases hnb : newBad o b with
  | true =>
    have N1 := Lib.hid (fun V => HC.out.newBad o b V hnb)
    have N2 := Lib.hid (fun V => rnew_bad o b V hnb)
    clear hc hnb
    go_enter Try.func3, Try.ntmps3
    go_wp2_with fail
    refine (N1.out _).mono ?_
    rintro e w1 ⟨rfl, hb1⟩
    go_wp2_with fail
    refine (N2.out _).mono ?_
    rintro e w2 ⟨rfl, rfl⟩
    go_wp2_with fail
    go_loopw [11] (fun iv wr => iv = .int .i64 0 ∧ wr = w2) (fun _ _ => 0)
    case atStart => exact ⟨rfl, rfl⟩
    case round =>
      obtain ⟨rfl, rfl⟩ := hrel
      by_cases hn : 0 < n
      · go_wp2_with fail
        refine (AW.out _).mono ?_
        rintro e w3 ⟨rfl, hb3⟩
        have hB3 := hb1.trans (hb3.mono hb1.size)
        go_wp2
        go_ret
        exact ⟨rfl, hB3⟩
      · go_wp2_with fail
        refine (AW.out _).mono ?_
        rintro e w3 ⟨rfl, hb3⟩
        have hB3 := hb1.trans (hb3.mono hb1.size)
        go_wp2
        go_ret
        exact ⟨rfl, hB3⟩
  | false =>
    have N1 := Lib.hid (fun V => HC.out.new o b V hnb)
    have N2 := Lib.hid (fun V => rnew_ok o b V hnb)
    clear hc hnb
    go_enter Try.func3, Try.ntmps3
    go_wp2_with fail
    refine (N1.out _).mono ?_
    rintro e w1 ⟨g, hg, rfl, hC1, hb1⟩
    go_wp2_with fail
    refine (N2.out _).mono ?_
    rintro e w2 ⟨h, hh, rfl, hM2, hb2⟩
    have hC2 := hC1.below hb2
    have hgh : g ≠ h := by have := hC1.lt; omega
    have hB2 := hb1.trans (hb2.mono hb1.size)
    have hh0 : w.heap.size ≤ h := Nat.le_trans hb1.size hh
    clear hC1 hb1 hb2 hh
    go_wp2_with fail
    go_loopw [11] (fun iv wr => ∃ (i : Nat) (cc : Ck), i ≤ n ∧ iv = .int .i64 i ∧ Clk wr g cc ∧ RClk wr h cc ∧ Below w.heap.size w wr) (fun iv _ => n - (intOf iv).toNat)
    case atStart => exact ⟨0, _, Nat.zero_le _, rfl, hC2, hM2, hB2⟩
    case round =>
      obtain ⟨i, cc, hin, rfl, hC, hM, hB⟩ := hrel
      clear hC2 hM2 hB2 N1 N2
      by_cases hlt : i < n
      · by_cases h2 : i < 200
        · obtain ⟨lb, lo, k, a, x, y, rfl, hL, hk1, _, _, _⟩ := hx.get hlt
          have hL2 := hL.below hL.lt hB
          obtain ⟨l0, l1, l2, l3⟩ := id hL2
          have hLd : L4 lb (lo + i * 4) k a x y wr.drew := hL2
          have hq : lb < w.heap.size := hL.lt
          have ST := step_w HC.out wr.drew w.heap.size g h cc k a x y hC hM hgh hg hh0 hk1
          unfold Stepped at ST
          have hBd := hB.drew
          have hokd := doC_ok hC.ok k a x y
          generalize doC cc k a x y = c' at ST hokd
          replace ST := Lib.hid ST
          have t1 : (rdy c' != rdy c') = false := by simp
          have t2 : (c'.rd != c'.rd) = false := by simp
          have t3 : (c'.s1 == c'.s1) = true := by simp
          have t4 : (c'.s2 == c'.s2) = true := by simp
          have t5 : (c'.most != c'.most) = false := by simp
          clear hx hk1 hC hM hB hL
          go_upto_region 8 with fail
          go_cut [89] from 48 to 89 (fun v wx => v = .bool false ∧ Hid (QQ w g h c' lb (lo + i * 4) k a x y wx))
          case first =>
            clear AW ho hb h2 hL2 hg hh0 hgh
            go_region_with
              (first
                | (go_at_call 11; refine ST.out.mono ?_; clear l0 l1 l2 l3; rintro e w3 ⟨rfl, hC3, hM3, hb3, _⟩; have hQ : QQ w g h c' lb (lo + i * 4) k a x y w3 := ⟨hC3, hM3, hBd.trans hb3, hLd.below hq hb3⟩; clear hC3 hM3 hb3; have y1 := hQ.rd; have y2 := hQ.s1; have y3 := hQ.s2; have y4 := hQ.most)
                | (go_at_call 12; refine (QQ.read hQ (HC.out.ready _ _ _ hQ.clk)).mono ?_; clear hQ y1 y2 y3 y4; rintro e w4 ⟨rfl, _, hQ⟩; have y1 := hQ.rd; have y2 := hQ.s1; have y3 := hQ.s2; have y4 := hQ.most)
                | (go_at_call 13; refine (QQ.read hQ (rready _ _ _ hQ.rclk)).mono ?_; clear hQ y1 y2 y3 y4; rintro e w4 ⟨rfl, _, hQ⟩; have y1 := hQ.rd; have y2 := hQ.s1; have y3 := hQ.s2; have y4 := hQ.most)
                | (go_at_call 14; refine (QQ.read hQ (HC.out.reading _ _ _ hQ.clk)).mono ?_; clear hQ y1 y2 y3 y4; rintro e w4 ⟨rfl, _, hQ⟩; have y1 := hQ.rd; have y2 := hQ.s1; have y3 := hQ.s2; have y4 := hQ.most)
                | (go_at_call 15; refine (QQ.read hQ (HC.out.last _ _ _ hQ.clk)).mono ?_; clear hQ y1 y2 y3 y4; rintro e w4 ⟨rfl, _, hQ⟩; have y1 := hQ.rd; have y2 := hQ.s1; have y3 := hQ.s2; have y4 := hQ.most)
                | (go_at_call 16; refine (QQ.read hQ (HC.out.bound _ _ _ hQ.clk)).mono ?_; clear hQ y1 y2 y3 y4; rintro e w4 ⟨rfl, _, hQ⟩; have y1 := hQ.rd; have y2 := hQ.s1; have y3 := hQ.s2; have y4 := hQ.most))
            all_goals (try go_wp2_with fail)
            all_goals go_meet
            all_goals exact ⟨rfl, Lib.hid hQ⟩
          case rest =>
            obtain ⟨rfl, hQ⟩ := hcut
            replace hQ := hQ.out
            clear l0 l1 l2 l3 hL2 hLd ST hBd
            go_wp2_with fail
            go_roundw
            case rel => exact ⟨i + 1, c', by omega, by go_num, hQ.clk, hQ.rclk, hQ.2.2.1⟩
            case measure => simp [intOf]; omega
        · go_wp2_with fail
          refine (AW.out _).mono ?_
          rintro e w3 ⟨rfl, hb3⟩
          have hB3 := hB.trans (hb3.mono hB.size)
          go_wp2
          go_ret
          exact ⟨rfl, hB3⟩
      · go_wp2_with fail
        refine (AW.out _).mono ?_
        rintro e w3 ⟨rfl, hb3⟩
        have hB3 := hB.trans (hb3.mono hB.size)
        go_wp2
        go_ret
        exact ⟨rfl, hB3⟩
end Go.Proofs.Ytmjniibeomjkkaa
