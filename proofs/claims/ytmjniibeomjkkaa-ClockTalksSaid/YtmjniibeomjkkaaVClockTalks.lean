/-
  ClockTalks: the walk, over what the code's calls promise.
-/
import Derived.Test.YtmjniibeomjkkaaKTri
import Derived.Deep.CutRange
import Derived.Deep.RegionHeld3
import Derived.IntWalk
set_option linter.unusedVariables false
namespace Go.Proofs.Ytmjniibeomjkkaa
open Go.RowKit

set_option maxRecDepth 100000 in
set_option maxHeartbeats 20000000 in
theorem clockTalks_w (hc : ClockOk) (A : Option Addr) (n c : Nat) (w : World) (hx : Rows3 w A n) (hnc : n ≤ c) (hk : c ≤ 9223372036854775807) :
    Calls Try.prog 6 #[.slice A n c] w fun e w' => e = .returned (.bool true) ∧ Below w.heap.size w w' := by
  have AW := Lib.hid (awakeK hc)
  have HC := Lib.hid hc
  clear hc
  go_enter Try.func6, Try.ntmps6
  go_wp2_with fail
  go_loopw [4] (fun iv V => ∃ (i : Nat) (g : Nat → Nat) (cc : Nat → Ck), i ≤ 3 ∧ iv = .int .i64 i ∧ Tri w w.heap.size i (fun _ => 0) 0 g cc V) (fun iv _ => 3 - (intOf iv).toNat)
  case atStart => exact ⟨0, fun _ => 0, fun _ => newC 10 0, by omega, rfl, Tri.new w _ _ _ _⟩
  case round =>
    obtain ⟨i, g, cc, hi, rfl, hT⟩ := hrel
    by_cases hlt : i < 3
    · obtain ⟨_, hE1, hE2, hTk⟩ := talk_new (5 * (i : Int)) (by omega)
      have E2 := Lib.hid hE2
      have TK := Lib.hid hTk
      clear hE1 hE2 hTk
      go_wp2_with fail
      refine (HC.out.new 10 0 _ rfl).mono ?_
      rintro e w1 ⟨x, hx1, rfl, hC1, hb1⟩
      have hA1 : AK wr x (newC 10 0) w1 := ⟨hC1, hb1, hx1⟩
      clear hC1 hb1
      go_wp2_with fail
      refine (k_raise HC.out hA1 1099511627776 0 _ rfl rfl).mono ?_
      rintro e w2 ⟨rfl, hA2⟩
      clear hA1
      go_wp2_with fail
      refine (k_set HC.out hA2 (5 * (i : Int)) 0 _ E2.out rfl).mono ?_
      rintro e w3 ⟨rfl, hA3⟩
      clear hA2
      have hT3 := hT.keep hA3.2.1
      have c3 := hT3.cell hlt
      have z3 := hT3.fz i
      have hT4 := hT3.add hlt hA3.1 (Nat.le_trans hT.below.size hx1) (by have := hT.lt; omega) (fun j hj => by have := (hT.clk j hj).lt; omega) TK.out
      have T4 := Lib.hid hT4
      clear hT hT3 hT4 hA3 hx1
      go_wp2_with fail
      go_roundw
      case rel => exact ⟨i + 1, _, _, by omega, by go_num, T4.out⟩
      case measure => simp [intOf]; omega
    · obtain rfl : i = 3 := by omega
      clear hi hlt
      rw [show ((3 : Nat) : Int) = 3 from rfl]
      go_wp2_with fail
      go_loopw [7, 10] (fun iv _ V => ∃ (i : Nat) (rr : Int) (ck : Nat → Ck), i ≤ n ∧ i ≤ 200 ∧ iv = .int .i64 i ∧ 0 ≤ rr ∧ rr ≤ 3 * (i : Int) ∧ Tri w w.heap.size 3 (fun _ => rr) i g ck V) (fun iv _ _ => n - (intOf iv).toNat)
      case atStart => exact ⟨0, 0, cc, Nat.zero_le _, by omega, rfl, by omega, by omega, hT⟩
      case round =>
        clear hT
        obtain ⟨i, rr, ck, hin, hi2, rfl, hr0, hr1, hT⟩ := hrel
        by_cases hlt : i < n
        · by_cases h2 : i < 200
          · obtain ⟨lb, lo, x, y, z, rfl, hL, hkx, hky, hkz⟩ := hx.get hlt
            have hq : lb < w.heap.size := hL.lt
            obtain ⟨p, hp3, hp⟩ : ∃ p : Nat, p < 3 ∧ x % 3 = (p : Int) := ⟨(x % 3).toNat, by omega, by omega⟩
            obtain ⟨q, hq3, hqe⟩ : ∃ q : Nat, q < 3 ∧ y % 3 = (q : Int) := ⟨(y % 3).toNat, by omega, by omega⟩
            obtain ⟨b, hb0, hb3, hbe⟩ : ∃ b : Int, 0 ≤ b ∧ b ≤ 3 ∧ z % 4 = b := ⟨z % 4, by omega, by omega, rfl⟩
            have C1 := fun V => bring x 3 V (by omega) (by omega)
            have C2 := fun V => bring y 3 V (by omega) (by omega)
            have C3 := fun V => bring z 4 V (by omega) (by omega)
            rw [hp] at C1
            rw [hqe] at C2
            rw [hbe] at C3
            replace C1 := Lib.hid C1
            replace C2 := Lib.hid C2
            replace C3 := Lib.hid C3
            have hrU : rr ≤ 600 := by omega
            have hHL := Lib.hid hL
            have HX := Lib.hid hx
            clear hp hqe hbe hkx hky hkz hx hL
            obtain ⟨l0, l1, l2⟩ := hHL.out.below hq hT.below
            go_wp2_with (first | (go_at_call 18; refine (C3.out _).mono ?_; rintro e2 w2' ⟨rfl, rfl⟩))
            go_loopw [9] (fun kv V => ∃ (k : Nat) (cj : Nat → Ck), k ≤ 3 ∧ kv = .int .i64 k ∧ Hid (Tri w w.heap.size 3 (fun j => if j < k then rr + b else rr) i g cj V)) (fun kv _ => 3 - (intOf kv).toNat)
            case atStart => exact ⟨0, ck, by omega, rfl, Lib.hid (hT.same (fun j _ => if_neg (by omega)))⟩
            case round =>
              clear hT l0 l1 l2
              obtain ⟨k, cj, hk3, rfl, hT⟩ := hrel
              by_cases hlk : k < 3
              · have hTd := hT.out.drew
                obtain ⟨rd, hrd⟩ : ∃ x, (cj k).rd = x := ⟨_, rfl⟩
                have tk := hTd.talk k hlk
                rw [if_neg (by omega)] at tk
                have hrd2 : rd = rr + 5 * (k : Int) := hrd ▸ tk.2.2.2.1
                have ton := talk_on (by' := b) tk hb0 (by omega)
                rw [hrd] at ton
                have RD := Lib.hid (fun V (hV : Clk V (g k) (cj k)) => by have h := HC.out.reading V (g k) (cj k) hV; rw [hrd] at h; exact h)
                have SE := Lib.hid (fun V (hV : Tri w w.heap.size 3 (fun j => if j < k then rr + b else rr) i g cj V) => by have h := hV.mut hlk ton.2 (Int.le_refl _) (HC.out.set V (g k) (cj k) (rd + b) (hV.clk k hlk)); rw [ton.1] at h; exact h)
                have hw : IntKind.i64.wrap (rd + b) = rd + b := IntWalk.i64_in _ (by omega)
                have hS0 := hTd.at_ hlk
                have hTe := Lib.hid hTd
                clear tk ton hrd hrd2 hT hTd
                go_wp2_with fail
                go_region_held3 (fun V => V.cell? ⟨w.heap.size, k, none⟩ = some (pt (g k)))
                  (first | with_reducible assumption | with_reducible exact hS0)
                  (first
                    | (go_at_call 14; refine (hTe.out.read (RD.out _ (hTe.out.clk k hlk))).mono ?_; rintro e w8 ⟨rfl, _, hT8⟩; have hS8 := hT8.at_ hlk; have hTf := Lib.hid hT8; clear hT8)
                    | (go_at_call 24; refine (SE.out _ hTf.out).mono ?_; rintro e w9 ⟨rfl, _, hT9⟩; have hS9 := hT9.at_ hlk; have hTg := Lib.hid hT9; clear hT9))
                all_goals
                  go_wp2_with fail
                  go_roundw
                  case rel => exact ⟨k + 1, _, by omega, by go_num, Lib.hid (hTg.out.same (fun j _ => step_if j k _ _))⟩
                  case measure => simp [intOf]; omega
              · have hT5 := hT.out.same (r' := fun _ => rr + b) (fun j hj => (if_pos (by omega)).symm)
                have hkk : k = 3 := by omega
                subst hkk
                obtain ⟨a, b2, hn, tk, ha0, ha1, hb20, hb21⟩ := talk_now (hT5.talk p hp3) (by omega) (by omega) (by omega)
                have NW := Lib.hid (fun V (hV : Tri w w.heap.size 3 (fun _ => rr + b) i g cj V) => by have h := hV.mut hp3 tk (by omega) (HC.out.now V (g p) (cj p) (hV.clk p hp3)); rw [hn] at h; exact h)
                clear hn tk hT hlk hk3
                obtain ⟨l0, l1, l2⟩ := hHL.out.below hq hT5.below
                have p0 := hT5.at_ hp3
                have hT5h := Lib.hid hT5
                clear hT5
                go_wp2_with (first | (go_at_call 18; refine (C1.out _).mono ?_; rintro e2 w2' ⟨rfl, rfl⟩))
                refine (NW.out _ hT5h.out).mono ?_
                rintro e w5 ⟨rfl, hg5, hT6⟩
                have hT7 := (hT6.same (r' := fun _ => rr + b) (fun j _ => by split <;> rfl)).alloc (.cells #[.int .i64 a, .int .i64 b2] 32)
                have hX7 := Box.new w5 a b2
                have hgq : ∀ j, j < 3 → g j ≠ w5.heap.size := fun j hj => by have := (hT6.clk j hj).lt; omega
                clear hT5h hT6 l0 l1 l2 p0 NW
                generalize (fun i => if i = p then nowC (cj p) else cj i) = cf at hT7
                obtain ⟨hse, tk⟩ := talk_see (a := a) (b := b2) (hT7.talk q hq3) (by omega) (by omega) ⟨ha0, ha1⟩ ⟨hb20, hb21⟩ (by omega)
                have SE := Lib.hid (fun V (hV : Tri w w.heap.size 3 (fun _ => rr + b) (i + 1) g cf V) => by have h := hV.mut hq3 tk (Int.le_refl _) (HC.out.see V (g q) (cf q) a b2 (hV.clk q hq3)); rw [hse] at h; exact h)
                have hdd : decide (rr + b + 10 < a) = false := decide_eq_false (by omega)
                have hTd := hT7.drew
                have hXd : Box (w5.alloc (.cells #[.int .i64 a, .int .i64 b2] 32)).drew w5.heap.size a b2 := hX7
                have hLd := hHL.out.below hq hTd.below
                have hS0 : ((w5.alloc (.cells #[.int .i64 a, .int .i64 b2] 32)).drew.cell? ⟨w5.heap.size, 0, none⟩ = some (.int .i64 a) ∧ (w5.alloc (.cells #[.int .i64 a, .int .i64 b2] 32)).drew.cell? ⟨w5.heap.size, 1, none⟩ = some (.int .i64 b2)) ∧ (w5.alloc (.cells #[.int .i64 a, .int .i64 b2] 32)).drew.cell? ⟨lb, lo + i * 3 + 1, none⟩ = some (.int .i64 y) ∧ (w5.alloc (.cells #[.int .i64 a, .int .i64 b2] 32)).drew.cell? ⟨w.heap.size, q, none⟩ = some (pt (g q)) := ⟨⟨hXd.c0, hXd.c1⟩, hLd.2.1, hTd.at_ hq3⟩
                have hqI : (q : Int) < 3 := by omega
                have hqI0 : (0 : Int) ≤ (q : Int) := by omega
                have hTh := Lib.hid hTd
                have hXh := Lib.hid hXd
                have HG := Lib.hid hgq
                clear hse tk hT7 hX7 hTd hXd hLd hgq ha0 ha1 hb20 hb21 hg5
                go_wp2_with fail
                go_region_held3 (fun V => (V.cell? ⟨w5.heap.size, 0, none⟩ = some (.int .i64 a) ∧ V.cell? ⟨w5.heap.size, 1, none⟩ = some (.int .i64 b2)) ∧ V.cell? ⟨lb, lo + i * 3 + 1, none⟩ = some (.int .i64 y) ∧ V.cell? ⟨w.heap.size, q, none⟩ = some (pt (g q)))
                  (first | with_reducible assumption | with_reducible exact hS0)
                  (first
                    | (go_at_call 18; refine (C2.out _).mono ?_; rintro e2 w2' ⟨rfl, rfl⟩)
                    | (go_at_call 26; refine (SE.out _ hTh.out).mono ?_; rintro e w8 ⟨rfl, hg8, hT8⟩; have hX8 := hXh.out.other hg8 (fun e => HG.out q hq3 e.symm); have hL8 := hHL.out.below hq hT8.below; have hS8 := And.intro (And.intro hX8.c0 hX8.c1) (And.intro hL8.2.1 (hT8.at_ hq3)); have hTg := Lib.hid (hT8.same (r' := fun _ => rr + b) (fun j _ => by split <;> rfl)); have hX9 := Lib.hid hX8; clear hX8 hL8 hT8 hg8))
                all_goals
                  clear SE hS0 hTh hXh HG hS8 hqI hqI0 C1 C2 C3
                  generalize (fun i => if i = q then seeC (cf q) a b2 else cf i) = ce at hTg
                  have hTd := hTg.out.drew
                  have hXd : Box w8.drew w5.heap.size a b2 := hX9.out
                  have hrd : (ce 2).rd = rr + b + 10 := by have h := (hTd.talk 2 (by omega)).2.2.2.1; rw [h]; omega
                  have RD := Lib.hid (fun V (hV : Clk V (g 2) (ce 2)) => by have h := HC.out.reading V (g 2) (ce 2) hV; rw [hrd] at h; exact h)
                  have hS0 : w8.drew.cell? ⟨w5.heap.size, 0, none⟩ = some (.int .i64 a) ∧ w8.drew.cell? ⟨w.heap.size, 2, none⟩ = some (pt (g 2)) := ⟨hXd.c0, hTd.at_ (by omega)⟩
                  have hTh := Lib.hid hTd
                  have hXh := Lib.hid hXd
                  clear hTg hX9 hTd hXd hrd
                  go_wp2_with fail
                  go_region_held3 (fun V => V.cell? ⟨w5.heap.size, 0, none⟩ = some (.int .i64 a) ∧ V.cell? ⟨w.heap.size, 2, none⟩ = some (pt (g 2)))
                    (first | with_reducible assumption | with_reducible exact hS0)
                    (first
                      | (go_at_call 14; refine (hTh.out.read (RD.out _ (hTh.out.clk 2 (by omega)))).mono ?_; rintro e w10 ⟨rfl, hb10, hT10⟩; have hX10 := hXh.out.keep hb10; have hQ10 : (2 : Nat) < 3 := (by decide); have hS10 := And.intro hX10.c0 (hT10.at_ hQ10); have hTk := Lib.hid hT10; clear hT10))
                  all_goals
                    go_wp2_with fail
                    go_roundw
                    case rel => exact ⟨i + 1, rr + b, ce, by omega, by omega, by go_num, by omega, by omega, hTk.out.lev (by omega)⟩
                    case measure => simp [intOf]; omega
          · go_wp2_with fail
            refine (AW.out _).mono ?_
            rintro e w3 ⟨rfl, hb3⟩
            have hB3 := hT.below.trans (hb3.mono hT.below.size)
            go_wp2
            go_ret
            exact ⟨rfl, hB3⟩
        · go_wp2_with fail
          refine (AW.out _).mono ?_
          rintro e w3 ⟨rfl, hb3⟩
          have hB3 := hT.below.trans (hb3.mono hT.below.size)
          go_wp2
          go_ret
          exact ⟨rfl, hB3⟩
end Go.Proofs.Ytmjniibeomjkkaa
