/-
  ClockNames: the walk, over what the code's calls promise and what ClockPlays says.
-/
import Derived.Test.YtmjniibeomjkkaaKList
import Derived.Test.YtmjniibeomjkkaaKAwake
import Derived.Test.YtmjniibeomjkkaaKOwnD
import Derived.Deep.RegionHeld3
import Derived.StillTailTactics
set_option linter.unusedVariables false
namespace Go.Proofs.Ytmjniibeomjkkaa
open Go.RowKit

def PlaysSaid : Prop := ∀ (o b : Int) (A : Option Addr) (n c : Nat) (w : World), I64 o → I64 b → Dos w A n → n ≤ c → c ≤ 9223372036854775807 →
  Calls Try.prog 3 #[.int .i64 o, .int .i64 b, .slice A n c] w fun e w' => e = .returned (.bool true) ∧ Below w.heap.size w w'

/-- A clock that is none, and nothing older has changed. -/
def NK (w : World) (v : Value) (V : World) : Prop := NoClk V v ∧ Below w.heap.size w V
section
variable {w V : World} {f : FuncId} {args : Array Value} {u v : Value}
theorem NK.read (p : NK w v V) (hc : Calls Try.prog f args V fun e V' => e = .returned u ∧ Below V.heap.size V V') :
    Calls Try.prog f args V fun e V' => e = .returned u ∧ Below V.heap.size V V' ∧ NK w v V' :=
  hc.mono fun _ _ hh => ⟨hh.1, hh.2, p.1.below hh.2, p.2.trans (hh.2.mono p.2.size)⟩
end

set_option maxRecDepth 100000 in
set_option maxHeartbeats 20000000 in
theorem clockNames_w (hc : ClockOk) (hn : NoOk) (hp : PlaysSaid) (w : World) :
    Calls Try.prog 8 #[] w fun e w' => e = .returned (.bool true) ∧ Below w.heap.size w w' := by
  have AW := Lib.hid (awakeK hc)
  have NO := Lib.hid hn
  have PL := Lib.hid hp
  clear hc hn hp
  go_enter Try.func8, Try.ntmps8
  go_wp2_with fail
  go_loopw [1, 2] (fun v iv wr => ∃ i : Nat, i ≤ 2 ∧ iv = .int .i64 i ∧ NK w v wr) (fun _ iv _ => 2 - (intOf iv).toNat)
  case atStart => exact ⟨0, by omega, rfl, NoClk.nil _, Below.refl _ _⟩
  case round =>
    obtain ⟨i, hi, rfl, hP⟩ := hrel
    by_cases hlt : i < 2
    · go_wp2_with fail
      refine (hP.read (NO.out.now _ _ hP.1)).mono ?_
      rintro e w2 ⟨rfl, _, hP2⟩
      have hP3 : NK w u1 (w2.alloc (.cells #[.int .i64 0, .int .i64 0] 32)) := ⟨hP2.1.below ((Below.refl _ _).alloc (Nat.le_refl _) _), hP2.2.alloc hP2.2.size _⟩
      clear hP hP2
      go_wp2_with fail
      refine (hP3.read (NO.out.set _ _ _ hP3.1)).mono ?_
      rintro e w4 ⟨rfl, _, hP4⟩
      go_wp2_with fail
      refine (hP4.read (NO.out.raise _ _ _ hP4.1)).mono ?_
      rintro e w5 ⟨rfl, _, hP5⟩
      go_wp2_with fail
      refine (hP5.read (NO.out.see _ _ _ _ hP5.1)).mono ?_
      rintro e w6 ⟨rfl, _, hP6⟩
      go_wp2_with fail
      refine (hP6.read (NO.out.ready _ _ hP6.1)).mono ?_
      rintro e w7 ⟨rfl, _, hP7⟩
      go_wp2_with fail
      refine (hP7.read (NO.out.reading _ _ hP7.1)).mono ?_
      rintro e w8 ⟨rfl, _, hP8⟩
      go_wp2_with fail
      refine (hP8.read (NO.out.bound _ _ hP8.1)).mono ?_
      rintro e w9 ⟨rfl, _, hP9⟩
      go_wp2_with fail
      refine (hP9.read (NO.out.last _ _ hP9.1)).mono ?_
      rintro e w10 ⟨rfl, _, hP10⟩
      clear hP3 hP4 hP5 hP6 hP7 hP8 hP9
      go_wp2_with fail
      go_roundw
      case rel => exact ⟨i + 1, by omega, by go_num, NoClk.new w10, hP10.2.alloc hP10.2.size _⟩
      case measure => simp [intOf]; omega
    · have hB := hP.2
      clear hP
      go_wp2_with fail
      have hE0 := heap_alloc_new wr (.cells #[.int .i64 (-1), .int .i64 0, .int .i64 1, .int .i64 1099511627775, .int .i64 1099511627776, .int .i64 1099511627777] 3)
      have hEc : ∀ j, (h : j < ends.length) → (wr.alloc (.cells #[.int .i64 (-1), .int .i64 0, .int .i64 1, .int .i64 1099511627775, .int .i64 1099511627776, .int .i64 1099511627777] 3)).cell? ⟨wr.heap.size, j, none⟩ = some (.int .i64 ends[j]) := by
        intro j hj
        rw [cell_of_row _ _ j _ _ (0, 0) hE0]
        rcases (show j = 0 ∨ j = 1 ∨ j = 2 ∨ j = 3 ∨ j = 4 ∨ j = 5 by simp [ends] at hj; omega) with rfl | rfl | rfl | rfl | rfl | rfl <;> rfl
      have hEz : wr.heap.size < (wr.alloc (.cells #[.int .i64 (-1), .int .i64 0, .int .i64 1, .int .i64 1099511627775, .int .i64 1099511627776, .int .i64 1099511627777] 3)).heap.size := by simp
      have hB1 := hB.alloc hB.size (.cells #[.int .i64 (-1), .int .i64 0, .int .i64 1, .int .i64 1099511627775, .int .i64 1099511627776, .int .i64 1099511627777] 3)
      clear hE0 hB
      generalize wr.alloc (.cells #[.int .i64 (-1), .int .i64 0, .int .i64 1, .int .i64 1099511627775, .int .i64 1099511627776, .int .i64 1099511627777] 3) = W at hEc hEz hB1 ⊢
      generalize wr.heap.size = E at hEc hEz ⊢
      have HE := Lib.hid hEc
      clear hEc
      go_loopw [7, 8] (fun lv jv V => ∃ j : Nat, j ≤ 6 ∧ jv = .int .i64 j ∧ Hid (OwnD V W.heap.size lv (j * 9)) ∧ Hid (Below W.heap.size W V)) (fun _ jv _ => 6 - (intOf jv).toNat)
      case atStart => exact ⟨0, by omega, rfl, Lib.hid (OwnD.nil _ _), Lib.hid (Below.refl _ _)⟩
      case round =>
        obtain ⟨j, hj, rfl, hO, hBV⟩ := hrel
        by_cases hlj : j < 6
        · have hjl : j < ends.length := hlj
          have c1 := HE.out j hjl
          have he := ends_ok _ (List.getElem_mem hjl)
          generalize ends[j] = e at c1 he
          have c2 := (hBV.out.cell (p := ⟨E, j, none⟩) hEz).trans c1
          have he' := Lib.hid he
          clear c1 he
          have hO1 := (hO.out.keep ((Below.refl _ _).alloc (Nat.le_refl _) (.cells ((nine e).map (Value.int .i64)).toArray 34))).drew
          have hB1 : Below W.heap.size W (wr.alloc (.cells ((nine e).map (Value.int .i64)).toArray 34)).drew := (hBV.out.alloc hBV.out.size _).drew
          have hl1 : ∀ j u, ((nine e).map (Value.int .i64))[j]? = some u → (wr.alloc (.cells ((nine e).map (Value.int .i64)).toArray 34)).drew.cell? ⟨wr.heap.size, j, none⟩ = some u := list_cells wr _ _
          have e1 : (wr.alloc (.cells ((nine e).map (Value.int .i64)).toArray 34)).drew.cell? ⟨E, j, none⟩ = some (.int .i64 e) := (hB1.cell (p := ⟨E, j, none⟩) hEz).trans ((hBV.out.cell (p := ⟨E, j, none⟩) hEz).symm.trans c2)
          have e0 : wr.drew.cell? ⟨E, j, none⟩ = some (.int .i64 e) := c2
          have hz1 := hB1.size
          go_wp2_with fail
          go_region_held3 (fun V => V.cell? ⟨E, j, none⟩ = some (.int .i64 e))
            (first | with_reducible assumption | with_reducible exact e0 | exact e1)
            ((refine step_appendD rfl _ _ rfl W.heap.size u7 (j * 9) rfl hO1 wr.heap.size 9 9 ((nine e).map (Value.int .i64)) rfl rfl hl1 (AllInt.ints _ (nine_ok e he'.out)) (by omega) (by omega) hz1 ?_; intro v2 w2 hO2 hg2; have hB2 := hB1.grown hg2 hz1 hO1.lt; have e2 : w2.cell? ⟨E, j, none⟩ = some (.int .i64 e) := (hB2.cell (p := ⟨E, j, none⟩) hEz).trans ((hBV.out.cell (p := ⟨E, j, none⟩) hEz).symm.trans c2)))
          all_goals
            go_wp2_with fail
            go_roundw
            case rel => exact ⟨j + 1, by omega, by go_num, Lib.hid (by have h := hO2; rwa [show j * 9 + 9 = (j + 1) * 9 by omega] at h), Lib.hid hB2⟩
            case measure => simp [intOf]; omega
        · have hj6 : j = 6 := by omega
          have h54 : j * 9 = 54 := by omega
          rw [h54] at hO
          obtain ⟨A, c, rfl, hD, hnc, hcc⟩ := hO.out.form
          clear h54 hj6
          have hBW := hBV.out
          have hEs : ∀ k, (h : k < ends.length) → wr.cell? ⟨E, k, none⟩ = some (.int .i64 ends[k]) := fun k hk => (hBW.cell (p := ⟨E, k, none⟩) hEz).trans (HE.out k hk)
          have HS := Lib.hid hEs
          have hEw : E < wr.heap.size := Nat.lt_of_lt_of_le hEz hBW.size
          have hB3 := hB1.trans (hBW.mono hB1.size)
          clear hO hBV hEs hBW hB1 HE
          generalize wr = X at hD HS hEw hB3 ⊢
          go_wp2_with fail
          go_loopw [9, 10] (fun av _ V => ∃ k : Nat, k ≤ 6 ∧ av = .int .i64 k ∧ Below X.heap.size X V) (fun av _ _ => 6 - (intOf av).toNat)
          case atStart => exact ⟨0, by omega, rfl, Below.refl _ _⟩
          case round =>
            obtain ⟨k, hk, rfl, hbk⟩ := hrel
            by_cases hlk : k < 6
            · have HK := Lib.hid hlk
              have hKi : (k : Int) < 6 := by omega
              clear hk
              go_wp2_with fail
              go_loopw [10] (fun bv V => ∃ l : Nat, l ≤ 6 ∧ bv = .int .i64 l ∧ Below X.heap.size X V) (fun bv _ => 6 - (intOf bv).toNat)
              case atStart => exact ⟨0, by omega, rfl, hbk⟩
              case round =>
                obtain ⟨l, hl, rfl, hbl⟩ := hrel
                by_cases hll : l < 6
                · have a1 := (hbl.cell (p := ⟨E, k, none⟩) hEw).trans (HS.out k HK.out)
                  have a2 := (hbl.cell (p := ⟨E, l, none⟩) hEw).trans (HS.out l hll)
                  have o1 := ends_ok (ends[k]'HK.out) (List.getElem_mem _)
                  have o2 := ends_ok (ends[l]'hll) (List.getElem_mem _)
                  generalize ends[k]'HK.out = x at a1 o1
                  generalize ends[l]'hll = y at a2 o2
                  have hDd : Dos wr.drew A 54 := hD.below hbl.drew
                  have P1 := Lib.hid (PL.out x y A 54 c wr.drew o1 o2 hDd hnc hcc)
                  have hbd := hbl.drew
                  have hS : wr.drew.cell? ⟨E, k, none⟩ = some (.int .i64 x) ∧ wr.drew.cell? ⟨E, l, none⟩ = some (.int .i64 y) := ⟨a1, a2⟩
                  clear o1 o2 hDd
                  go_wp2_with fail
                  go_region_with (first | (go_at_call 3; with_reducible refine P1.out.mono ?_; rintro e w5 ⟨rfl, hb5⟩; have hb6 := hbd.trans (hb5.mono hbd.size)))
                  all_goals
                    go_wp2_with fail
                    go_roundw
                    case rel => exact ⟨l + 1, by omega, by go_num, hb6⟩
                    case measure => simp [intOf]; omega
                · go_wp2
                  go_roundw
                  case rel => exact ⟨k + 1, by have := HK.out; omega, by go_num, hbl⟩
                  case measure => simp [intOf]; have := HK.out; omega
            · go_wp2_with fail
              refine (AW.out _).mono ?_
              rintro e2 w2 ⟨rfl, hb2⟩
              have hB5 := (hB3.trans (hbk.mono hB3.size))
              have hB6 := hB5.trans (hb2.mono hB5.size)
              go_wp2
              go_ret
              exact ⟨rfl, hB6⟩
end Go.Proofs.Ytmjniibeomjkkaa
