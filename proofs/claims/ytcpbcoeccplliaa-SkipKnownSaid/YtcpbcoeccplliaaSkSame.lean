/-
  Layer 9, the statements' words: Same (two lists of texts), Bring.
-/
import Derived.Test.YtcpbcoeccplliaaSkHas
import Derived.BigQuiet
import Derived.Deep.QuietTactic
set_option linter.unusedVariables false
namespace Go.Proofs.Ytcpbcoeccplliaa
open Go.RowKit

/-- Texts that lie in memory. -/
def SAt (w : World) (A : Option Addr) (n : Nat) (xs : List ByteArray) : Prop :=
  xs.length = n ∧ (0 < n → ∃ b o, A = some ⟨b, o, none⟩ ∧ ∀ i, (h : i < xs.length) → w.cell? ⟨b, o + i, none⟩ = some (.string xs[i]))
theorem SAt.below {w w' : World} {A : Option Addr} {n : Nat} {xs : List ByteArray} (h : SAt w A n xs) (hb : Below w.heap.size w w') : SAt w' A n xs := by
  refine ⟨h.1, fun hn => ?_⟩
  obtain ⟨b, o, e, hc⟩ := h.2 hn
  exact ⟨b, o, e, fun i hi => (hb.cell (World.block_lt_of_cell? w _ (hc i hi))).trans (hc i hi)⟩
theorem SAt.nil (w : World) (A : Option Addr) : SAt w A 0 [] := ⟨rfl, fun h => absurd h (Nat.lt_irrefl _)⟩
theorem rowS {w : World} {B : Nat} {v : Value} {xs : List ByteArray} (h : w.ownsRow B 9 1 v xs.length (xs.map Value.string)) : ∃ A c, v = .slice A xs.length c ∧ SAt w A xs.length xs ∧ xs.length ≤ c ∧ c ≤ 9223372036854775807 := by
  rcases h.2 with ⟨rfl, hn0⟩ | ⟨q, cap, cur, rfl, hq, hh, hnc, hcm, hcs, htk⟩
  · obtain rfl : xs = [] := List.eq_nil_of_length_eq_zero hn0
    exact ⟨none, 0, rfl, SAt.nil _ _, by simp, by omega⟩
  · refine ⟨_, cap, rfl, ⟨rfl, fun _ => ⟨q, 0, rfl, fun j hj => ?_⟩⟩, hnc, hcm⟩
    rw [Nat.zero_add, h.cellAt j (by omega), List.getElem?_map, List.getElem?_eq_getElem hj]
    rfl
theorem Has.txt {w V : World} {T : List As} {v : Value} {xs : List ByteArray} (h : Has w (txA v xs :: T) V) : ∃ A c, v = .slice A xs.length c ∧ SAt V A xs.length xs ∧ xs.length ≤ c ∧ c ≤ 9223372036854775807 := by
  obtain ⟨F, h1, _⟩ := h.get
  exact rowS h1.1
theorem SAt.lit {w : World} {b : Nat} {xs : List ByteArray} {t : TypeId} {f : Nat × Nat} (h : w.heap[b]? = some (.cells (xs.map Value.string).toArray t f)) : SAt w (some ⟨b, 0, none⟩) xs.length xs :=
  ⟨rfl, fun _ => ⟨b, 0, rfl, fun i hi => by rw [Nat.zero_add, cell_of_row w b i _ t f h]; simp [hi]⟩⟩
theorem drop_cons_eq {xs ys : List ByteArray} {k : Nat} (h1 : k < xs.length) (h2 : k < ys.length) : decide (xs.drop k = ys.drop k) = (decide ((xs[k]'h1) = (ys[k]'h2)) && decide (xs.drop (k + 1) = ys.drop (k + 1))) := by
  simp only [List.drop_eq_getElem_cons h1, List.drop_eq_getElem_cons h2, List.cons.injEq, Bool.decide_and]
set_option maxRecDepth 100000 in
set_option maxHeartbeats 4000000 in
theorem same9 (A1 A2 : Option Addr) (n1 n2 c1 c2 : Nat) (xs ys : List ByteArray) (w : World) (hx : SAt w A1 n1 xs) (hy : SAt w A2 n2 ys) (hn1 : n1 ≤ 9223372036854775807) (hn2 : n2 ≤ 9223372036854775807) :
    Calls Try.prog 25 #[.slice A1 n1 c1, .slice A2 n2 c2] w fun e w' => e = .returned (.bool (decide (xs = ys))) ∧ Below w.heap.size w w' := by
  have HX := Lib.hid hx
  have HY := Lib.hid hy
  have l1 := hx.1
  have l2 := hy.1
  by_cases hl : n1 = n2
  · subst hl
    have HL1 := Lib.hid l1
    have HL2 := Lib.hid l2
    obtain ⟨r, hr⟩ : ∃ r, decide (xs = ys) = r := ⟨_, rfl⟩
    rw [hr]
    have HE := Lib.hid (show decide (xs.drop 0 = ys.drop 0) = r from by rw [List.drop_zero, List.drop_zero]; exact hr)
    clear hx hy l1 l2 hr
    go_enter Try.func25, Try.ntmps25
    go_wp2_with fail
    go_loopw [5] (fun i wr => ∃ k : Nat, k ≤ n1 ∧ i = .int .i64 k ∧ Hid (decide (xs.drop k = ys.drop k) = r) ∧ Hid (∃ m, wr = w.drewN m)) (fun i _ => n1 - (intOf i).toNat)
    case atStart => exact ⟨0, Nat.zero_le _, rfl, HE, Lib.hid ⟨0, rfl⟩⟩
    case round =>
      obtain ⟨k, hk, rfl, HR, HW⟩ := hrel
      obtain ⟨m, hm⟩ := HW.out
      by_cases hlt : k < n1
      · have k1 : k < xs.length := by rw [HL1.out]; exact hlt
        have k2 : k < ys.length := by rw [HL2.out]; exact hlt
        obtain ⟨bx, ox, rfl, hcx⟩ := HX.out.2 (by omega)
        obtain ⟨by_, oy, rfl, hcy⟩ := HY.out.2 (by omega)
        have cx : wr.cell? ⟨bx, ox + k, none⟩ = some (.string (xs[k]'k1)) := by rw [hm]; exact hcx k k1
        have cy : wr.cell? ⟨by_, oy + k, none⟩ = some (.string (ys[k]'k2)) := by rw [hm]; exact hcy k k2
        have hd := drop_cons_eq k1 k2
        rw [HR.out] at hd
        have HM := Lib.hid hm
        have i1 : (0 : Int) ≤ (k : Int) := by omega
        have i2 : (k : Int) < (n1 : Int) := by omega
        clear hcx hcy hm HR
        generalize (xs[k]'k1) = x at *
        generalize (ys[k]'k2) = y at *
        clear k1 k2
        by_cases hxy : x = y
        · subst hxy
          rw [decide_eq_true rfl, Bool.true_and] at hd
          have HD := Lib.hid hd
          have ne0 : (!(x.toList == x.toList)) = false := by simp
          clear hd
          go_wp2_with fail
          go_quiet (fail)
          go_wp2_with fail
          go_roundw
          case rel => exact ⟨k + 1, by omega, by go_num, Lib.hid HD.out.symm, Lib.hid (by rw [HM.out]; exact ⟨_, World.drewN_drewN _ _ _⟩)⟩
          case measure => simp [intOf]; omega
        · rw [decide_eq_false hxy, Bool.false_and] at hd
          have HD := Lib.hid hd
          have ne0 : (x.toList == y.toList) = false := by rw [kbeq]; exact decide_eq_false hxy
          clear hd
          go_wp2_with fail
          go_quiet (fail)
          go_wp2_with fail
          go_ret
          exact ⟨by rw [HD.out]; rfl, by rw [HM.out]; exact ⟨rfl, rfl, rfl, Nat.le_refl _, fun _ _ => rfl⟩⟩
      · obtain rfl : k = n1 := by omega
        have hr := HR.out
        rw [List.drop_of_length_le (by rw [HL1.out]; omega), List.drop_of_length_le (by rw [HL2.out]; omega)] at hr
        have HD := Lib.hid hr
        have HM := Lib.hid hm
        clear hr hm
        go_wp2_with fail
        go_ret
        exact ⟨by rw [← HD.out]; rfl, by rw [HM.out]; exact ⟨rfl, rfl, rfl, Nat.le_refl _, fun _ _ => rfl⟩⟩
  · have hne : decide (xs = ys) = false := decide_eq_false (fun e => hl (by rw [← l1, ← l2, e]))
    rw [hne]
    have e0 : ((n1 : Int) == (n2 : Int)) = false := by simp; omega
    clear hx hy l1 l2 hne
    go_enter Try.func25, Try.ntmps25
    go_wp2_with fail
    go_ret
    exact ⟨rfl, Below.refl _ _⟩
end Go.Proofs.Ytcpbcoeccplliaa
