/-
  StampMost: the walk, over what the code's functions promise.
-/
import Derived.Test.YtnjfabgajebfeaaSAwake
import Derived.Test.YtnjfabgajebfeaaSMaxRef
import Derived.Test.YtnjfabgajebfeaaSList
import Derived.Deep.QuietTactic
import Derived.BigQuiet
set_option linter.unusedVariables false
namespace Go.Proofs.Ytnjfabgajebfeaa
open Go.RowKit

set_option maxHeartbeats 2000000 in
theorem stampMost_w (hM : MaxOk) (hS : LessOk) (hN : NextSOk) (hP : PrevOk) (hL : LaterOk) (A : Option Addr) (n c : Nat) (l : List (Int × Int)) (w : World) (hx : Stamps w A n l) (hnc : n ≤ c) (hk : c ≤ 8796093022202) (hz : A = none → c = 0)
    (hi : ∀ x ∈ l, (-9223372036854775808 ≤ x.1 ∧ x.1 ≤ 9223372036854775807) ∧ (-9223372036854775808 ≤ x.2 ∧ x.2 ≤ 9223372036854775807)) :
    Calls Try.prog 4 #[.slice A n c] w fun e w' => e = .returned (.bool true) ∧ Below w.heap.size w w' := by
  have AW := Lib.hid (awake hS hN hP hL)
  have M1 := Lib.hid (fun A c V (h : Stamps V A n l) => hM A n c l V h (by omega))
  have M2 := Lib.hid (fun A c V (h : Stamps V A n l) => refMax5 A n c l V h (by omega))
  have HL := Lib.hid hx.1
  obtain ⟨m1, m2, hm⟩ : ∃ u v, mx l = (u, v) := ⟨_, _, rfl⟩
  rw [hm] at M1 M2
  have q1 : (m1 == m1) = true := beq_self_eq_true _
  have q2 : (m2 == m2) = true := beq_self_eq_true _
  clear hM hS hN hP hL hi hm hz
  go_enter Try.func4, Try.ntmps4
  go_wp2_with (at_builtin; refine wpList_appS rfl _ _ rfl w.heap.size (.slice none 0 0) 0 [] l rfl (World.ownsRow_nil _ _ _ _) A n c rfl hx (by omega) (Nat.le_refl _) ?_; intro v1 w1 hrow1 hg1)
  rw [List.nil_append, Nat.zero_add] at hrow1
  have hb1 : Below w.heap.size w w1 := (Below.refl _ _).grown hg1 (Nat.le_refl _) (fun j hj => by cases hj)
  obtain ⟨A1, c1, rfl, hx1, h11, h12⟩ := hrow1.form
  have hx2 := hx.below' hb1
  clear hrow1 hg1 hx
  go_wp2_with fail
  refine (M1.out _ _ _ hx1).mono ?_
  rintro e2 w2 ⟨rfl, hb2⟩
  have hx3 := hx1.below' hb2
  have hx4 := hx2.below' hb2
  have hB2 := hb1.trans (hb2.mono hb1.size)
  clear hx1 hx2 hb1 hb2
  go_wp2_with fail
  refine (M2.out _ _ _ hx4).mono ?_
  rintro e3 w3 ⟨rfl, hb3⟩
  have hx5 := hx3.below' hb3
  have hx6 := hx4.below' hb3
  have hB3 := hB2.trans (hb3.mono hB2.size)
  clear hx3 hx4 hB2 hb3
  go_wp2_with fail
  go_loopw [4] (fun i wr => ∃ k : Nat, k ≤ n ∧ i = .int .i64 k ∧ ∃ j, wr = w3.drewN j) (fun i _ => n - (intOf i).toNat)
  case atStart => exact ⟨0, Nat.zero_le _, rfl, 0, rfl⟩
  case round =>
    obtain ⟨k, hk', rfl, j, rfl⟩ := hrel
    by_cases hlt : k < n
    · obtain ⟨b, o, rfl, hc⟩ := hx5.2 (by omega)
      obtain ⟨b', o', rfl, hc'⟩ := hx6.2 (by omega)
      have hkl : k < l.length := by rw [HL.out]; exact hlt
      obtain ⟨e1, e2⟩ := hc k hkl
      obtain ⟨g1, g2⟩ := hc' k hkl
      generalize l[k] = u at e1 e2 g1 g2
      obtain ⟨u1, u2⟩ := u
      dsimp only at e1 e2 g1 g2
      have p1 : (u1 == u1) = true := beq_self_eq_true _
      have p2 : (u2 == u2) = true := beq_self_eq_true _
      clear hc hc' hx5 hx6
      go_wp2_with fail
      go_quiet (fail)
      go_wp2
      go_roundw
      case rel => exact ⟨k + 1, by omega, by go_num, _, rfl⟩
      case measure => simp [intOf]; omega
    · have hkn : n ≤ k := by omega
      go_wp2_with fail
      refine (AW.out _).mono ?_
      rintro e8 w8 ⟨rfl, hb8⟩
      have hB8 := (below_drewN hB3 j).trans (hb8.mono (below_drewN hB3 j).size)
      go_wp2
      go_ret
      exact ⟨rfl, hB8⟩
end Go.Proofs.Ytnjfabgajebfeaa
