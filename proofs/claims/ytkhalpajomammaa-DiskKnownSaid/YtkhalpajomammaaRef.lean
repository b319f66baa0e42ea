/-
  The helpers of the statements: EqBytes, CopyBytes, Bring.
-/
import Derived.Test.YtkhalpajomammaaOwn
import Derived.Test.YtkhalpajomammaaBring
set_option linter.unusedVariables false
namespace Go.Proofs.Ytkhalpajomammaa
open Go.RowKit

theorem beq_of_take {xs ys : List UInt8} (hl : xs.length = ys.length) (h : xs.take xs.length = ys.take xs.length) : (xs == ys) = true := by
  rw [List.take_length, hl, List.take_length] at h
  simp [h]
theorem take_succ_eq {xs ys : List UInt8} {k : Nat} (h : xs.take k = ys.take k) (hx : k < xs.length) (hy : k < ys.length) (he : xs[k] = ys[k]) : xs.take (k + 1) = ys.take (k + 1) := by
  rw [List.take_succ_eq_append_getElem hx, List.take_succ_eq_append_getElem hy, h, he]
theorem beq_ne {xs ys : List UInt8} {k : Nat} (hx : k < xs.length) (hy : k < ys.length) (he : xs[k] ≠ ys[k]) : (xs == ys) = false := by
  apply beq_eq_false_iff_ne.2
  rintro rfl
  exact he rfl

set_option maxHeartbeats 400000 in
theorem eqBytes (A B : Option Addr) (n m c d : Nat) (xs ys : List UInt8) (w : World) (hx : At w A n xs) (hy : At w B m ys) (hn : n ≤ 9223372036854775807) :
    Calls Try.prog 16 #[.slice A n c, .slice B m d] w fun e w' => e = .returned (.bool (xs == ys)) ∧ ∃ k, w' = w.drewN k := by
  by_cases hnm : n = m
  · subst hnm
    have hxl := Lib.hid hx.1
    have hyl := Lib.hid hy.1
    go_enter Try.func16, Try.ntmps16
    go_wp2
    go_loopw [5] (fun i wr => ∃ k : Nat, k ≤ n ∧ i = .int .i64 k ∧ Hid (xs.take k = ys.take k) ∧ ∃ j, wr = w.drewN j) (fun i _ => n - (intOf i).toNat)
    case atStart => exact ⟨0, Nat.zero_le _, rfl, rfl, 0, rfl⟩
    case round =>
      obtain ⟨k, hk, rfl, heq, j, rfl⟩ := hrel
      by_cases hlt : k < n
      · obtain ⟨b, o, rfl, hc⟩ := hx.at_ (by omega)
        obtain ⟨b', o', rfl, hc'⟩ := hy.at_ (by omega)
        have hxk : k < xs.length := by rw [hxl.out]; exact hlt
        have hyk : k < ys.length := by rw [hyl.out]; exact hlt
        have h1 := hc k hxk
        have h2 := hc' k hyk
        obtain ⟨u, hu⟩ : ∃ u, u = xs[k] := ⟨_, rfl⟩
        obtain ⟨v, hv⟩ : ∃ u, u = ys[k] := ⟨_, rfl⟩
        rw [← hu] at h1
        rw [← hv] at h2
        have HU := Lib.hid hu
        have HV := Lib.hid hv
        clear hc hc' hu hv
        by_cases he : u = v
        · subst he
          have heq' := Lib.hid (take_succ_eq heq.out hxk hyk (HU.out.symm.trans HV.out))
          go_wp2_with fail
          go_quiet (fail)
          go_wp2
          go_roundw
          case rel => exact ⟨k + 1, by omega, by go_num, heq'.out, _, rfl⟩
          case measure => simp [intOf]; omega
        · have hb := Lib.hid (beq_ne hxk hyk (by rw [← HU.out, ← HV.out]; exact he))
          have he' : ((u.toNat : Int) == (v.toNat : Int)) = false := by
            apply beq_eq_false_iff_ne.2
            intro h
            exact he (UInt8.toNat_inj.1 (by omega))
          clear he
          go_wp2_with fail
          go_quiet (fail)
          go_wp2
          go_ret
          exact ⟨by rw [hb.out]; rfl, _, World.drewN_drewN _ _ _⟩
      · have hkn : k = n := by omega
        have heq' := Lib.hid (beq_of_take (xs := xs) (ys := ys) (by rw [hxl.out, hyl.out]) (by rw [hxl.out, ← hkn]; exact heq.out))
        have hge : n ≤ k := by omega
        clear hkn hlt
        go_wp2
        go_ret
        exact ⟨by rw [heq'.out]; rfl, _, rfl⟩
  · have hne : ((n : Int) == (m : Int)) = false := by simp; omega
    have hf0 : (xs == ys) = false := by
      apply beq_eq_false_iff_ne.2
      rintro rfl
      exact hnm (hx.1.symm.trans hy.1)
    have hf := Lib.hid hf0
    clear hf0
    go_enter Try.func16, Try.ntmps16
    go_wp2
    go_ret
    exact ⟨by rw [hf.out]; rfl, 0, rfl⟩

set_option maxHeartbeats 400000 in
theorem copyBytes (A : Option Addr) (n c : Nat) (xs : List UInt8) (w : World) (hx : At w A n xs) (hn : n ≤ 225000000000000) :
    Calls Try.prog 11 #[.slice A n c] w fun e w' => ∃ v, e = .returned v ∧ Own w' w.heap.size v xs ∧ Below w.heap.size w w' := by
  go_enter Try.func11, Try.ntmps11
  go_wp2_with (at_builtin; refine wpList_app rfl _ _ 27 rfl w.heap.size 5 Try.underlying27 info5 (.slice none 0 0) 0 [] xs rfl ?ho A n c rfl hx ?hb (Nat.le_refl _) ?_)
  case ho => exact World.ownsRow_nil _ _ _ _
  case hb => omega
  intro v1 w1 hown hg hat
  go_wp2
  go_ret
  have hl := hx.1
  refine ⟨v1, rfl, ?_, (Below.refl _ _).grown hg (Nat.le_refl _) (by simp [Value.ownBlock])⟩
  unfold Own
  rw [hl]
  simpa using hown

end Go.Proofs.Ytkhalpajomammaa
