/-
  FrameAgain: the walk, over what the code's functions promise.
-/
import Derived.Test.YthbegaknlhclpaaFWorks
set_option linter.unusedVariables false
namespace Go.Proofs.Ythbegaknlhclpaa
open Go.RowKit

set_option maxHeartbeats 1000000 in
theorem frameAgain_w (hF : FrameOk) (hN : NextOk) (A : Option Addr) (n c : Nat) (xs : List UInt8) (w : World) (hx : At w A n xs) (hnc : n ≤ c) (hk : c ≤ 140737488351232) (hz : A = none → c = 0) :
    Calls Try.prog 9 #[.slice A n c] w fun e w' => e = .returned (.bool true) ∧ Below w.heap.size w w' := by
  obtain ⟨p, size, e, hn⟩ : ∃ p size e, nx xs = (p, size, e) := ⟨_, _, _, rfl⟩
  have HN := Lib.hid (fun W h => hN A n c xs p size e W h hnc (by omega) (by omega) hn)
  have HW := Lib.hid (works hF hN)
  have hxl := hx.1
  go_enter Try.func9, Try.ntmps9
  go_wp2_with fail
  refine (HW.out _).mono ?_
  rintro e1 w1 ⟨rfl, hb1⟩
  have hx1 := hx.below' hb1
  by_cases he : e = 0
  · subst he
    obtain ⟨hp, hsize, r, hxs⟩ := nx_ok hn
    have hs := nx_size hn
    have hfl := fr_len p
    have hel := enc_len p.length (by omega)
    have he1 : 1 ≤ (enc p.length).length := by unfold enc; simp
    have htake : xs.take size = fr p := by rw [hxs, hsize, List.take_left]
    have hs5 : 5 ≤ size := by omega
    have hsn : size ≤ n := by omega
    have hcut := hx1.cut (l := 0) (k := size) (m := c) (by omega) (by omega) (by omega)
    simp only [cutA_zero, Nat.sub_zero, List.drop_zero] at hcut
    rw [htake] at hcut
    have k1 : ∀ W : World, (Instr.slice 22 (.slice A n c) none (some (.int .i64 (size : Int))) none).run Try.prog W = .ok (.slice A size c) W := fun W => by
      simpa using slb_h A n c .i64 size W (by omega) (by omega)
    have HFp := Lib.hid (fun A c W h h1 h2 => hF A p.length c p W h h1 h2 (by omega))
    have HSZ := Lib.hid hsize
    clear hn hxs htake hfl hel hsize hs he1 hF hN HW
    go_wp2_with fail
    refine (HN.out _ hx1).mono ?_
    rintro e2 w2 ⟨v2, rfl, hown2, hb2⟩
    have hB2 := hb1.trans (hb2.mono hb1.size)
    have hc2 := hcut.below' hb2
    obtain ⟨A2, c2, rfl, hA2, h21, h22, _⟩ := hown2.form
    clear hown2 hb1 hb2 hx1 hcut
    go_wp2_with fail
    refine (HFp.out A2 c2 _ hA2 h21 h22).mono ?_
    rintro e3 w3 ⟨v3, rfl, hown3, hb3⟩
    rw [if_neg (by omega)] at hown3 ⊢
    obtain ⟨A3, c3, rfl, hA3, h31, h32, _⟩ := hown3.form
    have hB3 := hB2.trans (hb3.mono hB2.size)
    have hc3 := hc2.below' hb3
    have hq : (fr p == fr p) = true := beq_self_eq_true _
    rw [← HSZ.out] at hA3 h31 ⊢
    generalize fr p = q at hA3 hc3 hq
    clear hown3 hb3 hB2 hc2
    go_wp2_with fail
    refine (eqBytes A3 A size size c3 c q q _ hA3 hc3 (by omega)).mono ?_
    rintro e4 w4 ⟨rfl, j, rfl⟩
    rw [hq]
    go_wp2
    go_ret
    exact ⟨rfl, below_drewN hB3 j⟩
  · obtain ⟨rfl, rfl⟩ := nx_err hn he
    have hne : ((e : Int) != 0) = true := by simp; omega
    clear hF hN HW
    go_wp2_with fail
    refine (HN.out _ hx1).mono ?_
    rintro e2 w2 ⟨v2, rfl, hown2, hb2⟩
    have hB2 := hb1.trans (hb2.mono hb1.size)
    obtain ⟨A2, c2, hv2, _, _, _, _⟩ := hown2.form
    replace hv2 : v2 = .slice A2 0 c2 := hv2
    subst hv2
    go_wp2
    go_ret
    exact ⟨rfl, hB2⟩
end Go.Proofs.Ythbegaknlhclpaa
