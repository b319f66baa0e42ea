/-
  Layer 16: the chapter's examples: works.
-/
import Derived.Test.YtdpdokgbockmbaaSpWk
set_option linter.unusedVariables false
set_option linter.unusedSimpArgs false
set_option maxRecDepth 100000
namespace Go.Proofs.Ytdpdokgbockmbaa
open Go.RowKit

theorem exOf : ofS ⟨#[97]⟩ = ⟨⟨#[97]⟩, ⟨#[97, 0]⟩⟩ := by kernel_rfl
set_option maxHeartbeats 600000 in
theorem spWorks (w : World) : Calls Try.prog 8 #[] w fun e w' => e = .returned (.bool true) ∧ Below w.heap.size w w' := by
  have OF := Lib.hid (show ∀ V, Calls Try.prog 17 #[.string ⟨#[97]⟩] V fun e w' => e = .returned (.tuple #[.agg #[.string ⟨#[97]⟩, .string ⟨#[97, 0]⟩], .int .i64 0]) ∧ Below V.heap.size V w' from fun V => by
    have h := spOf ⟨#[97]⟩ V (by decide)
    rw [exOf] at h
    exact h)
  have CK := Lib.hid (show ∀ V, Calls Try.prog 16 #[.agg #[.string ⟨#[97]⟩, .string ⟨#[97]⟩]] V fun e w' => e = .returned (.int .i64 2) ∧ Below V.heap.size V w' from fun V => by
    have h := spCheck ⟨⟨#[97]⟩, ⟨#[97]⟩⟩ V
    rw [show chkS ⟨⟨#[97]⟩, ⟨#[97]⟩⟩ = 2 from by kernel_rfl] at h
    exact h)
  have M1 := Lib.hid (show ∀ V, Calls Try.prog 18 #[.agg #[.string ⟨#[97]⟩, .string ⟨#[99]⟩], .agg #[.string ⟨#[99]⟩, .string ⟨#[100]⟩]] V fun e w' => e = .returned (.bool false) ∧ Below V.heap.size V w' from fun V => by
    have h := spMeets ⟨⟨#[97]⟩, ⟨#[99]⟩⟩ ⟨⟨#[99]⟩, ⟨#[100]⟩⟩ V
    rw [show meetS ⟨⟨#[97]⟩, ⟨#[99]⟩⟩ ⟨⟨#[99]⟩, ⟨#[100]⟩⟩ = false from by kernel_rfl] at h
    exact h)
  have M2 := Lib.hid (show ∀ V, Calls Try.prog 18 #[.agg #[.string ⟨#[97]⟩, .string ⟨#[99]⟩], .agg #[.string ⟨#[98]⟩, .string ⟨#[100]⟩]] V fun e w' => e = .returned (.bool true) ∧ Below V.heap.size V w' from fun V => by
    have h := spMeets ⟨⟨#[97]⟩, ⟨#[99]⟩⟩ ⟨⟨#[98]⟩, ⟨#[100]⟩⟩ V
    rw [show meetS ⟨⟨#[97]⟩, ⟨#[99]⟩⟩ ⟨⟨#[98]⟩, ⟨#[100]⟩⟩ = true from by kernel_rfl] at h
    exact h)
  have LA := Lib.hid (fun V g (hg : g = V.heap.size) => spList8 ⟨#[99]⟩ ⟨#[100]⟩ ⟨#[97]⟩ ⟨#[98]⟩ ⟨#[98]⟩ ⟨#[99]⟩ ⟨#[101]⟩ ⟨#[102]⟩ V g hg)
  have LB := Lib.hid (fun V g (hg : g = V.heap.size) => spList4 ⟨#[97]⟩ ⟨#[100]⟩ ⟨#[101]⟩ ⟨#[103]⟩ V g hg)
  have LC := Lib.hid (fun V g (hg : g = V.heap.size) => spList2 ⟨#[98]⟩ ⟨#[102]⟩ V g hg)
  have JO := Lib.hid (fun V E c (h : SnAt V E 4 [⟨⟨#[99]⟩, ⟨#[100]⟩⟩, ⟨⟨#[97]⟩, ⟨#[98]⟩⟩, ⟨⟨#[98]⟩, ⟨#[99]⟩⟩, ⟨⟨#[101]⟩, ⟨#[102]⟩⟩]) => spJoin (c := c) h (by omega) exm1 ex1 rfl)
  have BO := Lib.hid (fun V E c E2 c2 (h : SnAt V E 2 [⟨⟨#[97]⟩, ⟨#[100]⟩⟩, ⟨⟨#[101]⟩, ⟨#[103]⟩⟩]) (h2 : SnAt V E2 1 [⟨⟨#[98]⟩, ⟨#[102]⟩⟩]) => spBoth (c := c) (d := c2) h h2 (by omega) (by omega) exm2 exm3 ex2 rfl)
  have LE := Lib.hid (fun V E c E2 c2 (h : SnAt V E 2 [⟨⟨#[97]⟩, ⟨#[100]⟩⟩, ⟨⟨#[101]⟩, ⟨#[103]⟩⟩]) (h2 : SnAt V E2 1 [⟨⟨#[98]⟩, ⟨#[102]⟩⟩]) => spLess (c := c) (d := c2) h h2 (by omega) (by omega) exm2 exm3 ex3 rfl)
  have I1 := Lib.hid (show ∀ V E c g, g = V.heap.size → SnAt V E 2 [⟨⟨#[97]⟩, ⟨#[100]⟩⟩, ⟨⟨#[101]⟩, ⟨#[102]⟩⟩] → Calls Try.prog 22 #[.slice E 2 c, .int .i64 0, .slice (some ⟨g, 0, none⟩) 4 4] (V.alloc (.cells #[.string ⟨#[97]⟩, .string ⟨#[100]⟩, .string ⟨#[101]⟩, .string ⟨#[102]⟩] 9)) fun e w' => e = .returned (.bool true) ∧ Below V.heap.size V w' from fun V E c g hg h => by
    have h2 := spIs4 E 2 c [⟨⟨#[97]⟩, ⟨#[100]⟩⟩, ⟨⟨#[101]⟩, ⟨#[102]⟩⟩] ⟨#[97]⟩ ⟨#[100]⟩ ⟨#[101]⟩ ⟨#[102]⟩ V g hg h (by omega)
    rw [decide_eq_true rfl] at h2
    exact h2)
  have I2 := Lib.hid (show ∀ V E c g, g = V.heap.size → SnAt V E 2 [⟨⟨#[98]⟩, ⟨#[100]⟩⟩, ⟨⟨#[101]⟩, ⟨#[102]⟩⟩] → Calls Try.prog 22 #[.slice E 2 c, .int .i64 0, .slice (some ⟨g, 0, none⟩) 4 4] (V.alloc (.cells #[.string ⟨#[98]⟩, .string ⟨#[100]⟩, .string ⟨#[101]⟩, .string ⟨#[102]⟩] 9)) fun e w' => e = .returned (.bool true) ∧ Below V.heap.size V w' from fun V E c g hg h => by
    have h2 := spIs4 E 2 c [⟨⟨#[98]⟩, ⟨#[100]⟩⟩, ⟨⟨#[101]⟩, ⟨#[102]⟩⟩] ⟨#[98]⟩ ⟨#[100]⟩ ⟨#[101]⟩ ⟨#[102]⟩ V g hg h (by omega)
    rw [decide_eq_true rfl] at h2
    exact h2)
  have I3 := Lib.hid (show ∀ V E c g, g = V.heap.size → SnAt V E 2 [⟨⟨#[97]⟩, ⟨#[98]⟩⟩, ⟨⟨#[102]⟩, ⟨#[103]⟩⟩] → Calls Try.prog 22 #[.slice E 2 c, .int .i64 0, .slice (some ⟨g, 0, none⟩) 4 4] (V.alloc (.cells #[.string ⟨#[97]⟩, .string ⟨#[98]⟩, .string ⟨#[102]⟩, .string ⟨#[103]⟩] 9)) fun e w' => e = .returned (.bool true) ∧ Below V.heap.size V w' from fun V E c g hg h => by
    have h2 := spIs4 E 2 c [⟨⟨#[97]⟩, ⟨#[98]⟩⟩, ⟨⟨#[102]⟩, ⟨#[103]⟩⟩] ⟨#[97]⟩ ⟨#[98]⟩ ⟨#[102]⟩ ⟨#[103]⟩ V g hg h (by omega)
    rw [decide_eq_true rfl] at h2
    exact h2)
  have HK := Lib.hid (Kp.start w)
  go_enter Try.func8, Try.ntmps8
  go_wp2_with (first
    | (go_at_call 17; refine (OF.out _).mono ?_; rintro e w1 ⟨rfl, hb⟩; have HK := Lib.hid ((HK.out.keep hb).box (.string ⟨#[97]⟩) (.string ⟨#[97, 0]⟩) 30); clear hb)
    | (go_at_call 21; (first
        | (with_reducible refine (LA.out _ _ (by simp)).mono ?_)
        | (with_reducible refine (LB.out _ _ (by simp)).mono ?_)
        | (with_reducible refine (LC.out _ _ (by simp)).mono ?_)); rintro e w1 ⟨E, C, rfl, hs, hb⟩; have HK := Lib.hid ((HK.out.keep hb).sn hs); clear hb hs)
    | (go_at_call 10; refine (JO.out _ _ _ HK.out.now.2).mono ?_; rintro e w1 ⟨E, C, rfl, hs, -, -, hb⟩; have HK := Lib.hid ((HK.out.keep hb).sn hs); clear hb hs)
    | (go_at_call 11; refine (BO.out _ _ _ _ _ HK.out.now.1.2 HK.out.now.2).mono ?_; rintro e w1 ⟨E, C, rfl, hs, -, -, hb⟩; have HK := Lib.hid ((HK.out.keep hb).sn hs); clear hb hs)
    | (go_at_call 12; refine (LE.out _ _ _ _ _ HK.out.now.1.2 HK.out.now.2).mono ?_; rintro e w1 ⟨E, C, rfl, hs, -, -, hb⟩; have HK := Lib.hid ((HK.out.keep hb).sn hs); obtain ⟨k0, k1⟩ := HK.out.now.1.1.1.1.1.1.1.1.2; clear hb hs)
    | (go_at_call 16; refine (CK.out _).mono ?_; rintro e w1 ⟨rfl, hb⟩; have HK := Lib.hid (HK.out.keep hb); obtain ⟨k0, k1⟩ := HK.out.now.1.1.1.1.1.1.1.1.2; clear hb)
    | (go_at_call 18; (first
        | (with_reducible refine (M1.out _).mono ?_)
        | (with_reducible refine (M2.out _).mono ?_)); rintro e w1 ⟨rfl, hb⟩; have HK := Lib.hid (HK.out.keep hb); clear hb)
    | (go_at_call 22; (first
        | (with_reducible refine (I1.out _ _ _ _ (by simp) HK.out.now.1.1.1.1.1.1.2).mono ?_)
        | (with_reducible refine (I2.out _ _ _ _ (by simp) HK.out.now.1.1.1.2).mono ?_)
        | (with_reducible refine (I3.out _ _ _ _ (by simp) HK.out.now.2).mono ?_)); rintro e w1 ⟨rfl, hb⟩; have HK := Lib.hid (HK.out.keep hb); clear hb))
  go_ret
  exact ⟨rfl, HK.out.bel⟩
end Go.Proofs.Ytdpdokgbockmbaa
