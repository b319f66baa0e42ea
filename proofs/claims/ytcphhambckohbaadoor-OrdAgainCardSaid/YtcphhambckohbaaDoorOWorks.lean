/-
  Layer 2: the statements' helpers: stamp, key, works.
-/
import Derived.Test.YtcphhambckohbaaDoorORefTakeDown
import Derived.Test.YtcphhambckohbaaDoorBring
set_option linter.unusedVariables false
namespace Go.Proofs.YtcphhambckohbaaDoor
open Go.RowKit

/-- What key answers. -/
def keyS (s : ByteArray) : ByteArray := if s.size ≤ 1000 then ⟨(okey (sb s)).toArray⟩ else ⟨#[63]⟩

theorem lawKey (s : ByteArray) (w : World) (hm : MaxL w) :
    Calls Tryd.prog 24 #[.string s] w fun e w' => e = .returned (.string (keyS s)) ∧ Below w.heap.size w w' := by
  by_cases h : s.size ≤ 1000
  · have hk := Lib.hid (show keyS s = ⟨(okey (sb s)).toArray⟩ by unfold keyS; rw [if_pos h])
    go_enter Tryd.func24, Tryd.ntmps24
    go_wp2_with fail
    refine (key s _ h hm).mono ?_
    rintro e w1 ⟨rfl, hb⟩
    go_wp2
    go_ret
    exact ⟨by rw [hk.out]; rfl, hb⟩
  · have hk := Lib.hid (show keyS s = ⟨#[63]⟩ by unfold keyS; rw [if_neg h])
    go_enter Tryd.func24, Tryd.ntmps24
    go_wp2_with fail
    refine (key_no s _ (by omega)).mono ?_
    rintro e w1 ⟨rfl, rfl⟩
    go_wp2
    go_ret
    exact ⟨by rw [hk.out]; rfl, Below.refl _ _⟩

set_option maxHeartbeats 2000000 in
theorem lawStamp (a b : Int) (w : World) :
    Calls Tryd.prog 23 #[.agg #[.int .i64 a, .int .i64 b]] w fun e w' => e = .returned (.agg #[.int .i64 (a % 1099511627777), .int .i64 (b % 1048576)]) ∧ Below w.heap.size w w' := by
  go_enter Tryd.func23, Tryd.ntmps23
  go_wp2_with fail
  go_region_held3 (fun w' => w'.cell? ⟨w.heap.size, 0, none⟩ = some (.int .i64 a) ∧ w'.cell? ⟨w.heap.size, 1, none⟩ = some (.int .i64 b)) (first | assumption | go_keep)
    (first
      | (go_at_call_of 27 (Value.int .i64 1099511627777); refine (bring a 1099511627777 _ (by decide) (by decide)).mono ?_; rintro e w2 ⟨rfl, rfl⟩)
      | (go_at_call_of 27 (Value.int .i64 1048576); refine (bring b 1048576 _ (by decide) (by decide)).mono ?_; rintro e w2 ⟨rfl, rfl⟩))
  all_goals go_wp2
  all_goals go_returns
  all_goals exact ⟨rfl, (((Below.refl _ _).alloc (Nat.le_refl _) _).alloc (by simp) _).drew⟩

theorem ex_take : TkAns (tkey 1000 (sb ⟨#[97, 0, 0, 5]⟩)) = .returned (.tuple #[.string ⟨#[97]⟩, .string ⟨#[5]⟩, .int .i64 0]) := by kernel_rfl
theorem ex_down : odown 1099511627775 0 = [0, 0, 0, 0, 0, 1, 15, 255, 255] := by decide +kernel
theorem ex_key0 : keyS ⟨#[97]⟩ = ⟨#[97, 0, 0]⟩ := by kernel_rfl
theorem ex_key1 : keyS ⟨#[]⟩ = ⟨#[0, 0]⟩ := by kernel_rfl
theorem ex_key2 : keyS ⟨#[0, 1]⟩ = ⟨#[0, 1, 1, 0, 0]⟩ := by kernel_rfl
theorem eq_self (s : ByteArray) : (s.toList == s.toList) = true := by simp

set_option maxHeartbeats 4000000 in
theorem works (w : World) (hm : MaxL w) :
    Calls Tryd.prog 18 #[] w fun e w' => e = .returned (.bool true) ∧ Below w.heap.size w w' := by
  have hmay : may 1099511627775 0 = true := by decide
  have HD := Lib.hid ex_down
  go_enter Tryd.func18, Tryd.ntmps18
  go_wp2_with fail
  refine (take ⟨#[97, 0, 0, 5]⟩ _ (by decide)).mono ?_
  rintro e w1 ⟨he, hb1⟩
  rw [ex_take] at he
  subst he
  go_wp2_with fail
  refine (down 1099511627775 0 _ hmay).mono ?_
  rintro e w2 ⟨he, hb2⟩
  rw [HD.out] at he
  subst he
  have hB2 := hb1.trans (hb2.mono hb1.size)
  have hm2 := hm.below hB2
  clear hb1 hb2
  go_wp2_with fail
  refine (lawKey ⟨#[97]⟩ _ hm2).mono ?_
  rintro e w3 ⟨he, hb3⟩
  rw [ex_key0] at he
  subst he
  have hB3 := hB2.trans (hb3.mono hB2.size)
  have hm3 := hm.below hB3
  clear hb3 hB2 hm2
  go_wp2_with fail
  refine (lawKey ⟨#[]⟩ _ hm3).mono ?_
  rintro e w4 ⟨he, hb4⟩
  rw [ex_key1] at he
  subst he
  have hB4 := hB3.trans (hb4.mono hB3.size)
  have hm4 := hm.below hB4
  clear hb4 hB3 hm3
  go_wp2_with fail
  refine (lawKey ⟨#[0, 1]⟩ _ hm4).mono ?_
  rintro e w5 ⟨he, hb5⟩
  rw [ex_key2] at he
  subst he
  have hB5 := hB4.trans (hb5.mono hB4.size)
  clear hb5 hB4 hm4
  go_wp2
  go_ret
  exact ⟨rfl, hB5⟩

end Go.Proofs.YtcphhambckohbaaDoor
