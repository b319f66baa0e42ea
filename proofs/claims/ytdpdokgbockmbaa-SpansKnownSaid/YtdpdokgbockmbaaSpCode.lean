/-
  Layer 16, the code: Check, Has, Meets, what is wanted.
-/
import Derived.Test.YtdpdokgbockmbaaSpM
import Derived.Test.YtdpdokgbockmbaaGrow
set_option linter.unusedVariables false
set_option linter.unusedSimpArgs false
set_option maxRecDepth 100000
namespace Go.Proofs.Ytdpdokgbockmbaa
open Go.RowKit

abbrev snv (s : Sn) : Value := .agg #[.string s.f, .string s.t]
theorem spCheck (s : Sn) (w : World) : Calls Try.prog 16 #[snv s] w fun e w' => e = .returned (.int .i64 (chkS s)) ∧ Below w.heap.size w w' := by
  obtain ⟨f, t⟩ := s
  unfold chkS kl
  simp only
  have hB := Lib.hid (nbl w (.cells #[.string f, .string t] 30))
  by_cases hF : 33 < f.size
  · rw [if_pos (.inl hF)]
    have hFi : (33 : Int) < (f.size : Int) := by omega
    go_enter Try.func16, Try.ntmps16
    go_wp2
    go_ret
    exact ⟨rfl, hB.out⟩
  have hFi : ¬ (33 : Int) < (f.size : Int) := by omega
  by_cases hX : 33 < t.size
  · rw [if_pos (.inr hX)]
    have hXi : (33 : Int) < (t.size : Int) := by omega
    go_enter Try.func16, Try.ntmps16
    go_wp2
    go_ret
    exact ⟨rfl, hB.out⟩
  have hXi : ¬ (33 : Int) < (t.size : Int) := by omega
  rw [if_neg (fun h => h.elim hF hX)]
  cases hlt : Op.bytesLess f.toList t.toList with
  | false =>
    rw [if_neg (by simp)]
    go_enter Try.func16, Try.ntmps16
    go_wp2
    go_ret
    exact ⟨rfl, hB.out⟩
  | true =>
    rw [if_pos rfl]
    go_enter Try.func16, Try.ntmps16
    go_wp2
    go_ret
    exact ⟨rfl, hB.out⟩
theorem spHas (s : Sn) (k : ByteArray) (w : World) : Calls Try.prog 19 #[snv s, .string k] w fun e w' => e = .returned (.bool (hasS s k)) ∧ Below w.heap.size w w' := by
  have HC := Lib.hid (fun W => spCheck s W)
  have hv : hasS s k = (decide (chkS s = 0) && (!Op.bytesLess k.toList s.f.toList && Op.bytesLess k.toList s.t.toList)) := by
    unfold hasS ihas kl
    congr 1
  rw [hv]
  obtain ⟨f, t⟩ := s
  simp only
  have hB := Lib.hid (nbl w (.cells #[.string f, .string t] 30))
  clear hv
  generalize chkS ⟨f, t⟩ = c at *
  by_cases hc : c = 0
  · subst hc
    cases h1 : Op.bytesLess k.toList f.toList with
    | true =>
      have h2 : Op.bytesLess f.toList k.toList = false := klf (a := k) (b := f) h1
      have h3 : (f.toList == k.toList) = false := by rw [kbeq]; exact decide_eq_false (fun e => kl_ne (a := k) (b := f) h1 e.symm)
      go_enter Try.func19, Try.ntmps19
      go_wp2_with (go_at_call 16; refine (HC.out _).mono ?_; rintro e w1 ⟨rfl, hb⟩; have c0 : w1.cell? ⟨w.heap.size, 0, none⟩ = some (.string f) := (hb.cell (by simp)).trans (by simp); have c1 : w1.cell? ⟨w.heap.size, 1, none⟩ = some (.string t) := (hb.cell (by simp)).trans (by simp))
      go_ret
      exact ⟨rfl, bst hB.out hb⟩
    | false =>
      cases h2 : Op.bytesLess f.toList k.toList with
      | true =>
        cases h4 : Op.bytesLess k.toList t.toList with
        | true =>
          go_enter Try.func19, Try.ntmps19
          go_wp2_with (go_at_call 16; refine (HC.out _).mono ?_; rintro e w1 ⟨rfl, hb⟩; have c0 : w1.cell? ⟨w.heap.size, 0, none⟩ = some (.string f) := (hb.cell (by simp)).trans (by simp); have c1 : w1.cell? ⟨w.heap.size, 1, none⟩ = some (.string t) := (hb.cell (by simp)).trans (by simp))
          go_ret
          exact ⟨rfl, bst hB.out hb⟩
        | false =>
          go_enter Try.func19, Try.ntmps19
          go_wp2_with (go_at_call 16; refine (HC.out _).mono ?_; rintro e w1 ⟨rfl, hb⟩; have c0 : w1.cell? ⟨w.heap.size, 0, none⟩ = some (.string f) := (hb.cell (by simp)).trans (by simp); have c1 : w1.cell? ⟨w.heap.size, 1, none⟩ = some (.string t) := (hb.cell (by simp)).trans (by simp))
          go_ret
          exact ⟨rfl, bst hB.out hb⟩
      | false =>
        obtain rfl : f = k := kl_total h2 h1
        have h3 : (f.toList == f.toList) = true := by simp
        cases h4 : Op.bytesLess f.toList t.toList with
        | true =>
          go_enter Try.func19, Try.ntmps19
          go_wp2_with (go_at_call 16; refine (HC.out _).mono ?_; rintro e w1 ⟨rfl, hb⟩; have c0 : w1.cell? ⟨w.heap.size, 0, none⟩ = some (.string f) := (hb.cell (by simp)).trans (by simp); have c1 : w1.cell? ⟨w.heap.size, 1, none⟩ = some (.string t) := (hb.cell (by simp)).trans (by simp))
          go_ret
          exact ⟨rfl, bst hB.out hb⟩
        | false =>
          go_enter Try.func19, Try.ntmps19
          go_wp2_with (go_at_call 16; refine (HC.out _).mono ?_; rintro e w1 ⟨rfl, hb⟩; have c0 : w1.cell? ⟨w.heap.size, 0, none⟩ = some (.string f) := (hb.cell (by simp)).trans (by simp); have c1 : w1.cell? ⟨w.heap.size, 1, none⟩ = some (.string t) := (hb.cell (by simp)).trans (by simp))
          go_ret
          exact ⟨rfl, bst hB.out hb⟩
  · rw [decide_eq_false hc]
    go_enter Try.func19, Try.ntmps19
    go_wp2_with (go_at_call 16; refine (HC.out _).mono ?_; rintro e w1 ⟨rfl, hb⟩)
    go_ret
    exact ⟨rfl, bst hB.out hb⟩
def smax (x y : ByteArray) : ByteArray := if Op.bytesLess x.toList y.toList = true then y else x
theorem run_max_strs {P : Program} (w : World) (ts : Array TypeId) (t : TypeId) (x y : ByteArray) :
    (Builtin.max_ ts t #[.string x, .string y]).run P w = .ok (.string (smax x y)) w := by
  unfold smax
  cases h : Op.bytesLess x.toList y.toList <;> simp [Builtin.max_, Builtin.max2, Op.stringOp, asBool, h, go_sem]
attribute [local go_sem high] run_max_strs
def meetS (a b : Sn) : Bool := hasS a (smax a.f b.f) && hasS b (smax a.f b.f)
theorem spMeets (a b : Sn) (w : World) : Calls Try.prog 18 #[snv a, snv b] w fun e w' => e = .returned (.bool (meetS a b)) ∧ Below w.heap.size w w' := by
  have hB := Lib.hid (bsa (nbl w (.cells #[.string a.f, .string a.t] 30)) (.cells #[.string b.f, .string b.t] 30))
  unfold meetS
  obtain ⟨f, t⟩ := a
  obtain ⟨f2, t2⟩ := b
  simp only at *
  have HA := Lib.hid (show ∀ W, Calls Try.prog 19 #[.agg #[.string f, .string t], .string (smax f f2)] W fun e w' => e = .returned (.bool (hasS ⟨f, t⟩ (smax f f2))) ∧ Below W.heap.size W w' from fun W => spHas ⟨f, t⟩ (smax f f2) W)
  have HB := Lib.hid (show ∀ W, Calls Try.prog 19 #[.agg #[.string f2, .string t2], .string (smax f f2)] W fun e w' => e = .returned (.bool (hasS ⟨f2, t2⟩ (smax f f2))) ∧ Below W.heap.size W w' from fun W => spHas ⟨f2, t2⟩ (smax f f2) W)
  generalize hasS ⟨f, t⟩ (smax f f2) = x at *
  generalize hasS ⟨f2, t2⟩ (smax f f2) = y at *
  cases x with
  | false =>
    go_enter Try.func18, Try.ntmps18
    go_wp2_with (first
      | (go_at_call 19; with_reducible refine (HA.out _).mono ?_; rintro e w1 ⟨rfl, hb⟩; have hb1 := Lib.hid (bst hB.out hb); have c0 : w1.cell? ⟨w.heap.size + 1, 0, none⟩ = some (.string f2) := (hb.cell (by simp)).trans (by simp); have c1 : w1.cell? ⟨w.heap.size + 1, 1, none⟩ = some (.string t2) := (hb.cell (by simp)).trans (by simp))
      | (go_at_call 19; with_reducible refine (HB.out _).mono ?_; rintro e w2 ⟨rfl, hb2⟩; have hb1 := Lib.hid (bst hb1.out hb2)))
    go_ret
    exact ⟨rfl, hb1.out⟩
  | true =>
    go_enter Try.func18, Try.ntmps18
    go_wp2_with (first
      | (go_at_call 19; with_reducible refine (HA.out _).mono ?_; rintro e w1 ⟨rfl, hb⟩; have hb1 := Lib.hid (bst hB.out hb); have c0 : w1.cell? ⟨w.heap.size + 1, 0, none⟩ = some (.string f2) := (hb.cell (by simp)).trans (by simp); have c1 : w1.cell? ⟨w.heap.size + 1, 1, none⟩ = some (.string t2) := (hb.cell (by simp)).trans (by simp))
      | (go_at_call 19; with_reducible refine (HB.out _).mono ?_; rintro e w2 ⟨rfl, hb2⟩; have hb1 := Lib.hid (bst hb1.out hb2)))
    go_ret
    exact ⟨rfl, hb1.out⟩
/-! ### what is wanted -/
theorem spJoin1 (x y : Bool) (w : World) : Calls Try.prog 24 #[.bool x, .bool y] w fun e w' => e = .returned (.bool x) ∧ w' = w := by
  go_enter Try.func24, Try.ntmps24
  go_wp2
  go_ret
  exact ⟨rfl, rfl⟩
theorem spBoth1 (x y : Bool) (w : World) : Calls Try.prog 25 #[.bool x, .bool y] w fun e w' => e = .returned (.bool (x && y)) ∧ w' = w := by
  cases x <;> cases y <;>
  · go_enter Try.func25, Try.ntmps25
    go_wp2
    go_ret
    exact ⟨rfl, rfl⟩
theorem spLess1 (x y : Bool) (w : World) : Calls Try.prog 26 #[.bool x, .bool y] w fun e w' => e = .returned (.bool (x && !y)) ∧ w' = w := by
  cases x <;> cases y <;>
  · go_enter Try.func26, Try.ntmps26
    go_wp2
    go_ret
    exact ⟨rfl, rfl⟩
end Go.Proofs.Ytdpdokgbockmbaa
