/-
  OrdOrder: the walk.
-/
import Derived.Test.YtcphhambckohbaaDoorOMore
set_option linter.unusedVariables false
namespace Go.Proofs.YtcphhambckohbaaDoor
open Go.RowKit

theorem cmp_ (a b : ByteArray) (c : Int) (w : World) (h : Lib.compareBytes (sb a) (sb b) = c) :
    Calls Tryd.prog 25 #[.string a, .string b] w fun e w' => e = .returned (.int .i64 c) ∧ w = w' :=
  (Tryd.strings_Compare a b w).mono fun e w' ⟨he, hw⟩ => ⟨by rw [he, ← h]; rfl, hw.symm⟩

set_option maxHeartbeats 4000000 in
theorem ordOrder_walk (s t : ByteArray) (w : World) (hs : s.size ≤ 140737488351232) (ht : t.size ≤ 140737488351232) (hm : MaxL w) :
    Calls Tryd.prog 7 #[.string s, .string t] w fun e w' => e = .returned (.bool true) ∧ Below w.heap.size w w' := by
  go_enter Tryd.func7, Tryd.ntmps7
  go_wp2_with fail
  refine (works _ hm).mono ?_
  rintro e w1 ⟨rfl, hb1⟩
  go_wp2_with fail
  have q1 : (0 : Int) ≤ min (s.size : Int) 1000 := by omega
  have q2 : min (s.size : Int) 1000 ≤ (s.size : Int) := by omega
  have q3 : (0 : Int) ≤ min (t.size : Int) 1000 := by omega
  have q4 : min (t.size : Int) 1000 ≤ (t.size : Int) := by omega
  go_quiet (fail)
  have hb1' := below_drewN hb1 nq
  have hm1 := hm.below hb1'
  have hu := cut1000 s
  have hv := cut1000 t
  generalize s.extract 0 (min (s.size : Int) 1000).toNat = u at hu ⊢
  generalize t.extract 0 (min (t.size : Int) 1000).toNat = v at hv ⊢
  generalize w1.drewN nq = w1 at hb1' hm1 ⊢
  have c1 := fun V hV => key u V hu hV
  have c2 := fun V hV => key v V hv hV
  have c3 := fun V => cmp_ u v _ V rfl
  have c4 := fun V => cmp_ ⟨(okey (sb u)).toArray⟩ ⟨(okey (sb v)).toArray⟩ (Lib.compareBytes (sb u) (sb v)) V (cmp_okey' (sb u) (sb v))
  have c5 := fun V => hasPre ⟨(okey (sb u)).toArray⟩ ⟨(okey (sb v)).toArray⟩ (decide (sb u = sb v)) V (hasPrefix_okey (sb u) (sb v))
  have he : (u.toList == v.toList) = decide (sb u = sb v) := by
    rw [Lib.toList_data, Lib.toList_data]
    show (sb u == sb v) = _
    by_cases h : sb u = sb v
    · rw [h]; simp
    · rw [decide_eq_false h]; exact beq_eq_false_iff_ne.2 h
  generalize Lib.compareBytes (sb u) (sb v) = k at c3 c4
  generalize decide (sb u = sb v) = b at c5 he
  generalize (⟨(okey (sb u)).toArray⟩ : ByteArray) = P at c1 c4 c5
  generalize (⟨(okey (sb v)).toArray⟩ : ByteArray) = Q at c2 c4 c5
  have C1 := Lib.hid c1
  have C2 := Lib.hid c2
  have C3 := Lib.hid c3
  have C4 := Lib.hid c4
  have C5 := Lib.hid c5
  clear c1 c2 c3 c4 c5 q1 q2 q3 q4 hb1
  go_wp2_with fail
  refine (C1.out _ hm1).mono ?_
  rintro e w2 ⟨rfl, hb2⟩
  have hw2 := hb1'.trans (hb2.mono hb1'.size)
  have hm2 := hm.below hw2
  clear hb1' hb2 hm1
  go_wp2_with fail
  refine (C2.out _ hm2).mono ?_
  rintro e w3 ⟨rfl, hb3⟩
  have hw3 := hw2.trans (hb3.mono hw2.size)
  clear hw2 hb3 hm2
  go_wp2_with fail
  refine (C4.out _).mono ?_
  rintro e w4 ⟨rfl, rfl⟩
  go_wp2_with fail
  refine (C3.out _).mono ?_
  rintro e w5 ⟨rfl, rfl⟩
  go_wp2_with fail
  refine (C5.out _).mono ?_
  rintro e w6 ⟨rfl, rfl⟩
  cases b
  · go_wp2
    go_ret
    exact ⟨rfl, hw3⟩
  · go_wp2
    go_ret
    exact ⟨rfl, hw3⟩
end Go.Proofs.YtcphhambckohbaaDoor
