/-
  Layer 9: a list that is none: nil, or one that New did not make.
-/
import Derived.Test.YtcpbcoeccplliaaSkHas
set_option linter.unusedVariables false
namespace Go.Proofs.Ytcpbcoeccplliaa
open Go.RowKit

/-- A list that is none. -/
def NoS (p : Option Addr) (V : World) : Prop := p = none ∨ ∃ q, p = some ⟨q, 0, none⟩ ∧ Blk V q 57 #[.pointer none, .int .i64 0]
theorem NoS.below {p : Option Addr} {V V' : World} (h : NoS p V) (hb : Below V.heap.size V V') : NoS p V' := by
  rcases h with h | ⟨q, h, hq⟩
  · exact .inl h
  · exact .inr ⟨q, h, hq.below hb hq.lt⟩
set_option maxRecDepth 100000 in
theorem no_isNone {p : Option Addr} {w : World} (h : NoS p w) :
    Calls Try.prog 43 #[.pointer p] w fun e w' => e = .returned (.bool true) ∧ w' = w := by
  rcases h with rfl | ⟨q, rfl, hq⟩
  · go_enter Try.func43, Try.ntmps43
    go_wp2_with fail
    go_ret
    exact ⟨rfl, rfl⟩
  · have k0 : w.cell? ⟨q, 0, none⟩ = some (.pointer none) := hq.cell 0
    clear hq
    go_enter Try.func43, Try.ntmps43
    go_wp2_with fail
    go_ret
    exact ⟨rfl, rfl⟩
section
variable {p : Option Addr} {w : World} (h : NoS p w)
include h
set_option maxRecDepth 100000 in
set_option maxHeartbeats 2000000 in
theorem no_find (key : ByteArray) :
    Calls Try.prog 44 #[.pointer p, .string key] w fun e w' => e = .returned (.tuple #[.pointer none, .agg (waysC fun _ => .pointer none)]) ∧ Below w.heap.size w w' := by
  have hb1 := nbl w (.cells zeroW 59)
  have NO := Lib.hid (no_isNone (h.below hb1))
  have HZ := Lib.hid (Blk.new w 59 zeroW)
  have HB := Lib.hid hb1
  clear h hb1
  go_enter Try.func44, Try.ntmps44
  go_wp2_with (first
    | (go_at_call 43; refine NO.out.mono ?_; rintro e w2 ⟨rfl, rfl⟩))
  generalize w.alloc (.cells zeroW 59) = X at *
  have HZ3 := Lib.hid (show Blk X w.heap.size 59 (waysC fun _ => .pointer none) from HZ.out)
  obtain ⟨c0, c1, c2, c3, c4, c5, c6, c7, c8, c9, c10, c11, c12, c13, c14, c15⟩ := HZ3.out.c16
  clear NO HZ
  go_still_tail 2, (by kernel_rfl)
  change wpList _ _ _ _ _ X.drew
  have HZ4 := Lib.hid (show Blk X.drew w.heap.size 59 (waysC fun _ => .pointer none) from HZ3.out)
  have HB4 := Lib.hid (show Below w.heap.size w X.drew from HB.out.drew)
  generalize X.drew = Y at *
  clear c0 c1 c2 c3 c4 c5 c6 c7 c8 c9 c10 c11 c12 c13 c14 c15
  go_wp2_with (refine wpList_store_row rfl 59 _ _ rfl w.heap.size (waysC (fun _ => .pointer none)) rfl rfl 59 _ HZ4.out (by kernel_rfl) rfl (waysC_all (fun _ _ => rfl)) ?_)
  exact ret_find (v := .pointer none) rfl rfl rfl (HZ4.out.row _) rfl ⟨rfl, brow HB4.out (Nat.le_refl _) _⟩
set_option maxRecDepth 100000 in
set_option maxHeartbeats 1000000 in
theorem no_put (key : ByteArray) (vn s : Int) :
    Calls Try.prog 30 #[.pointer p, .string key, .int .i64 vn, .int .i64 s] w fun e w' => e = .returned (.bool false) ∧ Below w.heap.size w w' := by
  have NO := Lib.hid (fun V (hb : Below w.heap.size w V) => no_isNone (h.below hb))
  clear h
  go_enter Try.func30, Try.ntmps30
  go_wp2_with (first
    | (go_at_call 43; refine (NO.out _ (by first | exact Below.refl _ _ | exact nbl _ _)).mono ?_; rintro e w2 ⟨rfl, hw2⟩; subst hw2))
  go_ret
  exact ⟨rfl, by first | exact Below.refl _ _ | exact nbl _ _⟩
set_option maxRecDepth 100000 in
set_option maxHeartbeats 1000000 in
theorem no_drop (key : ByteArray) :
    Calls Try.prog 31 #[.pointer p, .string key] w fun e w' => e = .returned (.bool false) ∧ Below w.heap.size w w' := by
  have FI := Lib.hid (no_find h key)
  clear h
  go_enter Try.func31, Try.ntmps31
  go_wp2_with (first
    | (go_at_call 44; refine FI.out.mono ?_; rintro e w2 ⟨rfl, hb⟩; have HB2 := Lib.hid (brow (bst hb (nbl w2 (.cells zeroW 59))) hb.size (waysC fun _ => .pointer none)))
    | (refine wpList_store_row rfl 59 _ _ rfl w2.heap.size (waysC fun _ => .pointer none) rfl rfl 59 zeroW (Blk.new w2 59 zeroW) (by kernel_rfl) rfl (waysC_all (fun _ _ => rfl)) ?_))
  go_ret
  exact ⟨rfl, HB2.out⟩
set_option maxRecDepth 100000 in
set_option maxHeartbeats 1000000 in
theorem no_get (key : ByteArray) :
    Calls Try.prog 16 #[.pointer p, .string key] w fun e w' => e = .returned (.tuple #[.int .i64 0, .bool false]) ∧ Below w.heap.size w w' := by
  have FI := Lib.hid (no_find h key)
  clear h
  go_enter Try.func16, Try.ntmps16
  go_wp2_with (first
    | (go_at_call 44; refine FI.out.mono ?_; rintro e w2 ⟨rfl, hb⟩; have HB2 := Lib.hid (brow (bst hb (nbl w2 (.cells zeroW 59))) hb.size (waysC fun _ => .pointer none)))
    | (refine wpList_store_row rfl 59 _ _ rfl w2.heap.size (waysC fun _ => .pointer none) rfl rfl 59 zeroW (Blk.new w2 59 zeroW) (by kernel_rfl) rfl (waysC_all (fun _ _ => rfl)) ?_))
  go_ret2
  exact ⟨rfl, HB2.out⟩
set_option maxRecDepth 100000 in
set_option maxHeartbeats 1000000 in
theorem no_steps (key : ByteArray) :
    Calls Try.prog 22 #[.pointer p, .string key] w fun e w' => e = .returned (.int .i64 0) ∧ Below w.heap.size w w' := by
  have FI := Lib.hid (no_find h key)
  clear h
  go_enter Try.func22, Try.ntmps22
  go_wp2_with (first
    | (go_at_call 44; refine FI.out.mono ?_; rintro e w2 ⟨rfl, hb⟩; have HB2 := Lib.hid (brow (bst hb (nbl w2 (.cells zeroW 59))) hb.size (waysC fun _ => .pointer none)))
    | (refine wpList_store_row rfl 59 _ _ rfl w2.heap.size (waysC fun _ => .pointer none) rfl rfl 59 zeroW (Blk.new w2 59 zeroW) (by kernel_rfl) rfl (waysC_all (fun _ _ => rfl)) ?_))
  go_ret
  exact ⟨rfl, HB2.out⟩
set_option maxRecDepth 100000 in
set_option maxHeartbeats 1000000 in
theorem no_first (key : ByteArray) :
    Calls Try.prog 18 #[.pointer p, .string key] w fun e w' => e = .returned (.tuple #[.string ⟨#[]⟩, .bool false]) ∧ Below w.heap.size w w' := by
  have NO := Lib.hid (fun V (hb : Below w.heap.size w V) => no_isNone (h.below hb))
  clear h
  go_enter Try.func18, Try.ntmps18
  go_wp2_with (first
    | (go_at_call 43; refine (NO.out _ (by first | exact Below.refl _ _ | exact nbl _ _)).mono ?_; rintro e w2 ⟨rfl, hw2⟩; subst hw2))
  go_ret2
  exact ⟨rfl, by first | exact Below.refl _ _ | exact nbl _ _⟩
set_option maxRecDepth 100000 in
set_option maxHeartbeats 1000000 in
theorem no_last (key : ByteArray) :
    Calls Try.prog 20 #[.pointer p, .string key] w fun e w' => e = .returned (.tuple #[.string ⟨#[]⟩, .bool false]) ∧ Below w.heap.size w w' := by
  have NO := Lib.hid (fun V (hb : Below w.heap.size w V) => no_isNone (h.below hb))
  clear h
  go_enter Try.func20, Try.ntmps20
  go_wp2_with (first
    | (go_at_call 43; refine (NO.out _ (by first | exact Below.refl _ _ | exact nbl _ _)).mono ?_; rintro e w2 ⟨rfl, hw2⟩; subst hw2))
  go_ret2
  exact ⟨rfl, by first | exact Below.refl _ _ | exact nbl _ _⟩
set_option maxRecDepth 100000 in
set_option maxHeartbeats 1000000 in
theorem no_len :
    Calls Try.prog 14 #[.pointer p] w fun e w' => e = .returned (.int .i64 0) ∧ Below w.heap.size w w' := by
  have NO := Lib.hid (fun V (hb : Below w.heap.size w V) => no_isNone (h.below hb))
  clear h
  go_enter Try.func14, Try.ntmps14
  go_wp2_with (first
    | (go_at_call 43; refine (NO.out _ (by first | exact Below.refl _ _ | exact nbl _ _)).mono ?_; rintro e w2 ⟨rfl, hw2⟩; subst hw2))
  go_ret
  exact ⟨rfl, by first | exact Below.refl _ _ | exact nbl _ _⟩
set_option maxRecDepth 100000 in
set_option maxHeartbeats 1000000 in
theorem no_step (n : Int) :
    Calls Try.prog 24 #[.pointer p, .int .i64 n] w fun e w' => e = .returned (.slice none 0 0) ∧ Below w.heap.size w w' := by
  have NO := Lib.hid (fun V (hb : Below w.heap.size w V) => no_isNone (h.below hb))
  clear h
  go_enter Try.func24, Try.ntmps24
  go_wp2_with (first
    | (go_at_call 43; refine (NO.out _ (by first | exact Below.refl _ _ | exact nbl _ _)).mono ?_; rintro e w2 ⟨rfl, hw2⟩; subst hw2))
  go_ret
  exact ⟨rfl, by first | exact Below.refl _ _ | exact nbl _ _⟩
end
end Go.Proofs.Ytcpbcoeccplliaa
