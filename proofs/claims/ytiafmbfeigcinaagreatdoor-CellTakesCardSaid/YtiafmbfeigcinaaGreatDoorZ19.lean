/-
  Layer 11, the code: the keys of records and versions; whose a key is.
  CellKinds: the walk.
  What stands for what in order: keys with marks, by the order of bytes.
  Layer 11: the document's MayRecord.
-/
import Derived.Test.YtiafmbfeigcinaaGreatDoorZ18
import Derived.Test.YtiafmbfeigcinaaGreatDoorZ12
import Derived.Test.YtiafmbfeigcinaaGreatDoorZ07
set_option linter.unusedVariables false
set_option linter.unusedSimpArgs false
set_option maxRecDepth 100000
namespace Go.Proofs.YtiafmbfeigcinaaGreatDoor
open Go.RowKit

theorem rk_hit (m : UInt8) (k : ByteArray) (r : List UInt8) (h : isK k = true) : rk m (m :: okey (sb k) ++ r) = some (sb k, r) := by
  have hk := isK_iff.1 h
  have e : okey (sb k) ++ r = esc (sb k) ++ 0 :: 0 :: r := by unfold okey; simp
  unfold rk
  rw [if_pos (by rfl)]
  simp only [List.cons_append, List.drop_succ_cons, List.drop_zero]
  rw [e, tkey_okey (sb k) 1000 r (by rw [sb_len]; omega)]
  simp only
  rw [if_pos (by rw [sb_len]; exact hk)]
theorem rk_miss (m c : UInt8) (l : List UInt8) (h : c ≠ m) : rk m (c :: l) = none := by
  unfold rk
  rw [if_neg]
  intro e
  exact h (by simpa using e)
theorem versionKey_c (k : ByteArray) (a b : Int) (w : World) (hM : MaxL w) (h : may a b = true) :
    Calls Tryz.prog 156 #[.string k, sv a b] w fun e w' => e = markK [118] k (odown a b) ∧ Below w.heap.size w w' := by
  have HD := Lib.hid (down a b (w.alloc (.cells #[.int .i64 a, .int .i64 b] 26)) h)
  have hz : (⟨(odown a b).toArray⟩ : ByteArray).size = 9 := odown_len a b
  have e0 : markK (sb ⟨#[118]⟩) k (sb ⟨(odown a b).toArray⟩) = markK [118] k (odown a b) := rfl
  obtain ⟨d, hd⟩ : ∃ d : ByteArray, ⟨(odown a b).toArray⟩ = d := ⟨_, rfl⟩
  rw [hd] at HD hz e0
  obtain ⟨s, n, hs⟩ : ∃ s n, markK [118] k (odown a b) = .returned (.tuple #[.string s, .int .i64 n]) := by
    unfold markK
    split
    · exact ⟨_, _, rfl⟩
    · exact ⟨_, _, rfl⟩
  rw [hs] at e0 ⊢
  have E0 := Lib.hid e0
  clear e0 hs hd
  go_enter Tryz.func156, Tryz.ntmps156
  go_wp2_with (first
    | (go_at_call 194; refine HD.out.mono ?_; rintro e w1 ⟨rfl, hb1⟩; have g1 := (nbl w (.cells #[.int .i64 a, .int .i64 b] 26)).trans (hb1.mono (by simp)))
    | (go_at_call 148; refine (marked_c ⟨#[118]⟩ k d _ (hM.below g1) (by decide) (by omega)).mono ?_; rintro e w2 ⟨he, hb2⟩; rw [E0.out] at he; subst he; have g2 := g1.trans (hb2.mono g1.size)))
  go_ret2
  exact ⟨rfl, g2⟩
theorem ret_tct {fn : Func} {R : Ending → World → Prop} {a : Act} {w : World} {p u v : Tmp} {g : Nat} {x y : Int} (hr : fn.results = #[.tmp u, .cell p 26, .tmp v]) (hp : a.tmps.getD p undef = .pointer (some ⟨g, 0, none⟩))
    (hB : Box w g x y) (hd : a.defers = []) (hR : R (.returned (.tuple #[a.tmps.getD u undef, sv x y, a.tmps.getD v undef])) w) : bodyPost Tryz.prog fn R .ret a w := by
  refine bodyPost_ret ?_ hd hR
  have hp' : a.tmps[p]?.getD undef = .pointer (some ⟨g, 0, none⟩) := by simpa using hp
  simp [results, hr, hp', asAddr, run_loadVar_row w g 26 26 _ (0, 0) _ hB Tryz.underlying26 rfl (by kernel_rfl)]
set_option maxHeartbeats 1000000 in
theorem readVersion_no (k : ByteArray) (w : World) (hk : k.size ≤ 150000000000000) (hr : rk 118 (sb k) = none) :
    Calls Tryz.prog 158 #[.string k] w fun e w' => e = .returned (.tuple #[.string ⟨#[]⟩, sv 0 0, .int .i64 4]) ∧ Below w.heap.size w w' := by
  have HC := Lib.hid (readKey_c 118 k (w.alloc (.cells #[.int .i64 0, .int .i64 0] 26)) hk)
  rw [hr] at HC
  have HX := Lib.hid (Blk.new w 26 #[.int .i64 0, .int .i64 0])
  have HT := Lib.hid (fun V => takeDown_short ⟨#[]⟩ V (by decide))
  clear hr
  go_enter Tryz.func158, Tryz.ntmps158
  go_wp2_with (first
    | (go_at_call 149; refine HC.out.mono ?_; rintro e w1 ⟨rfl, hb1⟩; unfold rkA; simp only
       have g1 := (nbl w (.cells #[.int .i64 0, .int .i64 0] 26)).trans (hb1.mono (by simp))
       have k1 : Blk w1 w.heap.size 26 #[.int .i64 0, .int .i64 0] := HX.out.below hb1 (by simp))
    | (go_at_call 195; refine (HT.out _).mono ?_; rintro e w2 ⟨he, hb2⟩
       rw [show TdAns (.error 3) = .returned (.tuple #[sv 0 0, .string ⟨#[]⟩, .int .i64 3]) from rfl] at he
       subst he
       have k2 := k1.below hb2 k1.lt
       have c0 := k2.cell 0
       have c1 := k2.cell 1
       have f0 := k2.frozen 0
       have f1 := k2.frozen 1
       simp at c0 c1
       have g2 := g1.trans (hb2.mono g1.size)))
  refine ret_tct rfl rfl ((k2.all2 (v0 := .int .i64 0) (v1 := .int .i64 0)).all2 (v0 := .int .i64 0) (v1 := .int .i64 0)) rfl ⟨rfl, (((g2.setCell (by exact Nat.le_refl _) _).setCell (by exact Nat.le_refl _) _).setCell (by exact Nat.le_refl _) _).setCell (by exact Nat.le_refl _) _⟩
set_option maxHeartbeats 1000000 in
theorem readVersion_c (k : ByteArray) (w : World) (hk : k.size ≤ 150000000000000) (s : List UInt8) (a b : Int) (h : may a b = true) (hr : rk 118 (sb k) = some (s, odown a b)) :
    Calls Tryz.prog 158 #[.string k] w fun e w' => e = .returned (.tuple #[.string ⟨s.toArray⟩, sv a b, .int .i64 0]) ∧ Below w.heap.size w w' := by
  have HC := Lib.hid (readKey_c 118 k (w.alloc (.cells #[.int .i64 0, .int .i64 0] 26)) hk)
  rw [hr] at HC
  have HX := Lib.hid (Blk.new w 26 #[.int .i64 0, .int .i64 0])
  have hz : 9 ≤ (⟨(odown a b).toArray⟩ : ByteArray).size := Nat.le_of_eq (odown_len a b).symm
  have hz2 : (⟨(odown a b).toArray⟩ : ByteArray).size ≤ 150000000000000 := by rw [show (⟨(odown a b).toArray⟩ : ByteArray).size = 9 from odown_len a b]; omega
  have hT := fun V => takeDown_long ⟨(odown a b).toArray⟩ V hz hz2
  have ho : tdown (ob ⟨(odown a b).toArray⟩) = .ok (a, b, []) := by
    have := tdown_odown a b [] h
    rw [List.append_nil] at this
    exact this
  rw [ho] at hT
  have HT := Lib.hid hT
  obtain ⟨d, hd⟩ : ∃ d : ByteArray, ⟨(odown a b).toArray⟩ = d := ⟨_, rfl⟩
  have hrk : rkA (some (s, odown a b)) = .returned (.tuple #[.string ⟨s.toArray⟩, .string d, .bool true]) := by rw [← hd]; rfl
  rw [hrk] at HC
  rw [hd] at HT
  obtain ⟨q, hq⟩ : ∃ q : ByteArray, ⟨s.toArray⟩ = q := ⟨_, rfl⟩
  rw [hq] at HC ⊢
  clear hr hz hz2 hT ho hd hrk hq
  go_enter Tryz.func158, Tryz.ntmps158
  go_wp2_with (first
    | (go_at_call 149; refine HC.out.mono ?_; rintro e w1 ⟨rfl, hb1⟩
       have g1 := (nbl w (.cells #[.int .i64 0, .int .i64 0] 26)).trans (hb1.mono (by simp))
       have k1 : Blk w1 w.heap.size 26 #[.int .i64 0, .int .i64 0] := HX.out.below hb1 (by simp))
    | (go_at_call 195; refine (HT.out _).mono ?_; rintro e w2 ⟨he, hb2⟩
       rw [show TdAns (.ok (a, b, [])) = .returned (.tuple #[sv a b, .string ⟨#[]⟩, .int .i64 0]) from rfl] at he
       subst he
       have k2 := k1.below hb2 k1.lt
       have c0 := k2.cell 0
       have c1 := k2.cell 1
       have f0 := k2.frozen 0
       have f1 := k2.frozen 1
       simp at c0 c1
       have g2 := g1.trans (hb2.mono g1.size)
       have k3 := k2.all2 (v0 := .int .i64 a) (v1 := .int .i64 b)
       have d0 := k3.cell 0
       have d1 := k3.cell 1
       have e0 := k3.frozen 0
       have e1 := k3.frozen 1
       simp at d0 d1
       have g3 := (g2.setCell (p := ⟨w.heap.size, 0, none⟩) (by exact Nat.le_refl _) (.int .i64 a)).setCell (p := ⟨w.heap.size, 1, none⟩) (by exact Nat.le_refl _) (.int .i64 b)))
  go_region_with (fail)
  all_goals go_wp2
  all_goals refine ret_tct rfl rfl (Blk.all2 (c0 := .int .i64 a) (c1 := .int .i64 b) (by exact k3)) rfl ⟨rfl, ?_⟩
  all_goals first | exact (g3.drew.setCell (by exact Nat.le_refl _) _).setCell (by exact Nat.le_refl _) _ | exact ((below_drewN g3 _).setCell (by exact Nat.le_refl _) _).setCell (by exact Nat.le_refl _) _
end Go.Proofs.YtiafmbfeigcinaaGreatDoor
set_option linter.unusedVariables false
set_option linter.unusedSimpArgs false
set_option maxRecDepth 100000
namespace Go.Proofs.YtiafmbfeigcinaaGreatDoor
open Go.RowKit

/-- Two stamps in blocks, and what is older stays. -/
abbrev S4 (w : World) (g1 g2 : Nat) (p o a b : Int) (V : World) : Prop :=
  V.cell? ⟨g1, 0, none⟩ = some (.int .i64 p) ∧ V.cell? ⟨g1, 1, none⟩ = some (.int .i64 o) ∧ V.cell? ⟨g2, 0, none⟩ = some (.int .i64 a) ∧ V.cell? ⟨g2, 1, none⟩ = some (.int .i64 b) ∧ Below w.heap.size w V
theorem S4.bel {w V : World} {g1 g2 : Nat} {p o a b : Int} (h : S4 w g1 g2 p o a b V) : Below w.heap.size w V := h.2.2.2.2
theorem S4.keep {w V V' : World} {g1 g2 : Nat} {p o a b : Int} (h : S4 w g1 g2 p o a b V) (hb : Below V.heap.size V V') : S4 w g1 g2 p o a b V' :=
  ⟨kept_below hb _ _ h.1, kept_below hb _ _ h.2.1, kept_below hb _ _ h.2.2.1, kept_below hb _ _ h.2.2.2.1, h.2.2.2.2.trans (hb.mono h.2.2.2.2.size)⟩
theorem S4.call {w V : World} {g1 g2 : Nat} {p o a b : Int} {f : FuncId} {args : Array Value} {v : Value} (h : S4 w g1 g2 p o a b V) (hc : Calls Tryz.prog f args V fun e V' => e = .returned v ∧ Below V.heap.size V V') :
    Calls Tryz.prog f args V fun e V' => e = .returned v ∧ S4 w g1 g2 p o a b V' := hc.mono fun _ _ hh => ⟨hh.1, h.keep hh.2⟩
theorem self_eq2 (s : ByteArray) : (s.toList == s.toList) = true := by simp
/-- The text of a key that begins with a mark. -/
theorem markK_two (m : UInt8) (k : ByteArray) (b : List UInt8) (h : isK k = true) : ∃ s : ByteArray, markK [m] k b = .returned (.tuple #[.string s, .int .i64 0]) ∧ sb s = m :: (okey (sb k) ++ b) ∧ s.size ≤ 67 + b.length := by
  refine ⟨⟨([m] ++ okey (sb k) ++ b).toArray⟩, ?_, rfl, ?_⟩
  · unfold markK
    rw [h, if_pos rfl]
    rfl
  · show ([m] ++ okey (sb k) ++ b).length ≤ _
    have := okey_len k (isK_iff.1 h).2
    simp only [List.length_append, List.length_singleton]
    omega
theorem less_mark {s t : ByteArray} {a b : UInt8} {l m : List UInt8} (hs : sb s = a :: l) (ht : sb t = b :: m) (h : a < b) : Op.bytesLess s.toList t.toList = true := by
  rw [Lib.toList_data, Lib.toList_data]
  show Op.bytesLess (sb s) (sb t) = true
  rw [hs, ht]
  simp [Op.bytesLess, h]
end Go.Proofs.YtiafmbfeigcinaaGreatDoor
set_option linter.unusedVariables false
set_option linter.unusedSimpArgs false
set_option maxRecDepth 100000
namespace Go.Proofs.YtiafmbfeigcinaaGreatDoor
open Go.RowKit

theorem cmp3 : ∀ l m : List UInt8, (Lib.compareBytes l m = -1 ∧ Op.bytesLess l m = true ∧ (l == m) = false) ∨ (Lib.compareBytes l m = 0 ∧ Op.bytesLess l m = false ∧ (l == m) = true) ∨ (Lib.compareBytes l m = 1 ∧ Op.bytesLess l m = false ∧ (l == m) = false)
  | [], [] => Or.inr (Or.inl ⟨rfl, rfl, rfl⟩)
  | [], _ :: _ => Or.inl ⟨rfl, rfl, rfl⟩
  | _ :: _, [] => Or.inr (Or.inr ⟨rfl, rfl, rfl⟩)
  | a :: x, b :: y => by
    rw [Lib.compareBytes, Op.bytesLess]
    by_cases h : a < b
    · refine Or.inl ⟨by rw [if_pos h], by simp [h], ?_⟩
      have : a ≠ b := fun e => by rw [e] at h; exact UInt8.lt_irrefl _ h
      simp [this]
    · by_cases h2 : b < a
      · refine Or.inr (Or.inr ⟨by rw [if_neg h, if_pos h2], ?_, ?_⟩)
        · have : a ≠ b := fun e => by rw [e] at h2; exact UInt8.lt_irrefl _ h2
          simp [h, this]
        · have : a ≠ b := fun e => by rw [e] at h2; exact UInt8.lt_irrefl _ h2
          simp [this]
      · have e : a = b := UInt8.le_antisymm (UInt8.not_lt.1 h2) (UInt8.not_lt.1 h)
        subst e
        rw [if_neg h, if_neg h]
        rcases cmp3 x y with ⟨h1, h2, h3⟩ | ⟨h1, h2, h3⟩ | ⟨h1, h2, h3⟩
        · exact Or.inl ⟨h1, by simp [h, h2], by simpa using h3⟩
        · exact Or.inr (Or.inl ⟨h1, by simp [h, h2], by simpa using h3⟩)
        · exact Or.inr (Or.inr ⟨h1, by simp [h, h2], by simpa using h3⟩)
theorem odown_cmp (a b c d : Int) (h : may a b = true) (h' : may c d = true) :
    Lib.compareBytes (odown a b) (odown c d) = if c < a ∨ (a = c ∧ d < b) then -1 else if a = c ∧ b = d then 0 else 1 := by
  obtain ⟨h1, h2, h3, h4⟩ := of_decide_eq_true h
  obtain ⟨k1, k2, k3, k4⟩ := of_decide_eq_true h'
  unfold odown
  rw [cmp_app _ _ _ _ (by rw [wide_len, wide_len]), cmp_wide 6 _ _ (by omega) (by omega), cmp_wide 3 _ _ (by omega) (by omega)]
  unfold cmpI
  repeat' split
  all_goals first | rfl | omega
theorem cmp_mark (m : UInt8) (s t x y : List UInt8) : Lib.compareBytes (m :: (okey s ++ x)) (m :: (okey t ++ y)) = if Lib.compareBytes s t = 0 then Lib.compareBytes x y else Lib.compareBytes s t := by
  rw [cmp_same]
  have h := cmp_okey s t x y
  unfold okey
  simpa using h
/-- Two texts by their order: less and the same as the walk asks. -/
theorem ord3 (s t : ByteArray) (c : Int) (h : Lib.compareBytes (sb s) (sb t) = c) :
    (c = -1 ∧ Op.bytesLess s.toList t.toList = true ∧ (s.toList == t.toList) = false) ∨ (c = 0 ∧ s = t) ∨ (c = 1 ∧ Op.bytesLess s.toList t.toList = false ∧ (s.toList == t.toList) = false) := by
  subst h
  rw [Lib.toList_data, Lib.toList_data]
  rcases cmp3 (sb s) (sb t) with h | ⟨h1, h2, h3⟩ | h
  · exact Or.inl h
  · exact Or.inr (Or.inl ⟨h1, tb_inj (by simpa using h3)⟩)
  · exact Or.inr (Or.inr h)
theorem less_self (s : ByteArray) : Op.bytesLess s.toList s.toList = false := by
  rcases cmp3 s.toList s.toList with ⟨_, _, h⟩ | ⟨_, h, _⟩ | ⟨_, _, h⟩
  · simp at h
  · exact h
  · simp at h
end Go.Proofs.YtiafmbfeigcinaaGreatDoor
set_option linter.unusedVariables false
set_option linter.unusedSimpArgs false
set_option maxRecDepth 100000
namespace Go.Proofs.YtiafmbfeigcinaaGreatDoor
open Go.RowKit

theorem slt_nil (k : ByteArray) (h : 1 ≤ k.size) : slt ⟨#[]⟩ k = true := by
  unfold slt
  rw [Lib.toList_data, Lib.toList_data]
  have : (sb k).length = k.size := sb_len k
  show Op.bytesLess [] (sb k) = true
  cases hk : sb k with
  | nil => rw [hk] at this; simp at this; omega
  | cons a t => rfl
/-- The key that the next one must be above. -/
def pvW (l : List Wt) (j : Nat) (a : ByteArray) : Prop := (j = 0 → a = ⟨#[]⟩) ∧ ∀ m (hm : m < l.length), j = m + 1 → a = (l[m]'hm).k
set_option maxHeartbeats 4000000 in
theorem rMayR_c (x : Rc) (b : Bool) (h : mayR x = b) (A : Option Addr) (n c : Nat) (w : World) (hx : WtAt w A n x.l) (hn : n ≤ 9223372036854775807) :
    Calls Tryz.prog 98 #[rcv x (.slice A n c)] w fun e w' => e = .returned (.bool b) ∧ Below w.heap.size w w' := by
  obtain ⟨id, ep, st, pr, an, sw, sl, bw, bl, l⟩ := x
  simp only at hx
  unfold mayR at h
  simp only at h
  have hl := hx.1
  have g0 := nbl w (.cells (rcc ⟨id, ep, st, pr, an, sw, sl, bw, bl, l⟩ (.slice A n c)) 106)
  have HX := Lib.hid (Blk.new w 106 (rcc ⟨id, ep, st, pr, an, sw, sl, bw, bl, l⟩ (.slice A n c)))
  have HL := Lib.hid (hx.below g0)
  have HD := Lib.hid (fun V => rHead_c id ep pr an _ rfl V)
  have HS := Lib.hid (fun V => refCheck5 sw sl V)
  have HT := Lib.hid (fun V => refCheck5 bw bl V)
  cases h1 : hdr id ep pr an
  · rw [h1] at h HD
    simp at h
    subst h
    go_enter Tryz.func98, Tryz.ntmps98
    go_wp2_with (go_at_call 144; refine (HD.out _).mono ?_; rintro e w1 ⟨rfl, rfl⟩)
    go_ret
    exact ⟨rfl, g0⟩
  · rw [h1] at h HD
    cases h2 : may sw sl
    · rw [h2] at h
      simp at h
      subst h
      rw [show ck sw sl = 9 by unfold ck; rw [h2]; rfl] at HS
      go_enter Tryz.func98, Tryz.ntmps98
      go_wp2_with (first
          | (go_at_call 144; refine (HD.out _).mono ?_; rintro e w1 ⟨rfl, rfl⟩)
          | (go_at_call_of 57 (Value.agg #[.int .i64 sw, .int .i64 sl]); refine (HS.out _).mono ?_; rintro e w1 ⟨rfl, b1⟩; have X1 := Lib.hid (HX.out.below b1 (by simp)); have g1 := g0.trans (b1.mono g0.size); have y2 := X1.out.cell 2; have y7 := X1.out.cell 7; have y8 := X1.out.cell 8; have y9 := X1.out.cell 9; simp at y2 y7 y8 y9))
      go_ret
      exact ⟨rfl, g1⟩
    rw [h2] at h
    rw [show ck sw sl = 0 by unfold ck; rw [h2]; rfl] at HS
    cases h3 : may bw bl
    · rw [h3] at h
      simp at h
      subst h
      rw [show ck bw bl = 9 by unfold ck; rw [h3]; rfl] at HT
      go_enter Tryz.func98, Tryz.ntmps98
      go_wp2_with (first
          | (go_at_call 144; refine (HD.out _).mono ?_; rintro e w1 ⟨rfl, rfl⟩)
          | (go_at_call_of 57 (Value.agg #[.int .i64 sw, .int .i64 sl]); refine (HS.out _).mono ?_; rintro e w1 ⟨rfl, b1⟩; have X1 := Lib.hid (HX.out.below b1 (by simp)); have g1 := g0.trans (b1.mono g0.size); have y2 := X1.out.cell 2; have y7 := X1.out.cell 7; have y8 := X1.out.cell 8; have y9 := X1.out.cell 9; simp at y2 y7 y8 y9)
          | (go_at_call_of 57 (Value.agg #[.int .i64 bw, .int .i64 bl]); refine (HT.out _).mono ?_; rintro e w2 ⟨rfl, b2⟩; have X2 := Lib.hid (X1.out.below b2 X1.out.lt); have g2 := g1.trans (b2.mono g1.size); have z2 := X2.out.cell 2; have z9 := X2.out.cell 9; simp at z2 z9))
      go_ret
      exact ⟨rfl, g2⟩
    rw [h3] at h
    rw [show ck bw bl = 0 by unfold ck; rw [h3]; rfl] at HT
    by_cases c1 : 1 ≤ st
    case neg =>
      have hF : b = false := by
        rw [← h]
        rw [show isS st = false from decide_eq_false (by omega)]; simp
      subst hF
      clear h
      go_enter Tryz.func98, Tryz.ntmps98
      go_wp2_with (first
        | (go_at_call 144; refine (HD.out _).mono ?_; rintro e w1 ⟨rfl, rfl⟩)
        | (go_at_call_of 57 (Value.agg #[.int .i64 sw, .int .i64 sl]); refine (HS.out _).mono ?_; rintro e w1 ⟨rfl, b1⟩; have X1 := Lib.hid (HX.out.below b1 (by simp)); have g1 := g0.trans (b1.mono g0.size); have y2 := X1.out.cell 2; have y7 := X1.out.cell 7; have y8 := X1.out.cell 8; have y9 := X1.out.cell 9; simp at y2 y7 y8 y9)
        | (go_at_call_of 57 (Value.agg #[.int .i64 bw, .int .i64 bl]); refine (HT.out _).mono ?_; rintro e w2 ⟨rfl, b2⟩; have X2 := Lib.hid (X1.out.below b2 X1.out.lt); have g2 := g1.trans (b2.mono g1.size); have z2 := X2.out.cell 2; have z9 := X2.out.cell 9; simp at z2 z9))
      go_ret
      exact ⟨rfl, g2⟩
    by_cases c2 : st ≤ 4
    case neg =>
      have hF : b = false := by
        rw [← h]
        rw [show isS st = false from decide_eq_false (by omega)]; simp
      subst hF
      clear h
      go_enter Tryz.func98, Tryz.ntmps98
      go_wp2_with (first
        | (go_at_call 144; refine (HD.out _).mono ?_; rintro e w1 ⟨rfl, rfl⟩)
        | (go_at_call_of 57 (Value.agg #[.int .i64 sw, .int .i64 sl]); refine (HS.out _).mono ?_; rintro e w1 ⟨rfl, b1⟩; have X1 := Lib.hid (HX.out.below b1 (by simp)); have g1 := g0.trans (b1.mono g0.size); have y2 := X1.out.cell 2; have y7 := X1.out.cell 7; have y8 := X1.out.cell 8; have y9 := X1.out.cell 9; simp at y2 y7 y8 y9)
        | (go_at_call_of 57 (Value.agg #[.int .i64 bw, .int .i64 bl]); refine (HT.out _).mono ?_; rintro e w2 ⟨rfl, b2⟩; have X2 := Lib.hid (X1.out.below b2 X1.out.lt); have g2 := g1.trans (b2.mono g1.size); have z2 := X2.out.cell 2; have z9 := X2.out.cell 9; simp at z2 z9))
      go_ret
      exact ⟨rfl, g2⟩
    by_cases c3 : n ≤ 32
    case neg =>
      have hA : areW st l = false := by
        unfold areW
        split
        · rw [decide_eq_false (by omega)]; rfl
        · exact decide_eq_false (by omega)
      have hF : b = false := by
        rw [← h, hA]; simp
      subst hF
      clear h
      go_enter Tryz.func98, Tryz.ntmps98
      go_wp2_with (first
        | (go_at_call 144; refine (HD.out _).mono ?_; rintro e w1 ⟨rfl, rfl⟩)
        | (go_at_call_of 57 (Value.agg #[.int .i64 sw, .int .i64 sl]); refine (HS.out _).mono ?_; rintro e w1 ⟨rfl, b1⟩; have X1 := Lib.hid (HX.out.below b1 (by simp)); have g1 := g0.trans (b1.mono g0.size); have y2 := X1.out.cell 2; have y7 := X1.out.cell 7; have y8 := X1.out.cell 8; have y9 := X1.out.cell 9; simp at y2 y7 y8 y9)
        | (go_at_call_of 57 (Value.agg #[.int .i64 bw, .int .i64 bl]); refine (HT.out _).mono ?_; rintro e w2 ⟨rfl, b2⟩; have X2 := Lib.hid (X1.out.below b2 X1.out.lt); have g2 := g1.trans (b2.mono g1.size); have z2 := X2.out.cell 2; have z9 := X2.out.cell 9; simp at z2 z9))
      go_ret
      exact ⟨rfl, g2⟩
    have hlen : areW st l = b := by
      rw [show isS st = true from isS_iff.2 ⟨c1, c2⟩] at h
      simpa using h
    clear h
    unfold areW at hlen
    by_cases c4 : st = 2
    case neg =>
      rw [if_neg c4] at hlen
      have c6 : (st == 2) = false := by simpa using c4
      have c7 : (st != 2) = true := by simpa using c4
      by_cases c5 : n = 0
      · subst c5
        have hT : b = true := by rw [← hlen]; exact decide_eq_true hl
        subst hT
        clear hlen
        go_enter Tryz.func98, Tryz.ntmps98
        go_wp2_with (first
          | (go_at_call 144; refine (HD.out _).mono ?_; rintro e w1 ⟨rfl, rfl⟩)
          | (go_at_call_of 57 (Value.agg #[.int .i64 sw, .int .i64 sl]); refine (HS.out _).mono ?_; rintro e w1 ⟨rfl, b1⟩; have X1 := Lib.hid (HX.out.below b1 (by simp)); have g1 := g0.trans (b1.mono g0.size); have y2 := X1.out.cell 2; have y7 := X1.out.cell 7; have y8 := X1.out.cell 8; have y9 := X1.out.cell 9; simp at y2 y7 y8 y9)
          | (go_at_call_of 57 (Value.agg #[.int .i64 bw, .int .i64 bl]); refine (HT.out _).mono ?_; rintro e w2 ⟨rfl, b2⟩; have X2 := Lib.hid (X1.out.below b2 X1.out.lt); have g2 := g1.trans (b2.mono g1.size); have z2 := X2.out.cell 2; have z9 := X2.out.cell 9; simp at z2 z9))
        go_loopw [3] (fun i wr => i = .int .i64 0 ∧ Hid (Below w2.heap.size w2 wr)) (fun i _ => 0)
        case atStart => exact ⟨rfl, Lib.hid (Below.refl _ _)⟩
        case round =>
          obtain ⟨rfl, HBW⟩ := hrel
          have x8 := kept_below HBW.out _ _ z9
          go_wp2
          go_ret
          exact ⟨rfl, g2.trans (HBW.out.mono g2.size)⟩
      · have hF : b = false := by rw [← hlen]; exact decide_eq_false (by omega)
        subst hF
        clear hlen
        have n0 : (0 : Int) < (n : Int) := by omega
        have n1 : decide ((0 : Int) < (n : Int)) = true := decide_eq_true n0
        have n2 : decide ((n : Int) > 0) = true := decide_eq_true n0
        have n3 : 0 < n := by omega
        go_enter Tryz.func98, Tryz.ntmps98
        go_wp2_with (first
          | (go_at_call 144; refine (HD.out _).mono ?_; rintro e w1 ⟨rfl, rfl⟩)
          | (go_at_call_of 57 (Value.agg #[.int .i64 sw, .int .i64 sl]); refine (HS.out _).mono ?_; rintro e w1 ⟨rfl, b1⟩; have X1 := Lib.hid (HX.out.below b1 (by simp)); have g1 := g0.trans (b1.mono g0.size); have y2 := X1.out.cell 2; have y7 := X1.out.cell 7; have y8 := X1.out.cell 8; have y9 := X1.out.cell 9; simp at y2 y7 y8 y9)
          | (go_at_call_of 57 (Value.agg #[.int .i64 bw, .int .i64 bl]); refine (HT.out _).mono ?_; rintro e w2 ⟨rfl, b2⟩; have X2 := Lib.hid (X1.out.below b2 X1.out.lt); have g2 := g1.trans (b2.mono g1.size); have z2 := X2.out.cell 2; have z9 := X2.out.cell 9; simp at z2 z9))
        go_ret
        exact ⟨rfl, g2⟩
    subst c4
    rw [if_pos rfl, decide_eq_true (by omega)] at hlen
    simp at hlen
    have HH := Lib.hid (show ∃ a : ByteArray, riseW a (l.drop 0) = b ∧ pvW l 0 a from ⟨_, hlen, fun _ => rfl, fun m hm e => by omega⟩)
    have HLn := Lib.hid hl
    clear hlen hl hx
    go_enter Tryz.func98, Tryz.ntmps98
    go_wp2_with (first
      | (go_at_call 144; refine (HD.out _).mono ?_; rintro e w1 ⟨rfl, rfl⟩)
      | (go_at_call_of 57 (Value.agg #[.int .i64 sw, .int .i64 sl]); refine (HS.out _).mono ?_; rintro e w1 ⟨rfl, b1⟩; have X1 := Lib.hid (HX.out.below b1 (by simp)); have g1 := g0.trans (b1.mono g0.size); have y2 := X1.out.cell 2; have y7 := X1.out.cell 7; have y8 := X1.out.cell 8; have y9 := X1.out.cell 9; simp at y2 y7 y8 y9)
      | (go_at_call_of 57 (Value.agg #[.int .i64 bw, .int .i64 bl]); refine (HT.out _).mono ?_; rintro e w2 ⟨rfl, b2⟩; have X2 := Lib.hid (X1.out.below b2 X1.out.lt); have g2 := g1.trans (b2.mono g1.size); have z2 := X2.out.cell 2; have z9 := X2.out.cell 9; simp at z2 z9))
    have HL2 := Lib.hid (HL.out.below (b1.trans (b2.mono b1.size)))
    have G2 := Lib.hid g2
    clear HX HL HD HS HT b1 b2 g0 g1 g2 X1 X2 y2 y7 y8 y9 z2
    go_loopw [3] (fun i wr => ∃ (j : Nat), j ≤ n ∧ i = .int .i64 j ∧ Hid (∃ a : ByteArray, riseW a (l.drop j) = b ∧ pvW l j a) ∧ Hid (Below w2.heap.size w2 wr)) (fun i _ => n - (intOf i).toNat)
    case atStart => exact ⟨0, Nat.zero_le _, rfl, HH, Lib.hid (Below.refl _ _)⟩
    case round =>
      obtain ⟨j, hj, rfl, HR, HBW⟩ := hrel
      have x8 := kept_below HBW.out _ _ z9
      by_cases hlt : j < n
      · rcases j with _ | m
        · skip
          have hjl : 0 < l.length := by rw [HLn.out]; exact hlt
          obtain ⟨B, o, rfl, hc⟩ := HL2.out.2 (by omega)
          have p := hc 0 hjl
          obtain ⟨a, hr, hpr⟩ := HR.out
          rw [List.drop_eq_getElem_cons hjl] at hr
          obtain ⟨cc, hcc⟩ : ∃ cc, l[0]'hjl = cc := ⟨_, rfl⟩
          rw [hcc] at p hr
          obtain ⟨k, q⟩ := cc
          obtain ⟨p0, p1⟩ := p
          have P0 := kept_below HBW.out _ _ p0
          have P1 := kept_below HBW.out _ _ p1
          have W0 := Blk.new wr 159 #[.string k, .int .i64 q]
          have o0 := W0.cell 0
          have o1 := W0.cell 1
          have o8 := kept_below (nbl wr (.cells #[.string k, .int .i64 q] 159)) _ _ x8
          have HN := Lib.hid (HBW.out.alloc HBW.out.size (.cells #[.string k, .int .i64 q] 159))
          simp at o0 o1
          have HA0 := Lib.hid (hpr.1 rfl)
          clear hpr
          simp only [Nat.zero_mul, Nat.add_zero] at P0 P1
          have HO : Hid (riseW a (⟨k, q⟩ :: l.drop (0 + 1)) = b) := Lib.hid hr
          have HNO : Hid (∀ (hk : okWt a ⟨k, q⟩ = false), b = false) := Lib.hid fun hk => by
            have := HO.out
            rw [riseW, hk] at this
            simpa using this.symm
          have HFIN : Hid (∀ (hk : okWt a ⟨k, q⟩ = true), riseW k (l.drop (0 + 1)) = b) := Lib.hid fun hk => by
            have := HO.out
            rw [riseW, hk] at this
            simpa using this
          have HC := Lib.hid (refCheck k)
          have HI := Lib.hid (fun V => rIsId_c q _ rfl V)
          have HCC := Lib.hid hcc
          clear hr W0 hcc p0 p1
          by_cases d1 : 1 ≤ k.size ∧ k.size ≤ 32
          case neg =>
            rw [if_neg d1] at HC
            have hF := HNO.out (by unfold okWt; rw [show isK k = false from decide_eq_false d1]; simp)
            subst hF
            go_wp2_with fail
            go_quiet (first
            | (go_at_call 55; exact Calls.quiet_of_same ((HC.out _).mono (fun _ _ hh => ⟨hh.1, hh.2.symm⟩)))
            | (go_at_call 147; exact Calls.quiet_of_same ((HI.out _).mono (fun _ _ hh => ⟨hh.1, hh.2.symm⟩))))
            all_goals (try go_wp2_with fail)
            all_goals go_ret
            all_goals exact ⟨rfl, below_drewN (G2.out.trans (HN.out.mono G2.out.size)) _⟩
          rw [if_pos d1] at HC
          cases d2 : isI q
          case false =>
            rw [d2] at HI
            have hF := HNO.out (by unfold okWt; rw [d2]; simp)
            subst hF
            go_wp2_with fail
            go_quiet (first
            | (go_at_call 55; exact Calls.quiet_of_same ((HC.out _).mono (fun _ _ hh => ⟨hh.1, hh.2.symm⟩)))
            | (go_at_call 147; exact Calls.quiet_of_same ((HI.out _).mono (fun _ _ hh => ⟨hh.1, hh.2.symm⟩))))
            all_goals (try go_wp2_with fail)
            all_goals go_ret
            all_goals exact ⟨rfl, below_drewN (G2.out.trans (HN.out.mono G2.out.size)) _⟩
          rw [d2] at HI
          have hT := HFIN.out (by unfold okWt; rw [d2, show isK k = true from isK_iff.2 d1, HA0.out, slt_nil k (by omega)]; rfl)
          have HT := Lib.hid (show ∃ a : ByteArray, riseW a (l.drop 1) = b ∧ pvW l 1 a from ⟨k, hT, fun e => by omega, fun m hm e => by obtain rfl : m = 0 := (by omega); exact (congrArg Wt.k HCC.out).symm⟩)
          clear hT
          clear HO HNO HFIN
          go_wp2_with fail
          go_quiet (first
            | (go_at_call 55; exact Calls.quiet_of_same ((HC.out _).mono (fun _ _ hh => ⟨hh.1, hh.2.symm⟩)))
            | (go_at_call 147; exact Calls.quiet_of_same ((HI.out _).mono (fun _ _ hh => ⟨hh.1, hh.2.symm⟩))))
          all_goals (try go_wp2_with fail)
          all_goals go_roundw
          all_goals try (case rel => exact ⟨1, by omega, by go_num, HT, Lib.hid (below_drewN HN.out _)⟩)
          all_goals (simp [intOf]; omega)
        · skip
          have hjl : (m + 1) < l.length := by rw [HLn.out]; exact hlt
          obtain ⟨B, o, rfl, hc⟩ := HL2.out.2 (by omega)
          have p := hc (m + 1) hjl
          have pm := hc m (by omega)
          obtain ⟨a, hr, hpr⟩ := HR.out
          rw [List.drop_eq_getElem_cons hjl] at hr
          obtain ⟨cc, hcc⟩ : ∃ cc, l[(m + 1)]'hjl = cc := ⟨_, rfl⟩
          rw [hcc] at p hr
          obtain ⟨k, q⟩ := cc
          obtain ⟨p0, p1⟩ := p
          have P0 := kept_below HBW.out _ _ p0
          have P1 := kept_below HBW.out _ _ p1
          have W0 := Blk.new wr 159 #[.string k, .int .i64 q]
          have o0 := W0.cell 0
          have o1 := W0.cell 1
          have o8 := kept_below (nbl wr (.cells #[.string k, .int .i64 q] 159)) _ _ x8
          have HN := Lib.hid (HBW.out.alloc HBW.out.size (.cells #[.string k, .int .i64 q] 159))
          simp at o0 o1
          obtain rfl := hpr.2 m (by omega) rfl
          have mw : IntKind.i64.wrap (((m + 1 : Nat) : Int) - 1) = (m : Int) := by rw [show ((m + 1 : Nat) : Int) - 1 = (m : Int) by omega]; exact IntWalk.i64_in _ (by omega)
          have mw2 : IntKind.i64.wrap ((m : Int) + 1 - 1) = (m : Int) := by rw [show (m : Int) + 1 - 1 = (m : Int) by omega]; exact IntWalk.i64_in _ (by omega)
          have mw3 : IntKind.i64.wrap (m : Int) = (m : Int) := IntWalk.i64_in _ (by omega)
          have mz : (0 : Int) ≤ (m : Int) := by omega
          have mg2 : (0 : Int) < (m : Int) + 1 := by omega
          have mn : (m : Int) < (n : Int) := by omega
          have mg : (0 : Int) < ((m + 1 : Nat) : Int) := by omega
          obtain ⟨a, ha⟩ : ∃ a, (l[m]'(by omega)).k = a := ⟨_, rfl⟩
          have R0 := kept_below HBW.out _ _ pm.1
          rw [ha] at R0 hr
          have R1 := kept_below (nbl wr (.cells #[.string k, .int .i64 q] 159)) _ _ R0
          clear pm ha hpr
          have HO : Hid (riseW a (⟨k, q⟩ :: l.drop ((m + 1) + 1)) = b) := Lib.hid hr
          have HNO : Hid (∀ (hk : okWt a ⟨k, q⟩ = false), b = false) := Lib.hid fun hk => by
            have := HO.out
            rw [riseW, hk] at this
            simpa using this.symm
          have HFIN : Hid (∀ (hk : okWt a ⟨k, q⟩ = true), riseW k (l.drop ((m + 1) + 1)) = b) := Lib.hid fun hk => by
            have := HO.out
            rw [riseW, hk] at this
            simpa using this
          have HC := Lib.hid (refCheck k)
          have HI := Lib.hid (fun V => rIsId_c q _ rfl V)
          have HCC := Lib.hid hcc
          clear hr W0 hcc p0 p1
          by_cases d1 : 1 ≤ k.size ∧ k.size ≤ 32
          case neg =>
            rw [if_neg d1] at HC
            have hF := HNO.out (by unfold okWt; rw [show isK k = false from decide_eq_false d1]; simp)
            subst hF
            go_wp2_with fail
            go_quiet (first
            | (go_at_call 55; exact Calls.quiet_of_same ((HC.out _).mono (fun _ _ hh => ⟨hh.1, hh.2.symm⟩)))
            | (go_at_call 147; exact Calls.quiet_of_same ((HI.out _).mono (fun _ _ hh => ⟨hh.1, hh.2.symm⟩))))
            all_goals (try go_wp2_with fail)
            all_goals go_ret
            all_goals exact ⟨rfl, below_drewN (G2.out.trans (HN.out.mono G2.out.size)) _⟩
          rw [if_pos d1] at HC
          cases d2 : isI q
          case false =>
            rw [d2] at HI
            have hF := HNO.out (by unfold okWt; rw [d2]; simp)
            subst hF
            go_wp2_with fail
            go_quiet (first
            | (go_at_call 55; exact Calls.quiet_of_same ((HC.out _).mono (fun _ _ hh => ⟨hh.1, hh.2.symm⟩)))
            | (go_at_call 147; exact Calls.quiet_of_same ((HI.out _).mono (fun _ _ hh => ⟨hh.1, hh.2.symm⟩))))
            all_goals (try go_wp2_with fail)
            all_goals go_ret
            all_goals exact ⟨rfl, below_drewN (G2.out.trans (HN.out.mono G2.out.size)) _⟩
          rw [d2] at HI
          rcases ord3 k a _ rfl with ⟨_, L1, E1⟩ | ⟨_, he⟩ | ⟨_, L1, E1⟩
          · have hF := HNO.out (by unfold okWt; rw [show slt a k = false by rw [← slt_gt, L1]; rfl]; simp)
            subst hF
            go_wp2_with fail
            go_quiet (first
            | (go_at_call 55; exact Calls.quiet_of_same ((HC.out _).mono (fun _ _ hh => ⟨hh.1, hh.2.symm⟩)))
            | (go_at_call 147; exact Calls.quiet_of_same ((HI.out _).mono (fun _ _ hh => ⟨hh.1, hh.2.symm⟩))))
            all_goals (try go_wp2_with fail)
            all_goals go_ret
            all_goals exact ⟨rfl, below_drewN (G2.out.trans (HN.out.mono G2.out.size)) _⟩
          · subst he
            have L1 := less_self k
            have E1 := self_eq2 k
            have hF := HNO.out (by unfold okWt; rw [show slt k k = false from L1]; simp)
            subst hF
            go_wp2_with fail
            go_quiet (first
            | (go_at_call 55; exact Calls.quiet_of_same ((HC.out _).mono (fun _ _ hh => ⟨hh.1, hh.2.symm⟩)))
            | (go_at_call 147; exact Calls.quiet_of_same ((HI.out _).mono (fun _ _ hh => ⟨hh.1, hh.2.symm⟩))))
            all_goals (try go_wp2_with fail)
            all_goals go_ret
            all_goals exact ⟨rfl, below_drewN (G2.out.trans (HN.out.mono G2.out.size)) _⟩
          · have hT := HFIN.out (by unfold okWt; rw [d2, show isK k = true from isK_iff.2 d1, show slt a k = true by rw [← slt_gt, L1, E1]; rfl]; rfl)
            have HT := Lib.hid (show ∃ a : ByteArray, riseW a (l.drop (m + 1 + 1)) = b ∧ pvW l (m + 1 + 1) a from ⟨k, hT, fun e => by omega, fun m' hm e => by obtain rfl : m' = m + 1 := (by omega); exact (congrArg Wt.k HCC.out).symm⟩)
            clear hT
            clear HO HNO HFIN
            go_wp2_with fail
            go_quiet (first
            | (go_at_call 55; exact Calls.quiet_of_same ((HC.out _).mono (fun _ _ hh => ⟨hh.1, hh.2.symm⟩)))
            | (go_at_call 147; exact Calls.quiet_of_same ((HI.out _).mono (fun _ _ hh => ⟨hh.1, hh.2.symm⟩))))
            all_goals (try go_wp2_with fail)
            all_goals go_roundw
            all_goals try (case rel => exact ⟨m + 1 + 1, by omega, by go_num, HT, Lib.hid (below_drewN HN.out _)⟩)
            all_goals (simp [intOf]; omega)
      · have hT : b = true := by
          obtain ⟨a, hr, -⟩ := HR.out
          rw [List.drop_eq_nil_of_le (by have := HLn.out; omega)] at hr
          exact hr.symm
        subst hT
        go_wp2
        go_ret
        exact ⟨rfl, G2.out.trans (HBW.out.mono G2.out.size)⟩
end Go.Proofs.YtiafmbfeigcinaaGreatDoor
