/-
  Layer 11, the code: the keys of records and versions; whose a key is.
-/
import Derived.Test.YtchebellejkdnaaDoorZ15
set_option linter.unusedVariables false
set_option linter.unusedSimpArgs false
set_option maxRecDepth 100000
namespace Go.Proofs.YtchebellejkdnaaDoor
open Go.RowKit

set_option maxHeartbeats 1000000 in
theorem idOf_c (t : ByteArray) (w : World) (ht : ∀ k, k < t.size → wval ((ob t).take k) < 281474976710656) (hsz : t.size ≤ 140737488351232) :
    Calls Tryd.prog 84 #[.string t] w fun e w' => e = .returned (.int .i64 (wval (ob t))) ∧ Below w.heap.size w w' := by
  obtain ⟨cap, o, kc, hat⟩ := conv_str t w
  have hb0 : Below w.heap.size w (w.drew.alloc o) := (Below.refl _ _).drew.alloc (Nat.le_refl _) _
  have hc := fun h => (hat.at_ h)
  have HB := Lib.hid ht
  have HL := Lib.hid (ob_len t)
  clear hat
  go_enter Tryd.func84, Tryd.ntmps84
  go_wp2
  go_loopw [3, 9] (fun y x wr => ∃ k v : Nat, x = .int .i64 k ∧ y = .int .i64 v ∧ k ≤ t.size ∧ Hid (v = wval ((ob t).take k)) ∧ wr = (w.alloc o).drew) (fun _ x _ => t.size - (intOf x).toNat)
  case atStart => exact ⟨0, 0, rfl, rfl, Nat.zero_le _, rfl, rfl⟩
  case round =>
    obtain ⟨k, v, rfl, rfl, hk, hv, rfl⟩ := hrel
    by_cases hlt : k < t.size
    · have hvb := HB.out k hlt
      rw [← hv.out] at hvb
      have hlk : k < (ob t).length := by rw [HL.out]; exact hlt
      obtain ⟨bb, oo, he, hcell⟩ := hc (by omega)
      injection he with he
      injection he with he1 he2
      subst he1
      subst he2
      have hck0 := hcell k hlk
      rw [Nat.zero_add] at hck0
      have hck : (w.alloc o).cell? ⟨w.heap.size, k, none⟩ = some (.int .u8 ((ob t)[k].toNat : Int)) := hck0
      have hE := wval_step' (ob t) k hlk
      obtain ⟨b, hb⟩ : ∃ b, b = (ob t)[k] := ⟨_, rfl⟩
      rw [← hb] at hck hE
      rw [← hv.out] at hE
      have HE := Lib.hid hE
      have hb256 := b.toNat_lt
      have hor := or_byte v b.toNat hvb hb256
      clear hE hb hlk hcell hc hck0
      go_wp2
      go_roundw
      case rel => exact ⟨k + 1, v * 256 + b.toNat, by go_num, by go_num, by omega, HE.out.symm, trivial⟩
      case measure => simp [intOf]; omega
    · have hkk : k = t.size := by omega
      have HV : Hid (v = wval (ob t)) := by
        have := hv.out
        rw [hkk, ← HL.out, List.take_length] at this
        exact this
      clear hkk hc
      go_wp2
      go_ret
      exact ⟨by rw [HV.out]; rfl, hb0⟩
set_option maxHeartbeats 1000000 in
theorem idText_c (n : Nat) (w : World) (hn : n ≤ 9007199254740991) :
    Calls Tryd.prog 81 #[.int .i64 n] w fun e w' => e = .returned (.string ⟨(wide 8 n).toArray⟩) ∧ Below w.heap.size w w' := by
  have hB0 := Blk.new w 130 #[.int .u8 0, .int .u8 0, .int .u8 0, .int .u8 0, .int .u8 0, .int .u8 0, .int .u8 0, .int .u8 0]
  have HB0 := Lib.hid hB0
  clear hB0
  go_enter Tryd.func81, Tryd.ntmps81
  go_wp2
  go_loopw [5] (fun x wr => ∃ (k : Nat) (cs' : Array Value), x = .int .i64 k ∧ k ≤ 8 ∧ Blk wr w.heap.size 130 cs' ∧ cs'.size = 8 ∧
      Hid (∀ i, i < k → cs'[i]? = ((wide 8 n)[i]?).map bv) ∧ Hid (Below w.heap.size w wr)) (fun x _ => 8 - (intOf x).toNat)
  case atStart => exact ⟨0, _, rfl, Nat.zero_le _, HB0.out, rfl, Lib.hid fun i hi => absurd hi (Nat.not_lt_zero _), Lib.hid (nbl w _)⟩
  case round =>
    obtain ⟨k, cs', rfl, hk, hB', hsz, h1, hbw⟩ := hrel
    by_cases hlt : k < 8
    · have hi : k < cs'.size := by omega
      have hv : Hid ((wide 8 n)[k]? = some (UInt8.ofNat (n / 256 ^ (8 - 1 - k)))) := wide_get 8 n k hlt
      have hc1 : ∃ u, wr.cell? ⟨w.heap.size, k, none⟩ = some u := ⟨_, by rw [hB'.cell, Array.getElem?_eq_getElem hi]⟩
      obtain ⟨u0, hc1⟩ := hc1
      have hc2 : wr.frozen? ⟨w.heap.size, k, none⟩ = false := hB'.frozen _
      go_wp2
      go_roundw
      case rel =>
        refine ⟨k + 1, cs'.setIfInBounds k (.int .u8 ((n : Int) / 2 ^ (8 * (7 - k)) % 256)), by go_num, by omega, hB'.set_ _ _, by rw [Array.size_setIfInBounds]; exact hsz, Lib.hid fun i hi' => ?_, Lib.hid (hbw.out.setCell (Nat.le_refl _) _)⟩
        rw [Array.getElem?_setIfInBounds]
        by_cases hik : i = k
        · subst hik
          rw [if_pos rfl, if_pos hi, hv.out]
          simp only [Option.map_some, bv]
          rw [u8_ofNat, pow_bytes]
          simp
        · rw [if_neg (by omega)]
          exact h1.out i (by omega)
      case measure => simp [intOf]; omega
    · have hkk : k = 8 := by omega
      subst hkk
      have hat : At wr (some ⟨w.heap.size, 0, none⟩) 8 (wide 8 n) := by
        have := hB'.at_ (l := wide 8 n) 0 (fun i hi => by rw [wide_len] at hi; rw [Nat.zero_add]; exact h1.out i hi)
        rw [wide_len] at this
        exact this
      have hcv := hat.conv (P := Tryd.prog) 8 70 5 9 Tryd.underlying70 (by kernel_rfl) Tryd.underlying9
      clear hat hlt
      go_wp2
      go_ret
      exact ⟨rfl, hbw.out⟩
theorem rk_hit (m : UInt8) (k : ByteArray) (r : List UInt8) (h : isK k = true) : rk m (m :: okey (sb k) ++ r) = some (sb k, r) := by
  have hk := isK_iff.1 h
  have e : okey (sb k) ++ r = esc (sb k) ++ 0 :: 0 :: r := by unfold okey; simp
  unfold rk
  rw [if_pos (by rfl)]
  simp only [List.cons_append, List.drop_succ_cons, List.drop_zero]
  rw [e, tkey_okey (sb k) 1000 r (by rw [sb_len]; omega)]
  simp only
  rw [if_pos (by rw [sb_len]; exact hk)]
theorem rk_miss (m c : UInt8) (l : List UInt8) (h : c ≠ m) : rk m (c :: l) = none := by
  unfold rk
  rw [if_neg]
  intro e
  exact h (by simpa using e)
theorem versionKey_c (k : ByteArray) (a b : Int) (w : World) (hM : MaxL w) (h : may a b = true) :
    Calls Tryd.prog 36 #[.string k, sv a b] w fun e w' => e = markK [118] k (odown a b) ∧ Below w.heap.size w w' := by
  have HD := Lib.hid (down a b (w.alloc (.cells #[.int .i64 a, .int .i64 b] 23)) h)
  have hz : (⟨(odown a b).toArray⟩ : ByteArray).size = 9 := odown_len a b
  have e0 : markK (sb ⟨#[118]⟩) k (sb ⟨(odown a b).toArray⟩) = markK [118] k (odown a b) := rfl
  obtain ⟨d, hd⟩ : ∃ d : ByteArray, ⟨(odown a b).toArray⟩ = d := ⟨_, rfl⟩
  rw [hd] at HD hz e0
  obtain ⟨s, n, hs⟩ : ∃ s n, markK [118] k (odown a b) = .returned (.tuple #[.string s, .int .i64 n]) := by
    unfold markK
    split
    · exact ⟨_, _, rfl⟩
    · exact ⟨_, _, rfl⟩
  rw [hs] at e0 ⊢
  have E0 := Lib.hid e0
  clear e0 hs hd
  go_enter Tryd.func36, Tryd.ntmps36
  go_wp2_with (first
    | (go_at_call 78; refine HD.out.mono ?_; rintro e w1 ⟨rfl, hb1⟩; have g1 := (nbl w (.cells #[.int .i64 a, .int .i64 b] 23)).trans (hb1.mono (by simp)))
    | (go_at_call 79; refine (marked_c ⟨#[118]⟩ k d _ (hM.below g1) (by decide) (by omega)).mono ?_; rintro e w2 ⟨he, hb2⟩; rw [E0.out] at he; subst he; have g2 := g1.trans (hb2.mono g1.size)))
  go_ret2
  exact ⟨rfl, g2⟩
theorem recordKey_c (k : ByteArray) (n : Nat) (w : World) (hM : MaxL w) (h1 : 1 ≤ n) (h2 : n ≤ 9007199254740991) :
    Calls Tryd.prog 39 #[.string k, .int .i64 n] w fun e w' => e = markK [116] k (wide 8 n) ∧ Below w.heap.size w w' := by
  have hi : isI (n : Int) = true := isI_iff.2 (by omega)
  have HT := Lib.hid (idText_c n w h2)
  have hz : (⟨(wide 8 n).toArray⟩ : ByteArray).size = 8 := wide_len 8 n
  have e0 : markK (sb ⟨#[116]⟩) k (sb ⟨(wide 8 n).toArray⟩) = markK [116] k (wide 8 n) := rfl
  obtain ⟨d, hd⟩ : ∃ d : ByteArray, ⟨(wide 8 n).toArray⟩ = d := ⟨_, rfl⟩
  rw [hd] at HT hz e0
  obtain ⟨s, q, hs⟩ : ∃ s q, markK [116] k (wide 8 n) = .returned (.tuple #[.string s, .int .i64 q]) := by
    unfold markK
    split
    · exact ⟨_, _, rfl⟩
    · exact ⟨_, _, rfl⟩
  rw [hs] at e0 ⊢
  have E0 := Lib.hid e0
  clear e0 hs hd
  go_enter Tryd.func39, Tryd.ntmps39
  go_wp2_with (first
    | (go_at_call 80; refine (isId_c _ _ hi _).mono ?_; rintro e w1 ⟨rfl, rfl⟩)
    | (go_at_call 81; refine HT.out.mono ?_; rintro e w1 ⟨rfl, g1⟩)
    | (go_at_call 79; refine (marked_c ⟨#[116]⟩ k d _ (hM.below g1) (by decide) (by omega)).mono ?_; rintro e w2 ⟨he, hb2⟩; rw [E0.out] at he; subst he; have g2 := g1.trans (hb2.mono g1.size)))
  go_ret2
  exact ⟨rfl, g2⟩
theorem ret_tct {fn : Func} {R : Ending → World → Prop} {a : Act} {w : World} {p u v : Tmp} {g : Nat} {x y : Int} (hr : fn.results = #[.tmp u, .cell p 23, .tmp v]) (hp : a.tmps.getD p undef = .pointer (some ⟨g, 0, none⟩))
    (hB : Box w g x y) (hd : a.defers = []) (hR : R (.returned (.tuple #[a.tmps.getD u undef, sv x y, a.tmps.getD v undef])) w) : bodyPost Tryd.prog fn R .ret a w := by
  refine bodyPost_ret ?_ hd hR
  have hp' : a.tmps[p]?.getD undef = .pointer (some ⟨g, 0, none⟩) := by simpa using hp
  simp [results, hr, hp', asAddr, run_loadVar_row w g 23 23 _ (0, 0) _ hB Tryd.underlying23 rfl (by kernel_rfl)]
set_option maxHeartbeats 1000000 in
theorem readVersion_no (k : ByteArray) (w : World) (hk : k.size ≤ 150000000000000) (hr : rk 118 (sb k) = none) :
    Calls Tryd.prog 42 #[.string k] w fun e w' => e = .returned (.tuple #[.string ⟨#[]⟩, sv 0 0, .int .i64 4]) ∧ Below w.heap.size w w' := by
  have HC := Lib.hid (readKey_c 118 k (w.alloc (.cells #[.int .i64 0, .int .i64 0] 23)) hk)
  rw [hr] at HC
  have HX := Lib.hid (Blk.new w 23 #[.int .i64 0, .int .i64 0])
  have HT := Lib.hid (fun V => takeDown_short ⟨#[]⟩ V (by decide))
  clear hr
  go_enter Tryd.func42, Tryd.ntmps42
  go_wp2_with (first
    | (go_at_call 82; refine HC.out.mono ?_; rintro e w1 ⟨rfl, hb1⟩; unfold rkA; simp only
       have g1 := (nbl w (.cells #[.int .i64 0, .int .i64 0] 23)).trans (hb1.mono (by simp))
       have k1 : Blk w1 w.heap.size 23 #[.int .i64 0, .int .i64 0] := HX.out.below hb1 (by simp))
    | (go_at_call 83; refine (HT.out _).mono ?_; rintro e w2 ⟨he, hb2⟩
       rw [show TdAns (.error 3) = .returned (.tuple #[sv 0 0, .string ⟨#[]⟩, .int .i64 3]) from rfl] at he
       subst he
       have k2 := k1.below hb2 k1.lt
       have c0 := k2.cell 0
       have c1 := k2.cell 1
       have f0 := k2.frozen 0
       have f1 := k2.frozen 1
       simp at c0 c1
       have g2 := g1.trans (hb2.mono g1.size)))
  refine ret_tct rfl rfl ((k2.all2 (v0 := .int .i64 0) (v1 := .int .i64 0)).all2 (v0 := .int .i64 0) (v1 := .int .i64 0)) rfl ⟨rfl, (((g2.setCell (by exact Nat.le_refl _) _).setCell (by exact Nat.le_refl _) _).setCell (by exact Nat.le_refl _) _).setCell (by exact Nat.le_refl _) _⟩
set_option maxHeartbeats 1000000 in
theorem readVersion_c (k : ByteArray) (w : World) (hk : k.size ≤ 150000000000000) (s : List UInt8) (a b : Int) (h : may a b = true) (hr : rk 118 (sb k) = some (s, odown a b)) :
    Calls Tryd.prog 42 #[.string k] w fun e w' => e = .returned (.tuple #[.string ⟨s.toArray⟩, sv a b, .int .i64 0]) ∧ Below w.heap.size w w' := by
  have HC := Lib.hid (readKey_c 118 k (w.alloc (.cells #[.int .i64 0, .int .i64 0] 23)) hk)
  rw [hr] at HC
  have HX := Lib.hid (Blk.new w 23 #[.int .i64 0, .int .i64 0])
  have hz : 9 ≤ (⟨(odown a b).toArray⟩ : ByteArray).size := Nat.le_of_eq (odown_len a b).symm
  have hz2 : (⟨(odown a b).toArray⟩ : ByteArray).size ≤ 150000000000000 := by rw [show (⟨(odown a b).toArray⟩ : ByteArray).size = 9 from odown_len a b]; omega
  have hT := fun V => takeDown_long ⟨(odown a b).toArray⟩ V hz hz2
  have ho : tdown (ob ⟨(odown a b).toArray⟩) = .ok (a, b, []) := by
    have := tdown_odown a b [] h
    rw [List.append_nil] at this
    exact this
  rw [ho] at hT
  have HT := Lib.hid hT
  obtain ⟨d, hd⟩ : ∃ d : ByteArray, ⟨(odown a b).toArray⟩ = d := ⟨_, rfl⟩
  have hrk : rkA (some (s, odown a b)) = .returned (.tuple #[.string ⟨s.toArray⟩, .string d, .bool true]) := by rw [← hd]; rfl
  rw [hrk] at HC
  rw [hd] at HT
  obtain ⟨q, hq⟩ : ∃ q : ByteArray, ⟨s.toArray⟩ = q := ⟨_, rfl⟩
  rw [hq] at HC ⊢
  clear hr hz hz2 hT ho hd hrk hq
  go_enter Tryd.func42, Tryd.ntmps42
  go_wp2_with (first
    | (go_at_call 82; refine HC.out.mono ?_; rintro e w1 ⟨rfl, hb1⟩
       have g1 := (nbl w (.cells #[.int .i64 0, .int .i64 0] 23)).trans (hb1.mono (by simp))
       have k1 : Blk w1 w.heap.size 23 #[.int .i64 0, .int .i64 0] := HX.out.below hb1 (by simp))
    | (go_at_call 83; refine (HT.out _).mono ?_; rintro e w2 ⟨he, hb2⟩
       rw [show TdAns (.ok (a, b, [])) = .returned (.tuple #[sv a b, .string ⟨#[]⟩, .int .i64 0]) from rfl] at he
       subst he
       have k2 := k1.below hb2 k1.lt
       have c0 := k2.cell 0
       have c1 := k2.cell 1
       have f0 := k2.frozen 0
       have f1 := k2.frozen 1
       simp at c0 c1
       have g2 := g1.trans (hb2.mono g1.size)
       have k3 := k2.all2 (v0 := .int .i64 a) (v1 := .int .i64 b)
       have d0 := k3.cell 0
       have d1 := k3.cell 1
       have e0 := k3.frozen 0
       have e1 := k3.frozen 1
       simp at d0 d1
       have g3 := (g2.setCell (p := ⟨w.heap.size, 0, none⟩) (by exact Nat.le_refl _) (.int .i64 a)).setCell (p := ⟨w.heap.size, 1, none⟩) (by exact Nat.le_refl _) (.int .i64 b)))
  go_region_with (fail)
  all_goals go_wp2
  all_goals refine ret_tct rfl rfl (Blk.all2 (c0 := .int .i64 a) (c1 := .int .i64 b) (by exact k3)) rfl ⟨rfl, ?_⟩
  all_goals first | exact (g3.drew.setCell (by exact Nat.le_refl _) _).setCell (by exact Nat.le_refl _) _ | exact ((below_drewN g3 _).setCell (by exact Nat.le_refl _) _).setCell (by exact Nat.le_refl _) _
theorem wval_app (l m : List UInt8) : wval l * 256 ^ m.length ≤ wval (l ++ m) := by
  rcases List.eq_nil_or_concat m with rfl | ⟨r, x, rfl⟩
  · simp
  · have ih := wval_app l r
    rw [List.concat_eq_append, ← List.append_assoc, wval_snoc, List.length_append, List.length_singleton, Nat.pow_succ, ← Nat.mul_assoc]
    have := Nat.mul_le_mul_right 256 ih
    omega
termination_by m.length
decreasing_by subst_vars; simp
theorem wval_le (n k : Nat) (hn : n ≤ 9007199254740991) (hk : k < 8) : wval ((wide 8 n).take k) < 281474976710656 := by
  have h1 := wval_wide 8 n (by omega)
  have h2 : wide 8 n = (wide 8 n).take k ++ (wide 8 n).drop k := (List.take_append_drop k _).symm
  have hlen : ((wide 8 n).drop k).length = 8 - k := by rw [List.length_drop, wide_len]
  have h4 := wval_app ((wide 8 n).take k) ((wide 8 n).drop k)
  rw [← h2, h1, hlen] at h4
  have h5 : 256 ^ 1 ≤ 256 ^ (8 - k) := Nat.pow_le_pow_right (by decide) (by omega)
  have h6 := Nat.mul_le_mul_left (wval ((wide 8 n).take k)) h5
  omega
theorem readRecord_no (k : ByteArray) (w : World) (hk : k.size ≤ 150000000000000) (hr : rk 116 (sb k) = none) :
    Calls Tryd.prog 44 #[.string k] w fun e w' => e = .returned (.tuple #[.string ⟨#[]⟩, .int .i64 0, .int .i64 4]) ∧ Below w.heap.size w w' := by
  have HC := Lib.hid (readKey_c 116 k w hk)
  rw [hr] at HC
  have HI := Lib.hid (fun V => idOf_c ⟨#[]⟩ V (fun k hk => by have : (⟨#[]⟩ : ByteArray).size = 0 := rfl; omega) (by decide))
  clear hr
  go_enter Tryd.func44, Tryd.ntmps44
  go_wp2_with (first
    | (go_at_call 82; refine HC.out.mono ?_; rintro e w1 ⟨rfl, hb1⟩; unfold rkA; simp only)
    | (go_at_call 84; refine (HI.out _).mono ?_; rintro e w2 ⟨rfl, hb2⟩; have g2 := hb1.trans (hb2.mono hb1.size)))
  go_ret3
  exact ⟨rfl, g2⟩
theorem readRecord_c (k : ByteArray) (w : World) (hk : k.size ≤ 150000000000000) (s : List UInt8) (n : Nat) (h1 : 1 ≤ n) (h2 : n ≤ 9007199254740991) (hr : rk 116 (sb k) = some (s, wide 8 n)) :
    Calls Tryd.prog 44 #[.string k] w fun e w' => e = .returned (.tuple #[.string ⟨s.toArray⟩, .int .i64 n, .int .i64 0]) ∧ Below w.heap.size w w' := by
  have hi : isI (n : Int) = true := isI_iff.2 (by omega)
  have HC := Lib.hid (readKey_c 116 k w hk)
  rw [hr] at HC
  have hz : (⟨(wide 8 n).toArray⟩ : ByteArray).size = 8 := wide_len 8 n
  have hv : wval (ob ⟨(wide 8 n).toArray⟩) = n := wval_wide 8 n (by omega)
  have hI := fun V => idOf_c ⟨(wide 8 n).toArray⟩ V (fun k hk => wval_le n k h2 (by rw [hz] at hk; exact hk)) (by rw [hz]; omega)
  rw [hv] at hI
  obtain ⟨d, hd⟩ : ∃ d : ByteArray, ⟨(wide 8 n).toArray⟩ = d := ⟨_, rfl⟩
  have hrk : rkA (some (s, wide 8 n)) = .returned (.tuple #[.string ⟨s.toArray⟩, .string d, .bool true]) := by rw [← hd]; rfl
  rw [hrk] at HC
  rw [hd] at hI hz
  have HI := Lib.hid hI
  obtain ⟨q, hq⟩ : ∃ q : ByteArray, ⟨s.toArray⟩ = q := ⟨_, rfl⟩
  rw [hq] at HC ⊢
  clear hr hv hI hd hrk hq
  go_enter Tryd.func44, Tryd.ntmps44
  go_wp2_with (first
    | (go_at_call 82; refine HC.out.mono ?_; rintro e w1 ⟨rfl, hb1⟩)
    | (go_at_call 84; refine (HI.out _).mono ?_; rintro e w2 ⟨rfl, hb2⟩; have g2 := hb1.trans (hb2.mono hb1.size))
    | (go_at_call 80; refine (isId_c _ _ hi _).mono ?_; rintro e w3 ⟨rfl, rfl⟩))
  go_ret3
  exact ⟨rfl, g2⟩
end Go.Proofs.YtchebellejkdnaaDoor
