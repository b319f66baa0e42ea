/-
  Layer 11, the code: keys under which something stands; the examples.
  Layer 11: the statements' own examples.
-/
import Derived.Test.YtiafmbfeigcinaaDoorZ15
import Derived.Test.YtiafmbfeigcinaaDoorZ14
set_option linter.unusedVariables false
set_option linter.unusedSimpArgs false
set_option maxRecDepth 100000
namespace Go.Proofs.YtiafmbfeigcinaaDoor
open Go.RowKit

def str2 (l : List UInt8) (e : Int) : Ending := .returned (.tuple #[.string ⟨l.toArray⟩, .int .i64 e])
def markK (m : List UInt8) (k : ByteArray) (b : List UInt8) : Ending := if isK k then str2 (m ++ okey (sb k) ++ b) 0 else str2 [] 2
theorem okey_len (k : ByteArray) (h : k.size ≤ 32) : (okey (sb k)).length ≤ 66 := by
  have := esc_len (ob k)
  rw [ob_len] at this
  show (esc (ob k) ++ [0, 0]).length ≤ 66
  rw [List.length_append]
  simp
  omega
set_option maxHeartbeats 1000000 in
theorem marked_c (m k b : ByteArray) (w : World) (hM : MaxL w) (hm : m.size ≤ 10) (hb : b.size ≤ 100) :
    Calls Tryd.prog 60 #[.string m, .string k, .string b] w fun e w' => e = markK (sb m) k (sb b) ∧ Below w.heap.size w w' := by
  unfold markK
  cases h1 : isK k
  · go_enter Tryd.func60, Tryd.ntmps60
    go_wp2_with (go_at_call 53; refine (isKey_c _ _ h1 _).mono ?_; rintro e w1 ⟨rfl, rfl⟩)
    go_ret2
    exact ⟨rfl, Below.refl _ _⟩
  · have hk := isK_iff.1 h1
    have HK := Lib.hid (key k w (by omega) hM)
    have hl := okey_len k hk.2
    have hq0 : okey (ob k) = okey (sb k) := rfl
    rw [hq0] at HK
    obtain ⟨q, hq⟩ : ∃ q, okey (sb k) = q := ⟨_, rfl⟩
    rw [hq] at HK hl ⊢
    obtain ⟨qb, hqb⟩ : ∃ qb : ByteArray, ⟨q.toArray⟩ = qb := ⟨_, rfl⟩
    rw [hqb] at HK
    have hqs : qb.size ≤ 66 := by rw [← hqb]; exact hl
    have HE := Lib.hid (show (m ++ qb ++ b : ByteArray) = ⟨(sb m ++ q ++ sb b).toArray⟩ by
      apply ByteArray.ext
      rw [← hqb]
      simp [sb])
    clear hqb hq hq0 hl
    go_enter Tryd.func60, Tryd.ntmps60
    go_wp2_with (first
      | (go_at_call 53; refine (isKey_c _ _ h1 _).mono ?_; rintro e w1 ⟨rfl, rfl⟩)
      | (go_at_call 75; refine HK.out.mono ?_; rintro e w1 ⟨rfl, hb1⟩))
    go_ret2
    refine ⟨?_, hb1⟩
    have hE := HE.out
    rw [List.append_assoc] at hE
    simp only [if_true, List.append_assoc]
    unfold str2
    rw [← hE]
    rfl
theorem intentKey_c (k : ByteArray) (w : World) (hM : MaxL w) :
    Calls Tryd.prog 36 #[.string k] w fun e w' => e = markK [105] k [] ∧ Below w.heap.size w w' := by
  have HC := Lib.hid (marked_c ⟨#[105]⟩ k ⟨#[]⟩ w hM (by decide) (by decide))
  have e0 : markK (sb ⟨#[105]⟩) k (sb ⟨#[]⟩) = markK [105] k [] := rfl
  rw [e0] at HC
  obtain ⟨s, n, hs⟩ : ∃ s n, markK [105] k [] = .returned (.tuple #[.string s, .int .i64 n]) := by
    unfold markK
    split
    · exact ⟨_, _, rfl⟩
    · exact ⟨_, _, rfl⟩
  rw [hs] at HC ⊢
  clear e0 hs
  go_enter Tryd.func36, Tryd.ntmps36
  go_wp2_with (go_at_call 60; refine HC.out.mono ?_; rintro e w1 ⟨rfl, hb1⟩)
  go_ret2
  exact ⟨rfl, hb1⟩
theorem bound_c (w : World) : Calls Tryd.prog 40 #[] w fun e w' => e = .returned (.string ⟨#[98]⟩) ∧ w = w' := by
  go_enter Tryd.func40, Tryd.ntmps40
  go_wp2
  go_ret
  exact ⟨rfl, rfl⟩
theorem threshold_no (n : Int) (h : n < 1 ∨ 6 < n) (w : World) : Calls Tryd.prog 35 #[.int .i64 n] w fun e w' => e = str2 [] 2 ∧ Below w.heap.size w w' := by
  rcases h with h | h
  all_goals go_enter Tryd.func35, Tryd.ntmps35
  all_goals go_wp2
  all_goals go_ret2
  all_goals exact ⟨rfl, Below.refl _ _⟩
theorem threshold_c (n : Nat) (h1 : 1 ≤ n) (h6 : n ≤ 6) (w : World) : Calls Tryd.prog 35 #[.int .i64 (n : Int)] w fun e w' => e = str2 [103, UInt8.ofNat n] 0 ∧ Below w.heap.size w w' := by
  have hn : (n : Int) % 256 = (n : Int) := by omega
  have hcv := (at_b (w := w) (x := (n : Int)) (b := UInt8.ofNat n) 5 (by rw [UInt8.toNat_ofNat']; omega)).conv (P := Tryd.prog) 1 43 5 9 Tryd.underlying43 (by kernel_rfl) Tryd.underlying9
  go_enter Tryd.func35, Tryd.ntmps35
  go_wp2
  go_ret2
  exact ⟨rfl, nbl w _⟩
theorem cutPre0 (k : ByteArray) (c : UInt8) (w : World) (b : Bool) (hb : (sb k).head? = some c ↔ b = true) :
    Calls Tryd.prog 76 #[.string k, .string ⟨#[c]⟩] w fun e w' => e = .returned (.tuple #[.string (if b then k.extract 1 k.size else k), .bool b]) ∧ w = w' := by
  have hp : Lib.hasPrefix (ob k) (ob ⟨#[c]⟩) = b := by
    rw [Bool.eq_iff_iff, ← hb]
    show Lib.hasPrefix (sb k) [c] = true ↔ _
    generalize sb k = l
    cases l with
    | nil => simp [Lib.hasPrefix]
    | cons x l =>
      constructor
      · intro h
        have : c = x := by simpa [Lib.hasPrefix, List.isPrefixOf] using h
        rw [this]
        rfl
      · intro h
        have : x = c := by simpa using h
        subst this
        simp [Lib.hasPrefix, List.isPrefixOf]
  have HP := Lib.hid (hasPre0 k ⟨#[c]⟩ b w hp)
  have H1 : Calls Tryd.prog 86 #[.string k, .string ⟨#[c]⟩] w fun e w' => e = .returned (.tuple #[.string (if b then k.extract 1 k.size else k), .bool b]) ∧ w = w' := by
    have hk : b = true → 1 ≤ k.size := by
      intro h
      have := hb.2 h
      rw [← sb_len]
      cases hh : sb k with
      | nil => rw [hh] at this; cases this
      | cons x l => simp
    clear hb hp
    cases b
    · go_enter Tryd.func86, Tryd.ntmps86
      go_wp2_with (go_at_call 93; refine HP.out.mono ?_; rintro e w1 ⟨rfl, rfl⟩)
      go_ret2
      exact ⟨rfl, rfl⟩
    · have hk1 := hk rfl
      have hz : (⟨#[c]⟩ : ByteArray).size = 1 := rfl
      go_enter Tryd.func86, Tryd.ntmps86
      go_wp2_with (go_at_call 93; refine HP.out.mono ?_; rintro e w1 ⟨rfl, rfl⟩)
      go_ret2
      exact ⟨rfl, rfl⟩
  obtain ⟨z, hz⟩ : ∃ z : ByteArray, (if b = true then k.extract 1 k.size else k) = z := ⟨_, rfl⟩
  rw [hz] at H1 ⊢
  have H2 := Lib.hid H1
  clear H1 hp hb HP hz
  go_enter Tryd.func76, Tryd.ntmps76
  go_wp2_with (go_at_call 86; refine H2.out.mono ?_; rintro e w1 ⟨rfl, rfl⟩)
  go_ret2
  exact ⟨rfl, rfl⟩
theorem tkey_err : ∀ (k : Nat) (l : List UInt8) (n x : Nat), l.length ≤ k → tkey n l = .error x → x ≠ 0
  | _, [], n, x, _, h => by rw [tkey_nil] at h; cases h; decide
  | 0, _ :: _, _, _, hl, _ => by simp at hl
  | k + 1, b :: t, n, x, hl, h => by
    simp only [List.length_cons] at hl
    have step : ∀ (u : List UInt8) (c : UInt8), u.length ≤ k → (if n = 0 then (.error 5 : Except Nat (List UInt8 × List UInt8)) else (tkey (n - 1) u).map fun p => (c :: p.1, p.2)) = .error x → x ≠ 0 := by
      intro u c hu h
      split at h
      · cases h; decide
      · cases hr : tkey (n - 1) u with
        | ok p => rw [hr] at h; cases h
        | error y =>
          rw [hr] at h
          have hy := tkey_err k u (n - 1) y hu hr
          cases h
          exact hy
    by_cases hb : b = 0
    · subst hb
      cases t with
      | nil => rw [tkey_zero] at h; cases h; decide
      | cons c t =>
        by_cases c0 : c = 0
        · subst c0; rw [tkey_end] at h; cases h
        · by_cases c1 : c = 1
          · subst c1
            rw [tkey_esc] at h
            exact step t 0 (by simp at hl; omega) h
          · rw [tkey_bad n c0 c1] at h; cases h; decide
    · rw [tkey_byte n hb] at h
      exact step t b (by omega) h
/-- With which key a table's key begins behind a mark, and what stands behind it. -/
def rk (m : UInt8) (k : List UInt8) : Option (List UInt8 × List UInt8) :=
  if k.head? = some m then (match tkey 1000 (k.drop 1) with
    | .ok p => if 1 ≤ p.1.length ∧ p.1.length ≤ 32 then some p else none
    | .error _ => none) else none
def rkA (o : Option (List UInt8 × List UInt8)) : Ending :=
  match o with
  | none => .returned (.tuple #[.string ⟨#[]⟩, .string ⟨#[]⟩, .bool false])
  | some p => .returned (.tuple #[.string ⟨p.1.toArray⟩, .string ⟨p.2.toArray⟩, .bool true])
set_option maxHeartbeats 1000000 in
theorem readKey_c (m : UInt8) (k : ByteArray) (w : World) (hk : k.size ≤ 150000000000000) :
    Calls Tryd.prog 61 #[.string ⟨#[m]⟩, .string k] w fun e w' => e = rkA (rk m (sb k)) ∧ Below w.heap.size w w' := by
  by_cases hh : (sb k).head? = some m
  · have HP := Lib.hid (cutPre0 k m w true ⟨fun _ => rfl, fun _ => hh⟩)
    rw [if_pos rfl] at HP
    have HT := Lib.hid (take (k.extract 1 k.size) w (by rw [ByteArray.size_extract]; omega))
    have e1 : ob (k.extract 1 k.size) = (sb k).drop 1 := ob_sb _ ▸ (sb_end k 1)
    rw [e1] at HT
    unfold rk
    rw [if_pos hh]
    cases ht : tkey 1000 ((sb k).drop 1) with
    | error x =>
      rw [ht] at HT
      have hx : ((x : Int) != 0) = true := by have := tkey_err _ _ _ _ (Nat.le_refl _) ht; simpa using this
      clear ht e1
      go_enter Tryd.func61, Tryd.ntmps61
      go_wp2_with (first
        | (go_at_call 76; refine HP.out.mono ?_; rintro e w1 ⟨rfl, rfl⟩)
        | (go_at_call 77; refine HT.out.mono ?_; rintro e w2 ⟨rfl, hb⟩; rw [TkAns_err]))
      go_ret3
      exact ⟨rfl, hb⟩
    | ok p =>
      rw [ht] at HT
      obtain ⟨s, r⟩ := p
      have hik : isK ⟨s.toArray⟩ = decide (1 ≤ s.length ∧ s.length ≤ 32) := rfl
      simp only
      by_cases h1 : 1 ≤ s.length ∧ s.length ≤ 32
      · rw [if_pos h1]
        rw [decide_eq_true h1] at hik
        clear ht e1 h1
        go_enter Tryd.func61, Tryd.ntmps61
        go_wp2_with (first
          | (go_at_call 76; refine HP.out.mono ?_; rintro e w1 ⟨rfl, rfl⟩)
          | (go_at_call 77; refine HT.out.mono ?_; rintro e w2 ⟨rfl, hb⟩; rw [TkAns_ok])
          | (go_at_call 53; refine (isKey_c _ _ hik _).mono ?_; rintro e w3 ⟨rfl, rfl⟩))
        go_ret3
        exact ⟨rfl, hb⟩
      · rw [if_neg h1]
        rw [decide_eq_false h1] at hik
        clear ht e1 h1
        go_enter Tryd.func61, Tryd.ntmps61
        go_wp2_with (first
          | (go_at_call 76; refine HP.out.mono ?_; rintro e w1 ⟨rfl, rfl⟩)
          | (go_at_call 77; refine HT.out.mono ?_; rintro e w2 ⟨rfl, hb⟩; rw [TkAns_ok])
          | (go_at_call 53; refine (isKey_c _ _ hik _).mono ?_; rintro e w3 ⟨rfl, rfl⟩))
        go_ret3
        exact ⟨rfl, hb⟩
  · have HP := Lib.hid (cutPre0 k m w false ⟨fun h => absurd h hh, fun h => nomatch h⟩)
    rw [if_neg (by simp)] at HP
    unfold rk
    rw [if_neg hh]
    clear hh
    go_enter Tryd.func61, Tryd.ntmps61
    go_wp2_with (go_at_call 76; refine HP.out.mono ?_; rintro e w1 ⟨rfl, rfl⟩)
    go_ret3
    exact ⟨rfl, Below.refl _ _⟩
theorem readIntent_c (k : ByteArray) (w : World) (hk : k.size ≤ 150000000000000) (s : List UInt8) (hr : rk 105 (sb k) = some (s, [])) :
    Calls Tryd.prog 37 #[.string k] w fun e w' => e = str2 s 0 ∧ Below w.heap.size w w' := by
  have HC := Lib.hid (readKey_c 105 k w hk)
  rw [hr] at HC
  clear hr
  go_enter Tryd.func37, Tryd.ntmps37
  go_wp2_with (go_at_call 61; refine HC.out.mono ?_; rintro e w1 ⟨rfl, hb1⟩; unfold rkA; simp only)
  go_ret2
  exact ⟨rfl, hb1⟩
theorem readIntent_no (k : ByteArray) (w : World) (hk : k.size ≤ 150000000000000) (hr : rk 105 (sb k) = none) :
    Calls Tryd.prog 37 #[.string k] w fun e w' => e = str2 [] 4 ∧ Below w.heap.size w w' := by
  have HC := Lib.hid (readKey_c 105 k w hk)
  rw [hr] at HC
  clear hr
  go_enter Tryd.func37, Tryd.ntmps37
  go_wp2_with (go_at_call 61; refine HC.out.mono ?_; rintro e w1 ⟨rfl, hb1⟩; unfold rkA; simp only)
  go_ret2
  exact ⟨rfl, hb1⟩
end Go.Proofs.YtiafmbfeigcinaaDoor
set_option linter.unusedVariables false
set_option linter.unusedSimpArgs false
set_option maxRecDepth 100000
namespace Go.Proofs.YtiafmbfeigcinaaDoor
open Go.RowKit

theorem aw_rk : rk 105 (sb ⟨#[105, 97, 0, 0]⟩) = some ([97], []) := by
  unfold rk
  rw [if_pos (show (sb ⟨#[105, 97, 0, 0]⟩).head? = some 105 from rfl), show (sb ⟨#[105, 97, 0, 0]⟩).drop 1 = esc [97] ++ 0 :: 0 :: [] by rfl, tkey_okey [97] 1000 [] (by decide)]
  rfl
set_option maxHeartbeats 400000 in
theorem awake_c (w : World) (hM : MaxL w) :
    Calls Tryd.prog 12 #[] w fun e w' => e = .returned (.bool true) ∧ Below w.heap.size w w' := by
  have hT2 := threshold_c 2 (by decide) (by decide) w
  rw [show ((2 : Nat) : Int) = 2 from rfl] at hT2
  have T2 := Lib.hid hT2
  clear hT2
  have e2 : str2 [103, UInt8.ofNat 2] 0 = .returned (.tuple #[.string ⟨#[103, 2]⟩, .int .i64 0]) := rfl
  rw [e2] at T2
  have e7 : str2 [] 2 = .returned (.tuple #[.string ⟨#[]⟩, .int .i64 2]) := rfl
  have eK : markK [105] ⟨#[97]⟩ [] = .returned (.tuple #[.string ⟨#[105, 97, 0, 0]⟩, .int .i64 0]) := by kernel_rfl
  have eR : str2 [97] 0 = .returned (.tuple #[.string ⟨#[97]⟩, .int .i64 0]) := rfl
  have v1 : isV ⟨#[120]⟩ true = true := by decide
  have v2 : isV ⟨#[120]⟩ false = false := by decide
  have v3 : isV ⟨#[]⟩ false = true := by decide
  obtain ⟨vx, hvx⟩ : ∃ vx : ByteArray, ⟨(txV ⟨#[120]⟩ true).toArray⟩ = vx := ⟨_, rfl⟩
  obtain ⟨vg, hvg⟩ : ∃ vg : ByteArray, ⟨(txV ⟨#[]⟩ false).toArray⟩ = vg := ⟨_, rfl⟩
  have eV1 : ansT (isV ⟨#[120]⟩ true) (txV ⟨#[120]⟩ true) = .returned (.tuple #[.string vx, .int .i64 0]) := by rw [v1, ← hvx]; rfl
  have eV2 : ansT (isV ⟨#[120]⟩ false) (txV ⟨#[120]⟩ false) = .returned (.tuple #[.string ⟨#[]⟩, .int .i64 2]) := by rw [v2]; rfl
  have eV3 : ansT (isV ⟨#[]⟩ false) (txV ⟨#[]⟩ false) = .returned (.tuple #[.string vg, .int .i64 0]) := by rw [v3, ← hvg]; rfl
  have eT1 : AnsV (tkV (sb vx)) = .returned (.tuple #[.string ⟨#[120]⟩, .bool true, .int .i64 0]) := by
    rw [← hvx]
    show AnsV (tkV (txV ⟨#[120]⟩ true)) = _
    rw [tkV_tx _ _ v1]
    rfl
  have eT2 : AnsV (tkV (sb vg)) = .returned (.tuple #[.string ⟨#[]⟩, .bool false, .int .i64 0]) := by
    rw [← hvg]
    show AnsV (tkV (txV ⟨#[]⟩ false)) = _
    rw [tkV_tx _ _ v3]
    rfl
  have z1 : vx.size ≤ 225000000000000 := by
    rw [← hvx]
    show (txV ⟨#[120]⟩ true).length ≤ _
    have := txV_len _ _ v1
    omega
  have z2 : vg.size ≤ 225000000000000 := by
    rw [← hvg]
    show (txV ⟨#[]⟩ false).length ≤ _
    have := txV_len _ _ v3
    omega
  clear hvx hvg v1 v2 v3 e2
  have z3 : (⟨#[105, 97, 0, 0]⟩ : ByteArray).size ≤ 150000000000000 := by decide
  have E7 := Lib.hid e7
  have EK := Lib.hid eK
  have ER := Lib.hid eR
  have EV1 := Lib.hid eV1
  have EV2 := Lib.hid eV2
  have EV3 := Lib.hid eV3
  have ET1 := Lib.hid eT1
  have ET2 := Lib.hid eT2
  clear e7 eK eR eV1 eV2 eV3 eT1 eT2
  go_enter Tryd.func12, Tryd.ntmps12
  go_wp2_with (first
    | (go_at_call 35; with_reducible refine T2.out.mono ?_; rintro e w1 ⟨rfl, b1⟩; clear T2)
    | (go_at_call 35; with_reducible refine (threshold_no 7 (.inr (by decide)) _).mono ?_; rintro e w2 ⟨he, b2⟩; rw [E7.out] at he; subst he; have b2 := b1.trans (b2.mono b1.size); have m2 := hM.below b2)
    | (go_at_call 36; with_reducible refine (intentKey_c ⟨#[97]⟩ _ m2).mono ?_; rintro e w3 ⟨he, b3⟩; rw [EK.out] at he; subst he; have b3 := b2.trans (b3.mono b2.size))
    | (go_at_call 37; with_reducible refine (readIntent_c ⟨#[105, 97, 0, 0]⟩ _ z3 _ aw_rk).mono ?_; rintro e w4 ⟨he, b4⟩; rw [ER.out] at he; subst he; have b4 := b3.trans (b4.mono b3.size))
    | (go_at_call 38; with_reducible refine (version_c ⟨#[120]⟩ true _).mono ?_; rintro e w5 ⟨he, b5⟩; rw [EV1.out] at he; subst he; have b5 := b4.trans (b5.mono b4.size))
    | (go_at_call 38; with_reducible refine (version_c ⟨#[120]⟩ false _).mono ?_; rintro e w6 ⟨he, b6⟩; rw [EV2.out] at he; subst he; have b6 := b5.trans (b6.mono b5.size))
    | (go_at_call 38; with_reducible refine (version_c ⟨#[]⟩ false _).mono ?_; rintro e w7 ⟨he, b7⟩; rw [EV3.out] at he; subst he; have b7 := b6.trans (b7.mono b6.size))
    | (go_at_call 39; with_reducible refine (takeV_c vx _ z1).mono ?_; rintro e w8 ⟨he, b8⟩; rw [ET1.out] at he; subst he; have b8 := b7.trans (b8.mono b7.size))
    | (go_at_call 39; with_reducible refine (takeV_c vg _ z2).mono ?_; rintro e w9 ⟨he, b9⟩; rw [ET2.out] at he; subst he; have b9 := b8.trans (b9.mono b8.size))
    | (go_at_call 40; with_reducible refine (bound_c _).mono ?_; rintro e w10 ⟨rfl, rfl⟩))
  go_ret
  exact ⟨rfl, b9⟩
end Go.Proofs.YtiafmbfeigcinaaDoor
