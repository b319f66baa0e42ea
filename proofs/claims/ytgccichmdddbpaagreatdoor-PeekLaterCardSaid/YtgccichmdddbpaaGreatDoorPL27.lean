/-
  Layer 11, the code: keys under which something stands; the examples.
  Layer 11: the statements' own examples.
  Layer 11, the code: Intent, Record.
  Layer 11, the code: the keys of records and versions; whose a key is.
  CellKinds: the walk.
  What stands for what in order: keys with marks, by the order of bytes.
  Layer 11: the document's head, MayIntent.
  Layer 11, the document's answers: numbers, stamps, versions as texts.
-/
import Derived.Test.YtgccichmdddbpaaGreatDoorPL26
import Derived.Test.YtgccichmdddbpaaGreatDoorPL24
import Derived.Test.YtgccichmdddbpaaGreatDoorPL21
set_option linter.unusedVariables false
set_option linter.unusedSimpArgs false
set_option maxRecDepth 100000
namespace Go.Proofs.YtgccichmdddbpaaGreatDoor
open Go.RowKit

def str2 (l : List UInt8) (e : Int) : Ending := .returned (.tuple #[.string ⟨l.toArray⟩, .int .i64 e])
def markK (m : List UInt8) (k : ByteArray) (b : List UInt8) : Ending := if isK k then str2 (m ++ okey (sb k) ++ b) 0 else str2 [] 2
theorem okey_len (k : ByteArray) (h : k.size ≤ 32) : (okey (sb k)).length ≤ 66 := by
  have := esc_len (ob k)
  rw [ob_len] at this
  show (esc (ob k) ++ [0, 0]).length ≤ 66
  rw [List.length_append]
  simp
  omega
set_option maxHeartbeats 1000000 in
theorem marked_c (m k b : ByteArray) (w : World) (hM : MaxL w) (hm : m.size ≤ 10) (hb : b.size ≤ 100) :
    Calls Tryz.prog 134 #[.string m, .string k, .string b] w fun e w' => e = markK (sb m) k (sb b) ∧ Below w.heap.size w w' := by
  unfold markK
  cases h1 : isK k
  · go_enter Tryz.func134, Tryz.ntmps134
    go_wp2_with (go_at_call 178; refine (isKey_c _ _ h1 _).mono ?_; rintro e w1 ⟨rfl, rfl⟩)
    go_ret2
    exact ⟨rfl, Below.refl _ _⟩
  · have hk := isK_iff.1 h1
    have HK := Lib.hid (key k w (by omega) hM)
    have hl := okey_len k hk.2
    have hq0 : okey (ob k) = okey (sb k) := rfl
    rw [hq0] at HK
    obtain ⟨q, hq⟩ : ∃ q, okey (sb k) = q := ⟨_, rfl⟩
    rw [hq] at HK hl ⊢
    obtain ⟨qb, hqb⟩ : ∃ qb : ByteArray, ⟨q.toArray⟩ = qb := ⟨_, rfl⟩
    rw [hqb] at HK
    have hqs : qb.size ≤ 66 := by rw [← hqb]; exact hl
    have HE := Lib.hid (show (m ++ qb ++ b : ByteArray) = ⟨(sb m ++ q ++ sb b).toArray⟩ by
      apply ByteArray.ext
      rw [← hqb]
      simp [sb])
    clear hqb hq hq0 hl
    go_enter Tryz.func134, Tryz.ntmps134
    go_wp2_with (first
      | (go_at_call 178; refine (isKey_c _ _ h1 _).mono ?_; rintro e w1 ⟨rfl, rfl⟩)
      | (go_at_call 179; refine HK.out.mono ?_; rintro e w1 ⟨rfl, hb1⟩))
    go_ret2
    refine ⟨?_, hb1⟩
    have hE := HE.out
    rw [List.append_assoc] at hE
    simp only [if_true, List.append_assoc]
    unfold str2
    rw [← hE]
    rfl
theorem intentKey_c (k : ByteArray) (w : World) (hM : MaxL w) :
    Calls Tryz.prog 89 #[.string k] w fun e w' => e = markK [105] k [] ∧ Below w.heap.size w w' := by
  have HC := Lib.hid (marked_c ⟨#[105]⟩ k ⟨#[]⟩ w hM (by decide) (by decide))
  have e0 : markK (sb ⟨#[105]⟩) k (sb ⟨#[]⟩) = markK [105] k [] := rfl
  rw [e0] at HC
  obtain ⟨s, n, hs⟩ : ∃ s n, markK [105] k [] = .returned (.tuple #[.string s, .int .i64 n]) := by
    unfold markK
    split
    · exact ⟨_, _, rfl⟩
    · exact ⟨_, _, rfl⟩
  rw [hs] at HC ⊢
  clear e0 hs
  go_enter Tryz.func89, Tryz.ntmps89
  go_wp2_with (go_at_call 134; refine HC.out.mono ?_; rintro e w1 ⟨rfl, hb1⟩)
  go_ret2
  exact ⟨rfl, hb1⟩
theorem cutPre0 (k : ByteArray) (c : UInt8) (w : World) (b : Bool) (hb : (sb k).head? = some c ↔ b = true) :
    Calls Tryz.prog 212 #[.string k, .string ⟨#[c]⟩] w fun e w' => e = .returned (.tuple #[.string (if b then k.extract 1 k.size else k), .bool b]) ∧ w = w' := by
  have hp : Lib.hasPrefix (ob k) (ob ⟨#[c]⟩) = b := by
    rw [Bool.eq_iff_iff, ← hb]
    show Lib.hasPrefix (sb k) [c] = true ↔ _
    generalize sb k = l
    cases l with
    | nil => simp [Lib.hasPrefix]
    | cons x l =>
      constructor
      · intro h
        have : c = x := by simpa [Lib.hasPrefix, List.isPrefixOf] using h
        rw [this]
        rfl
      · intro h
        have : x = c := by simpa using h
        subst this
        simp [Lib.hasPrefix, List.isPrefixOf]
  have HP := Lib.hid (hasPre0 k ⟨#[c]⟩ b w hp)
  have H1 : Calls Tryz.prog 219 #[.string k, .string ⟨#[c]⟩] w fun e w' => e = .returned (.tuple #[.string (if b then k.extract 1 k.size else k), .bool b]) ∧ w = w' := by
    have hk : b = true → 1 ≤ k.size := by
      intro h
      have := hb.2 h
      rw [← sb_len]
      cases hh : sb k with
      | nil => rw [hh] at this; cases this
      | cons x l => simp
    clear hb hp
    cases b
    · go_enter Tryz.func219, Tryz.ntmps219
      go_wp2_with (go_at_call 227; refine HP.out.mono ?_; rintro e w1 ⟨rfl, rfl⟩)
      go_ret2
      exact ⟨rfl, rfl⟩
    · have hk1 := hk rfl
      have hz : (⟨#[c]⟩ : ByteArray).size = 1 := rfl
      go_enter Tryz.func219, Tryz.ntmps219
      go_wp2_with (go_at_call 227; refine HP.out.mono ?_; rintro e w1 ⟨rfl, rfl⟩)
      go_ret2
      exact ⟨rfl, rfl⟩
  obtain ⟨z, hz⟩ : ∃ z : ByteArray, (if b = true then k.extract 1 k.size else k) = z := ⟨_, rfl⟩
  rw [hz] at H1 ⊢
  have H2 := Lib.hid H1
  clear H1 hp hb HP hz
  go_enter Tryz.func212, Tryz.ntmps212
  go_wp2_with (go_at_call 219; refine H2.out.mono ?_; rintro e w1 ⟨rfl, rfl⟩)
  go_ret2
  exact ⟨rfl, rfl⟩
theorem tkey_err : ∀ (k : Nat) (l : List UInt8) (n x : Nat), l.length ≤ k → tkey n l = .error x → x ≠ 0
  | _, [], n, x, _, h => by rw [tkey_nil] at h; cases h; decide
  | 0, _ :: _, _, _, hl, _ => by simp at hl
  | k + 1, b :: t, n, x, hl, h => by
    simp only [List.length_cons] at hl
    have step : ∀ (u : List UInt8) (c : UInt8), u.length ≤ k → (if n = 0 then (.error 5 : Except Nat (List UInt8 × List UInt8)) else (tkey (n - 1) u).map fun p => (c :: p.1, p.2)) = .error x → x ≠ 0 := by
      intro u c hu h
      split at h
      · cases h; decide
      · cases hr : tkey (n - 1) u with
        | ok p => rw [hr] at h; cases h
        | error y =>
          rw [hr] at h
          have hy := tkey_err k u (n - 1) y hu hr
          cases h
          exact hy
    by_cases hb : b = 0
    · subst hb
      cases t with
      | nil => rw [tkey_zero] at h; cases h; decide
      | cons c t =>
        by_cases c0 : c = 0
        · subst c0; rw [tkey_end] at h; cases h
        · by_cases c1 : c = 1
          · subst c1
            rw [tkey_esc] at h
            exact step t 0 (by simp at hl; omega) h
          · rw [tkey_bad n c0 c1] at h; cases h; decide
    · rw [tkey_byte n hb] at h
      exact step t b (by omega) h
/-- With which key a table's key begins behind a mark, and what stands behind it. -/
def rk (m : UInt8) (k : List UInt8) : Option (List UInt8 × List UInt8) :=
  if k.head? = some m then (match tkey 1000 (k.drop 1) with
    | .ok p => if 1 ≤ p.1.length ∧ p.1.length ≤ 32 then some p else none
    | .error _ => none) else none
def rkA (o : Option (List UInt8 × List UInt8)) : Ending :=
  match o with
  | none => .returned (.tuple #[.string ⟨#[]⟩, .string ⟨#[]⟩, .bool false])
  | some p => .returned (.tuple #[.string ⟨p.1.toArray⟩, .string ⟨p.2.toArray⟩, .bool true])
set_option maxHeartbeats 1000000 in
theorem readKey_c (m : UInt8) (k : ByteArray) (w : World) (hk : k.size ≤ 150000000000000) :
    Calls Tryz.prog 192 #[.string ⟨#[m]⟩, .string k] w fun e w' => e = rkA (rk m (sb k)) ∧ Below w.heap.size w w' := by
  by_cases hh : (sb k).head? = some m
  · have HP := Lib.hid (cutPre0 k m w true ⟨fun _ => rfl, fun _ => hh⟩)
    rw [if_pos rfl] at HP
    have HT := Lib.hid (take (k.extract 1 k.size) w (by rw [ByteArray.size_extract]; omega))
    have e1 : ob (k.extract 1 k.size) = (sb k).drop 1 := ob_sb _ ▸ (sb_end k 1)
    rw [e1] at HT
    unfold rk
    rw [if_pos hh]
    cases ht : tkey 1000 ((sb k).drop 1) with
    | error x =>
      rw [ht] at HT
      have hx : ((x : Int) != 0) = true := by have := tkey_err _ _ _ _ (Nat.le_refl _) ht; simpa using this
      clear ht e1
      go_enter Tryz.func192, Tryz.ntmps192
      go_wp2_with (first
        | (go_at_call 212; refine HP.out.mono ?_; rintro e w1 ⟨rfl, rfl⟩)
        | (go_at_call 213; refine HT.out.mono ?_; rintro e w2 ⟨rfl, hb⟩; rw [TkAns_err]))
      go_ret3
      exact ⟨rfl, hb⟩
    | ok p =>
      rw [ht] at HT
      obtain ⟨s, r⟩ := p
      have hik : isK ⟨s.toArray⟩ = decide (1 ≤ s.length ∧ s.length ≤ 32) := rfl
      simp only
      by_cases h1 : 1 ≤ s.length ∧ s.length ≤ 32
      · rw [if_pos h1]
        rw [decide_eq_true h1] at hik
        clear ht e1 h1
        go_enter Tryz.func192, Tryz.ntmps192
        go_wp2_with (first
          | (go_at_call 212; refine HP.out.mono ?_; rintro e w1 ⟨rfl, rfl⟩)
          | (go_at_call 213; refine HT.out.mono ?_; rintro e w2 ⟨rfl, hb⟩; rw [TkAns_ok])
          | (go_at_call 178; refine (isKey_c _ _ hik _).mono ?_; rintro e w3 ⟨rfl, rfl⟩))
        go_ret3
        exact ⟨rfl, hb⟩
      · rw [if_neg h1]
        rw [decide_eq_false h1] at hik
        clear ht e1 h1
        go_enter Tryz.func192, Tryz.ntmps192
        go_wp2_with (first
          | (go_at_call 212; refine HP.out.mono ?_; rintro e w1 ⟨rfl, rfl⟩)
          | (go_at_call 213; refine HT.out.mono ?_; rintro e w2 ⟨rfl, hb⟩; rw [TkAns_ok])
          | (go_at_call 178; refine (isKey_c _ _ hik _).mono ?_; rintro e w3 ⟨rfl, rfl⟩))
        go_ret3
        exact ⟨rfl, hb⟩
  · have HP := Lib.hid (cutPre0 k m w false ⟨fun h => absurd h hh, fun h => nomatch h⟩)
    rw [if_neg (by simp)] at HP
    unfold rk
    rw [if_neg hh]
    clear hh
    go_enter Tryz.func192, Tryz.ntmps192
    go_wp2_with (go_at_call 212; refine HP.out.mono ?_; rintro e w1 ⟨rfl, rfl⟩)
    go_ret3
    exact ⟨rfl, Below.refl _ _⟩
end Go.Proofs.YtgccichmdddbpaaGreatDoor
set_option linter.unusedVariables false
set_option linter.unusedSimpArgs false
set_option maxRecDepth 100000
namespace Go.Proofs.YtgccichmdddbpaaGreatDoor
open Go.RowKit

end Go.Proofs.YtgccichmdddbpaaGreatDoor
set_option linter.unusedVariables false
set_option linter.unusedSimpArgs false
set_option maxRecDepth 100000
namespace Go.Proofs.YtgccichmdddbpaaGreatDoor
open Go.RowKit

end Go.Proofs.YtgccichmdddbpaaGreatDoor
set_option linter.unusedVariables false
set_option linter.unusedSimpArgs false
set_option maxRecDepth 100000
namespace Go.Proofs.YtgccichmdddbpaaGreatDoor
open Go.RowKit

theorem versionKey_c (k : ByteArray) (a b : Int) (w : World) (hM : MaxL w) (h : may a b = true) :
    Calls Tryz.prog 149 #[.string k, sv a b] w fun e w' => e = markK [118] k (odown a b) ∧ Below w.heap.size w w' := by
  have HD := Lib.hid (down a b (w.alloc (.cells #[.int .i64 a, .int .i64 b] 26)) h)
  have hz : (⟨(odown a b).toArray⟩ : ByteArray).size = 9 := odown_len a b
  have e0 : markK (sb ⟨#[118]⟩) k (sb ⟨(odown a b).toArray⟩) = markK [118] k (odown a b) := rfl
  obtain ⟨d, hd⟩ : ∃ d : ByteArray, ⟨(odown a b).toArray⟩ = d := ⟨_, rfl⟩
  rw [hd] at HD hz e0
  obtain ⟨s, n, hs⟩ : ∃ s n, markK [118] k (odown a b) = .returned (.tuple #[.string s, .int .i64 n]) := by
    unfold markK
    split
    · exact ⟨_, _, rfl⟩
    · exact ⟨_, _, rfl⟩
  rw [hs] at e0 ⊢
  have E0 := Lib.hid e0
  clear e0 hs hd
  go_enter Tryz.func149, Tryz.ntmps149
  go_wp2_with (first
    | (go_at_call 191; refine HD.out.mono ?_; rintro e w1 ⟨rfl, hb1⟩; have g1 := (nbl w (.cells #[.int .i64 a, .int .i64 b] 26)).trans (hb1.mono (by simp)))
    | (go_at_call 134; refine (marked_c ⟨#[118]⟩ k d _ (hM.below g1) (by decide) (by omega)).mono ?_; rintro e w2 ⟨he, hb2⟩; rw [E0.out] at he; subst he; have g2 := g1.trans (hb2.mono g1.size)))
  go_ret2
  exact ⟨rfl, g2⟩
theorem ret_tct {fn : Func} {R : Ending → World → Prop} {a : Act} {w : World} {p u v : Tmp} {g : Nat} {x y : Int} (hr : fn.results = #[.tmp u, .cell p 26, .tmp v]) (hp : a.tmps.getD p undef = .pointer (some ⟨g, 0, none⟩))
    (hB : Box w g x y) (hd : a.defers = []) (hR : R (.returned (.tuple #[a.tmps.getD u undef, sv x y, a.tmps.getD v undef])) w) : bodyPost Tryz.prog fn R .ret a w := by
  refine bodyPost_ret ?_ hd hR
  have hp' : a.tmps[p]?.getD undef = .pointer (some ⟨g, 0, none⟩) := by simpa using hp
  simp [results, hr, hp', asAddr, run_loadVar_row w g 26 26 _ (0, 0) _ hB Tryz.underlying26 rfl (by kernel_rfl)]
set_option maxHeartbeats 1000000 in
theorem readVersion_no (k : ByteArray) (w : World) (hk : k.size ≤ 150000000000000) (hr : rk 118 (sb k) = none) :
    Calls Tryz.prog 150 #[.string k] w fun e w' => e = .returned (.tuple #[.string ⟨#[]⟩, sv 0 0, .int .i64 4]) ∧ Below w.heap.size w w' := by
  have HC := Lib.hid (readKey_c 118 k (w.alloc (.cells #[.int .i64 0, .int .i64 0] 26)) hk)
  rw [hr] at HC
  have HX := Lib.hid (Blk.new w 26 #[.int .i64 0, .int .i64 0])
  have HT := Lib.hid (fun V => takeDown_short ⟨#[]⟩ V (by decide))
  clear hr
  go_enter Tryz.func150, Tryz.ntmps150
  go_wp2_with (first
    | (go_at_call 192; refine HC.out.mono ?_; rintro e w1 ⟨rfl, hb1⟩; unfold rkA; simp only
       have g1 := (nbl w (.cells #[.int .i64 0, .int .i64 0] 26)).trans (hb1.mono (by simp))
       have k1 : Blk w1 w.heap.size 26 #[.int .i64 0, .int .i64 0] := HX.out.below hb1 (by simp))
    | (go_at_call 193; refine (HT.out _).mono ?_; rintro e w2 ⟨he, hb2⟩
       rw [show TdAns (.error 3) = .returned (.tuple #[sv 0 0, .string ⟨#[]⟩, .int .i64 3]) from rfl] at he
       subst he
       have k2 := k1.below hb2 k1.lt
       have c0 := k2.cell 0
       have c1 := k2.cell 1
       have f0 := k2.frozen 0
       have f1 := k2.frozen 1
       simp at c0 c1
       have g2 := g1.trans (hb2.mono g1.size)))
  refine ret_tct rfl rfl ((k2.all2 (v0 := .int .i64 0) (v1 := .int .i64 0)).all2 (v0 := .int .i64 0) (v1 := .int .i64 0)) rfl ⟨rfl, (((g2.setCell (by exact Nat.le_refl _) _).setCell (by exact Nat.le_refl _) _).setCell (by exact Nat.le_refl _) _).setCell (by exact Nat.le_refl _) _⟩
set_option maxHeartbeats 1000000 in
theorem readVersion_c (k : ByteArray) (w : World) (hk : k.size ≤ 150000000000000) (s : List UInt8) (a b : Int) (h : may a b = true) (hr : rk 118 (sb k) = some (s, odown a b)) :
    Calls Tryz.prog 150 #[.string k] w fun e w' => e = .returned (.tuple #[.string ⟨s.toArray⟩, sv a b, .int .i64 0]) ∧ Below w.heap.size w w' := by
  have HC := Lib.hid (readKey_c 118 k (w.alloc (.cells #[.int .i64 0, .int .i64 0] 26)) hk)
  rw [hr] at HC
  have HX := Lib.hid (Blk.new w 26 #[.int .i64 0, .int .i64 0])
  have hz : 9 ≤ (⟨(odown a b).toArray⟩ : ByteArray).size := Nat.le_of_eq (odown_len a b).symm
  have hz2 : (⟨(odown a b).toArray⟩ : ByteArray).size ≤ 150000000000000 := by rw [show (⟨(odown a b).toArray⟩ : ByteArray).size = 9 from odown_len a b]; omega
  have hT := fun V => takeDown_long ⟨(odown a b).toArray⟩ V hz hz2
  have ho : tdown (ob ⟨(odown a b).toArray⟩) = .ok (a, b, []) := by
    have := tdown_odown a b [] h
    rw [List.append_nil] at this
    exact this
  rw [ho] at hT
  have HT := Lib.hid hT
  obtain ⟨d, hd⟩ : ∃ d : ByteArray, ⟨(odown a b).toArray⟩ = d := ⟨_, rfl⟩
  have hrk : rkA (some (s, odown a b)) = .returned (.tuple #[.string ⟨s.toArray⟩, .string d, .bool true]) := by rw [← hd]; rfl
  rw [hrk] at HC
  rw [hd] at HT
  obtain ⟨q, hq⟩ : ∃ q : ByteArray, ⟨s.toArray⟩ = q := ⟨_, rfl⟩
  rw [hq] at HC ⊢
  clear hr hz hz2 hT ho hd hrk hq
  go_enter Tryz.func150, Tryz.ntmps150
  go_wp2_with (first
    | (go_at_call 192; refine HC.out.mono ?_; rintro e w1 ⟨rfl, hb1⟩
       have g1 := (nbl w (.cells #[.int .i64 0, .int .i64 0] 26)).trans (hb1.mono (by simp))
       have k1 : Blk w1 w.heap.size 26 #[.int .i64 0, .int .i64 0] := HX.out.below hb1 (by simp))
    | (go_at_call 193; refine (HT.out _).mono ?_; rintro e w2 ⟨he, hb2⟩
       rw [show TdAns (.ok (a, b, [])) = .returned (.tuple #[sv a b, .string ⟨#[]⟩, .int .i64 0]) from rfl] at he
       subst he
       have k2 := k1.below hb2 k1.lt
       have c0 := k2.cell 0
       have c1 := k2.cell 1
       have f0 := k2.frozen 0
       have f1 := k2.frozen 1
       simp at c0 c1
       have g2 := g1.trans (hb2.mono g1.size)
       have k3 := k2.all2 (v0 := .int .i64 a) (v1 := .int .i64 b)
       have d0 := k3.cell 0
       have d1 := k3.cell 1
       have e0 := k3.frozen 0
       have e1 := k3.frozen 1
       simp at d0 d1
       have g3 := (g2.setCell (p := ⟨w.heap.size, 0, none⟩) (by exact Nat.le_refl _) (.int .i64 a)).setCell (p := ⟨w.heap.size, 1, none⟩) (by exact Nat.le_refl _) (.int .i64 b)))
  go_region_with (fail)
  all_goals go_wp2
  all_goals refine ret_tct rfl rfl (Blk.all2 (c0 := .int .i64 a) (c1 := .int .i64 b) (by exact k3)) rfl ⟨rfl, ?_⟩
  all_goals first | exact (g3.drew.setCell (by exact Nat.le_refl _) _).setCell (by exact Nat.le_refl _) _ | exact ((below_drewN g3 _).setCell (by exact Nat.le_refl _) _).setCell (by exact Nat.le_refl _) _
end Go.Proofs.YtgccichmdddbpaaGreatDoor
set_option linter.unusedVariables false
set_option linter.unusedSimpArgs false
set_option maxRecDepth 100000
namespace Go.Proofs.YtgccichmdddbpaaGreatDoor
open Go.RowKit

/-- Two stamps in blocks, and what is older stays. -/
abbrev S4 (w : World) (g1 g2 : Nat) (p o a b : Int) (V : World) : Prop :=
  V.cell? ⟨g1, 0, none⟩ = some (.int .i64 p) ∧ V.cell? ⟨g1, 1, none⟩ = some (.int .i64 o) ∧ V.cell? ⟨g2, 0, none⟩ = some (.int .i64 a) ∧ V.cell? ⟨g2, 1, none⟩ = some (.int .i64 b) ∧ Below w.heap.size w V
theorem S4.bel {w V : World} {g1 g2 : Nat} {p o a b : Int} (h : S4 w g1 g2 p o a b V) : Below w.heap.size w V := h.2.2.2.2
theorem S4.keep {w V V' : World} {g1 g2 : Nat} {p o a b : Int} (h : S4 w g1 g2 p o a b V) (hb : Below V.heap.size V V') : S4 w g1 g2 p o a b V' :=
  ⟨kept_below hb _ _ h.1, kept_below hb _ _ h.2.1, kept_below hb _ _ h.2.2.1, kept_below hb _ _ h.2.2.2.1, h.2.2.2.2.trans (hb.mono h.2.2.2.2.size)⟩
theorem S4.call {w V : World} {g1 g2 : Nat} {p o a b : Int} {f : FuncId} {args : Array Value} {v : Value} (h : S4 w g1 g2 p o a b V) (hc : Calls Tryz.prog f args V fun e V' => e = .returned v ∧ Below V.heap.size V V') :
    Calls Tryz.prog f args V fun e V' => e = .returned v ∧ S4 w g1 g2 p o a b V' := hc.mono fun _ _ hh => ⟨hh.1, h.keep hh.2⟩
end Go.Proofs.YtgccichmdddbpaaGreatDoor
set_option linter.unusedVariables false
set_option linter.unusedSimpArgs false
set_option maxRecDepth 100000
namespace Go.Proofs.YtgccichmdddbpaaGreatDoor
open Go.RowKit

theorem cmp3 : ∀ l m : List UInt8, (Lib.compareBytes l m = -1 ∧ Op.bytesLess l m = true ∧ (l == m) = false) ∨ (Lib.compareBytes l m = 0 ∧ Op.bytesLess l m = false ∧ (l == m) = true) ∨ (Lib.compareBytes l m = 1 ∧ Op.bytesLess l m = false ∧ (l == m) = false)
  | [], [] => Or.inr (Or.inl ⟨rfl, rfl, rfl⟩)
  | [], _ :: _ => Or.inl ⟨rfl, rfl, rfl⟩
  | _ :: _, [] => Or.inr (Or.inr ⟨rfl, rfl, rfl⟩)
  | a :: x, b :: y => by
    rw [Lib.compareBytes, Op.bytesLess]
    by_cases h : a < b
    · refine Or.inl ⟨by rw [if_pos h], by simp [h], ?_⟩
      have : a ≠ b := fun e => by rw [e] at h; exact UInt8.lt_irrefl _ h
      simp [this]
    · by_cases h2 : b < a
      · refine Or.inr (Or.inr ⟨by rw [if_neg h, if_pos h2], ?_, ?_⟩)
        · have : a ≠ b := fun e => by rw [e] at h2; exact UInt8.lt_irrefl _ h2
          simp [h, this]
        · have : a ≠ b := fun e => by rw [e] at h2; exact UInt8.lt_irrefl _ h2
          simp [this]
      · have e : a = b := UInt8.le_antisymm (UInt8.not_lt.1 h2) (UInt8.not_lt.1 h)
        subst e
        rw [if_neg h, if_neg h]
        rcases cmp3 x y with ⟨h1, h2, h3⟩ | ⟨h1, h2, h3⟩ | ⟨h1, h2, h3⟩
        · exact Or.inl ⟨h1, by simp [h, h2], by simpa using h3⟩
        · exact Or.inr (Or.inl ⟨h1, by simp [h, h2], by simpa using h3⟩)
        · exact Or.inr (Or.inr ⟨h1, by simp [h, h2], by simpa using h3⟩)
theorem odown_cmp (a b c d : Int) (h : may a b = true) (h' : may c d = true) :
    Lib.compareBytes (odown a b) (odown c d) = if c < a ∨ (a = c ∧ d < b) then -1 else if a = c ∧ b = d then 0 else 1 := by
  obtain ⟨h1, h2, h3, h4⟩ := of_decide_eq_true h
  obtain ⟨k1, k2, k3, k4⟩ := of_decide_eq_true h'
  unfold odown
  rw [cmp_app _ _ _ _ (by rw [wide_len, wide_len]), cmp_wide 6 _ _ (by omega) (by omega), cmp_wide 3 _ _ (by omega) (by omega)]
  unfold cmpI
  repeat' split
  all_goals first | rfl | omega
theorem cmp_mark (m : UInt8) (s t x y : List UInt8) : Lib.compareBytes (m :: (okey s ++ x)) (m :: (okey t ++ y)) = if Lib.compareBytes s t = 0 then Lib.compareBytes x y else Lib.compareBytes s t := by
  rw [cmp_same]
  have h := cmp_okey s t x y
  unfold okey
  simpa using h
end Go.Proofs.YtgccichmdddbpaaGreatDoor
set_option linter.unusedVariables false
set_option linter.unusedSimpArgs false
set_option maxRecDepth 100000
namespace Go.Proofs.YtgccichmdddbpaaGreatDoor
open Go.RowKit

theorem rIsId_c (n : Int) (b : Bool) (h : isI n = b) (w : World) : Calls Tryz.prog 197 #[.int .i64 n] w fun e w' => e = .returned (.bool b) ∧ w = w' := by
  subst h
  go_enter Tryz.func197, Tryz.ntmps197
  go_wp2
  all_goals go_ret
  all_goals refine ⟨congrArg (fun v => Ending.returned (Value.bool v)) ?_, rfl⟩
  all_goals unfold isI
  all_goals first | exact (decide_eq_true (by omega)).symm | exact (decide_eq_false (by omega)).symm | exact decide_eq_decide.2 (by omega)
theorem rHead_c (id ep pr : Int) (an : ByteArray) (b : Bool) (h : hdr id ep pr an = b) (w : World) : Calls Tryz.prog 159 #[.int .i64 id, .int .i64 ep, .int .i64 pr, .string an] w fun e w' => e = .returned (.bool b) ∧ w = w' := by
  subst h
  have HC := Lib.hid (refCheck an)
  cases h1 : isI id
  all_goals by_cases h4 : 1 ≤ an.size ∧ an.size ≤ 32
  all_goals (first | rw [if_pos h4] at HC | rw [if_neg h4] at HC)
  all_goals (first | have k4 : isK an = true := isK_iff.2 h4 | have k4 : isK an = false := decide_eq_false h4)
  all_goals by_cases h2 : 0 ≤ ep
  all_goals by_cases h3 : ep ≤ 9007199254740991
  all_goals by_cases h5 : 1 ≤ pr
  all_goals by_cases h6 : pr ≤ 1000
  all_goals go_enter Tryz.func159, Tryz.ntmps159
  all_goals go_wp2_with (first
    | (go_at_call 197; refine (rIsId_c _ _ h1 _).mono ?_; rintro e w1 ⟨rfl, rfl⟩)
    | (go_at_call 47; refine (HC.out _).mono ?_; rintro e w1 ⟨rfl, rfl⟩))
  all_goals go_ret
  all_goals refine ⟨congrArg (fun v => Ending.returned (Value.bool v)) ?_, rfl⟩
  all_goals unfold hdr
  all_goals rw [h1, k4]
  all_goals first
    | (simp; done)
    | (rw [show isN ep = true from decide_eq_true (by omega), show isP pr = true from decide_eq_true (by omega)]; rfl)
    | (rw [show isN ep = false from decide_eq_false (by omega)]; simp; done)
    | (rw [show isP pr = false from decide_eq_false (by omega)]; simp; done)
set_option maxHeartbeats 4000000 in
theorem rMayI_c (x : It) (b : Bool) (h : mayI x = b) (A : Option Addr) (n c : Nat) (w : World) (hx : ChAt w A n x.l) (hn : n ≤ 9223372036854775807) :
    Calls Tryz.prog 103 #[itv x (.slice A n c)] w fun e w' => e = .returned (.bool b) ∧ Below w.heap.size w w' := by
  obtain ⟨id, ep, pr, an, sw, sl, bw, bl, l⟩ := x
  simp only at hx
  unfold mayI at h
  simp only at h
  have hl := hx.1
  have g0 := nbl w (.cells (itc ⟨id, ep, pr, an, sw, sl, bw, bl, l⟩ (.slice A n c)) 38)
  have HX := Lib.hid (Blk.new w 38 (itc ⟨id, ep, pr, an, sw, sl, bw, bl, l⟩ (.slice A n c)))
  have HL := Lib.hid (hx.below g0)
  have HD := Lib.hid (fun V => rHead_c id ep pr an _ rfl V)
  have HS := Lib.hid (fun V => refCheck5 sw sl V)
  have HT := Lib.hid (fun V => refCheck5 bw bl V)
  cases h1 : hdr id ep pr an
  · rw [h1] at h HD
    simp at h
    subst h
    go_enter Tryz.func103, Tryz.ntmps103
    go_wp2_with (go_at_call 159; refine (HD.out _).mono ?_; rintro e w1 ⟨rfl, rfl⟩)
    go_ret
    exact ⟨rfl, g0⟩
  · rw [h1] at h HD
    cases h2 : may sw sl
    · rw [h2] at h
      simp at h
      subst h
      rw [show ck sw sl = 9 by unfold ck; rw [h2]; rfl] at HS
      go_enter Tryz.func103, Tryz.ntmps103
      go_wp2_with (first
          | (go_at_call 159; refine (HD.out _).mono ?_; rintro e w1 ⟨rfl, rfl⟩)
          | (go_at_call_of 50 (Value.agg #[.int .i64 sw, .int .i64 sl]); refine (HS.out _).mono ?_; rintro e w1 ⟨rfl, b1⟩; have X1 := Lib.hid (HX.out.below b1 (by simp)); have g1 := g0.trans (b1.mono g0.size); have y6 := X1.out.cell 6; have y7 := X1.out.cell 7; have y8 := X1.out.cell 8; simp at y6 y7 y8))
      go_ret
      exact ⟨rfl, g1⟩
    rw [h2] at h
    rw [show ck sw sl = 0 by unfold ck; rw [h2]; rfl] at HS
    cases h3 : may bw bl
    · rw [h3] at h
      simp at h
      subst h
      rw [show ck bw bl = 9 by unfold ck; rw [h3]; rfl] at HT
      go_enter Tryz.func103, Tryz.ntmps103
      go_wp2_with (first
          | (go_at_call 159; refine (HD.out _).mono ?_; rintro e w1 ⟨rfl, rfl⟩)
          | (go_at_call_of 50 (Value.agg #[.int .i64 sw, .int .i64 sl]); refine (HS.out _).mono ?_; rintro e w1 ⟨rfl, b1⟩; have X1 := Lib.hid (HX.out.below b1 (by simp)); have g1 := g0.trans (b1.mono g0.size); have y6 := X1.out.cell 6; have y7 := X1.out.cell 7; have y8 := X1.out.cell 8; simp at y6 y7 y8)
          | (go_at_call_of 50 (Value.agg #[.int .i64 bw, .int .i64 bl]); refine (HT.out _).mono ?_; rintro e w2 ⟨rfl, b2⟩; have X2 := Lib.hid (X1.out.below b2 X1.out.lt); have g2 := g1.trans (b2.mono g1.size); have z8 := X2.out.cell 8; simp at z8))
      go_ret
      exact ⟨rfl, g2⟩
    rw [h3] at h
    rw [show ck bw bl = 0 by unfold ck; rw [h3]; rfl] at HT
    by_cases h4 : 1 ≤ n
    case neg =>
      rw [decide_eq_false (by omega)] at h
      simp at h
      subst h
      obtain rfl : n = 0 := by omega
      go_enter Tryz.func103, Tryz.ntmps103
      go_wp2_with (first
          | (go_at_call 159; refine (HD.out _).mono ?_; rintro e w1 ⟨rfl, rfl⟩)
          | (go_at_call_of 50 (Value.agg #[.int .i64 sw, .int .i64 sl]); refine (HS.out _).mono ?_; rintro e w1 ⟨rfl, b1⟩; have X1 := Lib.hid (HX.out.below b1 (by simp)); have g1 := g0.trans (b1.mono g0.size); have y6 := X1.out.cell 6; have y7 := X1.out.cell 7; have y8 := X1.out.cell 8; simp at y6 y7 y8)
          | (go_at_call_of 50 (Value.agg #[.int .i64 bw, .int .i64 bl]); refine (HT.out _).mono ?_; rintro e w2 ⟨rfl, b2⟩; have X2 := Lib.hid (X1.out.below b2 X1.out.lt); have g2 := g1.trans (b2.mono g1.size); have z8 := X2.out.cell 8; simp at z8))
      go_ret
      exact ⟨rfl, g2⟩
    by_cases h5 : n ≤ 16
    case neg =>
      rw [decide_eq_false (by omega)] at h
      simp at h
      subst h
      go_enter Tryz.func103, Tryz.ntmps103
      go_wp2_with (first
          | (go_at_call 159; refine (HD.out _).mono ?_; rintro e w1 ⟨rfl, rfl⟩)
          | (go_at_call_of 50 (Value.agg #[.int .i64 sw, .int .i64 sl]); refine (HS.out _).mono ?_; rintro e w1 ⟨rfl, b1⟩; have X1 := Lib.hid (HX.out.below b1 (by simp)); have g1 := g0.trans (b1.mono g0.size); have y6 := X1.out.cell 6; have y7 := X1.out.cell 7; have y8 := X1.out.cell 8; simp at y6 y7 y8)
          | (go_at_call_of 50 (Value.agg #[.int .i64 bw, .int .i64 bl]); refine (HT.out _).mono ?_; rintro e w2 ⟨rfl, b2⟩; have X2 := Lib.hid (X1.out.below b2 X1.out.lt); have g2 := g1.trans (b2.mono g1.size); have z8 := X2.out.cell 8; simp at z8))
      go_ret
      exact ⟨rfl, g2⟩
    rw [decide_eq_true (by omega)] at h
    simp at h
    have HH := Lib.hid h
    have HLn := Lib.hid hl
    clear h hl hx
    go_enter Tryz.func103, Tryz.ntmps103
    go_wp2_with (first
      | (go_at_call 159; refine (HD.out _).mono ?_; rintro e w1 ⟨rfl, rfl⟩)
      | (go_at_call_of 50 (Value.agg #[.int .i64 sw, .int .i64 sl]); refine (HS.out _).mono ?_; rintro e w1 ⟨rfl, b1⟩; have X1 := Lib.hid (HX.out.below b1 (by simp)); have g1 := g0.trans (b1.mono g0.size); have y6 := X1.out.cell 6; have y7 := X1.out.cell 7; have y8 := X1.out.cell 8; simp at y6 y7 y8)
      | (go_at_call_of 50 (Value.agg #[.int .i64 bw, .int .i64 bl]); refine (HT.out _).mono ?_; rintro e w2 ⟨rfl, b2⟩; have X2 := Lib.hid (X1.out.below b2 X1.out.lt); have g2 := g1.trans (b2.mono g1.size); have z8 := X2.out.cell 8; simp at z8))
    have HL2 := Lib.hid (HL.out.below (b1.trans (b2.mono b1.size)))
    have G2 := Lib.hid g2
    clear HX HL HD HS HT b1 b2 g0 g1 g2 X1 X2 y6 y7 y8
    go_loopw [3, 4] (fun la i wr => ∃ (j : Nat) (a : Int), j ≤ n ∧ la = .int .i64 a ∧ i = .int .i64 j ∧ 0 ≤ a ∧ a ≤ 9007199254740991 ∧ Hid (rise a (l.drop j) = b) ∧ Hid (Below w2.heap.size w2 wr)) (fun _ i _ => n - (intOf i).toNat)
    case atStart => exact ⟨0, 0, Nat.zero_le _, rfl, rfl, by omega, by omega, HH, Lib.hid (Below.refl _ _)⟩
    case round =>
      obtain ⟨j, a, hj, rfl, rfl, ha, ha2, HR, HBW⟩ := hrel
      have x8 := kept_below HBW.out _ _ z8
      by_cases hlt : j < n
      · have hjl : j < l.length := by rw [HLn.out]; exact hlt
        obtain ⟨B, o, rfl, hc⟩ := HL2.out.2 (by omega)
        have p := hc j hjl
        have hr := HR.out
        rw [List.drop_eq_getElem_cons hjl] at hr
        obtain ⟨cc, hcc⟩ : ∃ cc, l[j]'hjl = cc := ⟨_, rfl⟩
        rw [hcc] at p hr
        obtain ⟨q, s, d⟩ := cc
        obtain ⟨p0, p1, p2⟩ := p
        have P0 := kept_below HBW.out _ _ p0
        have P1 := kept_below HBW.out _ _ p1
        have P2 := kept_below HBW.out _ _ p2
        have W0 := Blk.new wr 24 #[.int .i64 q, .string s, .bool d]
        have o0 := W0.cell 0
        have o1 := W0.cell 1
        have o2 := W0.cell 2
        have o8 := kept_below (nbl wr (.cells #[.int .i64 q, .string s, .bool d] 24)) _ _ x8
        have HN := Lib.hid (HBW.out.alloc HBW.out.size (.cells #[.int .i64 q, .string s, .bool d] 24))
        simp at o0 o1 o2
        have e1 := empty_iff s
        have e2 := empty_is s
        have HO : Hid (rise a (⟨q, s, d⟩ :: l.drop (j + 1)) = b) := Lib.hid hr
        have hno : ∀ (hk : okCh a ⟨q, s, d⟩ = false), b = false := fun hk => by
          have := HO.out
          rw [rise, hk] at this
          simpa using this.symm
        have HNO := Lib.hid hno
        clear hc hcc hr W0 hno p0 p1 p2
        have fin : ∀ (hk : okCh a ⟨q, s, d⟩ = true), rise q (l.drop (j + 1)) = b := fun hk => by
          have := HO.out
          rw [rise, hk] at this
          simpa using this
        have HFIN := Lib.hid fin
        clear fin
        by_cases c1 : a < q
        case neg =>
          have hF := HNO.out (by unfold okCh; rw [decide_eq_false c1]; rfl)
          subst hF
          go_wp2
          go_ret
          exact ⟨rfl, G2.out.trans (HN.out.mono G2.out.size)⟩
        by_cases c2 : q ≤ 9007199254740991
        case neg =>
          have hF := HNO.out (by unfold okCh; rw [show isI q = false from decide_eq_false (by omega)]; simp)
          subst hF
          go_wp2
          go_ret
          exact ⟨rfl, G2.out.trans (HN.out.mono G2.out.size)⟩
        by_cases c3 : s.size ≤ 64
        case neg =>
          have hF := HNO.out (by unfold okCh; rw [show isV s (!d) = false from decide_eq_false (by omega)]; simp)
          subst hF
          go_wp2
          go_ret
          exact ⟨rfl, G2.out.trans (HN.out.mono G2.out.size)⟩
        by_cases c4 : s.size = 0
        · rw [decide_eq_true c4] at e1 e2
          have hT := HFIN.out (by unfold okCh; rw [decide_eq_true c1, show isI q = true from isI_iff.2 (by omega), show isV s (!d) = true from isV_iff.2 ⟨c3, Or.inr c4⟩]; rfl)
          have HT := Lib.hid hT
          clear hT HO
          cases d
          all_goals go_wp2
          all_goals go_roundw
          all_goals try (case rel => exact ⟨j + 1, q, by omega, rfl, by go_num, by omega, by omega, HT, HN⟩)
          all_goals (simp [intOf]; omega)
        · rw [decide_eq_false c4] at e1 e2
          cases d
          · have hT := HFIN.out (by unfold okCh; rw [decide_eq_true c1, show isI q = true from isI_iff.2 (by omega), show isV s (!false) = true from isV_iff.2 ⟨c3, Or.inl rfl⟩]; rfl)
            have HT := Lib.hid hT
            clear hT HO
            go_wp2
            go_roundw
            case rel => exact ⟨j + 1, q, by omega, rfl, by go_num, by omega, by omega, HT, HN⟩
            case measure => simp [intOf]; omega
          · have hF := HNO.out (by unfold okCh; rw [show isV s (!true) = false from decide_eq_false (fun hh => hh.2.elim (fun h => by simp at h) c4)]; simp)
            subst hF
            go_wp2
            go_ret
            exact ⟨rfl, G2.out.trans (HN.out.mono G2.out.size)⟩
      · have hT : b = true := by
          have := HR.out
          rw [List.drop_eq_nil_of_le (by have := HLn.out; omega)] at this
          exact this.symm
        subst hT
        go_wp2
        go_ret
        exact ⟨rfl, G2.out.trans (HBW.out.mono G2.out.size)⟩
end Go.Proofs.YtgccichmdddbpaaGreatDoor
set_option linter.unusedVariables false
set_option linter.unusedSimpArgs false
set_option maxRecDepth 100000
namespace Go.Proofs.YtgccichmdddbpaaGreatDoor
open Go.RowKit

/-- Bytes in memory of the call's own, handed back. -/
def BytesP (w : World) (l : List UInt8) (e : Ending) (w' : World) : Prop := ∃ A m c, e = .returned (.slice A m c) ∧ At w' A m l ∧ Below w.heap.size w w'
theorem rnum (n : Int) (w : World) (h0 : 0 ≤ n) (h1 : n ≤ 9007199254740991) : Calls Tryz.prog 104 #[.int .i64 n] w (BytesP w (nbs n)) := by
  obtain ⟨k, rfl⟩ : ∃ k : Nat, n = (k : Int) := ⟨n.toNat, by omega⟩
  rw [num_nat]
  have HC := Lib.hid (refNum k w (by omega))
  go_enter Tryz.func104, Tryz.ntmps104
  go_wp2_with fail
  refine HC.out.mono ?_
  rintro e w1 ⟨v, rfl, ho, hb⟩
  obtain ⟨A, c, rfl, hat, _⟩ := ho.form
  go_wp2
  go_ret
  exact ⟨A, _, c, rfl, hat, hb⟩
theorem rstr (s : ByteArray) (w : World) (h : s.size ≤ 64) : Calls Tryz.prog 105 #[.string s] w (BytesP w (tbs s)) := by
  have HC := Lib.hid (refStr s 64 w (by omega) (by omega))
  go_enter Tryz.func105, Tryz.ntmps105
  go_wp2_with fail
  refine HC.out.mono ?_
  rintro e w1 ⟨v, rfl, ho, hb⟩
  obtain ⟨A, c, rfl, hat, _⟩ := ho.form
  obtain ⟨m, hm⟩ : ∃ m, (enc s.size ++ sb s).length = m := ⟨_, rfl⟩
  rw [hm] at hat ⊢
  go_wp2
  go_ret
  exact ⟨A, _, c, rfl, hat, hb⟩
theorem cv_ {w : World} {A : Option Addr} {n : Nat} {xs : List UInt8} (h : At w A n xs) (c : Nat) : (convert 164 9 (.slice A n c)).run Tryz.prog w = .ok (.string ⟨xs.toArray⟩) w :=
  h.conv c 164 5 9 Tryz.underlying164 (by kernel_rfl) Tryz.underlying9
theorem nb_str (a : Int) (h : a ≤ 9007199254740991) : ∃ s : ByteArray, ⟨(nbs a).toArray⟩ = s ∧ s.size ≤ 8 := ⟨_, rfl, num_len h⟩
set_option maxHeartbeats 1000000 in
theorem rVersion (s : ByteArray) (d : Bool) (w : World) : Calls Tryz.prog 85 #[.string s, .bool d] w fun e w' => e = ansT (isV s d) (txV s d) ∧ Below w.heap.size w w' := by
  have e1 := empty_iff s
  have e2 := empty_is s
  by_cases h64 : 64 < s.size
  · rw [show isV s d = false from decide_eq_false (by omega)]
    go_enter Tryz.func85, Tryz.ntmps85
    go_wp2
    go_ret2
    exact ⟨rfl, Below.refl _ _⟩
  · cases d
    · by_cases h0 : s.size = 0
      · rw [decide_eq_true h0] at e1 e2
        rw [show isV s false = true from decide_eq_true ⟨by omega, .inr h0⟩]
        go_enter Tryz.func85, Tryz.ntmps85
        go_wp2_with (go_at_call 104; refine (rnum 0 _ (by decide) (by decide)).mono ?_; rintro e w1 ⟨A, m, c, rfl, hat, hb⟩; have hcv := cv_ hat c)
        go_ret2
        exact ⟨by rw [ansT_t]; simp [txV, fbs, nbs], hb⟩
      · rw [decide_eq_false h0] at e1 e2
        rw [show isV s false = false from decide_eq_false (fun h => by rcases h.2 with h | h; cases h; exact h0 h)]
        go_enter Tryz.func85, Tryz.ntmps85
        go_wp2
        go_ret2
        exact ⟨rfl, Below.refl _ _⟩
    · rw [show isV s true = true from decide_eq_true ⟨by omega, .inl rfl⟩]
      obtain ⟨sa, hsa, za⟩ := nb_str 1 (by decide)
      obtain ⟨sc, hsc, zc⟩ : ∃ q : ByteArray, ⟨(tbs s).toArray⟩ = q ∧ q.size ≤ 72 := ⟨_, rfl, str_len (by omega) (Nat.le_refl _)⟩
      have HE := Lib.hid (show (sa ++ sc : ByteArray) = ⟨(txV s true).toArray⟩ by rw [← hsa, ← hsc]; apply ByteArray.ext; simp [txV, fbs, nbs])
      have HSA := Lib.hid hsa
      have HSC := Lib.hid hsc
      clear hsa hsc
      go_enter Tryz.func85, Tryz.ntmps85
      go_wp2_with fail
      go_region_with (first
        | (go_at_call 104; refine (rnum 1 _ (by decide) (by decide)).mono ?_; rintro e w2 ⟨A1, m1, c1, rfl, hat1, hb3⟩
           have v1 := cv_ hat1 c1
           rw [HSA.out] at v1
           have f3 : Below w.heap.size w w2 := by first | exact hb3 | exact (below_drewN (Below.refl w.heap.size w) 1).trans hb3)
        | (go_at_call 105; refine (rstr s _ (by omega)).mono ?_; rintro e w3 ⟨A2, m2, c2, rfl, hat2, hb4⟩
           have v2 := cv_ (hat1.below' hb4) c1
           rw [HSA.out] at v2
           have v3 := cv_ hat2 c2
           rw [HSC.out] at v3
           have f4 : Below w.heap.size w w3 := by first | exact f3.trans (hb4.mono f3.size) | exact f3.drew.trans (hb4.mono f3.size)))
      all_goals go_wp2
      all_goals go_ret2
      all_goals exact ⟨by rw [ansT_t, ← HE.out]; rfl, f4⟩
end Go.Proofs.YtgccichmdddbpaaGreatDoor
