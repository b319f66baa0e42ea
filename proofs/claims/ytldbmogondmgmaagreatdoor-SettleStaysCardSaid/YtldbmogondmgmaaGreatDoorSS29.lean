/-
  Layer 11, the code: keys under which something stands; the examples.
  Layer 11: the statements' own examples.
  Layer 11, the code: Intent, Record.
  Layer 11, the code: the keys of records and versions; whose a key is.
  CellKinds: the walk.
  What stands for what in order: keys with marks, by the order of bytes.
  Layer 11: the document's head, MayIntent.
  Layer 11, the document's answers: numbers, stamps, versions as texts.
-/
import Derived.Test.YtldbmogondmgmaaGreatDoorSS28
import Derived.Test.YtldbmogondmgmaaGreatDoorSS27
import Derived.Test.YtldbmogondmgmaaGreatDoorSS11
import Derived.Test.YtldbmogondmgmaaGreatDoorSS08
set_option linter.unusedVariables false
set_option linter.unusedSimpArgs false
set_option maxRecDepth 100000
namespace Go.Proofs.YtldbmogondmgmaaGreatDoor
open Go.RowKit

def str2 (l : List UInt8) (e : Int) : Ending := .returned (.tuple #[.string ⟨l.toArray⟩, .int .i64 e])
def markK (m : List UInt8) (k : ByteArray) (b : List UInt8) : Ending := if isK k then str2 (m ++ okey (sb k) ++ b) 0 else str2 [] 2
theorem okey_len (k : ByteArray) (h : k.size ≤ 32) : (okey (sb k)).length ≤ 66 := by
  have := esc_len (ob k)
  rw [ob_len] at this
  show (esc (ob k) ++ [0, 0]).length ≤ 66
  rw [List.length_append]
  simp
  omega
set_option maxHeartbeats 1000000 in
theorem marked_c (m k b : ByteArray) (w : World) (hM : MaxL w) (hm : m.size ≤ 10) (hb : b.size ≤ 100) :
    Calls Tryz.prog 43 #[.string m, .string k, .string b] w fun e w' => e = markK (sb m) k (sb b) ∧ Below w.heap.size w w' := by
  unfold markK
  cases h1 : isK k
  · go_enter Tryz.func43, Tryz.ntmps43
    go_wp2_with (go_at_call 107; refine (isKey_c _ _ h1 _).mono ?_; rintro e w1 ⟨rfl, rfl⟩)
    go_ret2
    exact ⟨rfl, Below.refl _ _⟩
  · have hk := isK_iff.1 h1
    have HK := Lib.hid (key k w (by omega) hM)
    have hl := okey_len k hk.2
    have hq0 : okey (ob k) = okey (sb k) := rfl
    rw [hq0] at HK
    obtain ⟨q, hq⟩ : ∃ q, okey (sb k) = q := ⟨_, rfl⟩
    rw [hq] at HK hl ⊢
    obtain ⟨qb, hqb⟩ : ∃ qb : ByteArray, ⟨q.toArray⟩ = qb := ⟨_, rfl⟩
    rw [hqb] at HK
    have hqs : qb.size ≤ 66 := by rw [← hqb]; exact hl
    have HE := Lib.hid (show (m ++ qb ++ b : ByteArray) = ⟨(sb m ++ q ++ sb b).toArray⟩ by
      apply ByteArray.ext
      rw [← hqb]
      simp [sb])
    clear hqb hq hq0 hl
    go_enter Tryz.func43, Tryz.ntmps43
    go_wp2_with (first
      | (go_at_call 107; refine (isKey_c _ _ h1 _).mono ?_; rintro e w1 ⟨rfl, rfl⟩)
      | (go_at_call 108; refine HK.out.mono ?_; rintro e w1 ⟨rfl, hb1⟩))
    go_ret2
    refine ⟨?_, hb1⟩
    have hE := HE.out
    rw [List.append_assoc] at hE
    simp only [if_true, List.append_assoc]
    unfold str2
    rw [← hE]
    rfl
theorem intentKey_c (k : ByteArray) (w : World) (hM : MaxL w) :
    Calls Tryz.prog 13 #[.string k] w fun e w' => e = markK [105] k [] ∧ Below w.heap.size w w' := by
  have HC := Lib.hid (marked_c ⟨#[105]⟩ k ⟨#[]⟩ w hM (by decide) (by decide))
  have e0 : markK (sb ⟨#[105]⟩) k (sb ⟨#[]⟩) = markK [105] k [] := rfl
  rw [e0] at HC
  obtain ⟨s, n, hs⟩ : ∃ s n, markK [105] k [] = .returned (.tuple #[.string s, .int .i64 n]) := by
    unfold markK
    split
    · exact ⟨_, _, rfl⟩
    · exact ⟨_, _, rfl⟩
  rw [hs] at HC ⊢
  clear e0 hs
  go_enter Tryz.func13, Tryz.ntmps13
  go_wp2_with (go_at_call 43; refine HC.out.mono ?_; rintro e w1 ⟨rfl, hb1⟩)
  go_ret2
  exact ⟨rfl, hb1⟩
theorem cutPre0 (k : ByteArray) (c : UInt8) (w : World) (b : Bool) (hb : (sb k).head? = some c ↔ b = true) :
    Calls Tryz.prog 148 #[.string k, .string ⟨#[c]⟩] w fun e w' => e = .returned (.tuple #[.string (if b then k.extract 1 k.size else k), .bool b]) ∧ w = w' := by
  have hp : Lib.hasPrefix (ob k) (ob ⟨#[c]⟩) = b := by
    rw [Bool.eq_iff_iff, ← hb]
    show Lib.hasPrefix (sb k) [c] = true ↔ _
    generalize sb k = l
    cases l with
    | nil => simp [Lib.hasPrefix]
    | cons x l =>
      constructor
      · intro h
        have : c = x := by simpa [Lib.hasPrefix, List.isPrefixOf] using h
        rw [this]
        rfl
      · intro h
        have : x = c := by simpa using h
        subst this
        simp [Lib.hasPrefix, List.isPrefixOf]
  have HP := Lib.hid (hasPre0 k ⟨#[c]⟩ b w hp)
  have H1 : Calls Tryz.prog 197 #[.string k, .string ⟨#[c]⟩] w fun e w' => e = .returned (.tuple #[.string (if b then k.extract 1 k.size else k), .bool b]) ∧ w = w' := by
    have hk : b = true → 1 ≤ k.size := by
      intro h
      have := hb.2 h
      rw [← sb_len]
      cases hh : sb k with
      | nil => rw [hh] at this; cases this
      | cons x l => simp
    clear hb hp
    cases b
    · go_enter Tryz.func197, Tryz.ntmps197
      go_wp2_with (go_at_call 156; refine HP.out.mono ?_; rintro e w1 ⟨rfl, rfl⟩)
      go_ret2
      exact ⟨rfl, rfl⟩
    · have hk1 := hk rfl
      have hz : (⟨#[c]⟩ : ByteArray).size = 1 := rfl
      go_enter Tryz.func197, Tryz.ntmps197
      go_wp2_with (go_at_call 156; refine HP.out.mono ?_; rintro e w1 ⟨rfl, rfl⟩)
      go_ret2
      exact ⟨rfl, rfl⟩
  obtain ⟨z, hz⟩ : ∃ z : ByteArray, (if b = true then k.extract 1 k.size else k) = z := ⟨_, rfl⟩
  rw [hz] at H1 ⊢
  have H2 := Lib.hid H1
  clear H1 hp hb HP hz
  go_enter Tryz.func148, Tryz.ntmps148
  go_wp2_with (go_at_call 197; refine H2.out.mono ?_; rintro e w1 ⟨rfl, rfl⟩)
  go_ret2
  exact ⟨rfl, rfl⟩
theorem tkey_err : ∀ (k : Nat) (l : List UInt8) (n x : Nat), l.length ≤ k → tkey n l = .error x → x ≠ 0
  | _, [], n, x, _, h => by rw [tkey_nil] at h; cases h; decide
  | 0, _ :: _, _, _, hl, _ => by simp at hl
  | k + 1, b :: t, n, x, hl, h => by
    simp only [List.length_cons] at hl
    have step : ∀ (u : List UInt8) (c : UInt8), u.length ≤ k → (if n = 0 then (.error 5 : Except Nat (List UInt8 × List UInt8)) else (tkey (n - 1) u).map fun p => (c :: p.1, p.2)) = .error x → x ≠ 0 := by
      intro u c hu h
      split at h
      · cases h; decide
      · cases hr : tkey (n - 1) u with
        | ok p => rw [hr] at h; cases h
        | error y =>
          rw [hr] at h
          have hy := tkey_err k u (n - 1) y hu hr
          cases h
          exact hy
    by_cases hb : b = 0
    · subst hb
      cases t with
      | nil => rw [tkey_zero] at h; cases h; decide
      | cons c t =>
        by_cases c0 : c = 0
        · subst c0; rw [tkey_end] at h; cases h
        · by_cases c1 : c = 1
          · subst c1
            rw [tkey_esc] at h
            exact step t 0 (by simp at hl; omega) h
          · rw [tkey_bad n c0 c1] at h; cases h; decide
    · rw [tkey_byte n hb] at h
      exact step t b (by omega) h
/-- With which key a table's key begins behind a mark, and what stands behind it. -/
def rk (m : UInt8) (k : List UInt8) : Option (List UInt8 × List UInt8) :=
  if k.head? = some m then (match tkey 1000 (k.drop 1) with
    | .ok p => if 1 ≤ p.1.length ∧ p.1.length ≤ 32 then some p else none
    | .error _ => none) else none
def rkA (o : Option (List UInt8 × List UInt8)) : Ending :=
  match o with
  | none => .returned (.tuple #[.string ⟨#[]⟩, .string ⟨#[]⟩, .bool false])
  | some p => .returned (.tuple #[.string ⟨p.1.toArray⟩, .string ⟨p.2.toArray⟩, .bool true])
set_option maxHeartbeats 1000000 in
theorem readKey_c (m : UInt8) (k : ByteArray) (w : World) (hk : k.size ≤ 150000000000000) :
    Calls Tryz.prog 86 #[.string ⟨#[m]⟩, .string k] w fun e w' => e = rkA (rk m (sb k)) ∧ Below w.heap.size w w' := by
  by_cases hh : (sb k).head? = some m
  · have HP := Lib.hid (cutPre0 k m w true ⟨fun _ => rfl, fun _ => hh⟩)
    rw [if_pos rfl] at HP
    have HT := Lib.hid (take (k.extract 1 k.size) w (by rw [ByteArray.size_extract]; omega))
    have e1 : ob (k.extract 1 k.size) = (sb k).drop 1 := ob_sb _ ▸ (sb_end k 1)
    rw [e1] at HT
    unfold rk
    rw [if_pos hh]
    cases ht : tkey 1000 ((sb k).drop 1) with
    | error x =>
      rw [ht] at HT
      have hx : ((x : Int) != 0) = true := by have := tkey_err _ _ _ _ (Nat.le_refl _) ht; simpa using this
      clear ht e1
      go_enter Tryz.func86, Tryz.ntmps86
      go_wp2_with (first
        | (go_at_call 148; refine HP.out.mono ?_; rintro e w1 ⟨rfl, rfl⟩)
        | (go_at_call 149; refine HT.out.mono ?_; rintro e w2 ⟨rfl, hb⟩; rw [TkAns_err]))
      go_ret3
      exact ⟨rfl, hb⟩
    | ok p =>
      rw [ht] at HT
      obtain ⟨s, r⟩ := p
      have hik : isK ⟨s.toArray⟩ = decide (1 ≤ s.length ∧ s.length ≤ 32) := rfl
      simp only
      by_cases h1 : 1 ≤ s.length ∧ s.length ≤ 32
      · rw [if_pos h1]
        rw [decide_eq_true h1] at hik
        clear ht e1 h1
        go_enter Tryz.func86, Tryz.ntmps86
        go_wp2_with (first
          | (go_at_call 148; refine HP.out.mono ?_; rintro e w1 ⟨rfl, rfl⟩)
          | (go_at_call 149; refine HT.out.mono ?_; rintro e w2 ⟨rfl, hb⟩; rw [TkAns_ok])
          | (go_at_call 107; refine (isKey_c _ _ hik _).mono ?_; rintro e w3 ⟨rfl, rfl⟩))
        go_ret3
        exact ⟨rfl, hb⟩
      · rw [if_neg h1]
        rw [decide_eq_false h1] at hik
        clear ht e1 h1
        go_enter Tryz.func86, Tryz.ntmps86
        go_wp2_with (first
          | (go_at_call 148; refine HP.out.mono ?_; rintro e w1 ⟨rfl, rfl⟩)
          | (go_at_call 149; refine HT.out.mono ?_; rintro e w2 ⟨rfl, hb⟩; rw [TkAns_ok])
          | (go_at_call 107; refine (isKey_c _ _ hik _).mono ?_; rintro e w3 ⟨rfl, rfl⟩))
        go_ret3
        exact ⟨rfl, hb⟩
  · have HP := Lib.hid (cutPre0 k m w false ⟨fun h => absurd h hh, fun h => nomatch h⟩)
    rw [if_neg (by simp)] at HP
    unfold rk
    rw [if_neg hh]
    clear hh
    go_enter Tryz.func86, Tryz.ntmps86
    go_wp2_with (go_at_call 148; refine HP.out.mono ?_; rintro e w1 ⟨rfl, rfl⟩)
    go_ret3
    exact ⟨rfl, Below.refl _ _⟩
theorem readIntent_c (k : ByteArray) (w : World) (hk : k.size ≤ 150000000000000) (s : List UInt8) (hr : rk 105 (sb k) = some (s, [])) :
    Calls Tryz.prog 132 #[.string k] w fun e w' => e = str2 s 0 ∧ Below w.heap.size w w' := by
  have HC := Lib.hid (readKey_c 105 k w hk)
  rw [hr] at HC
  clear hr
  go_enter Tryz.func132, Tryz.ntmps132
  go_wp2_with (go_at_call 86; refine HC.out.mono ?_; rintro e w1 ⟨rfl, hb1⟩; unfold rkA; simp only)
  go_ret2
  exact ⟨rfl, hb1⟩
theorem readIntent_no (k : ByteArray) (w : World) (hk : k.size ≤ 150000000000000) (hr : rk 105 (sb k) = none) :
    Calls Tryz.prog 132 #[.string k] w fun e w' => e = str2 [] 4 ∧ Below w.heap.size w w' := by
  have HC := Lib.hid (readKey_c 105 k w hk)
  rw [hr] at HC
  clear hr
  go_enter Tryz.func132, Tryz.ntmps132
  go_wp2_with (go_at_call 86; refine HC.out.mono ?_; rintro e w1 ⟨rfl, hb1⟩; unfold rkA; simp only)
  go_ret2
  exact ⟨rfl, hb1⟩
end Go.Proofs.YtldbmogondmgmaaGreatDoor
set_option linter.unusedVariables false
set_option linter.unusedSimpArgs false
set_option maxRecDepth 100000
namespace Go.Proofs.YtldbmogondmgmaaGreatDoor
open Go.RowKit

end Go.Proofs.YtldbmogondmgmaaGreatDoor
set_option linter.unusedVariables false
set_option linter.unusedSimpArgs false
set_option maxRecDepth 100000
namespace Go.Proofs.YtldbmogondmgmaaGreatDoor
open Go.RowKit

set_option maxHeartbeats 2000000 in
theorem intent_c (x : It) (A : Option Addr) (n c : Nat) (w : World) (hx : ChAt w A n x.l) (hn : n ≤ 9223372036854775807) :
    Calls Tryz.prog 171 #[itv x (.slice A n c)] w fun e w' => e = ansT (mayI x) (txI x) ∧ Below w.heap.size w w' := by
  have hB0 := nbl w (.cells (itc x (.slice A n c)) 39)
  have HK := Lib.hid (checkI x A n c (w.alloc (.cells (itc x (.slice A n c)) 39)) (hx.below hB0) hn)
  have HB0 := Lib.hid hB0
  cases hm : mayI x
  · rw [hm] at HK
    obtain ⟨id, ep, pr, an, sw, sl, bw, bl, l⟩ := x
    clear hB0 hx
    go_enter Tryz.func171, Tryz.ntmps171
    go_wp2_with (go_at_call 54; refine HK.out.mono ?_; rintro e w1 ⟨rfl, hb1⟩)
    go_ret2
    exact ⟨rfl, HB0.out.trans (hb1.mono (by simp))⟩
  · rw [hm] at HK
    have hlen := txI_len x hm
    have hmm := hm
    simp only [mayI, hdr, Bool.and_eq_true] at hmm
    obtain ⟨⟨⟨⟨⟨⟨⟨m1, m2⟩, m3⟩, m4⟩, m5⟩, m6⟩, m7⟩, m8⟩ := hmm
    have m1 := isI_iff.1 m1
    have m2 := isN_iff.1 m2
    have m3 := isP_iff.1 m3
    have m4 := (isK_iff.1 m4).2
    have m7 := of_decide_eq_true m7
    have m9 := rise_all m8
    have hxl := hx.1
    have hxn : n ≤ 16 := by omega
    obtain ⟨p4, hp4⟩ : ∃ p4, p4 = ((([] ++ [x.id, x.ep, x.pr].flatMap nbs) ++ tbs x.an) ++ [(x.sw, x.sl), (x.bw, x.bl)].flatMap txP) ++ [(n : Int)].flatMap nbs := ⟨_, rfl⟩
    have hT : txI x = p4 ++ x.l.flatMap txC := by
      rw [hp4]
      unfold txI
      rw [hxl]
      simp [txP, txS, List.append_assoc]
    have hl4 : p4.length ≤ 2048 := by
      have := congrArg List.length hT
      rw [List.length_append] at this
      omega
    have hl3 : ((([] ++ [x.id, x.ep, x.pr].flatMap nbs) ++ tbs x.an) ++ [(x.sw, x.sl), (x.bw, x.bl)].flatMap txP).length ≤ 2048 := by
      have := congrArg List.length hp4
      rw [List.length_append] at this
      omega
    have hl2 : (([] ++ [x.id, x.ep, x.pr].flatMap nbs) ++ tbs x.an).length ≤ 2048 := by
      rw [List.length_append] at hl3
      omega
    have hl1 : ([] ++ [x.id, x.ep, x.pr].flatMap nbs).length ≤ 2048 := by
      rw [List.length_append] at hl2
      omega
    have hS : ∀ p ∈ [(x.sw, x.sl), (x.bw, x.bl)], mayP p = true := by simp [mayP, m5, m6]
    have HH0 := Lib.hid ((Has.nil (Below.refl w.heap.size w)).newBlk 39 (itc x (.slice A n c)))
    have HX := Lib.hid hx
    have HP4 := Lib.hid hp4
    have HTx := Lib.hid hT
    have hfb : ∀ j, ((x.l.take j).flatMap txC).length ≤ 4000 := by
      intro j
      have := flat_take_le txC x.l j 88 fun c hc => by
        obtain ⟨q1, q2, q3⟩ := m9 c hc
        have r1 := num_len q2
        have r2 := fl_len c.d
        have r3 := str_len q3 (Nat.le_refl _)
        unfold txC
        simp only [List.length_append]
        omega
      omega
    have HM9 := Lib.hid m9
    have HFB := Lib.hid hfb
    have HFT := Lib.hid (fun j h => flat_take txC x.l j h)
    obtain ⟨id, ep, pr, an, sw, sl, bw, bl, l⟩ := x
    simp only at hl1 hl2 hl3 hS m1 m2 m3 m4 hxl
    clear hx hp4 hT m5 m6 m7 m8 m9 hm hB0 hlen hfb
    go_enter Tryz.func171, Tryz.ntmps171
    go_wp2_with (first
      | (go_at_call 54; refine HK.out.mono ?_; rintro e w1 ⟨rfl, hb1⟩
         have H1 := (HH0.out.keep hb1).penNew
         have kx := H1.swap.blk.1
         have k0 := kx.cell 0
         have k1 := kx.cell 1
         have k2 := kx.cell 2
         simp at k0 k1 k2)
      | (go_at_call 205; refine (H1.penNums (by simp) [id, ep, pr] (by simp; omega) (by simp) (by simp) rfl rfl).mono ?_; rintro e w2 ⟨rfl, h2⟩
         clear H1 kx
         have ka := h2.swap.blk.1.cell 3
         simp at ka)
      | (go_at_call 206; refine (h2.penStr an (by omega) (by omega)).mono ?_; rintro e w3 ⟨rfl, h3⟩
         clear h2 ka
         have ky := h3.swap.blk.1
         have k4 := ky.cell 4
         have k5 := ky.cell 5
         have k6 := ky.cell 6
         have k7 := ky.cell 7
         simp at k4 k5 k6 k7)
      | (go_at_call 207; refine (h3.penStamps (by simp) [(sw, sl), (bw, bl)] hS (by simp) (by omega) rfl rfl).mono ?_; rintro e w4 ⟨rfl, h4⟩
         clear h3 ky
         have kl := h4.swap.blk.1.cell 8
         simp at kl)
      | (go_at_call 205; refine (h4.penNums (by simp) [(n : Int)] (by simp; omega) (by simp) (by omega) rfl rfl).mono ?_; rintro e w5 ⟨rfl, h5⟩
         clear h4 kl
         have km := h5.swap.blk.1.cell 8
         simp at km))
    rw [← HP4.out] at h5
    have H5 := Lib.hid h5
    clear h5 hl1 hl2 hl3 hS HH0 HK HP4 km
    go_loopw [38] (fun i wr => ∃ j : Nat, j ≤ n ∧ i = .int .i64 j ∧ Hid (Has w (penA w1.heap.size (p4 ++ (l.take j).flatMap txC) :: blkA w.heap.size 39 (itc ⟨id, ep, pr, an, sw, sl, bw, bl, l⟩ (.slice A n c)) :: []) wr)) (fun i _ => n - (intOf i).toNat)
    case atStart => exact ⟨0, Nat.zero_le _, rfl, by simpa using H5⟩
    case round =>
      obtain ⟨j, hj, rfl, HH⟩ := hrel
      by_cases hlt : j < n
      · have hjl : j < l.length := by omega
        have hfa := HX.out.below HH.out.bel
        obtain ⟨b, o, rfl, hc⟩ := hfa.2 (by omega)
        have hcj := hc j hjl
        have hq3 := HM9.out _ (List.getElem_mem hjl)
        have hfl := HFT.out j hjl
        have hfb := HFB.out j
        obtain ⟨cc, hcc⟩ : ∃ cc, l[j]'hjl = cc := ⟨_, rfl⟩
        rw [hcc] at hcj hq3
        try simp only at hfl
        rw [hcc] at hfl
        obtain ⟨q, s, d⟩ := cc
        simp only at hcj hq3
        have hq : 0 ≤ q ∧ q ≤ 9007199254740991 := ⟨hq3.1, hq3.2.1⟩
        have hs : s.size ≤ 64 := hq3.2.2
        have hnl := num_len hq.2
        have hdl := fl_len d
        have HA := Lib.hid (HH.out.newBlk 24 #[.int .i64 q, .string s, .bool d]).swap
        generalize hys : p4 ++ (l.take j).flatMap txC = ys at *
        have hyl : ys.length ≤ 6100 := by rw [← hys, List.length_append]; (try simp only at hfb); omega
        have HFL := Lib.hid (show ys ++ txC ⟨q, s, d⟩ = p4 ++ (l.take (j + 1)).flatMap txC by rw [hfl, ← hys, List.append_assoc])
        obtain ⟨k0, kr⟩ := hcj
        clear hc hfa hfl hys hfb hcc HH hq3
        go_wp2_with (first
          | (go_at_call 205; refine (HA.out.penNums (by simp) [q] (by simpa using hq) (by simp) (by omega) rfl rfl).mono ?_; rintro e z1 ⟨rfl, y1⟩
             have c2 := y1.swap.blk.1.cell 2
             simp at c2)
          | (go_at_call 208; refine (y1.penFlag d (by simp only [List.length_append, List.flatMap_cons, List.flatMap_nil, List.append_nil]; omega)).mono ?_; rintro e z2 ⟨rfl, y2⟩
             have c1 := y2.swap.blk.1.cell 1
             simp at c1)
          | (go_at_call 206; refine (y2.penStr s hs (by simp only [List.length_append, List.flatMap_cons, List.flatMap_nil, List.append_nil]; omega)).mono ?_; rintro e z3 ⟨rfl, y3⟩))
        go_roundw
        case rel =>
          refine ⟨j + 1, by omega, by go_num, Lib.hid ?_⟩
          rw [← HFL.out]
          have := y3.swap.tail
          simpa [txC, List.append_assoc] using this
        case measure => simp [intOf]; omega
      · have hjn : j = n := by omega
        have h6 := HH.out
        rw [List.take_of_length_le (by omega)] at h6
        have ht := HTx.out
        try simp only at ht
        clear HH
        go_wp2_with (go_at_call 209; refine h6.penText.mono ?_; rintro e w7 ⟨rfl, rfl⟩)
        go_ret2
        refine ⟨?_, h6.bel⟩
        rw [ansT_t, ht]
        rfl

end Go.Proofs.YtldbmogondmgmaaGreatDoor
set_option linter.unusedVariables false
set_option linter.unusedSimpArgs false
set_option maxRecDepth 100000
namespace Go.Proofs.YtldbmogondmgmaaGreatDoor
open Go.RowKit

theorem rk_hit (m : UInt8) (k : ByteArray) (r : List UInt8) (h : isK k = true) : rk m (m :: okey (sb k) ++ r) = some (sb k, r) := by
  have hk := isK_iff.1 h
  have e : okey (sb k) ++ r = esc (sb k) ++ 0 :: 0 :: r := by unfold okey; simp
  unfold rk
  rw [if_pos (by rfl)]
  simp only [List.cons_append, List.drop_succ_cons, List.drop_zero]
  rw [e, tkey_okey (sb k) 1000 r (by rw [sb_len]; omega)]
  simp only
  rw [if_pos (by rw [sb_len]; exact hk)]
theorem versionKey_c (k : ByteArray) (a b : Int) (w : World) (hM : MaxL w) (h : may a b = true) :
    Calls Tryz.prog 130 #[.string k, sv a b] w fun e w' => e = markK [118] k (odown a b) ∧ Below w.heap.size w w' := by
  have HD := Lib.hid (down a b (w.alloc (.cells #[.int .i64 a, .int .i64 b] 26)) h)
  have hz : (⟨(odown a b).toArray⟩ : ByteArray).size = 9 := odown_len a b
  have e0 : markK (sb ⟨#[118]⟩) k (sb ⟨(odown a b).toArray⟩) = markK [118] k (odown a b) := rfl
  obtain ⟨d, hd⟩ : ∃ d : ByteArray, ⟨(odown a b).toArray⟩ = d := ⟨_, rfl⟩
  rw [hd] at HD hz e0
  obtain ⟨s, n, hs⟩ : ∃ s n, markK [118] k (odown a b) = .returned (.tuple #[.string s, .int .i64 n]) := by
    unfold markK
    split
    · exact ⟨_, _, rfl⟩
    · exact ⟨_, _, rfl⟩
  rw [hs] at e0 ⊢
  have E0 := Lib.hid e0
  clear e0 hs hd
  go_enter Tryz.func130, Tryz.ntmps130
  go_wp2_with (first
    | (go_at_call 190; refine HD.out.mono ?_; rintro e w1 ⟨rfl, hb1⟩; have g1 := (nbl w (.cells #[.int .i64 a, .int .i64 b] 26)).trans (hb1.mono (by simp)))
    | (go_at_call 43; refine (marked_c ⟨#[118]⟩ k d _ (hM.below g1) (by decide) (by omega)).mono ?_; rintro e w2 ⟨he, hb2⟩; rw [E0.out] at he; subst he; have g2 := g1.trans (hb2.mono g1.size)))
  go_ret2
  exact ⟨rfl, g2⟩
theorem ret_tct {fn : Func} {R : Ending → World → Prop} {a : Act} {w : World} {p u v : Tmp} {g : Nat} {x y : Int} (hr : fn.results = #[.tmp u, .cell p 26, .tmp v]) (hp : a.tmps.getD p undef = .pointer (some ⟨g, 0, none⟩))
    (hB : Box w g x y) (hd : a.defers = []) (hR : R (.returned (.tuple #[a.tmps.getD u undef, sv x y, a.tmps.getD v undef])) w) : bodyPost Tryz.prog fn R .ret a w := by
  refine bodyPost_ret ?_ hd hR
  have hp' : a.tmps[p]?.getD undef = .pointer (some ⟨g, 0, none⟩) := by simpa using hp
  simp [results, hr, hp', asAddr, run_loadVar_row w g 26 26 _ (0, 0) _ hB Tryz.underlying26 rfl (by kernel_rfl)]
set_option maxHeartbeats 1000000 in
theorem readVersion_no (k : ByteArray) (w : World) (hk : k.size ≤ 150000000000000) (hr : rk 118 (sb k) = none) :
    Calls Tryz.prog 28 #[.string k] w fun e w' => e = .returned (.tuple #[.string ⟨#[]⟩, sv 0 0, .int .i64 4]) ∧ Below w.heap.size w w' := by
  have HC := Lib.hid (readKey_c 118 k (w.alloc (.cells #[.int .i64 0, .int .i64 0] 26)) hk)
  rw [hr] at HC
  have HX := Lib.hid (Blk.new w 26 #[.int .i64 0, .int .i64 0])
  have HT := Lib.hid (fun V => takeDown_short ⟨#[]⟩ V (by decide))
  clear hr
  go_enter Tryz.func28, Tryz.ntmps28
  go_wp2_with (first
    | (go_at_call 86; refine HC.out.mono ?_; rintro e w1 ⟨rfl, hb1⟩; unfold rkA; simp only
       have g1 := (nbl w (.cells #[.int .i64 0, .int .i64 0] 26)).trans (hb1.mono (by simp))
       have k1 : Blk w1 w.heap.size 26 #[.int .i64 0, .int .i64 0] := HX.out.below hb1 (by simp))
    | (go_at_call 87; refine (HT.out _).mono ?_; rintro e w2 ⟨he, hb2⟩
       rw [show TdAns (.error 3) = .returned (.tuple #[sv 0 0, .string ⟨#[]⟩, .int .i64 3]) from rfl] at he
       subst he
       have k2 := k1.below hb2 k1.lt
       have c0 := k2.cell 0
       have c1 := k2.cell 1
       have f0 := k2.frozen 0
       have f1 := k2.frozen 1
       simp at c0 c1
       have g2 := g1.trans (hb2.mono g1.size)))
  refine ret_tct rfl rfl ((k2.all2 (v0 := .int .i64 0) (v1 := .int .i64 0)).all2 (v0 := .int .i64 0) (v1 := .int .i64 0)) rfl ⟨rfl, (((g2.setCell (by exact Nat.le_refl _) _).setCell (by exact Nat.le_refl _) _).setCell (by exact Nat.le_refl _) _).setCell (by exact Nat.le_refl _) _⟩
set_option maxHeartbeats 1000000 in
theorem readVersion_c (k : ByteArray) (w : World) (hk : k.size ≤ 150000000000000) (s : List UInt8) (a b : Int) (h : may a b = true) (hr : rk 118 (sb k) = some (s, odown a b)) :
    Calls Tryz.prog 28 #[.string k] w fun e w' => e = .returned (.tuple #[.string ⟨s.toArray⟩, sv a b, .int .i64 0]) ∧ Below w.heap.size w w' := by
  have HC := Lib.hid (readKey_c 118 k (w.alloc (.cells #[.int .i64 0, .int .i64 0] 26)) hk)
  rw [hr] at HC
  have HX := Lib.hid (Blk.new w 26 #[.int .i64 0, .int .i64 0])
  have hz : 9 ≤ (⟨(odown a b).toArray⟩ : ByteArray).size := Nat.le_of_eq (odown_len a b).symm
  have hz2 : (⟨(odown a b).toArray⟩ : ByteArray).size ≤ 150000000000000 := by rw [show (⟨(odown a b).toArray⟩ : ByteArray).size = 9 from odown_len a b]; omega
  have hT := fun V => takeDown_long ⟨(odown a b).toArray⟩ V hz hz2
  have ho : tdown (ob ⟨(odown a b).toArray⟩) = .ok (a, b, []) := by
    have := tdown_odown a b [] h
    rw [List.append_nil] at this
    exact this
  rw [ho] at hT
  have HT := Lib.hid hT
  obtain ⟨d, hd⟩ : ∃ d : ByteArray, ⟨(odown a b).toArray⟩ = d := ⟨_, rfl⟩
  have hrk : rkA (some (s, odown a b)) = .returned (.tuple #[.string ⟨s.toArray⟩, .string d, .bool true]) := by rw [← hd]; rfl
  rw [hrk] at HC
  rw [hd] at HT
  obtain ⟨q, hq⟩ : ∃ q : ByteArray, ⟨s.toArray⟩ = q := ⟨_, rfl⟩
  rw [hq] at HC ⊢
  clear hr hz hz2 hT ho hd hrk hq
  go_enter Tryz.func28, Tryz.ntmps28
  go_wp2_with (first
    | (go_at_call 86; refine HC.out.mono ?_; rintro e w1 ⟨rfl, hb1⟩
       have g1 := (nbl w (.cells #[.int .i64 0, .int .i64 0] 26)).trans (hb1.mono (by simp))
       have k1 : Blk w1 w.heap.size 26 #[.int .i64 0, .int .i64 0] := HX.out.below hb1 (by simp))
    | (go_at_call 87; refine (HT.out _).mono ?_; rintro e w2 ⟨he, hb2⟩
       rw [show TdAns (.ok (a, b, [])) = .returned (.tuple #[sv a b, .string ⟨#[]⟩, .int .i64 0]) from rfl] at he
       subst he
       have k2 := k1.below hb2 k1.lt
       have c0 := k2.cell 0
       have c1 := k2.cell 1
       have f0 := k2.frozen 0
       have f1 := k2.frozen 1
       simp at c0 c1
       have g2 := g1.trans (hb2.mono g1.size)
       have k3 := k2.all2 (v0 := .int .i64 a) (v1 := .int .i64 b)
       have d0 := k3.cell 0
       have d1 := k3.cell 1
       have e0 := k3.frozen 0
       have e1 := k3.frozen 1
       simp at d0 d1
       have g3 := (g2.setCell (p := ⟨w.heap.size, 0, none⟩) (by exact Nat.le_refl _) (.int .i64 a)).setCell (p := ⟨w.heap.size, 1, none⟩) (by exact Nat.le_refl _) (.int .i64 b)))
  go_region_with (fail)
  all_goals go_wp2
  all_goals refine ret_tct rfl rfl (Blk.all2 (c0 := .int .i64 a) (c1 := .int .i64 b) (by exact k3)) rfl ⟨rfl, ?_⟩
  all_goals first | exact (g3.drew.setCell (by exact Nat.le_refl _) _).setCell (by exact Nat.le_refl _) _ | exact ((below_drewN g3 _).setCell (by exact Nat.le_refl _) _).setCell (by exact Nat.le_refl _) _
end Go.Proofs.YtldbmogondmgmaaGreatDoor
set_option linter.unusedVariables false
set_option linter.unusedSimpArgs false
set_option maxRecDepth 100000
namespace Go.Proofs.YtldbmogondmgmaaGreatDoor
open Go.RowKit

/-- Two stamps in blocks, and what is older stays. -/
abbrev S4 (w : World) (g1 g2 : Nat) (p o a b : Int) (V : World) : Prop :=
  V.cell? ⟨g1, 0, none⟩ = some (.int .i64 p) ∧ V.cell? ⟨g1, 1, none⟩ = some (.int .i64 o) ∧ V.cell? ⟨g2, 0, none⟩ = some (.int .i64 a) ∧ V.cell? ⟨g2, 1, none⟩ = some (.int .i64 b) ∧ Below w.heap.size w V
theorem S4.bel {w V : World} {g1 g2 : Nat} {p o a b : Int} (h : S4 w g1 g2 p o a b V) : Below w.heap.size w V := h.2.2.2.2
theorem S4.keep {w V V' : World} {g1 g2 : Nat} {p o a b : Int} (h : S4 w g1 g2 p o a b V) (hb : Below V.heap.size V V') : S4 w g1 g2 p o a b V' :=
  ⟨kept_below hb _ _ h.1, kept_below hb _ _ h.2.1, kept_below hb _ _ h.2.2.1, kept_below hb _ _ h.2.2.2.1, h.2.2.2.2.trans (hb.mono h.2.2.2.2.size)⟩
theorem S4.call {w V : World} {g1 g2 : Nat} {p o a b : Int} {f : FuncId} {args : Array Value} {v : Value} (h : S4 w g1 g2 p o a b V) (hc : Calls Tryz.prog f args V fun e V' => e = .returned v ∧ Below V.heap.size V V') :
    Calls Tryz.prog f args V fun e V' => e = .returned v ∧ S4 w g1 g2 p o a b V' := hc.mono fun _ _ hh => ⟨hh.1, h.keep hh.2⟩
end Go.Proofs.YtldbmogondmgmaaGreatDoor
set_option linter.unusedVariables false
set_option linter.unusedSimpArgs false
set_option maxRecDepth 100000
namespace Go.Proofs.YtldbmogondmgmaaGreatDoor
open Go.RowKit

theorem cmp3 : ∀ l m : List UInt8, (Lib.compareBytes l m = -1 ∧ Op.bytesLess l m = true ∧ (l == m) = false) ∨ (Lib.compareBytes l m = 0 ∧ Op.bytesLess l m = false ∧ (l == m) = true) ∨ (Lib.compareBytes l m = 1 ∧ Op.bytesLess l m = false ∧ (l == m) = false)
  | [], [] => Or.inr (Or.inl ⟨rfl, rfl, rfl⟩)
  | [], _ :: _ => Or.inl ⟨rfl, rfl, rfl⟩
  | _ :: _, [] => Or.inr (Or.inr ⟨rfl, rfl, rfl⟩)
  | a :: x, b :: y => by
    rw [Lib.compareBytes, Op.bytesLess]
    by_cases h : a < b
    · refine Or.inl ⟨by rw [if_pos h], by simp [h], ?_⟩
      have : a ≠ b := fun e => by rw [e] at h; exact UInt8.lt_irrefl _ h
      simp [this]
    · by_cases h2 : b < a
      · refine Or.inr (Or.inr ⟨by rw [if_neg h, if_pos h2], ?_, ?_⟩)
        · have : a ≠ b := fun e => by rw [e] at h2; exact UInt8.lt_irrefl _ h2
          simp [h, this]
        · have : a ≠ b := fun e => by rw [e] at h2; exact UInt8.lt_irrefl _ h2
          simp [this]
      · have e : a = b := UInt8.le_antisymm (UInt8.not_lt.1 h2) (UInt8.not_lt.1 h)
        subst e
        rw [if_neg h, if_neg h]
        rcases cmp3 x y with ⟨h1, h2, h3⟩ | ⟨h1, h2, h3⟩ | ⟨h1, h2, h3⟩
        · exact Or.inl ⟨h1, by simp [h, h2], by simpa using h3⟩
        · exact Or.inr (Or.inl ⟨h1, by simp [h, h2], by simpa using h3⟩)
        · exact Or.inr (Or.inr ⟨h1, by simp [h, h2], by simpa using h3⟩)
theorem odown_cmp (a b c d : Int) (h : may a b = true) (h' : may c d = true) :
    Lib.compareBytes (odown a b) (odown c d) = if c < a ∨ (a = c ∧ d < b) then -1 else if a = c ∧ b = d then 0 else 1 := by
  obtain ⟨h1, h2, h3, h4⟩ := of_decide_eq_true h
  obtain ⟨k1, k2, k3, k4⟩ := of_decide_eq_true h'
  unfold odown
  rw [cmp_app _ _ _ _ (by rw [wide_len, wide_len]), cmp_wide 6 _ _ (by omega) (by omega), cmp_wide 3 _ _ (by omega) (by omega)]
  unfold cmpI
  repeat' split
  all_goals first | rfl | omega
theorem cmp_mark (m : UInt8) (s t x y : List UInt8) : Lib.compareBytes (m :: (okey s ++ x)) (m :: (okey t ++ y)) = if Lib.compareBytes s t = 0 then Lib.compareBytes x y else Lib.compareBytes s t := by
  rw [cmp_same]
  have h := cmp_okey s t x y
  unfold okey
  simpa using h
end Go.Proofs.YtldbmogondmgmaaGreatDoor
set_option linter.unusedVariables false
set_option linter.unusedSimpArgs false
set_option maxRecDepth 100000
namespace Go.Proofs.YtldbmogondmgmaaGreatDoor
open Go.RowKit

theorem rIsId_c (n : Int) (b : Bool) (h : isI n = b) (w : World) : Calls Tryz.prog 219 #[.int .i64 n] w fun e w' => e = .returned (.bool b) ∧ w = w' := by
  subst h
  go_enter Tryz.func219, Tryz.ntmps219
  go_wp2
  all_goals go_ret
  all_goals refine ⟨congrArg (fun v => Ending.returned (Value.bool v)) ?_, rfl⟩
  all_goals unfold isI
  all_goals first | exact (decide_eq_true (by omega)).symm | exact (decide_eq_false (by omega)).symm | exact decide_eq_decide.2 (by omega)
theorem rHead_c (id ep pr : Int) (an : ByteArray) (b : Bool) (h : hdr id ep pr an = b) (w : World) : Calls Tryz.prog 201 #[.int .i64 id, .int .i64 ep, .int .i64 pr, .string an] w fun e w' => e = .returned (.bool b) ∧ w = w' := by
  subst h
  have HC := Lib.hid (refCheck an)
  cases h1 : isI id
  all_goals by_cases h4 : 1 ≤ an.size ∧ an.size ≤ 32
  all_goals (first | rw [if_pos h4] at HC | rw [if_neg h4] at HC)
  all_goals (first | have k4 : isK an = true := isK_iff.2 h4 | have k4 : isK an = false := decide_eq_false h4)
  all_goals by_cases h2 : 0 ≤ ep
  all_goals by_cases h3 : ep ≤ 9007199254740991
  all_goals by_cases h5 : 1 ≤ pr
  all_goals by_cases h6 : pr ≤ 1000
  all_goals go_enter Tryz.func201, Tryz.ntmps201
  all_goals go_wp2_with (first
    | (go_at_call 219; refine (rIsId_c _ _ h1 _).mono ?_; rintro e w1 ⟨rfl, rfl⟩)
    | (go_at_call 220; refine (HC.out _).mono ?_; rintro e w1 ⟨rfl, rfl⟩))
  all_goals go_ret
  all_goals refine ⟨congrArg (fun v => Ending.returned (Value.bool v)) ?_, rfl⟩
  all_goals unfold hdr
  all_goals rw [h1, k4]
  all_goals first
    | (simp; done)
    | (rw [show isN ep = true from decide_eq_true (by omega), show isP pr = true from decide_eq_true (by omega)]; rfl)
    | (rw [show isN ep = false from decide_eq_false (by omega)]; simp; done)
    | (rw [show isP pr = false from decide_eq_false (by omega)]; simp; done)
set_option maxHeartbeats 4000000 in
theorem rMayI_c (x : It) (b : Bool) (h : mayI x = b) (A : Option Addr) (n c : Nat) (w : World) (hx : ChAt w A n x.l) (hn : n ≤ 9223372036854775807) :
    Calls Tryz.prog 161 #[itv x (.slice A n c)] w fun e w' => e = .returned (.bool b) ∧ Below w.heap.size w w' := by
  obtain ⟨id, ep, pr, an, sw, sl, bw, bl, l⟩ := x
  simp only at hx
  unfold mayI at h
  simp only at h
  have hl := hx.1
  have g0 := nbl w (.cells (itc ⟨id, ep, pr, an, sw, sl, bw, bl, l⟩ (.slice A n c)) 39)
  have HX := Lib.hid (Blk.new w 39 (itc ⟨id, ep, pr, an, sw, sl, bw, bl, l⟩ (.slice A n c)))
  have HL := Lib.hid (hx.below g0)
  have HD := Lib.hid (fun V => rHead_c id ep pr an _ rfl V)
  have HS := Lib.hid (fun V => refCheck5 sw sl V)
  have HT := Lib.hid (fun V => refCheck5 bw bl V)
  cases h1 : hdr id ep pr an
  · rw [h1] at h HD
    simp at h
    subst h
    go_enter Tryz.func161, Tryz.ntmps161
    go_wp2_with (go_at_call 201; refine (HD.out _).mono ?_; rintro e w1 ⟨rfl, rfl⟩)
    go_ret
    exact ⟨rfl, g0⟩
  · rw [h1] at h HD
    cases h2 : may sw sl
    · rw [h2] at h
      simp at h
      subst h
      rw [show ck sw sl = 9 by unfold ck; rw [h2]; rfl] at HS
      go_enter Tryz.func161, Tryz.ntmps161
      go_wp2_with (first
          | (go_at_call 201; refine (HD.out _).mono ?_; rintro e w1 ⟨rfl, rfl⟩)
          | (go_at_call_of 202 (Value.agg #[.int .i64 sw, .int .i64 sl]); refine (HS.out _).mono ?_; rintro e w1 ⟨rfl, b1⟩; have X1 := Lib.hid (HX.out.below b1 (by simp)); have g1 := g0.trans (b1.mono g0.size); have y6 := X1.out.cell 6; have y7 := X1.out.cell 7; have y8 := X1.out.cell 8; simp at y6 y7 y8))
      go_ret
      exact ⟨rfl, g1⟩
    rw [h2] at h
    rw [show ck sw sl = 0 by unfold ck; rw [h2]; rfl] at HS
    cases h3 : may bw bl
    · rw [h3] at h
      simp at h
      subst h
      rw [show ck bw bl = 9 by unfold ck; rw [h3]; rfl] at HT
      go_enter Tryz.func161, Tryz.ntmps161
      go_wp2_with (first
          | (go_at_call 201; refine (HD.out _).mono ?_; rintro e w1 ⟨rfl, rfl⟩)
          | (go_at_call_of 202 (Value.agg #[.int .i64 sw, .int .i64 sl]); refine (HS.out _).mono ?_; rintro e w1 ⟨rfl, b1⟩; have X1 := Lib.hid (HX.out.below b1 (by simp)); have g1 := g0.trans (b1.mono g0.size); have y6 := X1.out.cell 6; have y7 := X1.out.cell 7; have y8 := X1.out.cell 8; simp at y6 y7 y8)
          | (go_at_call_of 202 (Value.agg #[.int .i64 bw, .int .i64 bl]); refine (HT.out _).mono ?_; rintro e w2 ⟨rfl, b2⟩; have X2 := Lib.hid (X1.out.below b2 X1.out.lt); have g2 := g1.trans (b2.mono g1.size); have z8 := X2.out.cell 8; simp at z8))
      go_ret
      exact ⟨rfl, g2⟩
    rw [h3] at h
    rw [show ck bw bl = 0 by unfold ck; rw [h3]; rfl] at HT
    by_cases h4 : 1 ≤ n
    case neg =>
      rw [decide_eq_false (by omega)] at h
      simp at h
      subst h
      obtain rfl : n = 0 := by omega
      go_enter Tryz.func161, Tryz.ntmps161
      go_wp2_with (first
          | (go_at_call 201; refine (HD.out _).mono ?_; rintro e w1 ⟨rfl, rfl⟩)
          | (go_at_call_of 202 (Value.agg #[.int .i64 sw, .int .i64 sl]); refine (HS.out _).mono ?_; rintro e w1 ⟨rfl, b1⟩; have X1 := Lib.hid (HX.out.below b1 (by simp)); have g1 := g0.trans (b1.mono g0.size); have y6 := X1.out.cell 6; have y7 := X1.out.cell 7; have y8 := X1.out.cell 8; simp at y6 y7 y8)
          | (go_at_call_of 202 (Value.agg #[.int .i64 bw, .int .i64 bl]); refine (HT.out _).mono ?_; rintro e w2 ⟨rfl, b2⟩; have X2 := Lib.hid (X1.out.below b2 X1.out.lt); have g2 := g1.trans (b2.mono g1.size); have z8 := X2.out.cell 8; simp at z8))
      go_ret
      exact ⟨rfl, g2⟩
    by_cases h5 : n ≤ 16
    case neg =>
      rw [decide_eq_false (by omega)] at h
      simp at h
      subst h
      go_enter Tryz.func161, Tryz.ntmps161
      go_wp2_with (first
          | (go_at_call 201; refine (HD.out _).mono ?_; rintro e w1 ⟨rfl, rfl⟩)
          | (go_at_call_of 202 (Value.agg #[.int .i64 sw, .int .i64 sl]); refine (HS.out _).mono ?_; rintro e w1 ⟨rfl, b1⟩; have X1 := Lib.hid (HX.out.below b1 (by simp)); have g1 := g0.trans (b1.mono g0.size); have y6 := X1.out.cell 6; have y7 := X1.out.cell 7; have y8 := X1.out.cell 8; simp at y6 y7 y8)
          | (go_at_call_of 202 (Value.agg #[.int .i64 bw, .int .i64 bl]); refine (HT.out _).mono ?_; rintro e w2 ⟨rfl, b2⟩; have X2 := Lib.hid (X1.out.below b2 X1.out.lt); have g2 := g1.trans (b2.mono g1.size); have z8 := X2.out.cell 8; simp at z8))
      go_ret
      exact ⟨rfl, g2⟩
    rw [decide_eq_true (by omega)] at h
    simp at h
    have HH := Lib.hid h
    have HLn := Lib.hid hl
    clear h hl hx
    go_enter Tryz.func161, Tryz.ntmps161
    go_wp2_with (first
      | (go_at_call 201; refine (HD.out _).mono ?_; rintro e w1 ⟨rfl, rfl⟩)
      | (go_at_call_of 202 (Value.agg #[.int .i64 sw, .int .i64 sl]); refine (HS.out _).mono ?_; rintro e w1 ⟨rfl, b1⟩; have X1 := Lib.hid (HX.out.below b1 (by simp)); have g1 := g0.trans (b1.mono g0.size); have y6 := X1.out.cell 6; have y7 := X1.out.cell 7; have y8 := X1.out.cell 8; simp at y6 y7 y8)
      | (go_at_call_of 202 (Value.agg #[.int .i64 bw, .int .i64 bl]); refine (HT.out _).mono ?_; rintro e w2 ⟨rfl, b2⟩; have X2 := Lib.hid (X1.out.below b2 X1.out.lt); have g2 := g1.trans (b2.mono g1.size); have z8 := X2.out.cell 8; simp at z8))
    have HL2 := Lib.hid (HL.out.below (b1.trans (b2.mono b1.size)))
    have G2 := Lib.hid g2
    clear HX HL HD HS HT b1 b2 g0 g1 g2 X1 X2 y6 y7 y8
    go_loopw [3, 4] (fun la i wr => ∃ (j : Nat) (a : Int), j ≤ n ∧ la = .int .i64 a ∧ i = .int .i64 j ∧ 0 ≤ a ∧ a ≤ 9007199254740991 ∧ Hid (rise a (l.drop j) = b) ∧ Hid (Below w2.heap.size w2 wr)) (fun _ i _ => n - (intOf i).toNat)
    case atStart => exact ⟨0, 0, Nat.zero_le _, rfl, rfl, by omega, by omega, HH, Lib.hid (Below.refl _ _)⟩
    case round =>
      obtain ⟨j, a, hj, rfl, rfl, ha, ha2, HR, HBW⟩ := hrel
      have x8 := kept_below HBW.out _ _ z8
      by_cases hlt : j < n
      · have hjl : j < l.length := by rw [HLn.out]; exact hlt
        obtain ⟨B, o, rfl, hc⟩ := HL2.out.2 (by omega)
        have p := hc j hjl
        have hr := HR.out
        rw [List.drop_eq_getElem_cons hjl] at hr
        obtain ⟨cc, hcc⟩ : ∃ cc, l[j]'hjl = cc := ⟨_, rfl⟩
        rw [hcc] at p hr
        obtain ⟨q, s, d⟩ := cc
        obtain ⟨p0, p1, p2⟩ := p
        have P0 := kept_below HBW.out _ _ p0
        have P1 := kept_below HBW.out _ _ p1
        have P2 := kept_below HBW.out _ _ p2
        have W0 := Blk.new wr 24 #[.int .i64 q, .string s, .bool d]
        have o0 := W0.cell 0
        have o1 := W0.cell 1
        have o2 := W0.cell 2
        have o8 := kept_below (nbl wr (.cells #[.int .i64 q, .string s, .bool d] 24)) _ _ x8
        have HN := Lib.hid (HBW.out.alloc HBW.out.size (.cells #[.int .i64 q, .string s, .bool d] 24))
        simp at o0 o1 o2
        have e1 := empty_iff s
        have e2 := empty_is s
        have HO : Hid (rise a (⟨q, s, d⟩ :: l.drop (j + 1)) = b) := Lib.hid hr
        have hno : ∀ (hk : okCh a ⟨q, s, d⟩ = false), b = false := fun hk => by
          have := HO.out
          rw [rise, hk] at this
          simpa using this.symm
        have HNO := Lib.hid hno
        clear hc hcc hr W0 hno p0 p1 p2
        have fin : ∀ (hk : okCh a ⟨q, s, d⟩ = true), rise q (l.drop (j + 1)) = b := fun hk => by
          have := HO.out
          rw [rise, hk] at this
          simpa using this
        have HFIN := Lib.hid fin
        clear fin
        by_cases c1 : a < q
        case neg =>
          have hF := HNO.out (by unfold okCh; rw [decide_eq_false c1]; rfl)
          subst hF
          go_wp2
          go_ret
          exact ⟨rfl, G2.out.trans (HN.out.mono G2.out.size)⟩
        by_cases c2 : q ≤ 9007199254740991
        case neg =>
          have hF := HNO.out (by unfold okCh; rw [show isI q = false from decide_eq_false (by omega)]; simp)
          subst hF
          go_wp2
          go_ret
          exact ⟨rfl, G2.out.trans (HN.out.mono G2.out.size)⟩
        by_cases c3 : s.size ≤ 64
        case neg =>
          have hF := HNO.out (by unfold okCh; rw [show isV s (!d) = false from decide_eq_false (by omega)]; simp)
          subst hF
          go_wp2
          go_ret
          exact ⟨rfl, G2.out.trans (HN.out.mono G2.out.size)⟩
        by_cases c4 : s.size = 0
        · rw [decide_eq_true c4] at e1 e2
          have hT := HFIN.out (by unfold okCh; rw [decide_eq_true c1, show isI q = true from isI_iff.2 (by omega), show isV s (!d) = true from isV_iff.2 ⟨c3, Or.inr c4⟩]; rfl)
          have HT := Lib.hid hT
          clear hT HO
          cases d
          all_goals go_wp2
          all_goals go_roundw
          all_goals try (case rel => exact ⟨j + 1, q, by omega, rfl, by go_num, by omega, by omega, HT, HN⟩)
          all_goals (simp [intOf]; omega)
        · rw [decide_eq_false c4] at e1 e2
          cases d
          · have hT := HFIN.out (by unfold okCh; rw [decide_eq_true c1, show isI q = true from isI_iff.2 (by omega), show isV s (!false) = true from isV_iff.2 ⟨c3, Or.inl rfl⟩]; rfl)
            have HT := Lib.hid hT
            clear hT HO
            go_wp2
            go_roundw
            case rel => exact ⟨j + 1, q, by omega, rfl, by go_num, by omega, by omega, HT, HN⟩
            case measure => simp [intOf]; omega
          · have hF := HNO.out (by unfold okCh; rw [show isV s (!true) = false from decide_eq_false (fun hh => hh.2.elim (fun h => by simp at h) c4)]; simp)
            subst hF
            go_wp2
            go_ret
            exact ⟨rfl, G2.out.trans (HN.out.mono G2.out.size)⟩
      · have hT : b = true := by
          have := HR.out
          rw [List.drop_eq_nil_of_le (by have := HLn.out; omega)] at this
          exact this.symm
        subst hT
        go_wp2
        go_ret
        exact ⟨rfl, G2.out.trans (HBW.out.mono G2.out.size)⟩
end Go.Proofs.YtldbmogondmgmaaGreatDoor
set_option linter.unusedVariables false
set_option linter.unusedSimpArgs false
set_option maxRecDepth 100000
namespace Go.Proofs.YtldbmogondmgmaaGreatDoor
open Go.RowKit

/-- Bytes in memory of the call's own, handed back. -/
def BytesP (w : World) (l : List UInt8) (e : Ending) (w' : World) : Prop := ∃ A m c, e = .returned (.slice A m c) ∧ At w' A m l ∧ Below w.heap.size w w'
theorem rnum (n : Int) (w : World) (h0 : 0 ≤ n) (h1 : n ≤ 9007199254740991) : Calls Tryz.prog 143 #[.int .i64 n] w (BytesP w (nbs n)) := by
  obtain ⟨k, rfl⟩ : ∃ k : Nat, n = (k : Int) := ⟨n.toNat, by omega⟩
  rw [num_nat]
  have HC := Lib.hid (refNum k w (by omega))
  go_enter Tryz.func143, Tryz.ntmps143
  go_wp2_with fail
  refine HC.out.mono ?_
  rintro e w1 ⟨v, rfl, ho, hb⟩
  obtain ⟨A, c, rfl, hat, _⟩ := ho.form
  go_wp2
  go_ret
  exact ⟨A, _, c, rfl, hat, hb⟩
theorem rstr (s : ByteArray) (w : World) (h : s.size ≤ 64) : Calls Tryz.prog 144 #[.string s] w (BytesP w (tbs s)) := by
  have HC := Lib.hid (refStr s 64 w (by omega) (by omega))
  go_enter Tryz.func144, Tryz.ntmps144
  go_wp2_with fail
  refine HC.out.mono ?_
  rintro e w1 ⟨v, rfl, ho, hb⟩
  obtain ⟨A, c, rfl, hat, _⟩ := ho.form
  obtain ⟨m, hm⟩ : ∃ m, (enc s.size ++ sb s).length = m := ⟨_, rfl⟩
  rw [hm] at hat ⊢
  go_wp2
  go_ret
  exact ⟨A, _, c, rfl, hat, hb⟩
theorem cv_ {w : World} {A : Option Addr} {n : Nat} {xs : List UInt8} (h : At w A n xs) (c : Nat) : (convert 160 9 (.slice A n c)).run Tryz.prog w = .ok (.string ⟨xs.toArray⟩) w :=
  h.conv c 160 5 9 Tryz.underlying160 (by kernel_rfl) Tryz.underlying9
theorem nb_str (a : Int) (h : a ≤ 9007199254740991) : ∃ s : ByteArray, ⟨(nbs a).toArray⟩ = s ∧ s.size ≤ 8 := ⟨_, rfl, num_len h⟩
set_option maxHeartbeats 1000000 in
theorem rVersion (s : ByteArray) (d : Bool) (w : World) : Calls Tryz.prog 77 #[.string s, .bool d] w fun e w' => e = ansT (isV s d) (txV s d) ∧ Below w.heap.size w w' := by
  have e1 := empty_iff s
  have e2 := empty_is s
  by_cases h64 : 64 < s.size
  · rw [show isV s d = false from decide_eq_false (by omega)]
    go_enter Tryz.func77, Tryz.ntmps77
    go_wp2
    go_ret2
    exact ⟨rfl, Below.refl _ _⟩
  · cases d
    · by_cases h0 : s.size = 0
      · rw [decide_eq_true h0] at e1 e2
        rw [show isV s false = true from decide_eq_true ⟨by omega, .inr h0⟩]
        go_enter Tryz.func77, Tryz.ntmps77
        go_wp2_with (go_at_call 143; refine (rnum 0 _ (by decide) (by decide)).mono ?_; rintro e w1 ⟨A, m, c, rfl, hat, hb⟩; have hcv := cv_ hat c)
        go_ret2
        exact ⟨by rw [ansT_t]; simp [txV, fbs, nbs], hb⟩
      · rw [decide_eq_false h0] at e1 e2
        rw [show isV s false = false from decide_eq_false (fun h => by rcases h.2 with h | h; cases h; exact h0 h)]
        go_enter Tryz.func77, Tryz.ntmps77
        go_wp2
        go_ret2
        exact ⟨rfl, Below.refl _ _⟩
    · rw [show isV s true = true from decide_eq_true ⟨by omega, .inl rfl⟩]
      obtain ⟨sa, hsa, za⟩ := nb_str 1 (by decide)
      obtain ⟨sc, hsc, zc⟩ : ∃ q : ByteArray, ⟨(tbs s).toArray⟩ = q ∧ q.size ≤ 72 := ⟨_, rfl, str_len (by omega) (Nat.le_refl _)⟩
      have HE := Lib.hid (show (sa ++ sc : ByteArray) = ⟨(txV s true).toArray⟩ by rw [← hsa, ← hsc]; apply ByteArray.ext; simp [txV, fbs, nbs])
      have HSA := Lib.hid hsa
      have HSC := Lib.hid hsc
      clear hsa hsc
      go_enter Tryz.func77, Tryz.ntmps77
      go_wp2_with fail
      go_region_with (first
        | (go_at_call 143; refine (rnum 1 _ (by decide) (by decide)).mono ?_; rintro e w2 ⟨A1, m1, c1, rfl, hat1, hb3⟩
           have v1 := cv_ hat1 c1
           rw [HSA.out] at v1
           have f3 : Below w.heap.size w w2 := by first | exact hb3 | exact (below_drewN (Below.refl w.heap.size w) 1).trans hb3)
        | (go_at_call 144; refine (rstr s _ (by omega)).mono ?_; rintro e w3 ⟨A2, m2, c2, rfl, hat2, hb4⟩
           have v2 := cv_ (hat1.below' hb4) c1
           rw [HSA.out] at v2
           have v3 := cv_ hat2 c2
           rw [HSC.out] at v3
           have f4 : Below w.heap.size w w3 := by first | exact f3.trans (hb4.mono f3.size) | exact f3.drew.trans (hb4.mono f3.size)))
      all_goals go_wp2
      all_goals go_ret2
      all_goals exact ⟨by rw [ansT_t, ← HE.out]; rfl, f4⟩
end Go.Proofs.YtldbmogondmgmaaGreatDoor
