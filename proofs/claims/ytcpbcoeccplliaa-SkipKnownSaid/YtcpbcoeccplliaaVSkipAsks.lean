/-
  Layer 9: SkipAsks, walked.
-/
import Derived.Test.YtcpbcoeccplliaaSkDone
import Derived.Test.YtcpbcoeccplliaaSkWorks
set_option linter.unusedVariables false
namespace Go.Proofs.Ytcpbcoeccplliaa
open Go.RowKit

/-- Two that are the same. -/
theorem same9e (A1 A2 : Option Addr) (n1 n2 c1 c2 : Nat) (xs : List ByteArray) (w : World) (hx : SAt w A1 n1 xs) (hy : SAt w A2 n2 xs) (hn1 : n1 ≤ 9223372036854775807) (hn2 : n2 ≤ 9223372036854775807) :
    Calls Try.prog 25 #[.slice A1 n1 c1, .slice A2 n2 c2] w fun e w' => e = .returned (.bool true) ∧ Below w.heap.size w w' := by
  have h := same9 A1 A2 n1 n2 c1 c2 xs xs w hx hy hn1 hn2
  rw [decide_eq_true rfl] at h
  exact h
/-- The lists behind the first k deeds. -/
def listK (ds : List Sd9) (k : Nat) : List Kv := (ds.take k).foldl doD []
theorem listK_0 (ds : List Sd9) : listK ds 0 = [] := rfl
theorem listK_succ {ds : List Sd9} {k : Nat} (h : k < ds.length) : listK ds (k + 1) = doD (listK ds k) (ds[k]'h) := by
  unfold listK
  rw [List.take_succ_eq_append_getElem h, List.foldl_append]
  rfl
theorem listK_len (ds : List Sd9) (k : Nat) : (listK ds k).length ≤ k := by
  induction k with
  | zero => exact Nat.le_refl _
  | succ k ih =>
    by_cases h : k < ds.length
    · rw [listK_succ h]
      have := doD_len (listK ds k) (ds[k]'h)
      omega
    · unfold listK at ih ⊢
      rw [List.take_of_length_le (by omega)] at ih ⊢
      omega
theorem Has.nums {w V : World} {T : List As} {b : Nat} {l : List Kv} (h : Has w (rfA b l :: T) V) (key : ByteArray) : ∃ n, kval z9 l key = .int .i64 n := by
  obtain ⟨F, ⟨v0, hR, hF⟩, _⟩ := h.get
  cases hh : khas l key with
  | true =>
    obtain ⟨hp, _⟩ := (khas_iff _ _).1 hh
    rw [kval_eq hp hh]
    exact hR.nums _ (List.getElem_mem hp)
  | false => exact ⟨0, by unfold kval; rw [hh]; rfl⟩
theorem firstV_form (l : List Kv) (k : ByteArray) : ∃ a b, firstV l k = .tuple #[.string a, .bool b] := ⟨_, _, rfl⟩
theorem lastV_form (l : List Kv) (k : ByteArray) : ∃ a b, lastV l k = .tuple #[.string a, .bool b] := ⟨_, _, rfl⟩
set_option maxRecDepth 100000 in
set_option maxHeartbeats 8000000 in
theorem skipAsks_w (A0 : Option Addr) (n0 c0 : Nat) (key : ByteArray) (w : World) (ds : List Sd9) (hds : SdAt w A0 n0 ds) (hok : ∀ i (h : i < ds.length), (ds[i]'h).ok) (hn : n0 ≤ 9223372036854775807) (hks : key.size ≤ 281474976710656) :
    Calls Try.prog 4 #[.slice A0 n0 c0, .string key] w fun e w' => e = .returned (.bool true) ∧ Below w.heap.size w w' := by
  have h0 : Has w [] w := Has.nil (Below.refl _ _)
  have HDS := Lib.hid hds
  have HLN := Lib.hid hds.1
  have HOK := Lib.hid hok
  clear hds hok
  go_enter Try.func4, Try.ntmps4
  go_wp2_with (first
    | (go_at_call 11; refine h0.skNew.mono ?_; rintro e w1 ⟨q, rfl, h1⟩; clear h0)
    | (go_at_call 12; refine h1.rfNew.mono ?_; rintro e w2 ⟨b, rfl, h2⟩; have H2 := Lib.hid h2.swap; clear h1 h2))
  go_loopw [7] (fun i wr => ∃ k : Nat, k ≤ n0 ∧ k ≤ 80 ∧ i = .int .i64 k ∧ Hid (Has w (skA q (listK ds k) :: rfA b (listK ds k) :: []) wr)) (fun i _ => n0 - (intOf i).toNat)
  case atStart => exact ⟨0, Nat.zero_le _, Nat.zero_le _, rfl, H2⟩
  case round =>
    obtain ⟨k, hk, hk80, rfl, HH⟩ := hrel
    have hlen := listK_len ds k
    by_cases hlt : k < n0 ∧ k < 80
    · obtain ⟨hlt, hlt80⟩ := hlt
      have e1 : k < ds.length := by rw [HLN.out]; exact hlt
      obtain ⟨bb, o, rfl, hc⟩ := (HDS.out.below HH.out.bel).2 (by omega)
      obtain ⟨y0, y1, y2, y3⟩ := hc k e1
      have hokk := HOK.out k e1
      have hs := listK_succ e1
      obtain ⟨⟨kind, dk, val, st⟩, hg⟩ : ∃ x, ds[k]'e1 = x := ⟨_, rfl⟩
      rw [hg] at y0 y1 y2 y3 hokk hs
      have DN := Lib.hid (sk_done HH.out (by omega) hokk.size hokk.lo hokk.hi : Calls _ _ #[pt q, pt b, .agg #[.int .i64 kind, .string dk, .int .i64 val, .int .i64 st]] wr _)
      rw [← hs] at DN
      clear hc hs hg hokk hlen e1
      go_wp2_with (first | (go_at_call 13; refine DN.out.mono ?_; rintro e w3 ⟨rfl, h3⟩))
      go_roundw
      case rel => exact ⟨k + 1, by omega, by omega, by go_num, Lib.hid h3⟩
      case measure => simp [intOf]; omega
    · obtain ⟨vn, hvn⟩ := HH.out.swap.nums key
      obtain ⟨fk, fb, hf⟩ := firstV_form (listK ds k) key
      obtain ⟨lk, lb, hlv⟩ := lastV_form (listK ds k) key
      obtain ⟨hb, hhb⟩ : ∃ x, khas (listK ds k) key = x := ⟨_, rfl⟩
      obtain ⟨sn, hsn⟩ : ∃ x, ksteps (listK ds k) key = x := ⟨_, rfl⟩
      have G1 := Lib.hid (fun W (h : Has w (skA q (listK ds k) :: rfA b (listK ds k) :: []) W) => h.skGet key)
      have G2 := Lib.hid (fun W (h : Has w (rfA b (listK ds k) :: skA q (listK ds k) :: []) W) => h.rfGet key)
      have F1 := Lib.hid (fun W (h : Has w (skA q (listK ds k) :: rfA b (listK ds k) :: []) W) => h.skFirst key)
      have F2 := Lib.hid (fun W (h : Has w (rfA b (listK ds k) :: skA q (listK ds k) :: []) W) => h.rfFirst key)
      have LA1 := Lib.hid (fun W (h : Has w (skA q (listK ds k) :: rfA b (listK ds k) :: []) W) => h.skLast key)
      have LA2 := Lib.hid (fun W (h : Has w (rfA b (listK ds k) :: skA q (listK ds k) :: []) W) => h.rfLast key)
      have S1 := Lib.hid (fun W (h : Has w (skA q (listK ds k) :: rfA b (listK ds k) :: []) W) => h.skSteps key)
      have S2 := Lib.hid (fun W (h : Has w (rfA b (listK ds k) :: skA q (listK ds k) :: []) W) => h.rfSteps key)
      rw [hvn, hhb] at G1 G2
      rw [hf] at F1 F2
      rw [hlv] at LA1 LA2
      rw [hsn] at S1 S2
      have ss1 : (fk.toList == fk.toList) = true := by simp
      have ss2 : (lk.toList == lk.toList) = true := by simp
      clear hvn hf hlv hhb hsn hlen
      by_cases h1 : k < n0
      all_goals
        have h80 : ¬ (k < n0 ∧ k < 80) := hlt
        clear hlt
        (try have h802 : ¬ k < 80 := fun e => h80 ⟨h1, e⟩)
        go_wp2_with (first
          | (go_at_call 16; refine (G1.out _ HH.out).mono ?_; rintro e w3 ⟨rfl, h3⟩)
          | (go_at_call 17; refine (G2.out _ h3.swap).mono ?_; rintro e w4 ⟨rfl, h4⟩; clear h3)
          | (go_at_call 18; refine (F1.out _ h4.swap).mono ?_; rintro e w5 ⟨rfl, h5⟩; clear h4)
          | (go_at_call 19; refine (F2.out _ h5.swap).mono ?_; rintro e w6 ⟨rfl, h6⟩; clear h5)
          | (go_at_call 20; refine (LA1.out _ h6.swap).mono ?_; rintro e w7 ⟨rfl, h7⟩; clear h6)
          | (go_at_call 21; refine (LA2.out _ h7.swap).mono ?_; rintro e w8 ⟨rfl, h8⟩; clear h7)
          | (go_at_call 22; refine (S1.out _ h8.swap).mono ?_; rintro e w9 ⟨rfl, h9⟩; clear h8)
          | (go_at_call 23; refine (S2.out _ h9.swap).mono ?_; rintro e w10 ⟨rfl, h10⟩; clear h9)
          | (go_at_call 27; refine (sk_works _).mono ?_; rintro e w11 ⟨rfl, hb11⟩))
        go_ret
        exact ⟨rfl, bst h10.bel hb11⟩
end Go.Proofs.Ytcpbcoeccplliaa
