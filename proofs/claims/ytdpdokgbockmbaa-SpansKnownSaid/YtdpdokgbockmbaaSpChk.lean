/-
  Layer 16, the code: checkLists.
-/
import Derived.Test.YtdpdokgbockmbaaSpCode
import Derived.Test.YtdpdokgbockmbaaSpEnd
set_option linter.unusedVariables false
set_option linter.unusedSimpArgs false
set_option maxRecDepth 100000
namespace Go.Proofs.Ytdpdokgbockmbaa
open Go.RowKit

def fstE : List Sn → Int
  | [] => 0
  | s :: l => if chkS s = 0 then fstE l else chkS s
def chkL (a b : List Sn) : Int := if 1000 < a.length ∨ 1000 < b.length then 5 else if fstE a = 0 then fstE b else fstE a
theorem fstE_take : ∀ {l : List Sn} {k : Nat} (h : k < l.length), (∀ s ∈ l.take k, chkS s = 0) → chkS l[k] ≠ 0 → fstE l = chkS l[k]
  | s :: l, 0, _, _, h2 => by
    have h3 : chkS s ≠ 0 := h2
    rw [fstE, if_neg h3]
    rfl
  | s :: l, k + 1, h, h1, h2 => by
    rw [fstE, if_pos (h1 s (by simp))]
    exact fstE_take (by simpa using h) (fun u hu => h1 u (by rw [List.take_succ_cons]; exact List.mem_cons_of_mem _ hu)) h2
theorem fstE_ok : ∀ {l : List Sn}, MaySp l → fstE l = 0
  | [], _ => rfl
  | s :: l, h => by rw [fstE, if_pos (h s (by simp))]; exact fstE_ok (fun u hu => h u (by simp [hu]))
theorem fstE_may : ∀ {l : List Sn}, fstE l = 0 → MaySp l
  | [], _ => fun s hs => by cases hs
  | s :: l, h => by
    rw [fstE] at h
    split at h
    · rename_i h1
      intro u hu
      rcases List.mem_cons.1 hu with rfl | hu
      · exact h1
      · exact fstE_may h u hu
    · contradiction
theorem may_succ {l : List Sn} {k : Nat} (h : k < l.length) (h1 : ∀ s ∈ l.take k, chkS s = 0) (h2 : chkS l[k] = 0) : ∀ s ∈ l.take (k + 1), chkS s = 0 := by
  intro s hs
  rw [List.take_succ_eq_append_getElem h] at hs
  rcases List.mem_append.1 hs with hs | hs
  · exact h1 s hs
  · obtain rfl : s = l[k] := by simpa using hs
    exact h2
/-- The two lists in a block of their own. -/
structure ChkW (w : World) (x y : Value) (V : World) : Prop where
  bel : Below w.heap.size w V
  c0 : V.cell? ⟨w.heap.size, 0, none⟩ = some x
  c1 : V.cell? ⟨w.heap.size, 1, none⟩ = some y
theorem ChkW.keep {w V V' : World} {x y : Value} (h : ChkW w x y V) (hb : Below V.heap.size V V') : ChkW w x y V' :=
  ⟨bst h.bel hb, (hb.cell (World.block_lt_of_cell? V _ h.c0)).trans h.c0, (hb.cell (World.block_lt_of_cell? V _ h.c1)).trans h.c1⟩
theorem ChkW.start (w : World) (A B : Option Addr) (n m c d : Nat) (t : TypeId) : ChkW w (.slice A n c) (.slice B m d) (w.alloc (.cells #[.slice A n c, .slice B m d] t)) :=
  ⟨nbl w _, by simp, by simp⟩
set_option maxHeartbeats 4000000 in
theorem spChk (A B : Option Addr) (n m c d : Nat) (a b : List Sn) (w : World) (ha : SnAt w A n a) (hb : SnAt w B m b) (hn : n ≤ 9223372036854775807) (hm : m ≤ 9223372036854775807) :
    Calls Try.prog 36 #[.slice A n c, .slice B m d] w fun e w' => e = .returned (.int .i64 (chkL a b)) ∧ Below w.heap.size w w' := by
  have hla := ha.1
  have hlb := hb.1
  by_cases h1 : 1000 < n
  · have he : chkL a b = 5 := by unfold chkL; rw [if_pos (.inl (by omega))]
    rw [he]
    go_enter Try.func36, Try.ntmps36
    go_wp2
    go_ret
    exact ⟨rfl, Below.refl _ _⟩
  by_cases h2 : 1000 < m
  · have he : chkL a b = 5 := by unfold chkL; rw [if_pos (.inr (by omega))]
    rw [he]
    go_enter Try.func36, Try.ntmps36
    go_wp2
    go_ret
    exact ⟨rfl, Below.refl _ _⟩
  have he : chkL a b = if fstE a = 0 then fstE b else fstE a := by unfold chkL; rw [if_neg (by omega)]
  have HE := Lib.hid he
  have HA := Lib.hid ha
  have HB := Lib.hid hb
  have HLA := Lib.hid hla
  have HLB := Lib.hid hlb
  have HCK := Lib.hid (fun s W => spCheck s W)
  clear ha hb he hla hlb
  have ST := Lib.hid (ChkW.start w A B n m c d 22)
  go_enter Try.func36, Try.ntmps36
  go_wp2
  go_loopw [22] (fun i wr => ∃ k : Nat, k ≤ 2 ∧ i = .int .i64 k ∧ Hid ((0 < k → MaySp a) ∧ (1 < k → MaySp b)) ∧ Hid (ChkW w (.slice A n c) (.slice B m d) wr)) (fun i _ => 2 - (intOf i).toNat)
  case atStart => exact ⟨0, by omega, rfl, Lib.hid ⟨fun h => absurd h (by omega), fun h => absurd h (by omega)⟩, ST⟩
  case round =>
    obtain ⟨k, hk, rfl, HM, HW⟩ := hrel
    by_cases hlt : k < 2
    · have hl : ∃ L N C l, wr.cell? ⟨w.heap.size, k, none⟩ = some (.slice L N C) ∧ SnAt w L N l ∧ N ≤ 1000 ∧ (MaySp l → (0 < k + 1 → MaySp a) ∧ (1 < k + 1 → MaySp b)) ∧ (fstE l ≠ 0 → chkL a b = fstE l) := by
        rcases (show k = 0 ∨ k = 1 from by omega) with rfl | rfl
        · exact ⟨A, n, c, a, HW.out.c0, HA.out, by omega, fun h => ⟨fun _ => h, fun h => absurd h (by omega)⟩, fun h => by rw [HE.out, if_neg h]⟩
        · exact ⟨B, m, d, b, HW.out.c1, HB.out, by omega, fun h => ⟨fun _ => HM.out.1 (by omega), fun _ => h⟩, fun h => by rw [HE.out, if_pos (fstE_ok (HM.out.1 (by omega)))]⟩
      obtain ⟨L, N, C, l, hc, hat, hN, hmay, hno⟩ := hl
      have HAT := Lib.hid hat
      have HMAY := Lib.hid hmay
      have HNO := Lib.hid hno
      have hlen := Lib.hid hat.1
      clear hat hmay hno
      have hki : (k : Int) < 2 := by omega
      have hkd : decide ((k : Int) < 2) = true := decide_eq_true hki
      go_wp2
      go_loopw [28] (fun i wr => ∃ j : Nat, j ≤ N ∧ i = .int .i64 j ∧ Hid (∀ s ∈ l.take j, chkS s = 0) ∧ Hid (ChkW w (.slice A n c) (.slice B m d) wr)) (fun i _ => N - (intOf i).toNat)
      case atStart => exact ⟨0, by omega, rfl, Lib.hid (fun s hs => by simp at hs), HW⟩
      case round =>
        obtain ⟨j, hj, rfl, HT, HW2⟩ := hrel
        by_cases hlt2 : j < N
        · obtain ⟨q, o, rfl, hcc⟩ := (HAT.out.below HW2.out.bel).2 (by omega)
          obtain ⟨c0, c1⟩ := hcc j (by rw [hlen.out]; exact hlt2)
          have hs1 := fstE_take (l := l) (k := j) (by rw [hlen.out]; exact hlt2) HT.out
          have hs2 := may_succ (l := l) (k := j) (by rw [hlen.out]; exact hlt2) HT.out
          obtain ⟨⟨f, t⟩, hg⟩ : ∃ u, l[j]'(by rw [hlen.out]; exact hlt2) = u := ⟨_, rfl⟩
          rw [hg] at c0 c1 hs1 hs2
          have HS1 := Lib.hid hs1
          have HS2 := Lib.hid hs2
          have HC := Lib.hid (show ∀ W, Calls Try.prog 16 #[.agg #[.string f, .string t]] W fun e w' => e = .returned (.int .i64 (chkS ⟨f, t⟩)) ∧ Below W.heap.size W w' from fun W => HCK.out ⟨f, t⟩ W)
          clear hcc hs1 hs2 hg
          generalize chkS ⟨f, t⟩ = x at *
          have HWA := Lib.hid (HW2.out.keep (nbl wr (.cells #[.string f, .string t] 30)))
          by_cases hx : x = 0
          · subst hx
            have HS3 := Lib.hid (HS2.out rfl)
            clear HS1 HS2
            go_wp2_with (go_at_call 16; refine (HC.out _).mono ?_; rintro e w1 ⟨rfl, hb⟩; have HW3 := Lib.hid (HWA.out.keep hb))
            go_roundw
            case rel => exact ⟨j + 1, by omega, by go_num, HS3, HW3⟩
            case measure => simp [intOf]; omega
          · have HX := Lib.hid (show chkL a b = x from by rw [HNO.out (by rw [HS1.out hx]; exact hx)]; exact HS1.out hx)
            clear HS1 HS2
            go_wp2_with (go_at_call 16; refine (HC.out _).mono ?_; rintro e w1 ⟨rfl, hb⟩; have HW3 := Lib.hid (HWA.out.keep hb))
            go_ret
            exact ⟨by rw [HX.out]; rfl, HW3.out.bel⟩
        · obtain rfl : j = N := by omega
          have HM2 := Lib.hid (HMAY.out (fun s hs => HT.out s (by rw [List.take_of_length_le (by rw [hlen.out]; exact Nat.le_refl _)]; exact hs)))
          go_wp2
          go_roundw
          case rel => exact ⟨k + 1, by omega, by go_num, HM2, HW2⟩
          case measure => simp [intOf]; omega
    · obtain rfl : k = 2 := by omega
      have HX := Lib.hid (show chkL a b = 0 from by rw [HE.out, if_pos (fstE_ok (HM.out.1 (by omega))), fstE_ok (HM.out.2 (by omega))])
      go_wp2
      go_ret
      exact ⟨by rw [HX.out]; rfl, HW.out.bel⟩
end Go.Proofs.Ytdpdokgbockmbaa
