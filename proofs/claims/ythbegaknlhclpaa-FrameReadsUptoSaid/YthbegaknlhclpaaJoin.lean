/-
  quill.Join.
-/
import Derived.Test.YthbegaknlhclpaaRef
set_option linter.unusedVariables false
namespace Go.Proofs.Ythbegaknlhclpaa
open Go.RowKit

/-- A list of lists of bytes. -/
def Lists (w : World) (A : Option Addr) (m : Nat) (ls : List (List UInt8)) : Prop :=
  ls.length = m ∧ (0 < m → ∃ b o, A = some ⟨b, o, none⟩ ∧ ∀ i, (h : i < ls.length) → ∃ Ai ci, w.cell? ⟨b, o + i, none⟩ = some (.slice Ai ls[i].length ci) ∧ At w Ai ls[i].length ls[i])

theorem Lists.keep {w w' : World} {A : Option Addr} {m : Nat} {ls : List (List UInt8)} (h : Lists w A m ls) (hk : ∀ p : Addr, p.block < w.heap.size → w'.cell? p = w.cell? p) : Lists w' A m ls := by
  refine ⟨h.1, fun hm => ?_⟩
  obtain ⟨b, o, e, hc⟩ := h.2 hm
  refine ⟨b, o, e, fun i hi => ?_⟩
  obtain ⟨Ai, ci, h1, h2⟩ := hc i hi
  exact ⟨Ai, ci, by rw [hk _ (World.block_lt_of_cell? w _ h1)]; exact h1, h2.keep hk⟩

theorem at_one {w : World} {x : Int} {b : UInt8} (t : TypeId) (h : x = (b.toNat : Int)) : At (w.alloc (.cells #[.int .u8 x] t)) (some ⟨w.heap.size, 0, none⟩) 1 [b] := by
  subst h
  refine ⟨rfl, fun _ => ⟨_, _, rfl, fun i hi => ?_⟩⟩
  have : i = 0 := by simp at hi; omega
  subst this
  simp
theorem lists_one {w : World} {A : Option Addr} {n c : Nat} {l : List UInt8} (t : TypeId) (h : At w A n l) :
    Lists (w.alloc (.cells #[.slice A n c] t)) (some ⟨w.heap.size, 0, none⟩) 1 [l] := by
  obtain rfl := h.1
  refine ⟨rfl, fun _ => ⟨_, _, rfl, fun i hi => ?_⟩⟩
  have : i = 0 := by simp at hi; omega
  subst this
  exact ⟨A, c, by simp, h.alloc _⟩
theorem lists_two {w : World} {A A' : Option Addr} {n n' c c' : Nat} {l l' : List UInt8} (t : TypeId) (h : At w A n l) (h' : At w A' n' l') :
    Lists (w.alloc (.cells #[.slice A n c, .slice A' n' c'] t)) (some ⟨w.heap.size, 0, none⟩) 2 [l, l'] := by
  obtain rfl := h.1
  obtain rfl := h'.1
  refine ⟨rfl, fun _ => ⟨_, _, rfl, fun i hi => ?_⟩⟩
  match i, hi with
  | 0, _ => exact ⟨A, c, by simp, h.alloc _⟩
  | 1, _ => exact ⟨A', c', by simp, h'.alloc _⟩
  | i + 2, hi => exact absurd hi (by simp)

theorem flat_succ (ls : List (List UInt8)) (k : Nat) (h : k < ls.length) : (ls.take (k + 1)).flatten = (ls.take k).flatten ++ ls[k] := by
  rw [List.take_succ_eq_append_getElem h, List.flatten_append]
  simp
theorem flat_le (ls : List (List UInt8)) (k : Nat) : (ls.take k).flatten.length ≤ ls.flatten.length := by
  conv => rhs; rw [← List.take_append_drop k ls]
  rw [List.flatten_append, List.length_append]
  omega

set_option maxHeartbeats 1000000 in
theorem join (A : Option Addr) (m c : Nat) (ls : List (List UInt8)) (w : World) (hx : Lists w A m ls) (hm : m ≤ 9223372036854775807) (hn : ls.flatten.length ≤ 225000000000000) :
    Calls Try.prog 26 #[.slice A m c] w fun e w' => ∃ v, e = .returned v ∧ Own w' w.heap.size v ls.flatten ∧ Below w.heap.size w w' := by
  have hml := Lib.hid hx.1
  obtain ⟨i0, hi0, hz0, hz1, hz2⟩ := info_parts info5
  go_enter Try.func26, Try.ntmps26
  go_wp2
  go_loop [3, 5, 11] (fun s x i => ∃ k : Nat, k ≤ m ∧ i = .int .i64 k ∧ s = .int .i64 (ls.take k).flatten.length) (fun _ _ i => m - (intOf i).toNat)
  case atStart => exact ⟨0, Nat.zero_le _, rfl, by simp⟩
  case round =>
    obtain ⟨k, hk, rfl, rfl⟩ := hrel
    by_cases hlt : k < m
    · obtain ⟨b, o, rfl, hc⟩ := hx.2 (by omega)
      have hkl : k < ls.length := by rw [hml.out]; exact hlt
      obtain ⟨Ai, ci, h1, h2⟩ := hc k hkl
      have hf := Lib.hid (flat_succ ls k hkl)
      have hle := flat_le ls k
      have hle2 := flat_le ls (k + 1)
      rw [hf.out, List.length_append] at hle2
      obtain ⟨l, hl⟩ : ∃ l, l = ls[k].length := ⟨_, rfl⟩
      obtain ⟨t, ht⟩ : ∃ t, t = (ls.take k).flatten.length := ⟨_, rfl⟩
      rw [← hl, ← ht] at hle2
      rw [← ht] at hle ⊢
      rw [← hl] at h1
      have hfin : (ls.take (k + 1)).flatten.length = t + l := by rw [hf.out, List.length_append, ← hl, ← ht]
      have HF := Lib.hid hfin
      clear hc hl ht hfin
      go_wp2
      go_round
      case rel => exact ⟨k + 1, by omega, by go_num, by rw [HF.out]; go_num⟩
      case measure => simp [intOf]; omega
    · have hkm : k = m := by omega
      subst hkm
      obtain ⟨T, hT⟩ : ∃ T, T = ls.flatten.length := ⟨_, rfl⟩
      have htk : (ls.take k).flatten.length = T := by rw [← hml.out, List.take_length, hT]
      rw [htk]
      rw [← hT] at hn
      have HT := Lib.hid hT
      clear hT htk
      go_wp2_with (at_make; refine wpList_make_own _ rfl _ _ 22 rfl w.heap.size 5 i0 (.int .u8 0) 1 Try.underlying22 hi0 hz0 hz1 _ _ _ T rfl rfl rfl ?b2 ?b3 (Nat.le_refl _) ?_)
      case b2 => first | omega | (rw [hz2]; omega)
      case b3 => unfold maxLen; omega
      intro w1 hown hg
      have hb1 : Below w.heap.size w w1 := (Below.refl _ _).grown hg (Nat.le_refl _) (by simp)
      clear hg hz0 hz1 hz2 hi0
      go_wp2
      go_loopw [6, 8, 24] (fun v x i wr => ∃ j : Nat, j ≤ k ∧ i = .int .i64 j ∧ Own wr w.heap.size v (ls.take j).flatten ∧ Below w.heap.size w wr) (fun _ _ i _ => k - (intOf i).toNat)
      case atStart => exact ⟨0, Nat.zero_le _, rfl, by simpa [Own] using hown, hb1⟩
      case round =>
        obtain ⟨j, hj, rfl, hov, hbw⟩ := hrel
        have hxr : Lists wr A k ls := hx.keep fun p hp => hbw.cell hp
        by_cases hlt : j < k
        · obtain ⟨b, o, rfl, hc⟩ := hxr.2 (by omega)
          have hkl : j < ls.length := by rw [hml.out]; exact hlt
          obtain ⟨Ai, ci, h1, h2⟩ := hc j hkl
          have hle2 := flat_le ls (j + 1)
          rw [flat_succ ls j hkl, List.length_append, ← HT.out] at hle2
          have hf := Lib.hid (flat_succ ls j hkl)
          obtain ⟨l, hl⟩ : ∃ l, l = ls[j] := ⟨_, rfl⟩
          rw [← hl] at h1 h2 hle2
          have HL := Lib.hid hl
          have hsz := hbw.size
          obtain ⟨t, ht⟩ : ∃ t, t = (ls.take j).flatten := ⟨_, rfl⟩
          rw [← ht] at hov hle2
          have HTT := Lib.hid ht
          clear hc hl hxr ht
          go_wp2_with (at_builtin; refine wpList_app rfl _ _ 22 rfl w.heap.size 5 Try.underlying22 info5 u6 t.length t l rfl ?ho Ai l.length ci rfl h2 ?hb ?hs ?_)
          case ho => exact hov
          case hb => omega
          case hs => exact hsz
          intro v1 w2 hown2 hg2 hat2
          have hb2 : Below w.heap.size w w2 := hbw.grown hg2 hsz (fun q hq => (hov.lt q hq).1)
          have hov2 : Own w2 w.heap.size v1 (ls.take (j + 1)).flatten := by
            unfold Own
            rw [hf.out, ← HL.out, ← HTT.out, List.length_append]
            simpa using hown2
          clear hown2 hg2 hat2 h1 h2
          go_wp2
          go_roundw
          case rel => exact ⟨j + 1, by omega, by go_num, hov2, hb2⟩
          case measure => simp [intOf]; omega
        · have hjk : j = k := by omega
          subst hjk
          have hfin : Own wr w.heap.size u6 ls.flatten := by
            have : ls.take j = ls := by rw [← hml.out, List.take_length]
            rw [this] at hov
            exact hov
          clear hov hxr
          go_wp2
          go_ret
          exact ⟨_, rfl, hfin, hbw⟩
end Go.Proofs.Ythbegaknlhclpaa
