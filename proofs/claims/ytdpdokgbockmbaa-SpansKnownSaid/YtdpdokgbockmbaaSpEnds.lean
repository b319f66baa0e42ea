/-
  Layer 16, the code: endsOf.
-/
import Derived.Test.YtdpdokgbockmbaaSpSort
set_option linter.unusedVariables false
set_option linter.unusedSimpArgs false
set_option maxRecDepth 100000
namespace Go.Proofs.Ytdpdokgbockmbaa
open Go.RowKit

theorem ChkW.grown {w V V' : World} {x y : Value} (h : ChkW w x y V) {row : Option Nat} (hg : V.grownBy V' row) (hr : ∀ g, row = some g → w.heap.size + 1 ≤ g) : ChkW w x y V' := by
  have hB := h.bel.grown hg h.bel.size (fun k e => Nat.le_of_succ_le (hr k e))
  have hk : V'.heap[w.heap.size]? = V.heap[w.heap.size]? := hg.block _ (World.block_lt_of_cell? V _ h.c0) (fun e => by have := hr _ e.symm; omega)
  refine ⟨hB, ?_, ?_⟩
  · have := h.c0
    unfold World.cell? at this ⊢
    rw [hk]
    exact this
  · have := h.c1
    unfold World.cell? at this ⊢
    rw [hk]
    exact this
theorem endsL_snoc (i : Int) {l : List Sn} {k : Nat} (h : k < l.length) : endsL i (l.take (k + 1)) = endsL i (l.take k) ++ [⟨l[k].f, i, 1⟩, ⟨l[k].t, i, -1⟩] := by
  rw [List.take_succ_eq_append_getElem h, endsL_app]
  rfl
/-- The ends so far. -/
def endsK (a b : List Sn) : Nat → List En
  | 0 => []
  | 1 => endsL 0 a
  | _ => endsAB a b
set_option maxHeartbeats 8000000 in
theorem spEnds (A B : Option Addr) (n m c d : Nat) (a b : List Sn) (w : World) (ha : SnAt w A n a) (hb : SnAt w B m b) (hn : n ≤ 1000) (hm : m ≤ 1000) :
    Calls Try.prog 37 #[.slice A n c, .slice B m d] w fun e w' => ∃ E c' D, e = .returned (.slice E D.length c') ∧ D.length ≤ c' ∧ c' ≤ 9223372036854775807 ∧ EnAt w' E D.length D ∧ D.Perm (endsAB a b) ∧ SorE D ∧ Below w.heap.size w w' := by
  have hla := ha.1
  have hlb := hb.1
  have HA := Lib.hid ha
  have HB := Lib.hid hb
  have HLA := Lib.hid hla
  have HLB := Lib.hid hlb
  clear ha hb hla hlb
  have ST := Lib.hid (ChkW.start w A B n m c d 22)
  have SZ := Lib.hid (show w.heap.size + 1 ≤ (w.alloc (.cells #[.slice A n c, .slice B m d] 22)).heap.size from by simp)
  go_enter Try.func37, Try.ntmps37
  go_wp2
  go_loopw [5, 14] (fun v i wr => ∃ (k N C : Nat) (E : Option Addr), k ≤ 2 ∧ i = .int .i64 k ∧ v = .slice E N C ∧ N ≤ 2000 * k ∧ Hid (EnRow wr (w.heap.size + 1) (.slice E N C) N (endsK a b k)) ∧ Hid (ChkW w (.slice A n c) (.slice B m d) wr)) (fun _ i _ => 2 - (intOf i).toNat)
  case atStart => exact ⟨0, 0, 0, none, by omega, rfl, rfl, by omega, Lib.hid (EnRow.nil _ _), ST⟩
  case round =>
    obtain ⟨k, N, C, E, hk, rfl, rfl, hN, HR, HW⟩ := hrel
    by_cases hlt : k < 2
    · have hl : ∃ L M K l, wr.cell? ⟨w.heap.size, k, none⟩ = some (.slice L M K) ∧ SnAt w L M l ∧ M ≤ 1000 ∧ endsK a b (k + 1) = endsK a b k ++ endsL k l := by
        rcases (show k = 0 ∨ k = 1 from by omega) with rfl | rfl
        · exact ⟨A, n, c, a, HW.out.c0, HA.out, by omega, rfl⟩
        · exact ⟨B, m, d, b, HW.out.c1, HB.out, by omega, rfl⟩
      obtain ⟨L, M, K, l, hc, hat, hM, hmay⟩ := hl
      have HAT := Lib.hid hat
      have HMAY := Lib.hid hmay
      have hlen := Lib.hid hat.1
      clear hat hmay
      have hki : (k : Int) < 2 := by omega
      have hkd : decide ((k : Int) < 2) = true := decide_eq_true hki
      go_wp2
      go_loopw [5, 21] (fun v i wr => ∃ (j N' C : Nat) (E : Option Addr), j ≤ M ∧ i = .int .i64 j ∧ v = .slice E N' C ∧ N' ≤ N + 2 * j ∧ Hid (EnRow wr (w.heap.size + 1) (.slice E N' C) N' (endsK a b k ++ endsL k (l.take j))) ∧ Hid (ChkW w (.slice A n c) (.slice B m d) wr)) (fun _ i _ => M - (intOf i).toNat)
      case atStart => exact ⟨0, N, C, E, by omega, rfl, rfl, by omega, Lib.hid (by simpa [endsL] using HR.out), HW⟩
      case round =>
        obtain ⟨j, N1, C1, E1, hj, rfl, rfl, hN1, HR1, HW2⟩ := hrel
        by_cases hlt2 : j < M
        · obtain ⟨q, o, rfl, hcc⟩ := (HAT.out.below HW2.out.bel).2 (by omega)
          obtain ⟨c0, c1⟩ := hcc j (by rw [hlen.out]; exact hlt2)
          have hs := endsL_snoc (k : Int) (l := l) (k := j) (by rw [hlen.out]; exact hlt2)
          obtain ⟨⟨f, t⟩, hg⟩ : ∃ u, l[j]'(by rw [hlen.out]; exact hlt2) = u := ⟨_, rfl⟩
          rw [hg] at c0 c1 hs
          have HS := Lib.hid hs
          clear hcc hs hg
          have HW3 := Lib.hid (HW2.out.keep (nbl wr (.cells #[.string f, .string t] 30)))
          have HW4 := Lib.hid (HW3.out.keep (nbl _ (.cells #[.string f, .int .i64 k, .int .i64 1, .string t, .int .i64 k, .int .i64 (-1)] 69)))
          have HR2 := Lib.hid (HR1.out.keep (nbl wr (.cells #[.string f, .string t] 30)))
          have HR3 := Lib.hid (HR2.out.keep (nbl _ (.cells #[.string f, .int .i64 k, .int .i64 1, .string t, .int .i64 k, .int .i64 (-1)] 69)))
          have hl2 := en_two (wr.alloc (.cells #[.string f, .string t] 30)) ⟨f, k, 1⟩ ⟨t, k, -1⟩
          rw [World.size_alloc] at hl2
          have HL := Lib.hid hl2
          clear hl2
          have HSZ := Lib.hid (show w.heap.size + 1 ≤ ((wr.alloc (.cells #[.string f, .string t] 30)).alloc (.cells #[.string f, .int .i64 k, .int .i64 1, .string t, .int .i64 k, .int .i64 (-1)] 69)).heap.size from by have := World.block_lt_of_cell? _ _ HW2.out.c0; simp; simp at this; omega)
          clear HR1 HR2 HW3
          go_wp2_with (at_builtin; refine wpList_appEn rfl _ _ rfl (w.heap.size + 1) (.slice E1 N1 C1) N1 _ _ rfl HR3.out (some ⟨wr.heap.size + 1, 0, none⟩) 2 2 rfl HL.out (by omega) HSZ.out ?_; intro v' w1 h1 hg1; obtain ⟨E2, C2, rfl, -, -, -⟩ := h1.form; have H1 := Lib.hid h1; have HW5 := Lib.hid (HW4.out.grown hg1 (fun g e => (HR3.out.lt g e).1)); clear h1 hg1)
          go_roundw
          case rel => exact ⟨j + 1, N1 + 2, C2, E2, by omega, by go_num, rfl, by omega, Lib.hid (by rw [HS.out, ← List.append_assoc]; exact H1.out), HW5⟩
          case measure => simp [intOf]; omega
        · obtain rfl : j = M := by omega
          have HM2 := Lib.hid (show endsK a b (k + 1) = endsK a b k ++ endsL k (l.take j) from by rw [HMAY.out, List.take_of_length_le (by rw [hlen.out]; exact Nat.le_refl _)])
          go_wp2
          go_roundw
          case rel => exact ⟨k + 1, N1, C1, E1, by omega, by go_num, rfl, by omega, Lib.hid (by rw [HM2.out]; exact HR1.out), HW2⟩
          case measure => simp [intOf]; omega
    · obtain rfl : k = 2 := by omega
      have HS := Lib.hid (spSort HR.out (by omega))
      have HL := Lib.hid HR.out.len
      go_wp2_with (go_at_call 45; refine HS.out.mono ?_; rintro e w1 ⟨rfl, D, hp, hs, hat, hg⟩; have HD := Lib.hid (And.intro hp (And.intro hs hat)); have HG := Lib.hid (HW.out.grown hg (fun g e => (HR.out.lt g e).1)); clear hp hs hat hg)
      go_ret
      obtain ⟨hp, hs, hat⟩ := HD.out
      have hl : D.length = N := hp.length_eq.trans HL.out
      obtain ⟨E2, C2, h2, -, h3, h4⟩ := HR.out.form
      injection h2 with h5 h6 h7
      subst h7
      exact ⟨E, C, D, by rw [hl]; rfl, by rw [hl]; exact h3, h4, by rw [hl]; exact hat, hp, hs, HG.out.bel⟩
end Go.Proofs.Ytdpdokgbockmbaa
