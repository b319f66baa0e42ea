/-
  Layer 10, the statements' words: turned, keys, chapter, works.
-/
import Derived.Test.YtgakkeeeadndkaaTbCopy
set_option linter.unusedVariables false
namespace Go.Proofs.Ytgakkeeeadndkaa
open Go.RowKit Go.Shelf

set_option maxRecDepth 100000 in
set_option maxHeartbeats 4000000 in
theorem turned10 (A : Option Addr) (n c : Nat) (L : List Rw) (w : World) (hx : WAt w A n L) (hn : n ≤ 1000000) :
    Calls Try.prog 25 #[.slice A n c] w fun e w' => ∃ u, e = .returned u ∧ RRow w' w.heap.size u L.reverse.length L.reverse ∧ Below w.heap.size w w' := by
  have HA := Lib.hid (fun V (hb : Below w.heap.size w V) => hx.below hb)
  have hlen := hx.1
  have HLN := Lib.hid hlen
  clear hx hlen
  have hwr : IntKind.i64.wrap ((n : Int) - 1) = (n : Int) - 1 := IntWalk.i64_in _ (by omega)
  go_enter Try.func25, Try.ntmps25
  go_wp2_with fail
  go_loopw [3, 4] (fun ov iv wr => ∃ i : Nat, i ≤ n ∧ iv = .int .i64 ((i : Int) - 1) ∧ Hid (RRow wr w.heap.size ov (n - i) (L.drop i).reverse) ∧ Hid (Below w.heap.size w wr)) (fun _ iv _ => (intOf iv + 1).toNat)
  case atStart => exact ⟨n, Nat.le_refl _, rfl, Lib.hid (by rw [Nat.sub_self, List.drop_of_length_le (by rw [HLN.out]; exact Nat.le_refl _)]; exact RRow.nil _ _), Lib.hid (Below.refl _ _)⟩
  case round =>
    obtain ⟨i, hi, rfl, HR, HB⟩ := hrel
    by_cases h0 : 0 < i
    · have hlt : i - 1 < L.length := by rw [HLN.out]; omega
      obtain ⟨bb, o, rfl, hcc⟩ := (HA.out wr HB.out).2 (by omega)
      obtain ⟨c1, c2⟩ := hcc (i - 1) hlt
      have hd : (L.drop (i - 1)).reverse = (L.drop i).reverse ++ [L[i - 1]'hlt] := by
        rw [List.drop_eq_getElem_cons hlt, List.reverse_cons, show i - 1 + 1 = i by omega]
      obtain ⟨A9, c9, rfl, hat9, hl9, hm9⟩ := HR.out.form
      clear hat9 hcc
      generalize L[i - 1]'hlt = x at *
      obtain ⟨key, value⟩ := x
      have HD := Lib.hid hd
      have HB9 := Lib.hid (bsa HB.out (.cells #[.string key, .string value] 39))
      have HR9 := Lib.hid (HR.out.keep (nbl wr (.cells #[.string key, .string value] 39)))
      have HI9 := Lib.hid (row_one wr key value)
      clear hd
      obtain ⟨j, rfl⟩ : ∃ j, i = j + 1 := ⟨i - 1, by omega⟩
      rw [show j + 1 - 1 = j by omega] at c1 c2 HD
      rw [show ((j + 1 : Nat) : Int) - 1 = (j : Int) by omega]
      clear h0 hlt
      have hge : (0 : Int) ≤ (j : Int) := by omega
      have hltj : (j : Int) < (n : Int) := by omega
      go_wp2_with (first
        | (at_builtin; refine wpList_appR rfl _ _ rfl w.heap.size (.slice A9 (n - (j + 1)) c9) (n - (j + 1)) (L.drop (j + 1)).reverse [⟨key, value⟩] rfl HR9.out (some ⟨wr.heap.size, 0, none⟩) 1 1 rfl HI9.out (by omega) HB9.out.size ?_; intro v1 w1 hr1 hg1; have HB1 := Lib.hid (HB9.out.grown hg1 HB9.out.size (fun k e => (World.ownsRow.lt HR9.out k e).1)); have HR1 := Lib.hid hr1; clear hr1 hg1))
      go_roundw
      case rel => exact ⟨j, by omega, by go_num, Lib.hid (by rw [HD.out, show n - j = n - (j + 1) + 1 by omega]; exact HR1.out), HB1⟩
      case measure => simp [intOf]
    · obtain rfl : i = 0 := by omega
      rw [show ((0 : Nat) : Int) - 1 = -1 from rfl]
      go_wp2_with fail
      go_ret
      have hr := HR.out
      rw [List.drop_zero] at hr
      have hl := hr.len
      rw [← hl] at hr
      exact ⟨_, rfl, hr, HB.out⟩
/-- All keys, one behind the other. -/
def catK (L : List Rw) : ByteArray := L.foldl (fun s x => s ++ x.key) ⟨#[]⟩
theorem catK_succ {L : List Rw} {i : Nat} (h : i < L.length) : catK (L.take (i + 1)) = catK (L.take i) ++ (L[i]'h).key := by
  unfold catK
  rw [List.take_succ_eq_append_getElem h, List.foldl_append]
  rfl
theorem catK_size {L : List Rw} (hk : ∀ x ∈ L, x.key.size ≤ 100) (i : Nat) : (catK (L.take i)).size ≤ 100 * i := by
  induction i with
  | zero => exact Nat.le_refl _
  | succ i ih =>
    by_cases h : i < L.length
    · rw [catK_succ h, ByteArray.size_append]
      have := hk _ (List.getElem_mem h)
      omega
    · rw [List.take_of_length_le (by omega)] at ih ⊢
      omega
section
variable {w V : World} {T : List As} {p : Nat} {r : List Rw}
set_option maxRecDepth 100000 in
set_option maxHeartbeats 4000000 in
theorem tb_keys (back : Bool) (h : Has w (tbA p r :: T) V) (hz : Szs r) (hl : r.length ≤ 1000) (hk : ∀ x ∈ r, x.key.size ≤ 100) (f t : ByteArray) (L : List Rw) (hL : (if back then (btw r f t).reverse else btw r f t) = L) :
    Calls Try.prog 32 #[pt p, .string f, .string t, .bool back] V fun e w' => e = .returned (.string (catK L)) ∧ Has w (tbA p r :: T) w' := by
  have hmem : ∀ x ∈ L, x.key.size ≤ 100 := by
    intro x hx
    have h1 : x ∈ btw r f t := by
      rw [← hL] at hx
      split at hx
      · exact List.mem_reverse.1 hx
      · exact hx
    unfold btw at h1
    exact hk x (List.mem_of_mem_take (List.mem_of_mem_drop h1))
  have hll : L.length ≤ 1000 := by
    have h1 := btw_len r f t
    have h2 := rend_le r t
    rw [← hL]
    split
    · rw [List.length_reverse]; omega
    · omega
  have RG := Lib.hid (show Calls Try.prog 24 #[pt p, .string f, .string t, .bool back] V fun e w' => ∃ u, e = .returned u ∧ Has w (rwA u L :: tbA p r :: T) w' from by
    cases back with
    | true => rw [← hL]; exact h.tbRangedD hz (by omega) f t
    | false => rw [← hL]; exact h.tbRangedU hz (by omega) f t)
  have HSZ := Lib.hid (fun i => catK_size hmem i)
  have HSX := Lib.hid hmem
  clear h hz hl hk hL hmem
  go_enter Try.func32, Try.ntmps32
  go_wp2_with (first
    | (go_at_call 24; refine RG.out.mono ?_; rintro e w2 ⟨u, rfl, h2⟩; obtain ⟨A, c, rfl, hat, hc1, hc2⟩ := h2.rwForm (v := u) (L := L) (by simp); have HAT := Lib.hid hat; have H2 := Lib.hid h2.tail; clear h2 hat))
  go_loopw [9, 11] (fun ov iv wr => ∃ i : Nat, i ≤ L.length ∧ iv = .int .i64 i ∧ ov = .string (catK (L.take i)) ∧ Hid (Below w2.heap.size w2 wr)) (fun _ iv _ => L.length - (intOf iv).toNat)
  case atStart => exact ⟨0, Nat.zero_le _, rfl, rfl, Lib.hid (Below.refl _ _)⟩
  case round =>
    obtain ⟨i, hi, rfl, rfl, HB⟩ := hrel
    by_cases hlt : i < L.length
    · obtain ⟨bb, o, rfl, hcc⟩ := (HAT.out.below HB.out).2 (by omega)
      obtain ⟨c1, c2⟩ := hcc i hlt
      have hs1 := HSZ.out i
      have hs2 := HSX.out _ (List.getElem_mem hlt)
      have HC := Lib.hid (catK_succ hlt)
      clear hcc c2
      generalize (L[i]'hlt).key = key at *
      generalize catK (L.take i) = S at *
      have hs3 : S.size + key.size ≤ 200000 := by omega
      clear hs1 hs2
      go_wp2_with fail
      go_roundw
      case rel => exact ⟨i + 1, by omega, by go_num, by rw [HC.out], HB⟩
      case measure => simp [intOf]; omega
    · obtain rfl : i = L.length := by omega
      rw [List.take_of_length_le (Nat.le_refl _)]
      go_wp2_with fail
      go_ret
      exact ⟨rfl, H2.out.keep HB.out⟩
end
end Go.Proofs.Ytgakkeeeadndkaa
