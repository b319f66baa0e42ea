/-
  Layer 16: the statements' words: Same, may, ordered, list, is.
-/
import Derived.Test.YtdpdokgbockmbaaSpReck
set_option linter.unusedVariables false
set_option linter.unusedSimpArgs false
set_option maxRecDepth 100000
namespace Go.Proofs.Ytdpdokgbockmbaa
open Go.RowKit

instance decSn : DecidableEq Sn := fun a b => by
  cases a; cases b
  simp only [Sn.mk.injEq]
  infer_instance
theorem takeSuccSn {α : Type} {l1 l2 : List α} {k : Nat} (h1 : k < l1.length) (h2 : k < l2.length) (h : l1.take k = l2.take k) (hk : l1[k]'h1 = l2[k]'h2) : l1.take (k + 1) = l2.take (k + 1) := by
  rw [List.take_succ_eq_append_getElem h1, List.take_succ_eq_append_getElem h2, h, hk]
theorem bdrS {w V : World} (h : Below w.heap.size w V) : Below w.heap.size w V.drew := h.drew
theorem run_neSn (ka va kb vb : ByteArray) (V : World) : (binOp .neq 30 (.agg #[.string ka, .string va]) (.agg #[.string kb, .string vb])).run Try.prog V = .ok (.bool (decide ((⟨ka, va⟩ : Sn) ≠ ⟨kb, vb⟩))) V := by
  go_simp
  by_cases h1 : ka = kb
  · subst h1
    by_cases h2 : va = vb
    · subst h2; simp
    · have h2' : ¬ va.toList = vb.toList := fun e => h2 (ktoList_inj e)
      simp [h2, h2']
  · have h1' : ¬ ka.toList = kb.toList := fun e => h1 (ktoList_inj e)
    simp [h1, h1']
set_option maxRecDepth 100000 in
set_option maxHeartbeats 4000000 in
theorem spSame (A B : Option Addr) (n m c d : Nat) (l1 l2 : List Sn) (w : World) (h1 : SnAt w A n l1) (h2 : SnAt w B m l2) (hn : n ≤ 9223372036854775807) (hm : m ≤ 9223372036854775807) :
    Calls Try.prog 15 #[.slice A n c, .slice B m d] w fun e w' => e = .returned (.bool (decide (l1 = l2))) ∧ Below w.heap.size w w' := by
  have hl1 := h1.1
  have hl2 := h2.1
  have H1 := Lib.hid h1
  have H2 := Lib.hid h2
  have HL1 := Lib.hid hl1
  have HL2 := Lib.hid hl2
  clear h1 h2 hl1 hl2
  by_cases hnm : n = m
  · subst hnm
    go_enter Try.func15, Try.ntmps15
    go_wp2
    go_loopw [5] (fun i wr => ∃ k : Nat, k ≤ n ∧ i = .int .i64 k ∧ Hid (l1.take k = l2.take k) ∧ Hid (Below w.heap.size w wr)) (fun i _ => n - (intOf i).toNat)
    case atStart => exact ⟨0, Nat.zero_le _, rfl, Lib.hid rfl, Lib.hid (Below.refl _ _)⟩
    case round =>
      obtain ⟨k, hk, rfl, HT, HB⟩ := hrel
      by_cases hlt : k < n
      · obtain ⟨b1, o1, rfl, hc1⟩ := (H1.out.below HB.out).2 (by omega)
        obtain ⟨b2, o2, rfl, hc2⟩ := (H2.out.below HB.out).2 (by omega)
        have e1 : k < l1.length := by rw [HL1.out]; exact hlt
        have e2 : k < l2.length := by rw [HL2.out]; exact hlt
        obtain ⟨x0, x1⟩ := hc1 k e1
        obtain ⟨y0, y1⟩ := hc2 k e2
        have TS := Lib.hid (fun h => takeSuccSn e1 e2 HT.out h)
        have NE := Lib.hid (fun (h : l1[k]'e1 ≠ l2[k]'e2) (h2 : l1 = l2) => h (by subst h2; rfl))
        generalize l1[k]'e1 = a at *
        generalize l2[k]'e2 = b at *
        obtain ⟨ka, va⟩ := a
        obtain ⟨kb, vb⟩ := b
        have NB := fun V => run_neSn ka va kb vb V
        clear hc1 hc2
        by_cases hab : (⟨ka, va⟩ : Sn) = ⟨kb, vb⟩
        · have HT2 := Lib.hid (TS.out hab)
          rw [decide_eq_false (fun h => h hab)] at NB
          clear TS NE hab
          go_wp2_with fail
          go_region
          all_goals
            go_wp2_with fail
            go_roundw
            case rel => exact ⟨k + 1, by omega, by go_num, HT2, Lib.hid (bdrS HB.out)⟩
            case measure => simp [intOf]; omega
        · have hd : decide (l1 = l2) = false := decide_eq_false (NE.out hab)
          rw [decide_eq_true hab] at NB
          have HD := Lib.hid hd
          clear TS NE hab hd
          go_wp2_with fail
          go_region
          all_goals
            go_wp2_with fail
            go_ret
            exact ⟨by rw [HD.out]; rfl, bdrS HB.out⟩
      · obtain rfl : k = n := by omega
        have ht := HT.out
        rw [List.take_of_length_le (by rw [HL1.out]; omega), List.take_of_length_le (by rw [HL2.out]; omega)] at ht
        have HD := Lib.hid (decide_eq_true ht)
        clear ht HT
        go_wp2_with fail
        go_ret
        exact ⟨by rw [HD.out]; rfl, HB.out⟩
  · have hd : decide (l1 = l2) = false := decide_eq_false (fun e => hnm (by rw [← HL1.out, ← HL2.out, e]))
    have hz : ((n : Int) != (m : Int)) = true := by simp; omega
    rw [hd]
    go_enter Try.func15, Try.ntmps15
    go_wp2_with fail
    go_ret
    exact ⟨rfl, Below.refl _ _⟩

def mayL (l : List Sn) : Bool := decide (l.length ≤ 300) && l.all (fun s => chkS s == 0)
theorem mayL_may {l : List Sn} (h : mayL l = true) : l.length ≤ 300 ∧ MaySp l := by
  unfold mayL at h
  simp only [Bool.and_eq_true, decide_eq_true_eq, List.all_eq_true, beq_iff_eq] at h
  exact ⟨h.1, fun s hs => h.2 s hs⟩
theorem mayL_no {l : List Sn} {k : Nat} (h : k < l.length) (h2 : chkS l[k] ≠ 0) : mayL l = false := by
  cases h3 : mayL l with
  | false => rfl
  | true => exact absurd ((mayL_may h3).2 _ (List.getElem_mem h)) h2
theorem mayL_yes {l : List Sn} (h : ∀ s ∈ l, chkS s = 0) : mayL l = decide (l.length ≤ 300) := by
  unfold mayL
  have : l.all (fun s => chkS s == 0) = true := by
    simp only [List.all_eq_true, beq_iff_eq]
    exact h
  rw [this, Bool.and_true]
set_option maxHeartbeats 4000000 in
theorem spMay (A : Option Addr) (n c : Nat) (a : List Sn) (w : World) (ha : SnAt w A n a) (hn : n ≤ 9223372036854775807) :
    Calls Try.prog 9 #[.slice A n c] w fun e w' => e = .returned (.bool (mayL a)) ∧ Below w.heap.size w w' := by
  have HA := Lib.hid ha
  have HLA := Lib.hid ha.1
  have HCK := Lib.hid (fun s W => spCheck s W)
  clear ha
  by_cases h3 : n ≤ 300
  · have h3i : (n : Int) ≤ 300 := by omega
    go_enter Try.func9, Try.ntmps9
    go_wp2
    go_loopw [3] (fun i wr => ∃ j : Nat, j ≤ n ∧ i = .int .i64 j ∧ Hid (∀ s ∈ a.take j, chkS s = 0) ∧ Hid (Below w.heap.size w wr)) (fun i _ => n - (intOf i).toNat)
    case atStart => exact ⟨0, by omega, rfl, Lib.hid (fun s hs => by simp at hs), Lib.hid (Below.refl _ _)⟩
    case round =>
      obtain ⟨j, hj, rfl, HT, HW⟩ := hrel
      by_cases hlt : j < n
      · obtain ⟨q, o, rfl, hcc⟩ := (HA.out.below HW.out).2 (by omega)
        obtain ⟨c0, c1⟩ := hcc j (by rw [HLA.out]; exact hlt)
        have hs1 := mayL_no (l := a) (k := j) (by rw [HLA.out]; exact hlt)
        have hs2 := may_succ (l := a) (k := j) (by rw [HLA.out]; exact hlt) HT.out
        obtain ⟨⟨f, t⟩, hg⟩ : ∃ u, a[j]'(by rw [HLA.out]; exact hlt) = u := ⟨_, rfl⟩
        rw [hg] at c0 c1 hs1 hs2
        have HS1 := Lib.hid hs1
        have HS2 := Lib.hid hs2
        have HC := Lib.hid (show ∀ W, Calls Try.prog 16 #[.agg #[.string f, .string t]] W fun e w' => e = .returned (.int .i64 (chkS ⟨f, t⟩)) ∧ Below W.heap.size W w' from fun W => HCK.out ⟨f, t⟩ W)
        clear hcc hs1 hs2 hg
        generalize chkS ⟨f, t⟩ = x at *
        by_cases hx : x = 0
        · subst hx
          have HS3 := Lib.hid (HS2.out rfl)
          clear HS1 HS2
          go_wp2_with (go_at_call 16; refine (HC.out _).mono ?_; rintro e w1 ⟨rfl, hb⟩; have HW3 := Lib.hid (bst HW.out hb))
          go_roundw
          case rel => exact ⟨j + 1, by omega, by go_num, HS3, HW3⟩
          case measure => simp [intOf]; omega
        · have HX := Lib.hid (HS1.out hx)
          clear HS1 HS2
          go_wp2_with (go_at_call 16; refine (HC.out _).mono ?_; rintro e w1 ⟨rfl, hb⟩; have HW3 := Lib.hid (bst HW.out hb))
          go_ret
          exact ⟨by rw [HX.out]; rfl, HW3.out⟩
      · obtain rfl : j = n := by omega
        have HX := Lib.hid (show mayL a = true from by
          rw [mayL_yes (fun s hs => HT.out s (by rw [List.take_of_length_le (by rw [HLA.out]; exact Nat.le_refl _)]; exact hs)), HLA.out]
          exact decide_eq_true h3)
        go_wp2
        go_ret
        exact ⟨by rw [HX.out]; rfl, HW.out⟩
  · have h3i : ¬ (n : Int) ≤ 300 := by omega
    have h3d : decide ((n : Int) ≤ 300) = false := decide_eq_false h3i
    have HX := Lib.hid (show mayL a = false from by
      unfold mayL
      rw [decide_eq_false (by rw [HLA.out]; exact h3), Bool.false_and])
    go_enter Try.func9, Try.ntmps9
    go_wp2
    refine wp_loop_rounds 1 ?_
    rw [rounds_succ]
    go_wp2
    (try simp only [Exit.inBlock, Exit.then])
    go_ret
    exact ⟨by rw [HX.out]; rfl, Below.refl _ _⟩
end Go.Proofs.Ytdpdokgbockmbaa
