/-
  Layer 16: the statements' words: ordered, list, is.
-/
import Derived.Test.YtdpdokgbockmbaaSpHelp
import Derived.Deep.RegionHeld3
import Derived.Deep.AppendLies
set_option linter.unusedVariables false
set_option linter.unusedSimpArgs false
set_option maxRecDepth 100000
namespace Go.Proofs.Ytdpdokgbockmbaa
open Go.RowKit

theorem ordS_pair : ∀ {l : List Sn}, OrdS l → ∀ (i j : Nat) (hi : i < l.length) (hj : j < l.length), i < j → kl l[i].t l[j].f = true
  | [], _, i, j, hi, _, _ => absurd hi (Nat.not_lt_zero _)
  | s :: l, h, 0, j + 1, _, hj, _ => h.2.1 _ (List.getElem_mem _)
  | s :: l, h, i + 1, j + 1, hi, hj, hij => ordS_pair h.2.2 i j (by simpa using hi) (by simpa using hj) (by omega)
  | s :: l, h, i, 0, _, _, hij => absurd hij (Nat.not_lt_zero _)
theorem ordS_one_ {l : List Sn} (h : OrdS l) (i : Nat) (hi : i < l.length) : kl l[i].f l[i].t = true := ordS_all h _ (List.getElem_mem hi)
set_option maxHeartbeats 4000000 in
theorem spOrdered (A : Option Addr) (n c : Nat) (a : List Sn) (w : World) (ha : SnAt w A n a) (ho : OrdS a) (hn : n ≤ 9223372036854775807) :
    Calls Try.prog 13 #[.slice A n c] w fun e w' => e = .returned (.bool true) ∧ Below w.heap.size w w' := by
  have HA := Lib.hid ha
  have HLA := Lib.hid ha.1
  have HO := Lib.hid ho
  clear ha ho
  go_enter Try.func13, Try.ntmps13
  go_wp2
  go_loopw [3] (fun i wr => ∃ j : Nat, j ≤ n ∧ i = .int .i64 j ∧ Hid (Below w.heap.size w wr)) (fun i _ => n - (intOf i).toNat)
  case atStart => exact ⟨0, by omega, rfl, Lib.hid (Below.refl _ _)⟩
  case round =>
    obtain ⟨j, hj, rfl, HW⟩ := hrel
    by_cases hlt : j < n
    · obtain ⟨q, o, rfl, hcc⟩ := (HA.out.below HW.out).2 (by omega)
      obtain ⟨c0, c1⟩ := hcc j (by rw [HLA.out]; exact hlt)
      have hft := ordS_one_ HO.out j (by rw [HLA.out]; exact hlt)
      rcases Nat.eq_zero_or_pos j with hj0 | hj0
      · subst hj0
        simp only [Nat.zero_mul, Nat.add_zero] at c0 c1
        obtain ⟨⟨f, t⟩, hg⟩ : ∃ u, a[0]'(by rw [HLA.out]; exact hlt) = u := ⟨_, rfl⟩
        rw [hg] at c0 c1 hft
        have hft2 : Op.bytesLess f.toList t.toList = true := hft
        clear hcc hg hft
        go_wp2
        go_quiet (fail)
        all_goals
          go_wp2
          go_roundw
          case rel => exact ⟨1, by omega, by go_num, Lib.hid ⟨HW.out.os, HW.out.tape, HW.out.output, HW.out.size, HW.out.block⟩⟩
          case measure => simp [intOf]; omega
      · obtain ⟨m, rfl⟩ : ∃ m, j = m + 1 := ⟨j - 1, by omega⟩
        have htf := ordS_pair HO.out m (m + 1) (by rw [HLA.out]; omega) (by rw [HLA.out]; exact hlt) (by omega)
        obtain ⟨-, d1⟩ := hcc m (by rw [HLA.out]; omega)
        obtain ⟨⟨f, t⟩, hg⟩ : ∃ u, a[m + 1]'(by rw [HLA.out]; exact hlt) = u := ⟨_, rfl⟩
        obtain ⟨⟨f2, t2⟩, hg2⟩ : ∃ u, a[m]'(by rw [HLA.out]; omega) = u := ⟨_, rfl⟩
        rw [hg] at c0 c1 hft htf
        rw [hg2] at d1 htf
        have hft2 : Op.bytesLess f.toList t.toList = true := hft
        have htf2 : Op.bytesLess t2.toList f.toList = true := htf
        have hp1 : 0 < m + 1 := by omega
        have hp2 : (0 : Int) < ((m + 1 : Nat) : Int) := by omega
        have hp3 : (0 : Int) < (m : Int) + 1 := by omega
        clear hcc hg hg2 hft htf
        go_wp2
        go_quiet (fail)
        all_goals
          go_wp2
          go_roundw
          case rel => exact ⟨m + 2, by omega, by go_num, Lib.hid ⟨HW.out.os, HW.out.tape, HW.out.output, HW.out.size, HW.out.block⟩⟩
          case measure => simp [intOf]; omega
    · obtain rfl : j = n := by omega
      go_wp2
      go_ret
      exact ⟨rfl, HW.out⟩

/-! ### list, is -/
def prs : List ByteArray → List Sn
  | a :: b :: l => ⟨a, b⟩ :: prs l
  | _ => []
/-- Texts that lie in memory. -/
def StAt (w : World) (A : Option Addr) (n : Nat) (l : List ByteArray) : Prop :=
  l.length = n ∧ (0 < n → ∃ b o, A = some ⟨b, o, none⟩ ∧ ∀ i (h : i < l.length), w.cell? ⟨b, o + i, none⟩ = some (.string (l[i]'h)))
theorem StAt.below {w w' : World} {A : Option Addr} {n : Nat} {l : List ByteArray} (h : StAt w A n l) (hb : Below w.heap.size w w') : StAt w' A n l := by
  refine ⟨h.1, fun hn => ?_⟩
  obtain ⟨b, o, e, hc⟩ := h.2 hn
  exact ⟨b, o, e, fun i hi => (hb.cell (World.block_lt_of_cell? w _ (hc i hi))).trans (hc i hi)⟩
theorem StAt.lit {w : World} {b : Nat} {l : List ByteArray} {t : TypeId} {f : Nat × Nat} (h : w.heap[b]? = some (.cells (l.map Value.string).toArray t f)) : StAt w (some ⟨b, 0, none⟩) l.length l :=
  ⟨rfl, fun _ => ⟨b, 0, rfl, fun i hi => by rw [cell_of_row w b _ _ t f h, Nat.zero_add]; simp [hi]⟩⟩
theorem prs_take : ∀ (l : List ByteArray) (m : Nat) (h : m + 1 < l.length), m % 2 = 0 → prs (l.take (m + 2)) = prs (l.take m) ++ [⟨l[m], l[m + 1]⟩]
  | [], m, h, _ => absurd h (Nat.not_lt_zero _)
  | [a], m, h, _ => by simp at h
  | a :: b :: l, 0, h, _ => by simp [prs]
  | a :: b :: l, 1, h, h2 => by cases h2
  | a :: b :: l, m + 2, h, h2 => by
    have ih := prs_take l m (by simp at h; omega) (by omega)
    rw [List.take_succ_cons, List.take_succ_cons, prs, ih, List.take_succ_cons, List.take_succ_cons, prs]
    rfl
theorem prs_all (l : List ByteArray) (j : Nat) (h : l.length ≤ 2 * j + 1) : prs (l.take (2 * j)) = prs l := by
  induction j generalizing l with
  | zero =>
    match l, h with
    | [], _ => rfl
    | [a], _ => rfl
    | a :: b :: l, h => simp at h
  | succ j ih =>
    match l, h with
    | [], _ => rfl
    | [a], _ => rfl
    | a :: b :: l, h =>
      have e2 : 2 * (j + 1) = 2 * j + 1 + 1 := by omega
      rw [e2, List.take_succ_cons, List.take_succ_cons, prs, prs, ih l (by simp at h; omega)]
theorem sn_ones (l : List Sn) : ∀ u ∈ sfl2 l, u.oneCell' = true := sfl2_one l
/-- 'append(v, l...)', in a region that draws. -/
theorem step_appSn {w : World} {ops : Array Oper} {o : Oper} {a : Act} {K : Act → World → Prop} {Q : Exit → Act → World → Prop} {E : Prop} (hgd : o.guard = none) (s x : Operand)
    (ho : o.op = .call { callee := .builtin .append, args := #[s, x], argTypes := #[22, 22] })
    (B : Nat) (v : Value) (k : Nat) (xs l : List Sn) (hs : a.eval s = v) (hown : SnRow w B v k xs) (ad : Addr) (n c : Nat) (hx : a.eval x = .slice (some ad) n c)
    (hr : SnAt w (some ad) n l) (hn : 0 < n) (hbytes : (k + n) * 32 ≤ 140737488355328) (hbase : B ≤ w.heap.size)
    (h : ∀ A' c' w', SnRow w' B (.slice A' (k + n) c') (k + n) (xs ++ l) → w.grownBy w' v.ownBlock → K (a.put o.dst (.slice A' (k + n) c')) w') :
    if Region.wanted o (yielded ops a.tmps) = true then Oper.wp Try.prog o a w K Q else E := by
  obtain ⟨i, hi, hz, hsz, hby⟩ := info_parts infoSn
  exact step_append_lies w hgd s x 22 ho B 30 i _ 2 32 Try.underlying22 hi hz hsz hby rfl (by decide) v k (sfl2 xs) hs hown ad n c (sfl2 l) hx (by rw [sfl2_len, hr.1]) hr.news (sfl2_one l) hn
    (by unfold maxLen; omega) hbytes hbase _ rfl (fun g' cap w' r1 r2 _ _ => h _ _ w' (by unfold SnRow; rw [sfl2_app]; exact r1) r2)
set_option maxHeartbeats 8000000 in
theorem spList (A : Option Addr) (n c : Nat) (ts : List ByteArray) (w : World) (ha : StAt w A n ts) (hn : n ≤ 1000) :
    Calls Try.prog 21 #[.slice A n c] w fun e w' => ∃ E C, e = .returned (.slice E (prs ts).length C) ∧ SnAt w' E (prs ts).length (prs ts) ∧ (prs ts).length ≤ C ∧ Below w.heap.size w w' := by
  have HA := Lib.hid ha
  have HLA := Lib.hid ha.1
  clear ha
  go_enter Try.func21, Try.ntmps21
  go_wp2
  go_loopw [3, 4] (fun v i wr => ∃ (j C : Nat) (E : Option Addr), 2 * j ≤ n ∧ i = .int .i64 ((2 * j : Nat) : Int) ∧ v = .slice E j C ∧ Hid (SnRow wr w.heap.size (.slice E j C) j (prs (ts.take (2 * j)))) ∧ Hid (Below w.heap.size w wr)) (fun _ i _ => n - (intOf i).toNat)
  case atStart => exact ⟨0, 0, none, by omega, rfl, rfl, Lib.hid (SnRow.nil _ _), Lib.hid (Below.refl _ _)⟩
  case round =>
    obtain ⟨j, C, E, hj, rfl, rfl, HR, HW⟩ := hrel
    obtain ⟨i2, hi2⟩ : ∃ i2, 2 * j = i2 := ⟨_, rfl⟩
    by_cases hlt : i2 + 1 < n
    · obtain ⟨q, o, rfl, hcc⟩ := HA.out.2 (by omega)
      have x0 := hcc i2 (by rw [HLA.out]; omega)
      have x1 := hcc (i2 + 1) (by rw [HLA.out]; omega)
      have hp := prs_take ts i2 (by rw [HLA.out]; omega) (by omega)
      obtain ⟨f, hf⟩ : ∃ u, ts[i2]'(by rw [HLA.out]; omega) = u := ⟨_, rfl⟩
      obtain ⟨t, ht⟩ : ∃ u, ts[i2 + 1]'(by rw [HLA.out]; omega) = u := ⟨_, rfl⟩
      rw [hf] at x0 hp
      rw [ht] at x1 hp
      have hq := World.block_lt_of_cell? _ _ x0
      have c0 := (HW.out.cell (p := ⟨q, o + i2, none⟩) hq).trans x0
      have c1 := (HW.out.cell (p := ⟨q, o + (i2 + 1), none⟩) hq).trans x1
      have X01 := Lib.hid (And.intro x0 x1)
      clear x0 x1
      rw [hi2] at HR ⊢
      have HP := Lib.hid hp
      have HI := Lib.hid hi2
      clear hcc hp hi2 hf ht
      have hlq := World.block_lt_of_cell? _ _ c0
      have HR1 := Lib.hid (show SnRow (wr.alloc (.cells #[.string f, .string t] 30)).drew w.heap.size (.slice E j C) j (prs (ts.take i2)) from (show SnRow (wr.alloc (.cells #[.string f, .string t] 30)) w.heap.size (.slice E j C) j (prs (ts.take i2)) from HR.out.keep (nbl _ _)))
      have HB1 := Lib.hid (show Below w.heap.size w (wr.alloc (.cells #[.string f, .string t] 30)).drew from (bsa HW.out _).drew)
      have HL1 := Lib.hid (show SnAt (wr.alloc (.cells #[.string f, .string t] 30)).drew (some ⟨wr.heap.size, 0, none⟩) 1 [⟨f, t⟩] from sn_one wr f t)
      have d0 : wr.drew.cell? ⟨q, o + i2, none⟩ = some (.string f) := c0
      have d1 : wr.drew.cell? ⟨q, o + (i2 + 1), none⟩ = some (.string t) := c1
      have e0 : (wr.alloc (.cells #[.string f, .string t] 30)).drew.cell? ⟨q, o + i2, none⟩ = some (.string f) := (nbl wr _).cell hlq |>.trans c0
      have e1 : (wr.alloc (.cells #[.string f, .string t] 30)).drew.cell? ⟨q, o + (i2 + 1), none⟩ = some (.string t) := (nbl wr _).cell (p := ⟨q, o + (i2 + 1), none⟩) hlq |>.trans c1
      have hjn : (i2 : Int) + 1 < (n : Int) := by omega
      have hj0 : (0 : Int) ≤ (i2 : Int) := by omega
      have hj1 : (i2 : Int) < (n : Int) := by omega
      have hj2 : (0 : Int) ≤ (i2 : Int) + 1 := by omega
      have hjw : IntKind.i64.wrap ((i2 : Int) + 1) = (i2 : Int) + 1 := by rw [IntKind.wrap_i64]; omega
      have hjt : ((i2 : Int) + 1).toNat = i2 + 1 := by omega
      have HS1 := Lib.hid HB1.out.size
      go_wp2_with fail
      go_region_held3 (fun V => V.cell? ⟨q, o + i2, none⟩ = some (.string f) ∧ V.cell? ⟨q, o + (i2 + 1), none⟩ = some (.string t))
        (first | with_reducible assumption | with_reducible exact ⟨d0, d1⟩ | exact ⟨e0, e1⟩ | (constructor <;> with_reducible assumption) | trivial)
        ((refine step_appSn rfl _ _ rfl w.heap.size (.slice E j C) j _ [⟨f, t⟩] rfl HR1.out ⟨wr.heap.size, 0, none⟩ 1 1 rfl HL1.out (by omega) (by omega) HS1.out ?_; intro E2 C2 w2 h2 hg2; have HR2 := Lib.hid h2; have hb2 := HB1.out.grown hg2 HS1.out (fun g e => (HR1.out.lt g e).1); have y0 := (hb2.cell (p := ⟨q, o + i2, none⟩) hq).trans X01.out.1; have y1 := (hb2.cell (p := ⟨q, o + (i2 + 1), none⟩) hq).trans X01.out.2; have HB2 := Lib.hid hb2))
      all_goals
        go_wp2_with fail
        go_roundw
        case rel => exact ⟨j + 1, C2, E2, by have := HI.out; omega, by rw [show 2 * (j + 1) = i2 + 2 from by have := HI.out; omega]; go_num, rfl, Lib.hid (by have h := HR2.out; rw [← HP.out] at h; rw [show 2 * (j + 1) = i2 + 2 from by have := HI.out; omega]; exact h), HB2⟩
        case measure => simp [intOf]; omega
    · have HX := Lib.hid (prs_all ts j (by rw [HLA.out]; omega))
      rw [HX.out] at HR
      have HL := Lib.hid HR.out.len
      obtain ⟨E3, C3, h3, hat, hle, -⟩ := HR.out.form
      injection h3 with h4 h5 h6
      subst h4 h6
      have HAT := Lib.hid hat
      have HLE := Lib.hid hle
      clear hat hle h5
      rw [hi2]
      have hi3 : i2 ≤ 1000 := by omega
      have hjn : ¬ (i2 : Int) + 1 < (n : Int) := by omega
      clear hi2
      go_wp2
      go_ret
      exact ⟨E, C, by rw [HL.out]; rfl, by rw [HL.out]; exact HAT.out, by rw [HL.out]; exact HLE.out, HW.out⟩
end Go.Proofs.Ytdpdokgbockmbaa
