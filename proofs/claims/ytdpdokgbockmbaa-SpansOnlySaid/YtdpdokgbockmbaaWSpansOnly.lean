/-
  SpansOnly: the walk.
-/
import Derived.Test.YtdpdokgbockmbaaSpWorks
set_option linter.unusedVariables false
set_option linter.unusedSimpArgs false
set_option maxRecDepth 100000
namespace Go.Proofs.Ytdpdokgbockmbaa
open Go.RowKit

/-- Each twice, the last one first. -/
def turn2 (l : List Sn) : List Sn := l.reverse.flatMap fun s => [s, s]
theorem turn2_mem {l : List Sn} {s : Sn} : s ∈ turn2 l ↔ s ∈ l := by
  unfold turn2
  simp
theorem turn2_in (l : List Sn) (k : ByteArray) : inI (turn2 l) k = inI l k := by
  have : ∀ b, inI (turn2 l) k = b ↔ inI l k = b := fun b => by
    cases b with
    | true =>
      rw [inI_mem, inI_mem]
      simp only [turn2_mem]
    | false =>
      rw [← Bool.not_eq_true, ← Bool.not_eq_true, inI_mem, inI_mem]
      simp only [turn2_mem]
  exact (this _).2 rfl
theorem turn2_len (l : List Sn) : (turn2 l).length = 2 * l.length := by
  unfold turn2
  induction l with
  | nil => rfl
  | cons s l ih => rw [List.reverse_cons, List.flatMap_append, List.length_append, ih, List.length_cons]; simp [Nat.mul_add]
theorem turn2_snoc {l : List Sn} {j : Nat} (h : j < l.length) : turn2 (l.drop j) = turn2 (l.drop (j + 1)) ++ [l[j], l[j]] := by
  unfold turn2
  rw [List.drop_eq_getElem_cons h, List.reverse_cons, List.flatMap_append]
  rfl
theorem spe_self {X : List Sn} (h : OrdS X) (h2 : ∀ s ∈ X, s.f.size ≤ 33 ∧ s.t.size ≤ 33) : Spe wJ X [] X := ⟨h, fun k => rfl, h2, by omega⟩
theorem spe_turn {a X : List Sn} (h : Spe wJ a [] X) : Spe wJ (turn2 a) [] X := ⟨h.ord, fun k => by rw [h.has, turn2_in], h.siz, by have h1 := h.cnt; rw [turn2_len]; simp only [List.length_nil] at h1 ⊢; omega⟩
set_option maxHeartbeats 8000000 in
theorem spansOnly_walk (A : Option Addr) (n c : Nat) (w : World) (ha0 : ∃ l : List Sn, SnAt w A n l ∧ ∀ i (h : i < l.length), (l[i]'h).f.size ≤ 562949953421312 ∧ (l[i]'h).t.size ≤ 562949953421312) (hnc : n ≤ c) (hc : c ≤ 9223372036854775807) :
    Calls Try.prog 4 #[.slice A n c] w fun e w' => e = .returned (.bool true) ∧ Below w.heap.size w w' := by
  obtain ⟨a, ha, -⟩ := ha0
  have hla := Lib.hid ha.1
  have HW := Lib.hid (fun V => spWorks V)
  have HM := Lib.hid (fun V (h : SnAt V A n a) => spMay A n c a V h (by omega))
  have HK := Lib.hid ((Kp.start w).sn ha)
  cases hmay : mayL a with
  | false =>
    rw [hmay] at HM
    clear ha hmay
    go_enter Try.func4, Try.ntmps4
    go_wp2_with (first
      | (go_at_call 8; refine (HW.out _).mono ?_; rintro e w1 ⟨rfl, hb⟩; have HK := Lib.hid (HK.out.keep hb); clear hb)
      | (go_at_call 9; refine (HM.out _ HK.out.now.2).mono ?_; rintro e w1 ⟨rfl, hb⟩; have HK := Lib.hid (HK.out.keep hb); clear hb))
    go_ret
    exact ⟨rfl, HK.out.bel⟩
  | true =>
    rw [hmay] at HM
    obtain ⟨hlen, hm⟩ := mayL_may hmay
    obtain ⟨X, hX⟩ := spe_ex wJ rfl hm (b := []) (fun s hs => by cases hs)
    obtain ⟨N, hN⟩ : ∃ N, X.length = N := ⟨_, rfl⟩
    have hNle : N ≤ 600 := by have := hX.cnt; simp at this; omega
    have hn3 : n ≤ 300 := by rw [← hla.out]; exact hlen
    have JA := Lib.hid (fun V (h : SnAt V A n a) => spJoin (c := c) h (by omega) hm hX hN)
    have JX := Lib.hid (fun V E C (h : SnAt V E N X) => spJoin (c := C) h (by omega) hX.may (spe_self hX.ord hX.siz) hN)
    have JT := Lib.hid (fun V E C (h : SnAt V E (2 * n) (turn2 a)) => spJoin (c := C) h (by omega) (fun s hs => hm s (turn2_mem.1 hs)) (spe_turn hX) hN)
    have SA := Lib.hid (fun V E C E2 C2 (h : SnAt V E N X) (h2 : SnAt V E2 N X) => spSame E E2 N N C C2 X X V h h2 (by omega) (by omega))
    rw [decide_eq_true rfl] at SA
    clear ha hmay hX hm hlen hN
    go_enter Try.func4, Try.ntmps4
    go_wp2_with (first
      | (go_at_call 8; refine (HW.out _).mono ?_; rintro e w1 ⟨rfl, hb⟩; have HK := Lib.hid (HK.out.keep hb); clear hb)
      | (go_at_call 9; refine (HM.out _ HK.out.now.2).mono ?_; rintro e w1 ⟨rfl, hb⟩; have HK := Lib.hid (HK.out.keep hb); clear hb)
      | (go_at_call 10; (first
          | (with_reducible refine (JA.out _ HK.out.now.2).mono ?_)
          | (with_reducible refine (JX.out _ _ _ HK.out.now.2).mono ?_)); rintro e w1 ⟨E, C, rfl, hs, -, -, hb⟩; have HK := Lib.hid ((HK.out.keep hb).sn hs); clear hb hs))
    have HK0 := Lib.hid HK.out
    have NI := Lib.hid hn3
    go_loopw [7, 8] (fun v i wr => ∃ (j C : Nat) (E : Option Addr), j ≤ n ∧ i = .int .i64 ((j : Int) - 1) ∧ v = .slice E (2 * (n - j)) C ∧ Hid (SnRow wr w1.heap.size (.slice E (2 * (n - j)) C) (2 * (n - j)) (turn2 (a.drop j))) ∧ Hid (Below w1.heap.size w1 wr)) (fun _ i _ => (intOf i + 1).toNat)
    case atStart =>
      refine ⟨n, 0, none, Nat.le_refl _, by go_num, by simp, Lib.hid ?_, Lib.hid (Below.refl _ _)⟩
      rw [Nat.sub_self, List.drop_of_length_le (by rw [hla.out]; exact Nat.le_refl _)]
      exact SnRow.nil _ _
    case round =>
      obtain ⟨j, C, E, hj, rfl, rfl, HR, HB⟩ := hrel
      obtain ⟨M, hM⟩ : ∃ M, 2 * (n - j) = M := ⟨_, rfl⟩
      rw [hM] at HR ⊢
      have HMM := Lib.hid hM
      clear hM
      by_cases hj0 : 0 < j
      · obtain ⟨m, rfl⟩ : ∃ m, j = m + 1 := ⟨j - 1, by omega⟩
        rw [show (((m + 1 : Nat) : Int) - 1) = (m : Int) from by omega]
        have hml : m < n := by omega
        obtain ⟨q, o, rfl, hcc⟩ := HK0.out.now.1.1.2.2 (by omega)
        obtain ⟨x0, x1⟩ := hcc m (by rw [hla.out]; exact hml)
        have hsn := turn2_snoc (l := a) (j := m) (by rw [hla.out]; exact hml)
        obtain ⟨⟨f, t⟩, hg⟩ : ∃ u, a[m]'(by rw [hla.out]; exact hml) = u := ⟨_, rfl⟩
        rw [hg] at x0 x1 hsn
        have HSN := Lib.hid hsn
        have hq := World.block_lt_of_cell? _ _ x0
        have c0 := (HB.out.cell (p := ⟨q, o + m * 2, none⟩) hq).trans x0
        have c1 := (HB.out.cell (p := ⟨q, o + m * 2 + 1, none⟩) hq).trans x1
        have X01 := Lib.hid (And.intro x0 x1)
        clear x0 x1 hcc hsn hg
        have hlq := World.block_lt_of_cell? _ _ c0
        have HR1 := Lib.hid (show SnRow (wr.alloc (.cells #[.string f, .string t, .string f, .string t] 30)).drew w1.heap.size (.slice E M C) M (turn2 (a.drop (m + 1))) from (show SnRow (wr.alloc (.cells #[.string f, .string t, .string f, .string t] 30)) w1.heap.size (.slice E M C) M (turn2 (a.drop (m + 1))) from HR.out.keep (nbl _ _)))
        have HB1 := Lib.hid (show Below w1.heap.size w1 (wr.alloc (.cells #[.string f, .string t, .string f, .string t] 30)).drew from (bsa HB.out _).drew)
        have HL1 := Lib.hid (show SnAt (wr.alloc (.cells #[.string f, .string t, .string f, .string t] 30)).drew (some ⟨wr.heap.size, 0, none⟩) 2 [⟨f, t⟩, ⟨f, t⟩] from SnAt.lit (l := [⟨f, t⟩, ⟨f, t⟩]) (heap_alloc_new wr _))
        have d0 : wr.drew.cell? ⟨q, o + m * 2, none⟩ = some (.string f) := c0
        have d1 : wr.drew.cell? ⟨q, o + m * 2 + 1, none⟩ = some (.string t) := c1
        have e0 : (wr.alloc (.cells #[.string f, .string t, .string f, .string t] 30)).drew.cell? ⟨q, o + m * 2, none⟩ = some (.string f) := (nbl wr _).cell (p := ⟨q, o + m * 2, none⟩) hlq |>.trans c0
        have e1 : (wr.alloc (.cells #[.string f, .string t, .string f, .string t] 30)).drew.cell? ⟨q, o + m * 2 + 1, none⟩ = some (.string t) := (nbl wr _).cell (p := ⟨q, o + m * 2 + 1, none⟩) hlq |>.trans c1
        have hm0 : (0 : Int) ≤ (m : Int) := by omega
        have hm1 : (m : Int) < (n : Int) := by omega
        have HS1 := Lib.hid HB1.out.size
        have HMB := Lib.hid (show (M + 2) * 32 ≤ 140737488355328 from by have := HMM.out; omega)
        go_wp2_with fail
        go_region_held3 (fun V => V.cell? ⟨q, o + m * 2, none⟩ = some (.string f) ∧ V.cell? ⟨q, o + m * 2 + 1, none⟩ = some (.string t))
          (first | with_reducible assumption | with_reducible exact ⟨d0, d1⟩ | exact ⟨e0, e1⟩ | (constructor <;> with_reducible assumption) | trivial)
          ((refine step_appSn rfl _ _ rfl w1.heap.size (.slice E M C) M _ [⟨f, t⟩, ⟨f, t⟩] rfl HR1.out ⟨wr.heap.size, 0, none⟩ 2 2 rfl HL1.out (by omega) HMB.out HS1.out ?_; intro E2 C2 w2 h2 hg2; have HR2 := Lib.hid h2; have hb2 := HB1.out.grown hg2 HS1.out (fun g e => (HR1.out.lt g e).1); have y0 := (hb2.cell (p := ⟨q, o + m * 2, none⟩) hq).trans X01.out.1; have y1 := (hb2.cell (p := ⟨q, o + m * 2 + 1, none⟩) hq).trans X01.out.2; have HB2 := Lib.hid hb2))
        all_goals
          go_wp2_with fail
          go_roundw
          case rel => exact ⟨m, C2, E2, by omega, by go_num, by rw [show 2 * (n - m) = M + 2 from by have := HMM.out; omega], Lib.hid (by have h := HR2.out; rw [← HSN.out] at h; rw [show 2 * (n - m) = M + 2 from by have := HMM.out; omega]; exact h), HB2⟩
          case measure => simp [intOf]
      · obtain rfl : j = 0 := by omega
        have hM2 : M = 2 * n := by have := HMM.out; omega
        subst hM2
        rw [List.drop_zero] at HR
        obtain ⟨E3, C3, h3, hat, -, -⟩ := HR.out.form
        injection h3 with h4 h5 h6
        subst h4 h6
        have HK := Lib.hid ((HK0.out.keep HB.out).sn hat)
        clear hat h5
        rw [show (((0 : Nat) : Int) - 1) = -1 from rfl]
        go_wp2_with (first
          | (go_at_call 10; (with_reducible refine (JT.out _ _ _ HK.out.now.2).mono ?_); rintro e w1 ⟨E9, C9, rfl, hs, -, -, hb⟩; have HK := Lib.hid ((HK.out.keep hb).sn hs); clear hb hs)
          | (go_at_call 15; (first
              | (with_reducible refine (SA.out _ _ _ _ _ HK.out.now.1.1.1.2 HK.out.now.1.1.2).mono ?_)
              | (with_reducible refine (SA.out _ _ _ _ _ HK.out.now.1.1.1.2 HK.out.now.2).mono ?_)); rintro e w1 ⟨rfl, hb⟩; have HK := Lib.hid (HK.out.keep hb); clear hb))
        go_ret
        exact ⟨rfl, HK.out.bel⟩
end Go.Proofs.Ytdpdokgbockmbaa
