/-
  Layer 5, the document's answer: Max.
-/
import Derived.Test.YtnjfabgajebfeaaSRef
set_option linter.unusedVariables false
namespace Go.Proofs.Ytnjfabgajebfeaa
open Go.RowKit

theorem mx_take_succ (l : List (Int × Int)) (k : Nat) (h0 : 0 < k) (h : k < l.length) : mx (l.take (k + 1)) = two (mx (l.take k)) l[k] := by
  have hne : l.take k ≠ [] := by
    intro h1
    have := congrArg List.length h1
    rw [List.length_take, List.length_nil] at this
    omega
  rw [List.take_succ_eq_append_getElem h, mx_snoc _ hne]

/-- One stamp in a block, another one in a list. -/
abbrev SE (w : World) (g b o : Nat) (m1 m2 e1 e2 : Int) (V : World) : Prop :=
  V.cell? ⟨g, 0, none⟩ = some (.int .i64 m1) ∧ V.cell? ⟨g, 1, none⟩ = some (.int .i64 m2) ∧ V.cell? ⟨b, o, none⟩ = some (.int .i64 e1) ∧ V.cell? ⟨b, o + 1, none⟩ = some (.int .i64 e2) ∧ Below w.heap.size w V
theorem SE.keep {w V V' : World} {g b o : Nat} {m1 m2 e1 e2 : Int} (h : SE w g b o m1 m2 e1 e2 V) (hb : Below V.heap.size V V') : SE w g b o m1 m2 e1 e2 V' :=
  ⟨(hb.cell (World.block_lt_of_cell? V _ h.1)).trans h.1, (hb.cell (World.block_lt_of_cell? V _ h.2.1)).trans h.2.1, (hb.cell (World.block_lt_of_cell? V _ h.2.2.1)).trans h.2.2.1,
    (hb.cell (World.block_lt_of_cell? V _ h.2.2.2.1)).trans h.2.2.2.1, h.2.2.2.2.trans (hb.mono h.2.2.2.2.size)⟩
theorem SE.drew {w V : World} {g b o : Nat} {m1 m2 e1 e2 : Int} (h : SE w g b o m1 m2 e1 e2 V) : SE w g b o m1 m2 e1 e2 V.drew := ⟨h.1, h.2.1, h.2.2.1, h.2.2.2.1, h.2.2.2.2.drew⟩
theorem SE.call {w V : World} {g b o : Nat} {m1 m2 e1 e2 : Int} {f : FuncId} {args : Array Value} {v : Value} (k : SE w g b o m1 m2 e1 e2 V) (hc : Calls Try.prog f args V fun e V' => e = .returned v ∧ Below V.heap.size V V') :
    Calls Try.prog f args V fun e V' => e = .returned v ∧ SE w g b o m1 m2 e1 e2 V' ∧ Below V.heap.size V V' := hc.mono fun _ _ hh => ⟨hh.1, k.keep hh.2, hh.2⟩

set_option maxHeartbeats 2000000 in
theorem refMax5 (A : Option Addr) (n c : Nat) (l : List (Int × Int)) (w : World) (hx : Stamps w A n l) (hn : n ≤ 9223372036854775807) :
    Calls Try.prog 17 #[.slice A n c] w fun e w' => e = .returned (sv (mx l).1 (mx l).2) ∧ Below w.heap.size w w' := by
  have HL := Lib.hid hx.1
  by_cases h0 : n = 0
  · subst h0
    obtain rfl : l = [] := List.eq_nil_of_length_eq_zero HL.out
    go_enter Try.func17, Try.ntmps17
    go_wp2_with fail
    have hR := Box.new w 0 0
    have hb := (Below.refl w.heap.size w).alloc (Nat.le_refl _) (.cells #[.int .i64 0, .int .i64 0] 23)
    exact ret_one rfl rfl hR rfl ⟨rfl, hb⟩
  · obtain ⟨b, o, rfl, hc⟩ := hx.2 (by omega)
    have hc0 := hc 0 (by rw [HL.out]; omega)
    obtain ⟨y1, hy1⟩ : ∃ y, y = (l[0]'(by rw [HL.out]; omega)).1 := ⟨_, rfl⟩
    obtain ⟨y2, hy2⟩ : ∃ y, y = (l[0]'(by rw [HL.out]; omega)).2 := ⟨_, rfl⟩
    rw [← hy1, ← hy2, Nat.zero_mul, Nat.add_zero] at hc0
    obtain ⟨i1, i2⟩ := hc0
    have hn0 : 0 < n := by omega
    have hn00 : ((n : Int) == 0) = false := by simp; omega
    have HM0 := Lib.hid (show mx (l.take 1) = (y1, y2) by
      cases l with
      | nil => exact absurd HL.out (by simp; omega)
      | cons y t => rw [hy1, hy2]; rfl)
    have HC := Lib.hid hc
    clear hc hx hy1 hy2
    have hb := (Below.refl w.heap.size w).alloc (Nat.le_refl _) (.cells #[.int .i64 0, .int .i64 0] 23)
    have j1 := (World.cell?_alloc_lt w (.cells #[.int .i64 0, .int .i64 0] 23) _ (World.block_lt_of_cell? w _ i1)).trans i1
    have j2 := (World.cell?_alloc_lt w (.cells #[.int .i64 0, .int .i64 0] 23) _ (World.block_lt_of_cell? w _ i2)).trans i2
    have hR := Box.new w 0 0
    go_enter Try.func17, Try.ntmps17
    go_wp2_with fail
    have hB1 := hb.alloc (by simp) (.cells #[.int .i64 y1, .int .i64 y2] 23)
    have hO := Box.new' (g := w.heap.size + 1) (w.alloc (.cells #[.int .i64 0, .int .i64 0] 23)) y1 y2 (by simp)
    have hR1 := hR.alloc (.cells #[.int .i64 y1, .int .i64 y2] 23)
    clear i1 i2 j1 j2 hb hR
    go_loopw [4] (fun i wr => ∃ (k : Nat) (m1 m2 : Int), 1 ≤ k ∧ k ≤ n ∧ i = .int .i64 k ∧ Hid (mx (l.take k) = (m1, m2)) ∧ Box wr (w.heap.size + 1) m1 m2 ∧ Box wr w.heap.size 0 0 ∧ Below w.heap.size w wr) (fun i _ => n - (intOf i).toNat)
    case atStart => exact ⟨1, _, _, Nat.le_refl _, hn0, rfl, HM0, hO, hR1, hB1⟩
    case round =>
      obtain ⟨k, m1, m2, hk1, hkn, rfl, HM, hOr, hRr, hBr⟩ := hrel
      have o0 := hOr.c0
      have o1 := hOr.c1
      have r0 := hRr.c0
      have r1 := hRr.c1
      have f0 := hRr.fz 0
      have f1 := hRr.fz 1
      by_cases hlt : k < n
      · have hkl : k < l.length := by rw [HL.out]; exact hlt
        obtain ⟨e1, e2⟩ := HC.out k hkl
        obtain ⟨u1, hu1⟩ : ∃ y, y = l[k].1 := ⟨_, rfl⟩
        obtain ⟨u2, hu2⟩ : ∃ y, y = l[k].2 := ⟨_, rfl⟩
        rw [← hu1] at e1
        rw [← hu2] at e2
        have e1' := (hBr.cell (World.block_lt_of_cell? w _ e1)).trans e1
        have e2' := (hBr.cell (World.block_lt_of_cell? w _ e2)).trans e2
        have hnx : mx (l.take (k + 1)) = two (m1, m2) (u1, u2) := by rw [mx_take_succ l k (by omega) hkl, HM.out, hu1, hu2]
        have HNX := Lib.hid hnx
        have hS0 : SE w (w.heap.size + 1) b (o + k * 2) m1 m2 u1 u2 wr := ⟨o0, o1, e1', e2', hBr⟩
        have hSd := hS0.drew
        have hOd : Box wr.drew (w.heap.size + 1) m1 m2 := hOr
        have hRd : Box wr.drew w.heap.size 0 0 := hRr
        clear hu1 hu2 hnx e1 e2 hB1 hO hR1
        go_wp2_with fail
        go_region_with (first | (go_at_call 28; refine (SE.call (by first | assumption | exact hS0 | exact hSd) (refTwo _ _ _ _ _)).mono ?_; rintro e w2 ⟨rfl, hS2, hb2⟩; have hO2 := hOd.keep hb2; have hR2 := hRd.keep hb2; have g0 := hO2.c0; have g1 := hO2.c1; have g2 := hO2.fz 0; have g3 := hO2.fz 1))
        all_goals (clear hS0 hSd hOd hRd hb2; go_wp2)
        all_goals
          go_roundw
          case rel => exact ⟨k + 1, _, _, by omega, by omega, by go_num, Lib.hid HNX.out, (hO2.put0 _).put1 _, (hR2.far (by omega) _ _).far (by omega) _ _, (hS2.2.2.2.2.setCell (by simp) _).setCell (by simp) _⟩
          case measure => simp [intOf]; omega
      · have hkn' : n ≤ k := by omega
        have htk : l.take k = l := by rw [List.take_of_length_le (by rw [HL.out]; exact hkn')]
        have HMX := Lib.hid (show mx l = (m1, m2) by rw [← htk]; exact HM.out)
        clear htk hB1 hO hR1
        go_wp2
        exact ret_one rfl rfl ((hRr.put0 _).put1 _) rfl ⟨by rw [HMX.out], (hBr.setCell (by simp) _).setCell (by simp) _⟩
end Go.Proofs.Ytnjfabgajebfeaa
