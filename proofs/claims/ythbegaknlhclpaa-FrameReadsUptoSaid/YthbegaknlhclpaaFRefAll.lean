/-
  Layer 4, the document's All.
-/
import Derived.Test.YthbegaknlhclpaaFRef
import Derived.Test.YthbegaknlhclpaaFSame
import Derived.Test.YthbegaknlhclpaaFPut
set_option linter.unusedVariables false
namespace Go.Proofs.Ythbegaknlhclpaa
open Go.RowKit

set_option maxHeartbeats 2000000 in
theorem refAll (A : Option Addr) (n c : Nat) (bs : List UInt8) (w : World) (hx : At w A n bs) (hnc : n ≤ c) (hc : c ≤ 9223372036854775807) (hn2 : n ≤ 200000000000000) (hmany : (alls bs).length ≤ 1000000) :
    Calls Try.prog 21 #[.slice A n c] w fun e w' => ∃ (v : Value) (ps : List Piece), e = .returned v ∧ ps.map (·.2) = alls bs ∧ w'.ownsRow w.heap.size 22 1 v ps.length (ps.map (·.1)) ∧
      (∀ x ∈ ps, Own w' w.heap.size x.1 x.2) ∧ Below w.heap.size w w' := by
  obtain ⟨i2, hi2, hy0, hy1, hy2⟩ := info_parts infoS
  go_enter Try.func21, Try.ntmps21
  go_wp2
  go_loopw [0, 3] (fun ub uo wr => ∃ (ps : List Piece) (B : Option Addr) (m d : Nat) (ys : List UInt8), ub = .slice B m d ∧ At w B m ys ∧ m ≤ d ∧ d ≤ 9223372036854775807 ∧ m ≤ n ∧ Hid (alls bs = ps.map (·.2) ++ alls ys) ∧ Hid (wr.ownsRow w.heap.size 22 1 uo ps.length (ps.map (·.1))) ∧
      Hid (∀ x ∈ ps, Own wr w.heap.size x.1 x.2) ∧ Hid (Below w.heap.size w wr)) (fun ub _ _ => match ub with | .slice _ m _ => m | _ => 0)
  case atStart => exact ⟨[], A, n, c, bs, rfl, hx, hnc, hc, Nat.le_refl _, rfl, World.ownsRow_nil _ _ _ _, fun x hx' => absurd hx' (by simp), Below.refl _ _⟩
  case round =>
    obtain ⟨ps, B, m, d, ys, rfl, hat, hmd, hd, hmn, hal, hOw, hOl, hB⟩ := hrel
    obtain ⟨p, size, e, hn⟩ : ∃ p size e, nx ys = (p, size, e) := ⟨_, _, _, rfl⟩
    have hBs := hB.out.size
    have HNX := Lib.hid (refNext B m d ys p size e wr (hat.below' hB.out) hmd hd (by omega) hn)
    by_cases he : e = 0
    · subst he
      have hs2 := nx_size hn
      have hlen := hat.1
      have hall := alls_ok hn
      have hcut := hat.cut (l := size) (k := m) (m := d) (by omega) (Nat.le_refl _) hmd
      rw [List.take_of_length_le (by omega)] at hcut
      have hsl := fun W : World => slb_l B m d .i64 (size : Int) W (by omega) (by omega)
      rw [Int.toNat_natCast] at hsl
      have hal1 := hal.out
      rw [hall] at hal1
      have hpl : ps.length + 1 ≤ 1000000 := by
        have := congrArg List.length hal1
        simp only [List.length_append, List.length_map, List.length_cons] at this
        omega
      have hsz1 : 0 < size := hs2.1
      have hsz2 : size ≤ m := by omega
      have HAL := Lib.hid hal1
      clear hn hs2 hlen hall hal1 hal hmany
      go_wp2_with fail
      refine HNX.out.mono ?_
      rintro e2 w2 ⟨v, rfl, hown, hb2⟩
      have hOw2 := row_below hOw.out hb2
      have hOl2 := fun x hx' => (hOl.out x hx').below hb2
      have hB2 : Below w.heap.size w w2 := hB.out.trans (hb2.mono hBs)
      have hB2s := hB2.size
      have hown' := hown.base (B' := w.heap.size) hBs
      obtain ⟨A5, c5, hv5, _, h51, h52, _⟩ := hown.form
      clear hown hb2 hOw hOl hB
      subst hv5
      go_wp2_with (at_builtin; refine wpList_append_own _ rfl _ _ 35 rfl w.heap.size 22 i2 (.slice none 0 0) 1 24 Try.underlying35 hi2 hy0 hy1 hy2 rfl (by decide) u3 ps.length (ps.map (·.1)) rfl (hOw2.alloc _) ⟨w2.heap.size, 0, none⟩ 1 1 [.slice A5 p.length c5] rfl rfl (cell_one_new _ _ _) (fun u' hu' => by rw [List.mem_singleton.1 hu']; rfl) (by unfold maxLen; omega) (by omega) (by simp; omega) ?_; intro v4 w4 hown4 hg4 _)
      have hO4 := fun a b (h : Own w2 w.heap.size a b) => (row_grown (World.ownsRow.alloc h _) (hOw2.alloc _) hg4 (by decide) : Own w4 w.heap.size a b)
      have hB4 : Below w.heap.size w w4 := (hB2.alloc hB2s _).grown hg4 (by simp; omega) (fun j hj => (World.ownsRow.lt hOw2 j hj).1)
      go_roundw
      case rel =>
        refine ⟨ps ++ [(.slice A5 p.length c5, p)], _, _, _, _, rfl, hcut, by omega, by omega, by omega, Lib.hid (by rw [HAL.out]; simp), Lib.hid (by rw [List.length_append, List.map_append]; exact hown4), Lib.hid ?_, hB4⟩
        intro x hx'
        rcases List.mem_append.1 hx' with h | h
        · exact hO4 _ _ (hOl2 x h)
        · obtain rfl : x = (.slice A5 p.length c5, p) := by simpa using h
          exact hO4 _ _ hown'
      case measure => simp; omega
    · have hne : ((e : Int) != 0) = true := by simp; omega
      have hall := alls_no hn he
      have HAL := Lib.hid (show alls bs = ps.map (·.2) by rw [hal.out, hall, List.append_nil])
      clear hn hall hal hmany
      go_wp2_with fail
      refine HNX.out.mono ?_
      rintro e2 w2 ⟨v, rfl, hown, hb2⟩
      have hOw2 := row_below hOw.out hb2
      have hOl2 := fun x hx' => (hOl.out x hx').below hb2
      have hB2 : Below w.heap.size w w2 := hB.out.trans (hb2.mono hBs)
      go_wp2
      go_ret
      exact ⟨u3, ps, rfl, HAL.out.symm, hOw2, hOl2, hB2⟩
end Go.Proofs.Ythbegaknlhclpaa
