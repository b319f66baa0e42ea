/-
  How arguments are opened: a list of calls of a clock; a list of rows of three numbers.
-/
import Derived.Test.YtmjniibeomjkkaaOpen
import Derived.Test.YtmjniibeomjkkaaKList
import Derived.Lib.SmallJoins
import Derived.Deep.SlicePairs
set_option linter.unusedVariables false
namespace Go.Proofs.Ytmjniibeomjkkaa
open Go.ChangeShapes Go.WideShapes Go.ChangeAt Go.RowKit Go.Joins Go.Deep

theorem cellsDo : Try.prog.cellsOf 34 = 4 := by kernel_rfl
theorem cellsStamp : Try.prog.cellsOf 32 = 2 := by kernel_rfl
theorem cellsInt : Try.prog.cellsOf 3 = 1 := by kernel_rfl

section
variable {H : Type} {enc : TypeId × Value → H} {w : World} {base : Nat} {spare : Nat → Bool} {held : Bool} {d : DataW H} {p : List MemPlace} {v : Value} {r : Reach} {b0 : Nat}

theorem open_dos (hval : Value.okWide Try.prog w r b0 22 v) (hd : DataW.Trod enc Try.prog w base spare held 22 v d p) (hsp : ∀ b, spare b = true) :
    ∃ A n c, v = .slice A n c ∧ Dos w A n ∧ n ≤ c ∧ (A = none → c = 0) ∧ ∀ K, (∀ elems spare, d = .slice elems spare → elems.length + spare.length ≤ K) → c ≤ K := by
  obtain ⟨A, n, c, rfl⟩ := okWide_slice Try.underlying22 hval
  obtain ⟨fuel, hf⟩ := hd
  rcases open_slice Try.underlying22 hf with ⟨hcs, _⟩ | ⟨a, len, cap, m, k, D, Pl, hcs, _, hl, hm, hmm, hx, hrow⟩
  · simp [Value.cells] at hcs
    obtain ⟨rfl, rfl, rfl⟩ := hcs
    exact ⟨none, 0, 0, rfl, fun h => absurd h (by omega), Nat.le_refl _, fun _ => rfl, fun _ _ => Nat.zero_le _⟩
  · simp [Value.cells] at hcs
    obtain ⟨rfl, rfl, rfl⟩ := hcs
    rw [hsp, if_pos rfl] at hmm
    refine ⟨some a, n, c, rfl, fun h0 => ?_, hl, (fun h => nomatch h), fun K hK => ?_⟩
    · have hv : ∀ i, i < n → ∃ k a1 x y, w.cell? (a.add (i * 4)) = some (.int .i64 k) ∧ w.cell? (a.add (i * 4 + 1)) = some (.int .i64 a1) ∧ w.cell? (a.add (i * 4 + 2)) = some (.int .i64 x) ∧ w.cell? (a.add (i * 4 + 3)) = some (.int .i64 y) ∧ I64 k ∧ I64 a1 ∧ I64 x ∧ I64 y := by
        intro i hi
        obtain ⟨cs', h1, h2⟩ := hrow i (by omega)
        rw [cellsDo] at h1
        obtain ⟨_, hlen, hcell⟩ := World.cells?_some h1
        obtain ⟨xs, k', hk', hxy, _, hxl, hfl⟩ := DataW.trod_struct Try.underlying34 h2
        match xs, hxl, cs', hlen with
        | [y0, y1, y2], _, [v0, v1, v2, v3], _ =>
          have g0 := hfl 0 _ rfl
          have g1 := hfl 1 _ rfl
          have g2 := hfl 2 _ rfl
          simp [cellsInt, cellsStamp] at g0 g1 g2
          obtain ⟨z0, e0, _, w0⟩ := DataW.trod_int Try.underlying3 g0
          obtain ⟨z1, e1, _, w1⟩ := DataW.trod_int Try.underlying3 g1
          obtain ⟨xs2, k2, hk2, hxy2, _, hxl2, hfl2⟩ := DataW.trod_struct Try.underlying32 g2
          match xs2, hxl2 with
          | [q0, q1], _ =>
            have r0 := hfl2 0 _ rfl
            have r1 := hfl2 1 _ rfl
            simp [cellsInt] at r0 r1
            obtain ⟨z2, e2, _, w2⟩ := DataW.trod_int Try.underlying3 r0
            obtain ⟨z3, e3, _, w3⟩ := DataW.trod_int Try.underlying3 r1
            simp at e0 e1 e2 e3
            have c0 := hcell 0 (by omega)
            have c1 := hcell 1 (by omega)
            have c2 := hcell 2 (by omega)
            have c3 := hcell 3 (by omega)
            rw [Go.Deep.add_add] at c0 c1 c2 c3
            exact ⟨z0, z1, z2, z3, by rw [← e0]; simpa using c0, by rw [← e1]; simpa using c1, by rw [← e2]; simpa using c2, by rw [← e3]; simpa using c3, int_bounds w0, int_bounds w1, int_bounds w2, int_bounds w3⟩
      obtain ⟨b, o, s⟩ := a
      obtain ⟨_, _, _, _, h1, _⟩ := hv 0 h0
      obtain rfl : s = none := by simpa [Addr.add] using World.cell?_spot h1
      refine ⟨b, o, rfl, fun i hi => ?_⟩
      obtain ⟨k, a1, x, y, h1, h2, h3, h4, hr⟩ := hv i hi
      rw [Go.WideShapes.add_plain] at h1 h2 h3 h4
      exact ⟨k, a1, x, y, ⟨h1, by rw [Nat.add_assoc]; exact h2, by rw [Nat.add_assoc]; exact h3, by rw [Nat.add_assoc]; exact h4⟩, hr⟩
    · have hd := congrArg Prod.fst hx
      have := hK _ _ hd
      simp only [List.length_map, List.length_range] at this
      omega
theorem cells3 : Try.prog.cellsOf 52 = 3 := by kernel_rfl
theorem open_rows3 (hval : Value.okWide Try.prog w r b0 49 v) (hd : DataW.Trod enc Try.prog w base spare held 49 v d p) (hsp : ∀ b, spare b = true) :
    ∃ A n c, v = .slice A n c ∧ Rows3 w A n ∧ n ≤ c ∧ (A = none → c = 0) ∧ ∀ K, (∀ elems spare, d = .slice elems spare → elems.length + spare.length ≤ K) → c ≤ K := by
  obtain ⟨A, n, c, rfl⟩ := okWide_slice Try.underlying49 hval
  obtain ⟨fuel, hf⟩ := hd
  rcases open_slice Try.underlying49 hf with ⟨hcs, _⟩ | ⟨a, len, cap, m, k, D, Pl, hcs, _, hl, hm, hmm, hx, hrow⟩
  · simp [Value.cells] at hcs
    obtain ⟨rfl, rfl, rfl⟩ := hcs
    exact ⟨none, 0, 0, rfl, fun h => absurd h (by omega), Nat.le_refl _, fun _ => rfl, fun _ _ => Nat.zero_le _⟩
  · simp [Value.cells] at hcs
    obtain ⟨rfl, rfl, rfl⟩ := hcs
    rw [hsp, if_pos rfl] at hmm
    refine ⟨some a, n, c, rfl, fun h0 => ?_, hl, (fun h => nomatch h), fun K hK => ?_⟩
    · have hv : ∀ i, i < n → ∃ x y z, w.cell? (a.add (i * 3)) = some (.int .i64 x) ∧ w.cell? (a.add (i * 3 + 1)) = some (.int .i64 y) ∧ w.cell? (a.add (i * 3 + 2)) = some (.int .i64 z) ∧ I64 x ∧ I64 y ∧ I64 z := by
        intro i hi
        obtain ⟨cs', h1, h2⟩ := hrow i (by omega)
        rw [cells3] at h1
        obtain ⟨_, hlen, hcell⟩ := World.cells?_some h1
        obtain ⟨xs, m', _, hxy, _, hxl, hfl⟩ := DataW.trod_array Try.underlying52 h2
        have g0 := hfl 0 (by decide)
        have g1 := hfl 1 (by decide)
        have g2 := hfl 2 (by decide)
        rw [cellsInt] at g0 g1 g2
        match xs, hxl, cs', hlen with
        | [y0, y1, y2], _, [v0, v1, v2], _ =>
          simp at g0 g1 g2
          obtain ⟨z0, e0, _, w0⟩ := DataW.trod_int Try.underlying3 g0
          obtain ⟨z1, e1, _, w1⟩ := DataW.trod_int Try.underlying3 g1
          obtain ⟨z2, e2, _, w2⟩ := DataW.trod_int Try.underlying3 g2
          simp at e0 e1 e2
          have c0 := hcell 0 (by omega)
          have c1 := hcell 1 (by omega)
          have c2 := hcell 2 (by omega)
          rw [Go.Deep.add_add] at c0 c1 c2
          exact ⟨z0, z1, z2, by rw [← e0]; simpa using c0, by rw [← e1]; simpa using c1, by rw [← e2]; simpa using c2, int_bounds w0, int_bounds w1, int_bounds w2⟩
      obtain ⟨b, o, s⟩ := a
      obtain ⟨_, _, _, h1, _⟩ := hv 0 h0
      obtain rfl : s = none := by simpa [Addr.add] using World.cell?_spot h1
      refine ⟨b, o, rfl, fun i hi => ?_⟩
      obtain ⟨x, y, z, h1, h2, h3, hr⟩ := hv i hi
      rw [Go.WideShapes.add_plain] at h1 h2 h3
      exact ⟨x, y, z, ⟨h1, by rw [Nat.add_assoc]; exact h2, by rw [Nat.add_assoc]; exact h3⟩, hr⟩
    · have hd := congrArg Prod.fst hx
      have := hK _ _ hd
      simp only [List.length_map, List.length_range] at this
      omega
theorem sized_rows3 {ts : List TypeId} {ds : List (DataW H)} (h : (DataW.weightsEach Try.prog ts ds).all (· ≤ reachBytes) = true) {j : Nat} {d : DataW H} (ht : ts[j]? = some 49) (hd : ds[j]? = some d) :
    ∀ elems spare, d = .slice elems spare → elems.length + spare.length ≤ 8796093022202 := by
  rintro elems spare rfl
  have := sized_slice h ht hd Try.underlying49
  rw [show Try.prog.bytesOf 52 = 24 by kernel_rfl, reach_le] at this
  omega
theorem sized_dos {ts : List TypeId} {ds : List (DataW H)} (h : (DataW.weightsEach Try.prog ts ds).all (· ≤ reachBytes) = true) {j : Nat} {d : DataW H} (ht : ts[j]? = some 22) (hd : ds[j]? = some d) :
    ∀ elems spare, d = .slice elems spare → elems.length + spare.length ≤ 8796093022202 := by
  rintro elems spare rfl
  have := sized_slice h ht hd Try.underlying22
  rw [show Try.prog.bytesOf 34 = 32 by kernel_rfl, reach_le] at this
  omega
end
end Go.Proofs.Ytmjniibeomjkkaa
