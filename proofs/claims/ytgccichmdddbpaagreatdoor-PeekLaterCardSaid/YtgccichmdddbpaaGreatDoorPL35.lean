/-
  How arguments are opened: an intent, a record.
-/
import Derived.Test.YtgccichmdddbpaaGreatDoorPL02
import Derived.Test.YtgccichmdddbpaaGreatDoorPL25
import Derived.Lib.SmallJoins
import Derived.Deep.SlicePairs
set_option linter.unusedVariables false
set_option linter.unusedSimpArgs false
set_option maxRecDepth 100000
namespace Go.Proofs.YtgccichmdddbpaaGreatDoor
open Go.ChangeShapes Go.WideShapes Go.ChangeAt Go.RowKit Go.Joins Go.Deep

theorem kCh : Tryz.prog.cellsOf 24 = 3 := by kernel_rfl
theorem kIn : Tryz.prog.cellsOf 3 = 1 := by kernel_rfl
theorem kSt : Tryz.prog.cellsOf 9 = 1 := by kernel_rfl
theorem kBl : Tryz.prog.cellsOf 4 = 1 := by kernel_rfl
theorem kSp : Tryz.prog.cellsOf 26 = 2 := by kernel_rfl
theorem kLc : Tryz.prog.cellsOf 36 = 1 := by kernel_rfl
theorem kIt : Tryz.prog.cellsOf 38 = 9 := by kernel_rfl
theorem l2 {α : Type} {l : List α} (h : l.length = 2) : ∃ a b, l = [a, b] := by
  match l, h with
  | [a, b], _ => exact ⟨a, b, rfl⟩
theorem l3 {α : Type} {l : List α} (h : l.length = 3) : ∃ a b c, l = [a, b, c] := by
  match l, h with
  | [a, b, c], _ => exact ⟨a, b, c, rfl⟩
theorem l7 {α : Type} {l : List α} (h : l.length = 7) : ∃ a b c d e f g, l = [a, b, c, d, e, f, g] := by
  match l, h with
  | [a, b, c, d, e, f, g], _ => exact ⟨a, b, c, d, e, f, g, rfl⟩
theorem l8 {α : Type} {l : List α} (h : l.length = 8) : ∃ a b c d e f g i, l = [a, b, c, d, e, f, g, i] := by
  match l, h with
  | [a, b, c, d, e, f, g, i], _ => exact ⟨a, b, c, d, e, f, g, i, rfl⟩
theorem l9 {α : Type} {l : List α} (h : l.length = 9) : ∃ a b c d e f g i j, l = [a, b, c, d, e, f, g, i, j] := by
  match l, h with
  | [a, b, c, d, e, f, g, i, j], _ => exact ⟨a, b, c, d, e, f, g, i, j, rfl⟩
theorem mem_allW11 {H : Type} {P : Program} {e : TypeId} {x : Nat} : ∀ {l : List (DataW H)} {d : DataW H}, d ∈ l → x ∈ d.weights P e → x ∈ DataW.weightsAll P e l
  | a :: l, d, h, hx => by
    unfold DataW.weightsAll
    rcases List.mem_cons.1 h with rfl | h
    · exact List.mem_append.2 (.inl hx)
    · exact List.mem_append.2 (.inr (mem_allW11 h hx))
section
variable {H : Type} {enc : TypeId × Value → H} {w : World} {base : Nat} {held : Bool} {d : DataW H} {p : List MemPlace} {v : Value} {r : Reach} {b0 : Nat} {fuel : Nat} {cs : List Value}
theorem open_chs (hf : DataW.trod enc Tryz.prog w base (fun _ => true) held fuel 36 cs = some (d, p)) (hW : ∀ y ∈ d.weights Tryz.prog 36, y ≤ 140737488351232) :
    ∃ A n c, cs = [.slice A n c] ∧ (∃ l : List Ch, ChAt w A n l ∧ l.length * 32 ≤ 140737488351232) ∧ n ≤ c ∧ c ≤ 9223372036854775807 := by
  have hmax : maxLen ≤ 9223372036854775807 := by decide
  rcases open_slice Tryz.underlying36 hf with ⟨hcs, _⟩ | ⟨a, n, c, m, k, D, Pl, hcs, _, hl, hm, hmm, hx, hrow⟩
  · exact ⟨none, 0, 0, hcs, ⟨[], ChAt.nil _ _, by simp⟩, Nat.le_refl _, by omega⟩
  · rw [if_pos rfl] at hmm
    have hdd : d = .slice ((List.range n).map D) ((List.range (m - n)).map fun j => D (n + j)) := congrArg Prod.fst hx
    have hv : ∀ i, i < n → ∃ (q : Ch), w.cell? (a.add (i * 3)) = some (.int .i64 q.q) ∧ w.cell? (a.add (i * 3 + 1)) = some (.string q.s) ∧ w.cell? (a.add (i * 3 + 2)) = some (.bool q.d) := by
      intro i hi
      obtain ⟨cs', h1, h2⟩ := hrow i (by omega)
      rw [kCh] at h1
      obtain ⟨_, hlen, hcell⟩ := World.cells?_some h1
      obtain ⟨xs, k', hk', hxy, _, hxl, hfl⟩ := DataW.trod_struct Tryz.underlying24 h2
      obtain ⟨y0, y1, y2, rfl⟩ := l3 hxl
      obtain ⟨v0, v1, v2, rfl⟩ := l3 hlen
      have g0 := hfl 0 _ rfl
      have g1 := hfl 1 _ rfl
      have g2 := hfl 2 _ rfl
      simp [kIn, kSt, kBl] at g0 g1 g2
      obtain ⟨z0, e0, _, _⟩ := DataW.trod_int Tryz.underlying3 g0
      obtain ⟨s1, e1, x1, _⟩ := DataW.trod_string Tryz.underlying9 g1
      obtain ⟨z2, e2, _⟩ := DataW.trod_bool Tryz.underlying4 g2
      simp at e0 e1 e2
      have c0 := hcell 0 (by omega)
      have c1 := hcell 1 (by omega)
      have c2 := hcell 2 (by omega)
      rw [Go.Deep.add_add] at c0 c1 c2
      exact ⟨⟨z0, s1, z2⟩, by rw [← e0]; simpa using c0, by rw [← e1]; simpa using c1, by rw [← e2]; simpa using c2⟩
    have hbig : n * 32 ≤ 140737488351232 := by
      have h1 := hW ((((List.range n).map D).length + ((List.range (m - n)).map fun j => D (n + j)).length) * Tryz.prog.bytesOf 24) (by
        rw [hdd]
        simp only [DataW.weights, Tryz.underlying36]
        exact List.mem_cons_self)
      rw [show Tryz.prog.bytesOf 24 = 32 by kernel_rfl] at h1
      simp only [List.length_map, List.length_range] at h1
      omega
    refine ⟨some a, n, c, hcs, ?_, hl, by omega⟩
    have hch : ∃ f : Nat → Ch, ∀ i, i < n → w.cell? (a.add (i * 3)) = some (.int .i64 (f i).q) ∧ w.cell? (a.add (i * 3 + 1)) = some (.string (f i).s) ∧ w.cell? (a.add (i * 3 + 2)) = some (.bool (f i).d) := by
      refine ⟨fun i => if h : i < n then (hv i h).choose else ⟨0, ByteArray.empty, false⟩, fun i hi => ?_⟩
      simp only [dif_pos hi]
      exact (hv i hi).choose_spec
    obtain ⟨f, hf⟩ := hch
    refine ⟨(List.range n).map f, ⟨by simp, fun h0 => ?_⟩, by simpa using hbig⟩
    obtain ⟨b, o, s⟩ := a
    obtain ⟨h1, _⟩ := hf 0 h0
    obtain rfl : s = none := by simpa [Addr.add] using World.cell?_spot h1
    refine ⟨b, o, rfl, fun i hi => ?_⟩
    have hi' : i < n := by simpa using hi
    obtain ⟨h1, h2, h3⟩ := hf i hi'
    rw [Go.WideShapes.add_plain] at h1 h2 h3
    simp only [List.getElem_map, List.getElem_range]
    exact ⟨h1, by rw [Nat.add_assoc]; exact h2, by rw [Nat.add_assoc]; exact h3⟩
theorem open_sp {cs : List Value} {y : DataW H × List MemPlace} (hf : DataW.trod enc Tryz.prog w base (fun _ => true) held fuel 26 cs = some y) : ∃ a b : Int, cs = [.int .i64 a, .int .i64 b] := by
  obtain ⟨xs, k', hk', hxy, hcl, hxl, hfl⟩ := DataW.trod_struct Tryz.underlying26 hf
  rw [kSp] at hcl
  obtain ⟨v0, v1, rfl⟩ := l2 hcl
  obtain ⟨y0, y1, rfl⟩ := l2 hxl
  have g0 := hfl 0 _ rfl
  have g1 := hfl 1 _ rfl
  simp [kIn] at g0 g1
  obtain ⟨z0, e0, _, _⟩ := DataW.trod_int Tryz.underlying3 g0
  obtain ⟨z1, e1, _, _⟩ := DataW.trod_int Tryz.underlying3 g1
  simp at e0 e1
  exact ⟨z0, z1, by rw [e0, e1]⟩
end
end Go.Proofs.YtgccichmdddbpaaGreatDoor
