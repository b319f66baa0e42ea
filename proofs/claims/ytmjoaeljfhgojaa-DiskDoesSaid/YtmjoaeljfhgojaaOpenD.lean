/-
  How arguments are opened: a list of numbers; a list of lists of bytes.
-/
import Derived.Test.YtmjoaeljfhgojaaOpen
import Derived.Test.YtmjoaeljfhgojaaVDiskPieces
import Derived.Deep.Matrix
set_option linter.unusedVariables false
namespace Go.Proofs.Ytmjoaeljfhgojaa
open Go.ChangeShapes Go.WideShapes Go.ChangeAt Go.RowKit Go.Deep

theorem iat_of_ints {w : World} {a : Addr} {n : Nat} {zs : List Int} (hl : n ≤ zs.length) (hc : ∀ i, i < n → w.cell? (a.add i) = some (.int .i64 (zs.getD i 0))) : IAt w (some a) n (zs.take n) := by
  refine ⟨by rw [List.length_take]; omega, fun h0 => ?_⟩
  obtain ⟨b, o, s⟩ := a
  have h1 := hc 0 (by omega)
  obtain rfl : s = none := by simpa [Addr.add] using World.cell?_spot h1
  refine ⟨b, o, rfl, fun i hi => ?_⟩
  have hi' : i < n := by rw [List.length_take] at hi; omega
  have h2 := hc i hi'
  rw [Go.WideShapes.add_plain] at h2
  rw [h2, List.getElem_take]
  simp [List.getD, List.getElem?_eq_getElem (show i < zs.length by omega)]
section
variable {H : Type} {enc : TypeId × Value → H} {w : World} {base : Nat} {spare : Nat → Bool} {held : Bool} {d : DataW H} {p : List MemPlace} {v : Value} {r : Reach} {b0 : Nat}
set_option maxRecDepth 100000 in
theorem open_nums (hval : Value.okWide Try.prog w r b0 28 v) (hd : DataW.Trod enc Try.prog w base spare held 28 v d p) (hsp : ∀ b, spare b = true) :
    ∃ A n c, v = .slice A n c ∧ (∃ xs, IAt w A n xs) ∧ n ≤ c ∧ (A = none → c = 0) ∧ ∀ K, (∀ elems spare, d = .slice elems spare → elems.length + spare.length ≤ K) → c ≤ K := by
  obtain ⟨A, n, c, rfl⟩ := okWide_slice Try.underlying28 hval
  obtain ⟨fuel, hf⟩ := hd
  rcases open_ints Try.underlying28 Try.underlying3 (by kernel_rfl) hf with ⟨hcs, _⟩ | ⟨x, l, c', zs, hcs, _, hl, hm, hz, hx, hcell, hwz⟩
  · simp [Value.cells] at hcs
    obtain ⟨rfl, rfl, rfl⟩ := hcs
    exact ⟨none, 0, 0, rfl, ⟨[], IAt.nil _ _⟩, Nat.le_refl _, fun _ => rfl, fun _ _ => Nat.zero_le _⟩
  · simp [Value.cells] at hcs
    obtain ⟨rfl, rfl, rfl⟩ := hcs
    rw [hsp, if_pos rfl] at hz
    refine ⟨_, n, c, rfl, ⟨_, iat_of_ints (n := n) (by omega) (fun i hi => hcell i (by omega))⟩, hl, (fun h => nomatch h), fun K hK => ?_⟩
    have hd := congrArg Prod.fst hx
    have := hK _ _ hd
    simp only [lits, List.length_map, List.length_take, List.length_drop] at this
    omega
theorem sized_nums {ts : List TypeId} {ds : List (DataW H)} (h : (DataW.weightsEach Try.prog ts ds).all (· ≤ reachBytes) = true) {j : Nat} {d : DataW H} (ht : ts[j]? = some 28) (hd : ds[j]? = some d) :
    ∀ elems spare, d = .slice elems spare → elems.length + spare.length ≤ 17592186043904 := by
  rintro elems spare rfl
  have := sized_slice h ht hd Try.underlying28
  rw [show Try.prog.bytesOf 3 = 8 by kernel_rfl, reach_le] at this
  omega
set_option maxRecDepth 100000 in
theorem open_lsb (hval : Value.okWide Try.prog w r b0 51 v) (hd : DataW.Trod enc Try.prog w base spare held 51 v d p) (hsp : ∀ b, spare b = true) :
    ∃ A n c, v = .slice A n c ∧ (∃ ls, LsB w A n ls) ∧ n ≤ c ∧ (A = none → c = 0) ∧ ∀ K, (∀ elems spare, d = .slice elems spare → elems.length + spare.length ≤ K) → c ≤ K := by
  obtain ⟨A, n, c, rfl⟩ := okWide_slice Try.underlying51 hval
  obtain ⟨fuel, hf⟩ := hd
  have hsp' : spare = fun _ => true := funext hsp
  subst hsp'
  have hmax : maxLen ≤ 9223372036854775807 := by decide
  rcases open_int_rows Try.underlying51 Try.underlying27 Try.underlying5 (by kernel_rfl) (by kernel_rfl) hf with ⟨hcs, _⟩ | ⟨a, len, cap, A', L, C, Z, hcs, _, hl, hm, hx, hrow⟩
  · simp [Value.cells] at hcs
    obtain ⟨rfl, rfl, rfl⟩ := hcs
    exact ⟨none, 0, 0, rfl, ⟨[], rfl, fun h => absurd h (by omega)⟩, Nat.le_refl _, fun _ => rfl, fun _ _ => Nat.zero_le _⟩
  · simp [Value.cells] at hcs
    obtain ⟨rfl, rfl, rfl⟩ := hcs
    have hat : ∀ i, i < n → At w (A' i) (L i) (((Z i).take (L i)).map fun x => UInt8.ofNat x.toNat) := by
      intro i hi
      obtain ⟨_, h2, h3, h4, h5, h6, h7⟩ := hrow i (by omega)
      cases hA : A' i with
      | none =>
        have h8 := h6 hA
        have h9 : L i = 0 := by omega
        rw [h9]
        exact At.nil _ _
      | some a' => exact at_of_ints (by omega) (fun c hc => (h7 a' hA).2 c (by omega)) h5
    have hlen : ∀ i, i < n → (((Z i).take (L i)).map fun x => UInt8.ofNat x.toNat).length = L i := fun i hi => (hat i hi).1
    refine ⟨some a, n, c, rfl, ⟨(List.range n).map fun i => ((Z i).take (L i)).map fun x => UInt8.ofNat x.toNat, by simp, fun h0 => ?_⟩, hl, (fun h => nomatch h), fun K hK => ?_⟩
    · obtain ⟨b, o, s⟩ := a
      have h1 := (hrow 0 (by omega)).1
      obtain rfl : s = none := by simpa [Addr.add] using World.cell?_spot h1
      refine ⟨b, o, rfl, fun i hi => ?_⟩
      have hi' : i < n := by simpa using hi
      have hr := hrow i (by omega)
      have h2 := hr.1
      rw [Go.WideShapes.add_plain] at h2
      have h3 := hlen i hi'
      simp only [List.getElem_map, List.getElem_range]
      rw [h3]
      refine ⟨A' i, C i, h2, hat i hi', ?_, ?_⟩
      · have := hr.2.1
        have := hr.2.2.1
        omega
      · have := hr.2.1
        have := hr.2.2.1
        omega
    · have hd := congrArg Prod.fst hx
      have := hK _ _ hd
      simp only [List.length_map, List.length_range] at this
      omega
theorem sized_lsb {ts : List TypeId} {ds : List (DataW H)} (h : (DataW.weightsEach Try.prog ts ds).all (· ≤ reachBytes) = true) {j : Nat} {d : DataW H} (ht : ts[j]? = some 51) (hd : ds[j]? = some d) :
    ∀ elems spare, d = .slice elems spare → elems.length + spare.length ≤ 5864062014634 := by
  rintro elems spare rfl
  have := sized_slice h ht hd Try.underlying51
  rw [show Try.prog.bytesOf 27 = 24 by kernel_rfl, reach_le] at this
  omega
end
end Go.Proofs.Ytmjoaeljfhgojaa
