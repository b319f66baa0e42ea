/-
  Layer 16, the code: the ends, sorted.
-/
import Derived.Test.YtdpdokgbockmbaaSpChk
import Derived.Test.YtdpdokgbockmbaaGens
import Derived.Test.YtdpdokgbockmbaaShelf
import Derived.Shelf.SlSortCmp.WholeK
import Derived.Shelf.SlSortCmp.NoneTotal
set_option linter.unusedVariables false
set_option linter.unusedSimpArgs false
set_option maxRecDepth 100000
namespace Go.Proofs.Ytdpdokgbockmbaa
open Go.RowKit Go.Shelf Go.Sort

theorem cmp_less : ∀ l m : List UInt8, decide (Lib.compareBytes l m < 0) = Op.bytesLess l m
  | [], [] => rfl
  | [], _ :: _ => rfl
  | _ :: _, [] => rfl
  | a :: l, b :: m => by
    have ih := cmp_less l m
    rw [Lib.compareBytes, Op.bytesLess]
    by_cases h1 : a < b
    · simp [h1]
    · by_cases h2 : b < a
      · have : (a == b) = false := beq_eq_false_iff_ne.2 (fun e => by subst e; exact absurd h2 (UInt8.lt_irrefl _))
        simp [h1, h2, this]
      · have : a = b := UInt8.le_antisymm (UInt8.not_lt.1 h2) (UInt8.not_lt.1 h1)
        subst this
        simp [h1, ih]
def encE (x : En) : List Value := [.string x.k, .int .i64 x.li, .int .i64 x.mo]
def cfE (x y : En) : Int := Lib.compareBytes x.k.data.toList y.k.data.toList
theorem ltE (x y : En) : ltOf cfE x y = kl x.k y.k := by
  unfold ltOf cfE kl
  rw [cmp_less, Lib.toList_data, Lib.toList_data]
theorem swoE : SWO (ltOf cfE) where
  irrefl x := by rw [ltE]; exact kl_irr _
  trans x y z h1 h2 := by rw [ltE] at *; exact kl_trans h1 h2
  ntrans x y z h1 h2 := by rw [ltE] at *; exact kl_le_le h2 h1
set_option maxHeartbeats 1000000 in
theorem spEnds1 (x y : En) (W : World) : Calls Try.prog 46 #[.agg #[.string x.k, .int .i64 x.li, .int .i64 x.mo], .agg #[.string y.k, .int .i64 y.li, .int .i64 y.mo]] W fun e w' => e = .returned (.int .i64 (cfE x y)) ∧ ∃ q os', w' = grow (W.drewN q) os' := by
  have hcon := fun W' => Try.strings_Compare x.k y.k W'
  unfold cfE
  generalize Lib.compareBytes x.k.data.toList y.k.data.toList = r at hcon ⊢
  have HC := Lib.hid hcon
  clear hcon
  go_enter Try.func46, Try.ntmps46
  go_wp2_with (go_at_call 47; refine (HC.out _).mono ?_; rintro e w' ⟨rfl, rfl⟩)
  go_ret
  exact ⟨rfl, 0, _, by rw [alloc_eq_grow, alloc_eq_grow, grow_grow]; rfl⟩
theorem efl3_at : ∀ (l : List En) (j : Nat), j < l.length * 3 → (efl3 l)[j]? = some ((encE l[j / 3]!)[j % 3]!)
  | x :: l, 0, _ => rfl
  | x :: l, 1, _ => rfl
  | x :: l, 2, _ => rfl
  | x :: l, j + 3, h => by
    have ih := efl3_at l j (by rw [List.length_cons] at h; omega)
    rw [efl3_cons]
    have e1 : (j + 3) / 3 = j / 3 + 1 := by omega
    have e2 : (j + 3) % 3 = j % 3 := by omega
    rw [e1, e2]
    simpa using ih
theorem holdsE {w : World} {g : Nat} {cur : Array Value} {l : List En} (hb : w.heap[g]? = some (.cells cur 69 (0, 0))) (ht : cur.toList.take (l.length * 3) = efl3 l) : HoldsK encE 3 w g 0 l.toArray := by
  intro j hj
  rw [size_flatK] at hj
  have hj' : j < l.length * 3 := by simpa using hj
  refine ⟨?_, by simp [World.frozen?, hb]⟩
  have h1 : (cur.toList.take (l.length * 3))[j]? = (efl3 l)[j]? := by rw [ht]
  rw [List.getElem?_take_of_lt hj', efl3_at l j hj', Array.getElem?_toList] at h1
  rw [get_flatK _ _ _ _ hj]
  simp only [World.cell?, hb, Nat.zero_add]
  simp only [Option.isSome_none, Bool.false_eq_true, if_false]
  rw [h1]
  simp
theorem grownBy_sortK {α : Type} [Inhabited α] {enc : α → List Value} {k : Nat} {w : World} {g n : Nat} {os : Array Obj} (d : Array α) : w.grownBy (sortWorldK enc k w g 0 n d os) (some g) := by
  unfold sortWorldK putRowK
  refine ⟨rfl, rfl, rfl, by simp, fun i hk hne => ?_⟩
  rw [heap_grow_old _ _ (by simpa using hk)]
  have : g ≠ i := fun e => hne (by rw [e])
  simp [putRow, mapBlock, Sort.ahead, Array.getElem?_modify, this]
theorem sorE_of {D : Array En} (h : SortedIn (ltOf cfE) 0 D.size D) : SorE D.toList := by
  unfold SorE
  rw [List.pairwise_iff_getElem]
  intro i j hi hj hij
  have := h i j (Nat.zero_le _) hij (by simpa using hj)
  rw [ltE] at this
  have e1 : D[i]! = D.toList[i] := by rw [getElem!_pos D i (by simpa using hi)]; simp
  have e2 : D[j]! = D.toList[j] := by rw [getElem!_pos D j (by simpa using hj)]; simp
  rw [e1, e2] at this
  exact this
theorem spSort {w : World} {B n c : Nat} {A : Option Addr} {l : List En} (h : EnRow w B (.slice A n c) n l) (hn : n ≤ 1000000) :
    Calls Try.prog 45 #[.slice A n c, .func (.func 46) #[] #[]] w fun e w' =>
      e = .returned (.tuple #[]) ∧ ∃ D, D.Perm l ∧ SorE D ∧ EnAt w' A n D ∧ w.grownBy w' (Value.slice A n c).ownBlock := by
  have hl := h.len
  rcases Nat.eq_zero_or_pos n with h0 | h0
  · subst h0
    obtain rfl : l = [] := List.eq_nil_of_length_eq_zero hl
    refine (AnyF.slices_SortFunc_none Try.sortEn A c (.func (.func 46) #[] #[]) w).mono ?_
    rintro e w' ⟨rfl, rfl⟩
    exact ⟨rfl, [], List.Perm.nil, List.Pairwise.nil, EnAt.nil _ _, World.grownBy.refl _ _⟩
  · rcases h.2 with ⟨_, hz⟩ | ⟨g, cap, cur, hv, hb, hg, hnc, hcm, hcs, ht⟩
    · omega
    · injection hv with e1 e2 e3
      subst e1 e3
      have ht' : cur.toList.take (l.length * 3) = efl3 l := by rw [hl]; exact ht
      have hgl : g < w.heap.size := (Array.getElem?_eq_some_iff.1 hg).1
      have hH := holdsE hg ht'
      have eg : ∀ args w, (callFunc 46 args).run Try.prog w = .ok (.enter 46 args) w := enters_of Try.func46 (by kernel_rfl) rfl
      have hcon := AnyQ.slices_SortFunc Try.sortEn 3 Try.isAgg69 Try.sizeOf69 encE (fun _ => rfl) (fun x v hv => by simp [encE] at hv; rcases hv with rfl | rfl | rfl <;> rfl) cfE swoE 46 #[] g 0 c l.toArray w eg (fun _ _ _ _ x y => spEnds1 x y _) hH hgl (by simp; omega)
      have hsz : l.toArray.size = n := by simpa using hl
      change Calls Try.prog 45 _ _ _ at hcon
      rw [hsz] at hcon
      refine hcon.mono ?_
      rintro e w' ⟨rfl, d', m, os, hp, hs, rfl⟩
      have hs' : d'.size = n := hp.1.trans hsz
      have hHd := holdsK_sortWorldK_c encE 3 w g 0 l.toArray d' m os hH hgl (by rw [hs', hsz])
      refine ⟨rfl, d'.toList, ?_, sorE_of (by rw [hs']; exact hs), ⟨by simpa using hs', fun _ => ⟨g, 0, rfl, fun i hi => ?_⟩⟩, grownBy_sortK d'⟩
      · have hp3 := hp.2.2
        rw [show d'.extract 0 n = d' from by rw [← hs']; exact Array.extract_size, show l.toArray.extract 0 n = l.toArray from by rw [← hsz]; exact Array.extract_size] at hp3
        simpa using hp3
      · have hi' : i < d'.size := by simpa using hi
        have e4 : d'[i]! = d'.toList[i] := by rw [getElem!_pos d' i hi']; simp
        have c0 := (hHd.cell (i := i) (c := 0) hi' (by omega)).1
        have c1 := (hHd.cell (i := i) (c := 1) hi' (by omega)).1
        have c2 := (hHd.cell (i := i) (c := 2) hi' (by omega)).1
        rw [e4] at c0 c1 c2
        exact ⟨c0, c1, c2⟩
end Go.Proofs.Ytdpdokgbockmbaa
