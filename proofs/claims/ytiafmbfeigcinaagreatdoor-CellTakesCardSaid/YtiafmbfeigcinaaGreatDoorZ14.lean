/-
  Layer 11, the code's reader: stamps, isDone, newReader.
  Layer 11, the code's reader as a walk takes it; many.
  Layer 11, the code: TakeVersion, TakeStamp.
  Layer 11, the document's answers: its taker: numbers, texts, stamps, flags, one behind the other.
-/
import Derived.Test.YtiafmbfeigcinaaGreatDoorZ13
import Derived.Test.YtiafmbfeigcinaaGreatDoorZ12
set_option linter.unusedVariables false
set_option linter.unusedSimpArgs false
set_option maxRecDepth 100000
namespace Go.Proofs.YtiafmbfeigcinaaGreatDoor
open Go.RowKit

theorem pns_add : ∀ (a b : Nat) (s : Rst), pns (a + b) s = ((pns a s).1 ++ (pns b (pns a s).2).1, (pns b (pns a s).2).2)
  | 0, b, s => by rw [Nat.zero_add]; rfl
  | a + 1, b, s => by
    rw [show a + 1 + b = (a + b) + 1 by omega, pns, pns_add a b, pns]
    rfl
theorem pns_none : ∀ (a : Nat), (pns a none).2 = none
  | 0 => rfl
  | a + 1 => by rw [pns]; exact pns_none a
theorem pns_noneR {a : Nat} {s : Rst} (h : (pns a s).2 ≠ none) : s ≠ none := by
  rintro rfl
  exact h (pns_none a)
theorem sets_app (cs : Array Value) : ∀ (l m : List (Nat × Value)), sets cs (l ++ m) = sets (sets cs l) m
  | [], m => rfl
  | p :: l, m => sets_app (cs.setIfInBounds p.1 p.2) l m
theorem ivs_app (a b vs us : List Nat) (h : a.length = vs.length) : ivs (a ++ b) (vs ++ us) = ivs a vs ++ ivs b us := by
  unfold ivs
  rw [List.zip_append h, List.map_append]
def dbl (os : List Nat) : List Nat := os.flatMap fun o => [o, o + 1]
theorem dbl_len : ∀ os : List Nat, (dbl os).length = 2 * os.length
  | [] => rfl
  | o :: os => by
    have := dbl_len os
    unfold dbl at this ⊢
    rw [List.flatMap_cons, List.length_append, this]
    simp
    omega
theorem dbl_snoc (os : List Nat) (j : Nat) (h : j < os.length) : dbl (os.take (j + 1)) = dbl (os.take j) ++ [os[j]'h, os[j]'h + 1] := by
  unfold dbl
  rw [List.take_succ_eq_append_getElem h, List.flatMap_append]
  simp
theorem two_ {α : Type} {l : List α} (h : l.length = 2) : ∃ a b, l = [a, b] := by
  match l, h with
  | [a, b], _ => exact ⟨a, b, rfl⟩

set_option maxHeartbeats 1000000 in
theorem rdStamps (g x : Nat) (t : TypeId) (cs : Array Value) (s : Rst) (A : Option Addr) (n c : Nat) (os : List Nat) (V : World) (F : Nat → Prop) (hP : (bothA (rdA g s) (blkA x t cs)).p V F) (hI : PAt V A n x os) (hA : ∀ a, A = some a → ¬ F a.block)
    (hn : n ≤ 1000) (hi : ∀ o ∈ os, (∃ u, cs[o]? = some (.int .i64 u)) ∧ ∃ u, cs[o + 1]? = some (.int .i64 u)) :
    Calls Tryz.prog 85 #[pt g, .slice A n c] V fun e w' => e = .returned (.tuple #[]) ∧ ∃ vs : List Nat, vs.length = 2 * n ∧ (∀ v ∈ vs, v ≤ 9007199254740991) ∧ ((pns (2 * n) s).2 ≠ none → vs = (pns (2 * n) s).1) ∧ ATurn (bothA (rdA g (pns (2 * n) s).2) (blkA x t (sets cs (ivs (dbl os) vs)))) F V w' := by
  have HI := Lib.hid hI
  have HA := Lib.hid hA
  have HC := Lib.hid hi
  have hT := Lib.hid (ATurn.refl hP)
  clear hI hA hP hi
  go_enter Tryz.func85, Tryz.ntmps85
  go_wp2
  go_loopw [8] (fun i wr => ∃ (j : Nat) (vs : List Nat), j ≤ n ∧ i = .int .i64 j ∧ Hid (vs.length = 2 * j ∧ (∀ v ∈ vs, v ≤ 9007199254740991) ∧ ((pns (2 * j) s).2 ≠ none → vs = (pns (2 * j) s).1) ∧ ATurn (bothA (rdA g (pns (2 * j) s).2) (blkA x t (sets cs (ivs (dbl (os.take j)) vs)))) F V wr)) (fun i _ => n - (intOf i).toNat)
  case atStart => exact ⟨0, [], Nat.zero_le _, rfl, rfl, fun v hv => (nomatch hv), fun _ => rfl, by simpa [ivs, sets, pns, dbl] using hT.out⟩
  case round =>
    obtain ⟨j, vs, hj, rfl, HH⟩ := hrel
    have hl := HI.out.1
    by_cases hlt : j < n
    · have hjl : j < os.length := by omega
      obtain ⟨q1, q2, q3, F1, b1, b4, b5⟩ := HH.out
      have hIw : PAt wr A n x os := by
        refine ⟨HI.out.1, fun hn => ?_⟩
        obtain ⟨b, o, e, hc⟩ := HI.out.2 hn
        refine ⟨b, o, e, fun i hi => ?_⟩
        have h1 := hc i hi
        have hlt := World.block_lt_of_cell? V _ h1
        have := b4.block b hlt (HA.out _ e)
        unfold World.cell? at h1 ⊢
        simp only at h1 ⊢
        rw [this]
        exact h1
      obtain ⟨b, o, rfl, hc⟩ := hIw.2 (by omega)
      have h1 := hc j hjl
      obtain ⟨⟨u, hu⟩, ⟨u2, hu2⟩⟩ := HC.out _ (List.getElem_mem hjl)
      have hsn := pns_add (2 * j) 2 s
      have hds := dbl_snoc os j hjl
      have hdl := dbl_len (os.take j)
      generalize hst : (pns (2 * j) s).2 = st at *
      generalize hvl : (pns (2 * j) s).1 = vl at *
      obtain ⟨ix, hix⟩ : ∃ ix, os[j]'hjl = ix := ⟨_, rfl⟩
      rw [hix] at h1 hu hu2 hds
      have hlt1 := (bothA (rdA g st) (blkA x t (sets cs (ivs (dbl (os.take j)) vs)))).lt b1
      have HX := Lib.hid (fun (k : Nat) => by
        have hb := below_drewN (Below.refl wr.heap.size wr) k
        have hb2 := hb.alloc (by exact Nat.le_refl _) (.cells #[.pointer (some ⟨x, ix, none⟩), .pointer (some ⟨x, ix + 1, none⟩)] 147)
        exact rdNums g x t (sets cs (ivs (dbl (os.take j)) vs)) st (some ⟨wr.heap.size, 0, none⟩) 2 2 [ix, ix + 1] ((wr.drewN k).alloc (.cells #[.pointer (some ⟨x, ix, none⟩), .pointer (some ⟨x, ix + 1, none⟩)] 147)) F1
          ((bothA (rdA g st) (blkA x t (sets cs (ivs (dbl (os.take j)) vs)))).on b1 hb2.size fun k e => hb2.block k (hlt1 k e))
          ⟨rfl, fun _ => ⟨wr.heap.size, 0, rfl, fun i hi => by
            have hnew := (Blk.new (wr.drewN k) 147 #[.pointer (some ⟨x, ix, none⟩), .pointer (some ⟨x, ix + 1, none⟩)])
            match i, hi with
            | 0, _ => exact hnew.cell 0
            | 1, _ => exact hnew.cell 1
            | i + 2, hi => exact absurd hi (by simp)⟩⟩
          (fun a ha e => by cases ha; have := hlt1 _ e; simp at this) (by omega)
          (fun i hi => by
            simp at hi
            rcases hi with rfl | rfl
            · exact sets_int hu
            · exact sets_int hu2))
      have HTr := Lib.hid (show Grow F V wr ∧ (∀ k, F1 k → nF F V wr k) ∧ ∀ k, F1 k → k < wr.heap.size from ⟨b4, b5, hlt1⟩)
      have HPn := Lib.hid (show (pns (2 * (j + 1)) s).2 = (pns 2 st).2 ∧ (pns (2 * (j + 1)) s).1 = vl ++ (pns 2 st).1 by rw [show 2 * (j + 1) = 2 * j + 2 by omega, hsn]; exact ⟨rfl, rfl⟩)
      have hdl2 : (dbl (os.take j)).length = vs.length := by rw [hdl, q1, List.length_take]; omega
      have HDS := Lib.hid (show ∀ us, sets cs (ivs (dbl (os.take (j + 1))) (vs ++ us)) = sets (sets cs (ivs (dbl (os.take j)) vs)) (ivs [ix, ix + 1] us) from fun us => by rw [hds, ivs_app _ _ _ _ hdl2, sets_app])
      have Q1 := Lib.hid q1
      have Q2 := Lib.hid q2
      have Q3 := Lib.hid q3
      clear hc hIw hsn hst hvl HH b4 b5 b1 q1 q2 q3 hu hu2 hix hds hdl hdl2 hlt1
      go_wp2_with fail
      go_region_with (go_at_call 81; refine (HX.out _).mono ?_; rintro e w3 ⟨rfl, us, hul, hub, hus, ht⟩)
      go_wp2
      go_roundw
      case rel =>
        obtain ⟨b4, b5, hlt1⟩ := HTr.out
        obtain ⟨F5, p1, p2, p3⟩ := ht.pre ((below_drewN (Below.refl wr.heap.size wr) 1).alloc (by exact Nat.le_refl _) _) hlt1
        refine ⟨j + 1, vs ++ us, by omega, by go_num, Lib.hid ⟨by rw [List.length_append, Q1.out, hul]; omega, fun z hz => ?_, fun hne => ?_, F5, ?_, b4.trans (p2.mono b5), fun k e => nF_nF b4.size p2.size b5 k (p3 k e)⟩⟩
        · rcases List.mem_append.1 hz with hz | hz
          · exact Q2.out z hz
          · exact hub z hz
        · rw [HPn.out.1] at hne
          rw [HPn.out.2, Q3.out (pns_noneR hne), hus hne]
        · rw [HPn.out.1, HDS.out]
          exact p1
      case measure => simp [intOf]; omega
    · have hjn : j = n := by omega
      have HE := Lib.hid HH.out
      subst hjn
      clear HH
      go_wp2
      go_end0
      have := HE.out
      rw [List.take_of_length_le (by omega)] at this
      exact ⟨rfl, vs, this⟩
theorem rdDone (g : Nat) (s : Rst) (V : World) (F : Nat → Prop) (hP : (rdA g s).p V F) :
    Calls Tryz.prog 82 #[pt g] V fun e w' => e = .returned (.bool (decide (s = some []))) ∧ w' = V := by
  obtain ⟨A, n, c, l, d1, d2, d3, d4, d5, d6, d7, d8⟩ := hP
  have g0 := d1.cell 0
  have g1 := d1.cell 1
  simp at g0 g1
  have hl := d2.1
  cases s with
  | none =>
    clear d1 d2 d8
    go_enter Tryz.func82, Tryz.ntmps82
    go_wp2
    go_ret
    exact ⟨rfl, rfl⟩
  | some l2 =>
    obtain rfl := d6 _ rfl
    have hd : decide (some l2 = some ([] : List UInt8)) = ((n : Int) == 0) := by
      rw [← hl]
      cases l2 <;> simp
      omega
    have HD := Lib.hid hd
    clear d1 d2 d8 hd
    go_enter Tryz.func82, Tryz.ntmps82
    go_wp2
    go_ret
    exact ⟨by rw [HD.out]; rfl, rfl⟩
theorem newRd (t : ByteArray) (V : World) (ht : t.size ≤ 225000000000000) :
    Calls Tryz.prog 80 #[.string t] V fun e w' => ∃ g, e = .returned (pt g) ∧ Below V.heap.size V w' ∧ ∃ F, (rdA g (if t.size ≤ 2048 then some (sb t) else none)).p w' F ∧ ∀ k, F k → V.heap.size ≤ k := by
  by_cases h : t.size ≤ 2048
  · rw [if_pos h]
    have hW := bytesWorld_below V 5 t
    have hA := bytesWorld_at V 5 t
    have kc := fun w => Lib.run_convert_string_bytes (P := Tryz.prog) w 9 91 5 t Tryz.underlying9 Tryz.underlying91 Tryz.underlying5
    have hc1 := grownCap_ge V t.size 0 5
    have hc2 := grownCap_le_maxLen V t.size 0 5 (by unfold maxLen; omega)
    have hc3 : maxLen ≤ 9223372036854775807 := by decide
    have hsz : (Lib.bytesWorld V 5 t).heap.size = V.heap.size + 1 := Lib.bytesWorld_size V 5 t
    have HA := Lib.hid hA
    have HW := Lib.hid hW
    have kc0 := kc V
    clear hA hW kc
    go_enter Tryz.func80, Tryz.ntmps80
    go_wp2
    go_ret
    refine ⟨V.heap.size + 1, by first | rfl | (simp [hsz]; done), HW.out.alloc HW.out.size _, fun k => (k = V.heap.size + 1 ∨ ∃ a, some (⟨V.heap.size, 0, none⟩ : Addr) = some a ∧ 0 < t.size ∧ a.block = k), ⟨some ⟨V.heap.size, 0, none⟩, t.size, grownCap V t.size 0 5, sb t, ?_, HA.out.alloc _, hc1, by omega, by rw [sb_len]; exact h, fun b hb => by simpa using hb.symm, fun a ha => by cases ha; simp, fun k => Iff.rfl⟩, fun k e => ?_⟩
    · rw [← hsz]
      exact Blk.new _ _ _
    · rcases e with e | ⟨a, ha, _, e⟩
      · omega
      · cases ha
        simp at e
        omega
  · rw [if_neg h]
    go_enter Tryz.func80, Tryz.ntmps80
    go_wp2
    go_ret
    refine ⟨_, rfl, nbl V _, fun k => k = V.heap.size, ⟨none, 0, 0, [], Blk.new V _ _, ⟨rfl, fun h0 => absurd h0 (by omega)⟩, Nat.le_refl _, by omega, by simp, fun b hb => (nomatch hb), fun a ha => (nomatch ha), fun k => ⟨.inl, fun e => e.elim id (fun ⟨a, ha, _⟩ => nomatch ha)⟩⟩, fun k e => Nat.le_of_eq e.symm⟩
end Go.Proofs.YtiafmbfeigcinaaGreatDoor
set_option linter.unusedVariables false
set_option linter.unusedSimpArgs false
set_option maxRecDepth 100000
namespace Go.Proofs.YtiafmbfeigcinaaGreatDoor
open Go.RowKit

section
variable {w V : World} {T : List As} {g x : Nat} {s : Rst} {t : TypeId} {cs : Array Value}
theorem Has.acallE {α : Type} {A : As} {A' : α → As} {Q : α → Ending → Prop} (h : Has w (A :: T) V) {W : World} {f : FuncId} {args : Array Value}
    (hc : ∀ F, A.p V F → Calls Tryz.prog f args W fun e w' => ∃ a, Q a e ∧ ATurn (A' a) F V w') :
    Calls Tryz.prog f args W fun e w' => ∃ a, Q a e ∧ Has w (A' a :: T) w' := by
  obtain ⟨F, h1, _, h2⟩ := h.step
  refine (hc F h1).mono ?_
  rintro e w' ⟨a, hq, F', h3, h4, h5⟩
  exact ⟨a, hq, h2 w' (A' a) F' h4 h3 h5⟩
theorem Has.rdNew (h : Has w T V) (u : ByteArray) (ht : u.size ≤ 225000000000000) :
    Calls Tryz.prog 80 #[.string u] V fun e w' => ∃ g, e = .returned (pt g) ∧ Has w (rdA g (if u.size ≤ 2048 then some (sb u) else none) :: T) w' := by
  refine (newRd u V ht).mono ?_
  rintro e w' ⟨g, rfl, hb, F, h1, h2⟩
  exact ⟨g, rfl, h.new hb h1 h2⟩
theorem Has.rdStr (h : Has w (rdA g s :: T) V) :
    Calls Tryz.prog 89 #[pt g] V fun e w' => ∃ u : ByteArray, (e = .returned (.string u) ∧ ((ps s).2 ≠ none → u = (ps s).1)) ∧ Has w (rdA g (ps s).2 :: T) w' :=
  h.acallE (A' := fun _ => rdA g (ps s).2) fun F hP => (Go.Proofs.YtiafmbfeigcinaaGreatDoor.rdStr g s V F hP).mono fun e w' ⟨u, h1, h2, h3⟩ => ⟨u, ⟨h1, h2⟩, h3⟩
theorem Has.rdFlag (h : Has w (rdA g s :: T) V) :
    Calls Tryz.prog 88 #[pt g] V fun e w' => ∃ d : Bool, (e = .returned (.bool d) ∧ ((pf s).2 ≠ none → d = (pf s).1)) ∧ Has w (rdA g (pf s).2 :: T) w' :=
  h.acallE (A' := fun _ => rdA g (pf s).2) fun F hP => (Go.Proofs.YtiafmbfeigcinaaGreatDoor.rdFlag g s V F hP).mono fun e w' ⟨u, h1, h2, h3⟩ => ⟨u, ⟨h1, h2⟩, h3⟩
theorem Has.rdDone (h : Has w (rdA g s :: T) V) :
    Calls Tryz.prog 82 #[pt g] V fun e w' => e = .returned (.bool (decide (s = some []))) ∧ w' = V := by
  obtain ⟨F, h1, _⟩ := h.get
  exact Go.Proofs.YtiafmbfeigcinaaGreatDoor.rdDone g s V F h1
theorem pat_lit (V : World) (x : Nat) (is : List Nat) (t : TypeId) : PAt (V.alloc (.cells (is.map fun i => Value.pointer (some ⟨x, i, none⟩)).toArray t)) (some ⟨V.heap.size, 0, none⟩) is.length x is := by
  refine ⟨rfl, fun _ => ⟨_, _, rfl, fun i hi => ?_⟩⟩
  simp [hi]
theorem Has.rdNums (h : Has w (rdA g s :: blkA x t cs :: T) V) (is : List Nat) {b : Nat} (hb : b = V.heap.size) {pcs : Array Value} {k : Nat} {pt' : TypeId} (hcs : pcs = (is.map fun i => Value.pointer (some ⟨x, i, none⟩)).toArray) (hk : k = is.length)
    (hn : is.length ≤ 1000) (hi : ∀ i ∈ is, ∃ u, cs[i]? = some (.int .i64 u)) :
    Calls Tryz.prog 81 #[pt g, .slice (some ⟨b, 0, none⟩) k k] (V.alloc (.cells pcs pt')) fun e w' => ∃ vs : List Nat, (e = .returned (.tuple #[]) ∧ vs.length = is.length ∧ (∀ v ∈ vs, v ≤ 9007199254740991) ∧ ((pns is.length s).2 ≠ none → vs = (pns is.length s).1)) ∧ Has w (rdA g (pns is.length s).2 :: blkA x t (sets cs (ivs is vs)) :: T) w' := by
  subst hb hcs hk
  have h2 := h.both.acallE (A' := fun vs : List Nat => bothA (rdA g (pns is.length s).2) (blkA x t (sets cs (ivs is vs)))) (Q := fun vs e => e = .returned (.tuple #[]) ∧ vs.length = is.length ∧ (∀ v ∈ vs, v ≤ 9007199254740991) ∧ ((pns is.length s).2 ≠ none → vs = (pns is.length s).1))
    (W := V.alloc (.cells (is.map fun i => Value.pointer (some ⟨x, i, none⟩)).toArray pt')) (f := 81) (args := #[pt g, .slice (some ⟨V.heap.size, 0, none⟩) is.length is.length]) fun F hP => by
    have hlt := (bothA (rdA g s) (blkA x t cs)).lt hP
    refine (Go.Proofs.YtiafmbfeigcinaaGreatDoor.rdNums g x t cs s (some ⟨V.heap.size, 0, none⟩) is.length is.length is _ F ((bothA (rdA g s) (blkA x t cs)).on hP (nbl V _).size fun k e => (nbl V _).block k (hlt k e)) (pat_lit V x is pt')
      (fun a ha e => by cases ha; have := hlt _ e; simp at this) hn hi).mono ?_
    rintro e w' ⟨h1, vs, h3, h4, h5, h6⟩
    exact ⟨vs, ⟨h1, h3, h4, h5⟩, h6.pre (nbl V _) hlt⟩
  exact h2.mono fun e w' ⟨vs, hq, hh⟩ => ⟨vs, hq, hh.unboth⟩
theorem Has.rdStamps (h : Has w (rdA g s :: blkA x t cs :: T) V) (os : List Nat) {b : Nat} (hb : b = V.heap.size) {pcs : Array Value} {k : Nat} {pt' : TypeId} (hcs : pcs = (os.map fun i => Value.pointer (some ⟨x, i, none⟩)).toArray) (hk : k = os.length)
    (hn : os.length ≤ 1000) (hi : ∀ o ∈ os, (∃ u, cs[o]? = some (.int .i64 u)) ∧ ∃ u, cs[o + 1]? = some (.int .i64 u)) :
    Calls Tryz.prog 85 #[pt g, .slice (some ⟨b, 0, none⟩) k k] (V.alloc (.cells pcs pt')) fun e w' => ∃ vs : List Nat, (e = .returned (.tuple #[]) ∧ vs.length = 2 * os.length ∧ (∀ v ∈ vs, v ≤ 9007199254740991) ∧ ((pns (2 * os.length) s).2 ≠ none → vs = (pns (2 * os.length) s).1)) ∧ Has w (rdA g (pns (2 * os.length) s).2 :: blkA x t (sets cs (ivs (dbl os) vs)) :: T) w' := by
  subst hb hcs hk
  have h2 := h.both.acallE (A' := fun vs : List Nat => bothA (rdA g (pns (2 * os.length) s).2) (blkA x t (sets cs (ivs (dbl os) vs)))) (Q := fun vs e => e = .returned (.tuple #[]) ∧ vs.length = 2 * os.length ∧ (∀ v ∈ vs, v ≤ 9007199254740991) ∧ ((pns (2 * os.length) s).2 ≠ none → vs = (pns (2 * os.length) s).1))
    (W := V.alloc (.cells (os.map fun i => Value.pointer (some ⟨x, i, none⟩)).toArray pt')) (f := 85) (args := #[pt g, .slice (some ⟨V.heap.size, 0, none⟩) os.length os.length]) fun F hP => by
    have hlt := (bothA (rdA g s) (blkA x t cs)).lt hP
    refine (Go.Proofs.YtiafmbfeigcinaaGreatDoor.rdStamps g x t cs s (some ⟨V.heap.size, 0, none⟩) os.length os.length os _ F ((bothA (rdA g s) (blkA x t cs)).on hP (nbl V _).size fun k e => (nbl V _).block k (hlt k e)) (pat_lit V x os pt')
      (fun a ha e => by cases ha; have := hlt _ e; simp at this) hn hi).mono ?_
    rintro e w' ⟨h1, vs, h3, h4, h5, h6⟩
    exact ⟨vs, ⟨h1, h3, h4, h5⟩, h6.pre (nbl V _) hlt⟩
  exact h2.mono fun e w' ⟨vs, hq, hh⟩ => ⟨vs, hq, hh.unboth⟩
theorem Has.rowTurn {E : TypeId} {sz : Nat} {v v' : Value} {n n' : Nat} {xs xs' : List Value} {V' : World} (h : Has w (rowA E sz v n xs :: T) V) (h1 : V'.ownsRow 0 E sz v' n' xs') (hg : V.grownBy V' v.ownBlock) (hob : v'.ownBlock = v.ownBlock ∨ v'.ownBlock = some V.heap.size) :
    Has w (rowA E sz v' n' xs' :: T) V' := by
  obtain ⟨F, a1, _, a2⟩ := h.step
  refine a2 V' _ (fun k => v'.ownBlock = some k) (Grow.by_ hg fun k e => (a1.2 k).2 e) ⟨h1, fun k => Iff.rfl⟩ fun k e => ?_
  have hlt : k < V'.heap.size := (rowA E sz v' n' xs').lt (V := V') (F := fun k => v'.ownBlock = some k) ⟨h1, fun k => Iff.rfl⟩ k e
  rcases hob with hob | hob
  · exact .inl ((a1.2 k).2 (hob ▸ e))
  · rw [hob] at e
    injection e with e
    exact .inr ⟨by omega, hlt⟩
theorem Has.rowOf {E : TypeId} {sz : Nat} {v : Value} {n : Nat} {xs : List Value} (h : Has w (rowA E sz v n xs :: T) V) : V.ownsRow 0 E sz v n xs := by
  obtain ⟨F, a1, _⟩ := h.get
  exact a1.1
theorem Has.rd (h : Has w (rdA g s :: T) V) : ∃ A n c, Blk V g 197 #[.slice A n c, .bool s.isNone] ∧ ∀ b, s = some b → b.length ≤ 2048 := by
  obtain ⟨F, ⟨A, n, c, l, d1, d2, d3, d4, d5, d6, d7, d8⟩, _⟩ := h.get
  exact ⟨A, n, c, d1, fun b hb => by rw [d6 b hb]; exact d5⟩
end

set_option maxHeartbeats 2000000 in
theorem many_c {α : Type} (f : Rst → α × Rst) (cl : FuncId) (caps : Array Value) (g : Nat) (X : Value → List α → List As) (w : World)
    (hent : ∀ args W, (callFunc cl args).run Tryz.prog W = .ok (.enter cl args) W)
    (hf : ∀ b r, (f (some b)).2 = some r → r.length < b.length)
    (hcl : ∀ (T : List As) (V : World) (s : Rst) (v : Value) (l : List α), l.length ≤ 2048 → Has w (rdA g s :: (X v l ++ T)) V →
      Calls Tryz.prog cl caps V fun e w' => e = .returned (.tuple #[]) ∧ ∃ (a : α) (v' : Value), ((f s).2 ≠ none → a = (f s).1) ∧ Has w (rdA g (f s).2 :: (X v' (l ++ [a]) ++ T)) w')
    (V : World) (s : Rst) (v : Value) (T : List As) (h : Has w (rdA g s :: (X v [] ++ T)) V) :
    Calls Tryz.prog 92 #[pt g, .func (.func cl) #[] caps] V fun e w' => e = .returned (.tuple #[]) ∧ ∃ (l : List α) (v' : Value), ((many f (pn s).1 (pn s).2).2 ≠ none → l = (many f (pn s).1 (pn s).2).1) ∧ Has w (rdA g (many f (pn s).1 (pn s).2).2 :: (X v' l ++ T)) w' := by
  have HCL := Lib.hid hcl
  have HENT := Lib.hid hent
  have HF := Lib.hid hf
  have h1 := (h.newBlk 3 #[.int .i64 0]).swap
  have HQ := Lib.hid (h1.rdNums [0] (b := V.heap.size + 1) (by simp) (pt' := 147) rfl rfl (by simp) (fun i hi => by simp at hi; subst hi; exact ⟨0, rfl⟩))
  clear hcl hent hf h h1
  go_enter Tryz.func92, Tryz.ntmps92
  go_wp2_with (go_at_call 81; refine HQ.out.mono ?_; rintro e w1 ⟨vs, ⟨rfl, hvl, hvb, hvs⟩, h2⟩)
  obtain ⟨vv, rfl⟩ : ∃ u, vs = [u] := by
    match vs, hvl with
    | [u], _ => exact ⟨u, rfl⟩
  have hvv : vv ≤ 9007199254740991 := hvb vv (by simp)
  have e1 : (pns [0].length s).2 = (pn s).2 := rfl
  have e2 : (pns [0].length s).1 = [(pn s).1] := rfl
  rw [e1, e2] at hvs
  rw [e1] at h2
  have hvs' : (pn s).2 ≠ none → vv = (pn s).1 := fun hne => by simpa using hvs hne
  have h3 : Has w (rdA g (pn s).2 :: blkA V.heap.size 3 #[.int .i64 (vv : Int)] :: (X v [] ++ T)) w1 := by
    have : sets #[Value.int .i64 0] (ivs [0] [vv]) = #[.int .i64 (vv : Int)] := by simp [sets, ivs]
    rw [this] at h2
    exact h2
  clear hvs h2 e1 e2 HQ hvl hvb
  obtain ⟨nn, hnn⟩ : ∃ n, (pn s).1 = n := ⟨_, rfl⟩
  obtain ⟨s1, hs1⟩ : ∃ q, (pn s).2 = q := ⟨_, rfl⟩
  rw [hnn, hs1] at hvs'
  rw [hs1] at h3
  have HNN := Lib.hid hnn
  have HS1 := Lib.hid hs1
  have hb0 : ∀ b, s1 = some b → b.length ≤ 2048 := h3.rd.choose_spec.choose_spec.choose_spec.2
  have H3 := Lib.hid h3
  have HV := Lib.hid hvs'
  have HB0 := Lib.hid hb0
  clear h3 hvs' hb0 hnn hs1
  go_loopw [5] (fun i wr => ∃ (j : Nat) (l : List α) (st : Rst) (v' : Value), i = .int .i64 j ∧ Hid (j ≤ nn ∨ st = none) ∧ Hid ((many f nn s1).2 = (many f (nn - j) st).2) ∧ Hid ((many f nn s1).2 ≠ none → (many f nn s1).1 = l ++ (many f (nn - j) st).1) ∧ Hid (∀ b, st = some b → l.length + b.length ≤ 2048) ∧ Hid (st ≠ none → vv = nn) ∧
    Hid (Has w (rdA g st :: blkA V.heap.size 3 #[.int .i64 (vv : Int)] :: (X v' l ++ T)) wr)) (fun i _ => vv - (intOf i).toNat)
  case atStart => exact ⟨0, [], s1, v, rfl, Lib.hid (.inl (Nat.zero_le _)), rfl, fun _ => rfl, fun b hb => by simpa using HB0.out b hb, HV, H3⟩
  case round =>
    obtain ⟨j, l, st, v', rfl, K1, K2, K3, K4, K5, HH⟩ := hrel
    obtain ⟨A1, n1, c1, d1, _⟩ := HH.out.rd
    have g1 := d1.cell 1
    have n0 := HH.out.swap.blk.1.cell 0
    simp at g1 n0
    have hend : st = none ∨ ¬ j < vv → (many f nn s1).2 = st ∧ ((many f nn s1).2 ≠ none → l = (many f nn s1).1) := by
      intro hx
      by_cases h0 : st = none
      · subst h0
        have := K2.out
        rw [many_none] at this
        exact ⟨this, fun h => absurd this h⟩
      · have hj : nn - j = 0 := by
          have := K5.out h0
          rcases hx with hx | hx
          · exact absurd hx h0
          · omega
        have k2 := K2.out
        have k3 := K3.out
        rw [hj] at k2 k3
        exact ⟨k2, fun h => by rw [k3 h]; simp [many]⟩
    by_cases hgo : j < vv
    · cases st with
      | none =>
        have HE := Lib.hid (hend (.inl rfl))
        clear hend K1 K2 K3 K4 K5 d1
        simp at g1
        go_wp2
        go_end0
        rw [HNN.out, HS1.out]
        refine ⟨rfl, l, v', HE.out.2, ?_⟩
        rw [HE.out.1]
        exact (HH.out.swap.tail)
      | some b =>
        have hvn := K5.out (by simp)
        have hjn : j < nn := by omega
        have hs : nn - j = (nn - (j + 1)) + 1 := by omega
        have k2 := K2.out
        have k3 := K3.out
        have k4 := K4.out b rfl
        rw [hs, many] at k2 k3
        simp only at k2 k3
        have HC := Lib.hid (HCL.out (blkA V.heap.size 3 #[.int .i64 (vv : Int)] :: T) wr (some b) v' l (by omega) (HH.out.perm (List.Perm.cons _ (by exact (List.perm_middle).symm))))
        have he := HENT.out caps wr
        have hfb := HF.out b
        generalize hfs : f (some b) = fs at *
        obtain ⟨a0, s0⟩ := fs
        simp only at k2 k3 hfb HC
        have HK2 := Lib.hid k2
        have HK3 := Lib.hid k3
        have HFB := Lib.hid hfb
        clear hend K1 K2 K3 K4 K5 d1 k2 k3 hfb hfs
        simp at g1
        go_wp2_with fail
        refine HC.out.mono ?_
        rintro e w2 ⟨rfl, a, v2, ha, hh⟩
        go_wp2
        go_roundw
        case rel =>
          refine ⟨j + 1, l ++ [a], s0, v2, by go_num, Lib.hid (.inl (by omega)), HK2, Lib.hid fun hne => ?_, Lib.hid fun b' hb' => ?_, Lib.hid fun _ => hvn, Lib.hid (hh.perm (List.Perm.cons _ (by exact List.perm_middle)))⟩
          · have hs0 : s0 ≠ none := by
              rintro rfl
              rw [HK2.out, many_none] at hne
              exact hne rfl
            rw [HK3.out hne, ha hs0]
            simp
          · have := HFB.out b' hb'
            rw [List.length_append]
            simp
            omega
        case measure => simp [intOf]; omega
    · have HE := Lib.hid (hend (.inr hgo))
      clear hend K1 K2 K3 K4 K5 d1
      go_wp2
      go_end0
      rw [HNN.out, HS1.out]
      refine ⟨rfl, l, v', HE.out.2, ?_⟩
      rw [HE.out.1]
      exact (HH.out.swap.tail)
end Go.Proofs.YtiafmbfeigcinaaGreatDoor
set_option linter.unusedVariables false
set_option linter.unusedSimpArgs false
set_option maxRecDepth 100000
namespace Go.Proofs.YtiafmbfeigcinaaGreatDoor
open Go.RowKit

theorem Blk.all2 {w : World} {g : Nat} {t : TypeId} {c0 c1 v0 v1 : Value} (h : Blk w g t #[c0, c1]) : Blk ((w.setCell ⟨g, 0, none⟩ v0).setCell ⟨g, 1, none⟩ v1) g t #[v0, v1] := by
  have := (h.set_ 0 v0).set_ 1 v1
  simpa using this
def AnsV (o : Option (ByteArray × Bool)) : Ending :=
  match o with
  | none => .returned (.tuple #[.string ⟨#[]⟩, .bool false, .int .i64 4])
  | some x => .returned (.tuple #[.string x.1, .bool x.2, .int .i64 0])
def AnsS (o : Option (Int × Int)) : Ending :=
  match o with
  | none => .returned (.tuple #[sv 0 0, .int .i64 4])
  | some x => .returned (.tuple #[sv x.1 x.2, .int .i64 0])
/-- How far a reader is behind a version; what it says. -/
def finV (s : Rst) : Rst := if (pf s).1 then (ps (pf s).2).2 else (pf s).2
theorem s0_long (t : ByteArray) {s0 : Rst} (hs0 : (if t.size ≤ 2048 then some (sb t) else none) = s0) : (s0 = some (sb t)) ∨ (s0 = none ∧ 2048 < (sb t).length) := by
  by_cases hz : t.size ≤ 2048
  · rw [if_pos hz] at hs0; exact .inl hs0.symm
  · rw [if_neg hz] at hs0; exact .inr ⟨hs0.symm, by rw [sb_len]; omega⟩
theorem tkV_of {b : List UInt8} {d : Bool} (hd : (pf (some b)).2 ≠ none → d = (pf (some b)).1) : tkV b = if d = true then (if (ps (pf (some b)).2).2 = some [] then some ((ps (pf (some b)).2).1, true) else none) else if (pf (some b)).2 = some [] then some (⟨#[]⟩, false) else none := by
  unfold tkV
  simp only
  cases h : (pf (some b)).2 with
  | none => cases (pf (some b)).1 <;> cases d <;> simp [ps_none]
  | some r =>
    rw [hd (by rw [h]; simp)]
set_option maxHeartbeats 1000000 in
theorem takeV_c (t : ByteArray) (w : World) (ht : t.size ≤ 225000000000000) :
    Calls Tryz.prog 42 #[.string t] w fun e w' => e = AnsV (tkV (sb t)) ∧ Below w.heap.size w w' := by
  have HN := Lib.hid ((Has.nil (Below.refl w.heap.size w)).rdNew t ht)
  obtain ⟨s0, hs0⟩ : ∃ s0 : Rst, (if t.size ≤ 2048 then some (sb t) else none) = s0 := ⟨_, rfl⟩
  rw [hs0] at HN
  have HS := Lib.hid (s0_long t hs0)
  clear hs0
  go_enter Tryz.func42, Tryz.ntmps42
  go_wp2_with (first
    | (go_at_call 80; refine HN.out.mono ?_; rintro e w1 ⟨g, rfl, h1⟩; have H1 := Lib.hid h1; clear h1 HN)
    | (go_at_call 88; refine H1.out.rdFlag.mono ?_; rintro e w2 ⟨d, ⟨rfl, hd⟩, h2⟩; have H2 := Lib.hid h2; clear h2 H1)
    | (go_at_call 89; refine H2.out.rdStr.mono ?_; rintro e w3 ⟨u, ⟨rfl, hu⟩, h3⟩; have H3 := Lib.hid h3; clear h3)
    | (go_at_call 82; first | (refine H3.out.rdDone.mono ?_; rintro e w6 ⟨rfl, rfl⟩; have hb3 := H3.out.bel) | (refine H2.out.rdDone.mono ?_; rintro e w6 ⟨rfl, rfl⟩; have hb3 := H2.out.bel)))
  all_goals go_ret3
  all_goals refine ⟨?_, hb3⟩
  · have e1 : d = true := by assumption
    have e2 : (!decide ((ps (pf s0).2).2 = some [])) = true := by assumption
    have hne : ¬ (ps (pf s0).2).2 = some [] := by simpa using e2
    rcases HS.out with rfl | ⟨rfl, hl⟩
    · rw [tkV_of hd, if_pos e1, if_neg hne]; rfl
    · rw [tkV_long hl]; rfl
  · have e1 : d = true := by assumption
    have e2 : (!decide ((ps (pf s0).2).2 = some [])) = false := by assumption
    have he : (ps (pf s0).2).2 = some [] := by simpa using e2
    rcases HS.out with rfl | ⟨rfl, hl⟩
    · rw [tkV_of hd, if_pos e1, if_pos he, ← hu (by rw [he]; simp)]; rfl
    · cases he
  · have e1 : d = false := by assumption
    have e2 : (!decide ((pf s0).2 = some [])) = true := by assumption
    have hne : ¬ (pf s0).2 = some [] := by simpa using e2
    rcases HS.out with rfl | ⟨rfl, hl⟩
    · rw [tkV_of hd, if_neg (by rw [e1]; simp), if_neg hne]; rfl
    · rw [tkV_long hl]; rfl
  · have e1 : d = false := by assumption
    have e2 : (!decide ((pf s0).2 = some [])) = false := by assumption
    have he : (pf s0).2 = some [] := by simpa using e2
    rcases HS.out with rfl | ⟨rfl, hl⟩
    · rw [tkV_of hd, if_neg (by rw [e1]; simp), if_pos he]; rfl
    · cases he
/-- How far the reader is behind a stamp. -/
def finS (s : Rst) : Rst := (pns 2 s).2
theorem tkS_fin (b : List UInt8) : tkS b = if finS (some b) = some [] ∧ may (pn (some b)).1 (pn (pn (some b)).2).1 = true then some (((pn (some b)).1 : Int), ((pn (pn (some b)).2).1 : Int)) else none := rfl
set_option maxHeartbeats 1000000 in
theorem takeS_c (t : ByteArray) (w : World) (ht : t.size ≤ 225000000000000) :
    Calls Tryz.prog 40 #[.string t] w fun e w' => e = AnsS (tkS (sb t)) ∧ Below w.heap.size w w' := by
  have h0 := ((Has.nil (Below.refl w.heap.size w)).newBlk 26 #[.int .i64 0, .int .i64 0]).newBlk 26 #[.int .i64 0, .int .i64 0]
  rw [show (w.alloc (.cells #[.int .i64 0, .int .i64 0] 26)).heap.size = w.heap.size + 1 by simp] at h0
  have HN := Lib.hid (h0.rdNew t ht)
  obtain ⟨s0, hs0⟩ : ∃ s0 : Rst, (if t.size ≤ 2048 then some (sb t) else none) = s0 := ⟨_, rfl⟩
  rw [hs0] at HN
  have HS := Lib.hid (s0_long t hs0)
  clear hs0 h0
  go_enter Tryz.func40, Tryz.ntmps40
  go_wp2_with (first
    | (go_at_call 80; refine HN.out.mono ?_; rintro e w1 ⟨g, rfl, h1⟩; have H1 := Lib.hid h1; clear h1 HN)
    | (go_at_call 85; refine (H1.out.rdStamps [0] (by simp) rfl rfl (by simp) (fun i hi => by simp at hi; subst hi; exact ⟨⟨0, rfl⟩, ⟨0, rfl⟩⟩)).mono ?_; rintro e w2 ⟨vs, ⟨rfl, hvl, hvb, hvs⟩, h4⟩
       obtain ⟨a, b, rfl⟩ := two_ hvl
       have e1 : sets #[Value.int .i64 0, Value.int .i64 0] (ivs (dbl [0]) [a, b]) = #[.int .i64 (a : Int), .int .i64 (b : Int)] := by simp [sets, ivs, dbl]
       rw [e1] at h4
       have kx := h4.swap.blk.1
       have ky := (h4.perm (List.perm_middle (l₁ := [_, _]))).blk.1
       have k0 := kx.cell 0
       have k1 := kx.cell 1
       have y0 := ky.cell 0
       have y1 := ky.cell 1
       have f0 := ky.frozen 0
       have f1 := ky.frozen 1
       simp at k0 k1 y0 y1
       have HKX := Lib.hid kx
       have HKY := Lib.hid ky
       have hbel := h4.bel
       have H4 := Lib.hid h4
       have HVS := Lib.hid (show finS s0 ≠ none → [a, b] = (pns 2 s0).1 from hvs)
       have HCK := Lib.hid (check_ok (a : Int) (b : Int) w2)
       obtain ⟨kk, hkk⟩ : ∃ kk, ck (a : Int) (b : Int) = kk := ⟨_, rfl⟩
       rw [hkk] at HCK
       have hk2 : (kk != 0) = !may (a : Int) (b : Int) := by
         rw [← hkk]; unfold ck; cases may (a : Int) (b : Int) <;> rfl
       clear h4 e1 H1 kx ky hkk)
    | (go_at_call 82; refine H4.out.rdDone.mono ?_; rintro e w6 ⟨rfl, rfl⟩
       obtain ⟨bd, hbd⟩ : ∃ bd, decide (finS s0 = some []) = bd := ⟨_, rfl⟩
       rw [show decide ((pns (2 * [0].length) s0).2 = some []) = bd from hbd]
       have HBD := Lib.hid hbd
       clear hbd)
    | (go_at_call 86; refine HCK.out.mono ?_; rintro e w7 ⟨rfl, hb7⟩
       have kx7 := HKX.out.below hb7 HKX.out.lt
       have ky7 := HKY.out.below hb7 HKY.out.lt
       have j0 := kx7.cell 0
       have j1 := kx7.cell 1
       have m0 := ky7.cell 0
       have m1 := ky7.cell 1
       have n0 := ky7.frozen 0
       have n1 := ky7.frozen 1
       simp at j0 j1 m0 m1))
  all_goals
    have hy : finS s0 = some [] → a = (pn s0).1 ∧ b = (pn (pn s0).2).1 := by
      intro hf
      have := HVS.out (by rw [hf]; simp)
      simpa [pns] using this
  · rename_i hbd hm
    rw [hbd] at HBD
    have hf : finS s0 = some [] := of_decide_eq_true HBD.out
    have hm' : may (a : Int) (b : Int) = false := by simpa using hm
    have hW := ky7.all2 (v0 := .int .i64 0) (v1 := .int .i64 0)
    obtain ⟨rfl, rfl⟩ := hy hf
    refine ret_two rfl rfl hW rfl ⟨?_, ((hbel.trans (hb7.mono hbel.size)).setCell (by exact Nat.le_refl _) _).setCell (by exact Nat.le_refl _) _⟩
    rcases HS.out with rfl | ⟨rfl, hl⟩
    · rw [tkS_fin, if_neg (by rw [hm']; simp)]; rfl
    · cases hf
  · rename_i hbd hm
    rw [hbd] at HBD
    have hf : finS s0 = some [] := of_decide_eq_true HBD.out
    have hm' : may (a : Int) (b : Int) = true := by simpa using hm
    have hW := ky7.all2 (v0 := .int .i64 (a : Int)) (v1 := .int .i64 (b : Int))
    obtain ⟨rfl, rfl⟩ := hy hf
    refine ret_two rfl rfl hW rfl ⟨?_, ((hbel.trans (hb7.mono hbel.size)).setCell (by exact Nat.le_refl _) _).setCell (by exact Nat.le_refl _) _⟩
    rcases HS.out with rfl | ⟨rfl, hl⟩
    · rw [tkS_fin, if_pos ⟨hf, hm'⟩]; rfl
    · cases hf
  · rename_i hbd
    have hf : ¬ finS s0 = some [] := by
      have := HBD.out
      intro h
      rw [decide_eq_true h] at this
      exact hbd this.symm
    have hW := HKY.out.all2 (v0 := .int .i64 0) (v1 := .int .i64 0)
    refine ret_two rfl rfl hW rfl ⟨?_, (hbel.setCell (by exact Nat.le_refl _) _).setCell (by exact Nat.le_refl _) _⟩
    rcases HS.out with rfl | ⟨rfl, hl⟩
    · rw [tkS_fin, if_neg (fun h => hf h.1)]; rfl
    · rw [tkS_long hl]; rfl
end Go.Proofs.YtiafmbfeigcinaaGreatDoor
set_option linter.unusedVariables false
set_option linter.unusedSimpArgs false
set_option maxRecDepth 100000
namespace Go.Proofs.YtiafmbfeigcinaaGreatDoor
open Go.RowKit

/-- The document's taker: what is left (in memory that is newer than its block, or older and nobody's), or that it is bad. -/
def dkA (g : Nat) (s : Rst) : As where
  p V F := ∃ (A : Option Addr) (n c : Nat) (l : List UInt8), Blk V g 150 #[.slice A n c, .bool s.isNone] ∧ At V A n l ∧ n ≤ c ∧ c ≤ 9223372036854775807 ∧ l.length ≤ 225000000000000 ∧ (∀ b, s = some b → b = l) ∧ (∀ a, A = some a → a.block ≠ g) ∧ ∀ k, F k ↔ (k = g ∨ ∃ a, A = some a ∧ 0 < n ∧ a.block = k)
  on {V V' F} h _ hk := by
    obtain ⟨A, n, c, l, h1, h2, h3, h4, h5, h6, h7, h8⟩ := h
    refine ⟨A, n, c, l, (hk _ ((h8 _).2 (.inl rfl))).trans h1, ⟨h2.1, fun hn => ?_⟩, h3, h4, h5, h6, h7, h8⟩
    obtain ⟨b, o, e, hc⟩ := h2.2 hn
    refine ⟨b, o, e, fun i hi => ?_⟩
    have hb := hk b ((h8 b).2 (.inr ⟨_, e, hn, rfl⟩))
    have := hc i hi
    unfold World.cell? at this ⊢
    simp only at this ⊢
    rw [hb]
    exact this
  lt {V F} h k e := by
    obtain ⟨A, n, c, l, h1, h2, h3, h4, h5, h6, h7, h8⟩ := h
    rcases (h8 k).1 e with rfl | ⟨a, ha, hn, rfl⟩
    · exact h1.lt
    · obtain ⟨b, o, e2, hc⟩ := h2.2 hn
      rw [ha] at e2
      cases e2
      exact World.block_lt_of_cell? V _ (hc 0 (by have := h2.1; omega))
theorem dk_put {V w1 : World} {g m c' : Nat} {A' : Option Addr} {rest : List UInt8} {s : Rst} {F : Nat → Prop} (h : (dkA g s).p V F) (hb : Below V.heap.size V w1)
    (ho : Own w1 V.heap.size (.slice A' m c') rest) (hm : m ≤ c') (hc : c' ≤ 9223372036854775807) (hl : rest.length ≤ 225000000000000)
    (hn : s ≠ none) : ATurn (dkA g (some rest)) F V (w1.setCell ⟨g, 0, none⟩ (.slice A' m c')) := by
  obtain ⟨A, n, c, l, h1, h2, h3, h4, h5, h6, h7, h8⟩ := h
  have hgl := h1.lt
  have hB : Blk (w1.setCell ⟨g, 0, none⟩ (.slice A' m c')) g 150 #[.slice A' m c', .bool (some rest).isNone] := by
    have := (h1.below hb h1.lt).set_ 0 (.slice A' m c')
    cases s with
    | none => exact absurd rfl hn
    | some b => exact this
  have hsz : (w1.setCell ⟨g, 0, none⟩ (.slice A' m c')).heap.size = w1.heap.size := by simp [World.setCell]
  have hgr : Grow F V (w1.setCell ⟨g, 0, none⟩ (.slice A' m c')) := (Grow.of_below (F := F) hb).set (p := ⟨g, 0, none⟩) (.inl ((h8 g).2 (.inl rfl))) _
  have hge : ∀ a, A' = some a → 0 < m → V.heap.size ≤ a.block ∧ a.block < w1.heap.size := by
    intro a ha hm0
    obtain ⟨q, e2, e3, e4⟩ := ho.some_ hm0
    rw [ha] at e2
    cases e2
    exact ⟨e3, e4⟩
  have hge0 : ∀ a, A' = some a → V.heap.size ≤ a.block := by
    intro a ha
    rcases ho.2 with ⟨e, _⟩ | ⟨q, cap, cur, e, hq, _⟩
    · injection e with e _ _
      rw [ha] at e
      cases e
    · injection e with e _ _
      rw [ha] at e
      cases e
      exact hq
  have hat : At (w1.setCell ⟨g, 0, none⟩ (.slice A' m c')) A' m rest := by
    have e0 := ho.at_
    refine ⟨e0.1, fun hn => ?_⟩
    obtain ⟨b, o, e, hc⟩ := e0.2 hn
    have hb2 := hge _ e hn
    simp only at hb2
    refine ⟨b, o, e, fun j hj => ?_⟩
    have := hc j hj
    have e5 : (w1.setCell ⟨g, 0, none⟩ (.slice A' m c')).heap[b]? = w1.heap[b]? := by
      simp only [World.setCell, Array.getElem?_modify]
      rw [if_neg (by omega)]
    unfold World.cell? at this ⊢
    simp only at this ⊢
    rw [e5]
    exact this
  refine ⟨fun k => (k = g ∨ ∃ a, A' = some a ∧ 0 < m ∧ a.block = k), ⟨A', m, c', rest, hB, hat, hm, hc, hl, fun b hb => by simpa using hb.symm, fun a ha => by have := hge0 a ha; omega, fun k => Iff.rfl⟩, hgr, fun k e => ?_⟩
  rcases e with e | ⟨a, ha, hm0, e⟩
  · exact .inl (e ▸ (h8 g).2 (.inl rfl))
  · have := hge a ha hm0
    exact .inr (by omega)
theorem dk_set {V : World} {g : Nat} {s s' : Rst} {F : Nat → Prop} (h : (dkA g s).p V F) (hs : ∀ b, s' = some b → s = some b) : ATurn (dkA g s') F V (V.setCell ⟨g, 1, none⟩ (.bool s'.isNone)) := by
  obtain ⟨A, n, c, l, h1, h2, h3, h4, h5, h6, h7, h8⟩ := h
  refine ⟨F, ⟨A, n, c, l, h1.set_ 1 (.bool s'.isNone), ⟨h2.1, fun hn => ?_⟩, h3, h4, h5, fun b hb => h6 b (hs b hb), h7, h8⟩, (Grow.refl F V).set (p := ⟨g, 1, none⟩) (.inl ((h8 g).2 (.inl rfl))) _, fun k e => .inl e⟩
  obtain ⟨b, o, e, hc⟩ := h2.2 hn
  refine ⟨b, o, e, fun j hj => ?_⟩
  have := hc j hj
  have hne := h7 _ e
  unfold World.cell? at this ⊢
  simp only [World.setCell, Array.getElem?_modify] at this ⊢
  rw [if_neg (fun e => hne e.symm)]
  exact this
theorem dk_below {V V1 : World} {g : Nat} {s : Rst} {F : Nat → Prop} (h : (dkA g s).p V F) (hb : Below V.heap.size V V1) : (dkA g s).p V1 F :=
  (dkA g s).on h hb.size fun k e => hb.block k ((dkA g s).lt h k e)
theorem dk_bad {V w1 : World} {g : Nat} {s : Rst} {F : Nat → Prop} (h : (dkA g s).p V F) (hb : Below V.heap.size V w1) : ATurn (dkA g none) F V (w1.setCell ⟨g, 1, none⟩ (.bool true)) :=
  (dk_set (s' := none) (dk_below h hb) (fun b hb => nomatch hb)).pre hb ((dkA g s).lt h)
set_option maxHeartbeats 1000000 in
theorem dkNum (g : Nat) (s : Rst) (V : World) (F : Nat → Prop) (hP : (dkA g s).p V F) :
    Calls Tryz.prog 83 #[pt g] V fun e w' => e = .returned (.int .i64 ((pn s).1 : Int)) ∧ ATurn (dkA g (pn s).2) F V w' := by
  have HP := Lib.hid hP
  obtain ⟨A, n, c, l, d1, d2, d3, d4, d5, d6, d7, d8⟩ := hP
  have g0 := d1.cell 0
  simp at g0
  have HB := Lib.hid d1
  rcases htk : tk l with ⟨v, rest, x⟩
  have hrl : rest.length ≤ 225000000000000 := by have := tk_rest l; rw [htk] at this; simp only at this; omega
  have HQ := Lib.hid (refTakeNum_any A n c l rest v x V d2 d3 d4 (by have := d2.1; omega) htk)
  cases s with
  | none =>
    have HZ := Lib.hid (fun (w1 : World) (hb : Below V.heap.size V w1) => dk_bad HP.out hb)
    clear d1 d2 d3 d4 d5 d6 d7 d8 htk hrl
    by_cases hx : x = 0
    · subst hx
      go_enter Tryz.func83, Tryz.ntmps83
      go_wp2_with (go_at_call 137; refine HQ.out.mono ?_; rintro e w1 ⟨Ar, mr, cr, rfl, hor, hr1, hr2, hb1⟩
                   have hB1 := HB.out.below hb1 HB.out.lt
                   have y0 := hB1.cell 0
                   have y1 := hB1.cell 1
                   have y2 := hB1.frozen 0
                   have y3 := hB1.frozen 1
                   simp at y0 y1)
      go_ret
      exact ⟨rfl, HZ.out _ hb1⟩
    · have hx0 : ((x : Int) == 0) = false := by simpa using hx
      go_enter Tryz.func83, Tryz.ntmps83
      go_wp2_with (go_at_call 137; refine HQ.out.mono ?_; rintro e w1 ⟨Ar, mr, cr, rfl, hor, hr1, hr2, hb1⟩
                   have hB1 := HB.out.below hb1 HB.out.lt
                   have y0 := hB1.cell 0
                   have y1 := hB1.cell 1
                   have y2 := hB1.frozen 0
                   have y3 := hB1.frozen 1
                   simp at y0 y1)
      go_ret
      exact ⟨rfl, HZ.out _ hb1⟩
  | some l2 =>
    obtain rfl := d6 _ rfl
    by_cases hx : x = 0
    · subst hx
      have hp : pn (some l2) = (v, some rest) := by unfold pn; simp only [htk]; rfl
      rw [hp]
      have HZ := Lib.hid (fun (w1 : World) (Ar : Option Addr) (mr cr : Nat) (hb : Below V.heap.size V w1) (ho : Own w1 V.heap.size (.slice Ar mr cr) rest) (h1 : mr ≤ cr) (h2 : cr ≤ 9223372036854775807) => dk_put HP.out hb ho h1 h2 hrl (by simp))
      clear d1 d2 d3 d4 d5 d6 d7 d8 htk hrl hp
      go_enter Tryz.func83, Tryz.ntmps83
      go_wp2_with (go_at_call 137; refine HQ.out.mono ?_; rintro e w1 ⟨Ar, mr, cr, rfl, hor, hr1, hr2, hb1⟩
                   have hB1 := HB.out.below hb1 HB.out.lt
                   have y0 := hB1.cell 0
                   have y1 := hB1.cell 1
                   have y2 := hB1.frozen 0
                   have y3 := hB1.frozen 1
                   simp at y0 y1)
      go_ret
      exact ⟨rfl, HZ.out _ _ _ _ hb1 hor hr1 hr2⟩
    · have hx0 : ((x : Int) == 0) = false := by simpa using hx
      have hp : pn (some l2) = (0, none) := by unfold pn; simp only [htk]; rw [if_neg hx]
      rw [hp]
      have HZ := Lib.hid (fun (w1 : World) (hb : Below V.heap.size V w1) => dk_bad HP.out hb)
      clear d1 d2 d3 d4 d5 d6 d7 d8 htk hrl hp
      go_enter Tryz.func83, Tryz.ntmps83
      go_wp2_with (go_at_call 137; refine HQ.out.mono ?_; rintro e w1 ⟨Ar, mr, cr, rfl, hor, hr1, hr2, hb1⟩
                   have hB1 := HB.out.below hb1 HB.out.lt
                   have y0 := hB1.cell 0
                   have y1 := hB1.cell 1
                   have y2 := hB1.frozen 0
                   have y3 := hB1.frozen 1
                   simp at y0 y1)
      go_ret
      exact ⟨rfl, HZ.out _ hb1⟩
set_option maxHeartbeats 1000000 in
theorem dkStr (g : Nat) (s : Rst) (V : World) (F : Nat → Prop) (hP : (dkA g s).p V F) :
    Calls Tryz.prog 91 #[pt g] V fun e w' => e = .returned (.string (ps s).1) ∧ ATurn (dkA g (ps s).2) F V w' := by
  have HP := Lib.hid hP
  obtain ⟨A, n, c, l, d1, d2, d3, d4, d5, d6, d7, d8⟩ := hP
  have g0 := d1.cell 0
  simp at g0
  have HB := Lib.hid d1
  rcases htk : tsx l 64 with ⟨t, rest, x⟩
  have hrl : rest.length ≤ 225000000000000 := by have := tsx_rest l 64; rw [htk] at this; simp only at this; omega
  have HQ := Lib.hid (refTakeStr_any A n c 64 l t rest x V d2 d3 d4 (by have := d2.1; omega) htk)
  cases s with
  | none =>
    have HZ := Lib.hid (fun (w1 : World) (hb : Below V.heap.size V w1) => dk_bad HP.out hb)
    clear d1 d2 d3 d4 d5 d6 d7 d8 htk hrl
    by_cases hx : x = 0
    · subst hx
      go_enter Tryz.func91, Tryz.ntmps91
      go_wp2_with (go_at_call 139; refine HQ.out.mono ?_; rintro e w1 ⟨Ar, mr, cr, rfl, hor, hr1, hr2, hb1⟩
                   have hB1 := HB.out.below hb1 HB.out.lt
                   have y0 := hB1.cell 0
                   have y1 := hB1.cell 1
                   have y2 := hB1.frozen 0
                   have y3 := hB1.frozen 1
                   simp at y0 y1)
      go_ret
      exact ⟨rfl, HZ.out _ hb1⟩
    · have hx0 : ((x : Int) == 0) = false := by simpa using hx
      go_enter Tryz.func91, Tryz.ntmps91
      go_wp2_with (go_at_call 139; refine HQ.out.mono ?_; rintro e w1 ⟨Ar, mr, cr, rfl, hor, hr1, hr2, hb1⟩
                   have hB1 := HB.out.below hb1 HB.out.lt
                   have y0 := hB1.cell 0
                   have y1 := hB1.cell 1
                   have y2 := hB1.frozen 0
                   have y3 := hB1.frozen 1
                   simp at y0 y1)
      go_ret
      exact ⟨rfl, HZ.out _ hb1⟩
  | some l2 =>
    obtain rfl := d6 _ rfl
    by_cases hx : x = 0
    · subst hx
      have hp : ps (some l2) = (⟨t.toArray⟩, some rest) := by unfold ps; simp only [htk]; rfl
      rw [hp]
      have HZ := Lib.hid (fun (w1 : World) (Ar : Option Addr) (mr cr : Nat) (hb : Below V.heap.size V w1) (ho : Own w1 V.heap.size (.slice Ar mr cr) rest) (h1 : mr ≤ cr) (h2 : cr ≤ 9223372036854775807) => dk_put HP.out hb ho h1 h2 hrl (by simp))
      clear d1 d2 d3 d4 d5 d6 d7 d8 htk hrl hp
      go_enter Tryz.func91, Tryz.ntmps91
      go_wp2_with (go_at_call 139; refine HQ.out.mono ?_; rintro e w1 ⟨Ar, mr, cr, rfl, hor, hr1, hr2, hb1⟩
                   have hB1 := HB.out.below hb1 HB.out.lt
                   have y0 := hB1.cell 0
                   have y1 := hB1.cell 1
                   have y2 := hB1.frozen 0
                   have y3 := hB1.frozen 1
                   simp at y0 y1)
      go_ret
      exact ⟨rfl, HZ.out _ _ _ _ hb1 hor hr1 hr2⟩
    · have hx0 : ((x : Int) == 0) = false := by simpa using hx
      have hp : ps (some l2) = (⟨#[]⟩, none) := by unfold ps; simp only [htk]; rw [if_neg hx]
      rw [hp]
      have HZ := Lib.hid (fun (w1 : World) (hb : Below V.heap.size V w1) => dk_bad HP.out hb)
      clear d1 d2 d3 d4 d5 d6 d7 d8 htk hrl hp
      go_enter Tryz.func91, Tryz.ntmps91
      go_wp2_with (go_at_call 139; refine HQ.out.mono ?_; rintro e w1 ⟨Ar, mr, cr, rfl, hor, hr1, hr2, hb1⟩
                   have hB1 := HB.out.below hb1 HB.out.lt
                   have y0 := hB1.cell 0
                   have y1 := hB1.cell 1
                   have y2 := hB1.frozen 0
                   have y3 := hB1.frozen 1
                   simp at y0 y1)
      go_ret
      exact ⟨rfl, HZ.out _ hb1⟩
theorem dkDone (g : Nat) (s : Rst) (V : World) (F : Nat → Prop) (hP : (dkA g s).p V F) :
    Calls Tryz.prog 84 #[pt g] V fun e w' => e = .returned (.bool (decide (s = some []))) ∧ w' = V := by
  obtain ⟨A, n, c, l, d1, d2, d3, d4, d5, d6, d7, d8⟩ := hP
  have g0 := d1.cell 0
  have g1 := d1.cell 1
  simp at g0 g1
  have hl := d2.1
  cases s with
  | none =>
    clear d1 d2 d8
    go_enter Tryz.func84, Tryz.ntmps84
    go_wp2
    go_ret
    exact ⟨rfl, rfl⟩
  | some l2 =>
    obtain rfl := d6 _ rfl
    have hd : decide (some l2 = some ([] : List UInt8)) = ((n : Int) == 0) := by
      rw [← hl]
      cases l2 <;> simp
      omega
    have HD := Lib.hid hd
    clear d1 d2 d8 hd
    go_enter Tryz.func84, Tryz.ntmps84
    go_wp2
    go_ret
    exact ⟨by rw [HD.out]; rfl, rfl⟩
section
variable {w V : World} {T : List As} {g : Nat} {s : Rst}
theorem Has.dkNum (h : Has w (dkA g s :: T) V) : Calls Tryz.prog 83 #[pt g] V fun e w' => e = .returned (.int .i64 ((pn s).1 : Int)) ∧ Has w (dkA g (pn s).2 :: T) w' :=
  h.turn fun F hF => Go.Proofs.YtiafmbfeigcinaaGreatDoor.dkNum g s V F hF
theorem Has.dkStr (h : Has w (dkA g s :: T) V) : Calls Tryz.prog 91 #[pt g] V fun e w' => e = .returned (.string (ps s).1) ∧ Has w (dkA g (ps s).2 :: T) w' :=
  h.turn fun F hF => Go.Proofs.YtiafmbfeigcinaaGreatDoor.dkStr g s V F hF
theorem Has.dkDone (h : Has w (dkA g s :: T) V) : Calls Tryz.prog 84 #[pt g] V fun e w' => e = .returned (.bool (decide (s = some []))) ∧ w' = V := by
  obtain ⟨F, hF, _⟩ := h.get
  exact Go.Proofs.YtiafmbfeigcinaaGreatDoor.dkDone g s V F hF
theorem Has.dkStamp (h : Has w (dkA g s :: T) V) : Calls Tryz.prog 87 #[pt g] V fun e w' => e = .returned (sv ((pn s).1 : Int) ((pn (pn s).2).1 : Int)) ∧ Has w (dkA g (pn (pn s).2).2 :: T) w' := by
  have h0 := (h.newBlk 26 #[.int .i64 0, .int .i64 0]).swap
  have H0 := Lib.hid h0
  clear h h0
  generalize h1 : (pn s).1 = a
  generalize h2 : (pn (pn s).2).1 = b
  have N1 := Lib.hid h1
  have N2 := Lib.hid h2
  clear h1 h2
  go_enter Tryz.func87, Tryz.ntmps87
  go_wp2_with (go_at_call 83; first
    | (refine H1.out.dkNum.mono ?_; rintro e w2 ⟨rfl, h2⟩; rw [N2.out]
       have k := h2.swap.blk.1
       have y0 := k.cell 0
       have y1 := k.cell 1
       have f0 := k.frozen 0
       have f1 := k.frozen 1
       simp at y0 y1
       have HB := Lib.hid (k.all2 (v0 := .int .i64 (a : Int)) (v1 := .int .i64 (b : Int)))
       have H2 := Lib.hid ((h2.swap.setBlk 0 (.int .i64 (a : Int))).setBlk 1 (.int .i64 (b : Int))).tail
       clear h2 k)
    | (refine H0.out.dkNum.mono ?_; rintro e w1 ⟨rfl, h1⟩; rw [N1.out]; have H1 := Lib.hid h1; clear h1))
  exact ret_one rfl rfl HB.out rfl ⟨rfl, H2.out⟩
theorem Has.dkFlag (h : Has w (dkA g s :: T) V) : Calls Tryz.prog 90 #[pt g] V fun e w' => e = .returned (.bool (pf s).1) ∧ Has w (dkA g (pf s).2 :: T) w' := by
  have H0 := Lib.hid h
  clear h
  have hpf : pf s = (decide ((pn s).1 = 1), if 1 < (pn s).1 then none else (pn s).2) := rfl
  rw [hpf]
  generalize h1 : (pn s).1 = a
  generalize h2 : (pn s).2 = s1
  have N1 := Lib.hid h1
  have N2 := Lib.hid h2
  clear h1 h2 hpf
  obtain ⟨b, hb⟩ : ∃ b, ((a : Int) == 1) = b := ⟨_, rfl⟩
  have hb2 : decide (a = 1) = b := by rw [← hb, Bool.eq_iff_iff]; simp; omega
  rw [hb2]
  clear hb2
  by_cases ha : 1 < a
  · rw [if_pos ha]
    go_enter Tryz.func90, Tryz.ntmps90
    go_wp2_with (go_at_call 83; refine H0.out.dkNum.mono ?_; rintro e w1 ⟨rfl, h1⟩; rw [N1.out, N2.out] at *
                 have hst := h1.step
                 obtain ⟨F, hF, _, hst⟩ := hst
                 have HF := hF
                 obtain ⟨A, n, c, l, d1, d2, d3, d4, d5, d6, d7, d8⟩ := hF
                 have y1 := d1.cell 1
                 have y2 := d1.frozen 1
                 simp at y1
                 have HZ := Lib.hid (show Has w (dkA g none :: T) (w1.setCell ⟨g, 1, none⟩ (.bool true)) from by obtain ⟨F', q1, q2, q3⟩ := dk_bad HF (Below.refl _ _); exact hst _ _ _ q2 q1 q3)
                 cases s1 <;> clear d1 d2 d3 d4 d5 d6 d7 d8 hst HF h1)
    all_goals go_ret
    all_goals (try rw [show decide ((1 : Int) < (a : Int)) = true from decide_eq_true (by omega)])
    all_goals exact ⟨by first | rfl | rw [hb], HZ.out⟩
  · rw [if_neg ha]
    go_enter Tryz.func90, Tryz.ntmps90
    go_wp2_with (go_at_call 83; refine H0.out.dkNum.mono ?_; rintro e w1 ⟨rfl, h1⟩; rw [N1.out, N2.out] at *
                 have hst := h1.step
                 obtain ⟨F, hF, _, hst⟩ := hst
                 have HF := hF
                 obtain ⟨A, n, c, l, d1, d2, d3, d4, d5, d6, d7, d8⟩ := hF
                 have y1 := d1.cell 1
                 have y2 := d1.frozen 1
                 simp at y1
                 have HZ := Lib.hid (show Has w (dkA g s1 :: T) (w1.setCell ⟨g, 1, none⟩ (.bool s1.isNone)) from by obtain ⟨F', q1, q2, q3⟩ := dk_set HF (fun b hb => hb); exact hst _ _ _ q2 q1 q3)
                 cases s1 <;> clear d1 d2 d3 d4 d5 d6 d7 d8 hst HF h1)
    all_goals go_ret
    all_goals (try rw [show decide ((1 : Int) < (a : Int)) = false from decide_eq_false (by omega)])
    all_goals exact ⟨by first | rfl | rw [hb], HZ.out⟩
end
end Go.Proofs.YtiafmbfeigcinaaGreatDoor
