/-
  Layer 11, the code's reader: stamps, isDone, newReader.
  Layer 11, the code's reader as a walk takes it; many.
  Layer 11, the code: the function literals of TakeIntent, TakeRecord.
  Layer 11, the code: what may be: numbers, keys, values; the functions that look at one change, one write, one stamp.
  Layer 11: what each looks through, by a function that is handed in: slices.IndexFunc, ContainsFunc, each; areStamps, areChanges, areWrites.
  Layer 11, the code: CheckIntent, CheckRecord.
-/
import Derived.Test.YtgccichmdddbpaaGreatDoorPA25
import Derived.Test.YtgccichmdddbpaaGreatDoorPA24
import Derived.Test.YtgccichmdddbpaaGreatDoorPA03
set_option linter.unusedVariables false
set_option linter.unusedSimpArgs false
set_option maxRecDepth 100000
namespace Go.Proofs.YtgccichmdddbpaaGreatDoor
open Go.RowKit

theorem pns_add : ∀ (a b : Nat) (s : Rst), pns (a + b) s = ((pns a s).1 ++ (pns b (pns a s).2).1, (pns b (pns a s).2).2)
  | 0, b, s => by rw [Nat.zero_add]; rfl
  | a + 1, b, s => by
    rw [show a + 1 + b = (a + b) + 1 by omega, pns, pns_add a b, pns]
    rfl
theorem pns_none : ∀ (a : Nat), (pns a none).2 = none
  | 0 => rfl
  | a + 1 => by rw [pns]; exact pns_none a
theorem pns_noneR {a : Nat} {s : Rst} (h : (pns a s).2 ≠ none) : s ≠ none := by
  rintro rfl
  exact h (pns_none a)
theorem sets_app (cs : Array Value) : ∀ (l m : List (Nat × Value)), sets cs (l ++ m) = sets (sets cs l) m
  | [], m => rfl
  | p :: l, m => sets_app (cs.setIfInBounds p.1 p.2) l m
theorem ivs_app (a b vs us : List Nat) (h : a.length = vs.length) : ivs (a ++ b) (vs ++ us) = ivs a vs ++ ivs b us := by
  unfold ivs
  rw [List.zip_append h, List.map_append]
def dbl (os : List Nat) : List Nat := os.flatMap fun o => [o, o + 1]
theorem dbl_len : ∀ os : List Nat, (dbl os).length = 2 * os.length
  | [] => rfl
  | o :: os => by
    have := dbl_len os
    unfold dbl at this ⊢
    rw [List.flatMap_cons, List.length_append, this]
    simp
    omega
theorem dbl_snoc (os : List Nat) (j : Nat) (h : j < os.length) : dbl (os.take (j + 1)) = dbl (os.take j) ++ [os[j]'h, os[j]'h + 1] := by
  unfold dbl
  rw [List.take_succ_eq_append_getElem h, List.flatMap_append]
  simp
set_option maxHeartbeats 1000000 in
theorem rdStamps (g x : Nat) (t : TypeId) (cs : Array Value) (s : Rst) (A : Option Addr) (n c : Nat) (os : List Nat) (V : World) (F : Nat → Prop) (hP : (bothA (rdA g s) (blkA x t cs)).p V F) (hI : PAt V A n x os) (hA : ∀ a, A = some a → ¬ F a.block)
    (hn : n ≤ 1000) (hi : ∀ o ∈ os, (∃ u, cs[o]? = some (.int .i64 u)) ∧ ∃ u, cs[o + 1]? = some (.int .i64 u)) :
    Calls Tryz.prog 144 #[pt g, .slice A n c] V fun e w' => e = .returned (.tuple #[]) ∧ ∃ vs : List Nat, vs.length = 2 * n ∧ (∀ v ∈ vs, v ≤ 9007199254740991) ∧ ((pns (2 * n) s).2 ≠ none → vs = (pns (2 * n) s).1) ∧ ATurn (bothA (rdA g (pns (2 * n) s).2) (blkA x t (sets cs (ivs (dbl os) vs)))) F V w' := by
  have HI := Lib.hid hI
  have HA := Lib.hid hA
  have HC := Lib.hid hi
  have hT := Lib.hid (ATurn.refl hP)
  clear hI hA hP hi
  go_enter Tryz.func144, Tryz.ntmps144
  go_wp2
  go_loopw [8] (fun i wr => ∃ (j : Nat) (vs : List Nat), j ≤ n ∧ i = .int .i64 j ∧ Hid (vs.length = 2 * j ∧ (∀ v ∈ vs, v ≤ 9007199254740991) ∧ ((pns (2 * j) s).2 ≠ none → vs = (pns (2 * j) s).1) ∧ ATurn (bothA (rdA g (pns (2 * j) s).2) (blkA x t (sets cs (ivs (dbl (os.take j)) vs)))) F V wr)) (fun i _ => n - (intOf i).toNat)
  case atStart => exact ⟨0, [], Nat.zero_le _, rfl, rfl, fun v hv => (nomatch hv), fun _ => rfl, by simpa [ivs, sets, pns, dbl] using hT.out⟩
  case round =>
    obtain ⟨j, vs, hj, rfl, HH⟩ := hrel
    have hl := HI.out.1
    by_cases hlt : j < n
    · have hjl : j < os.length := by omega
      obtain ⟨q1, q2, q3, F1, b1, b4, b5⟩ := HH.out
      have hIw : PAt wr A n x os := by
        refine ⟨HI.out.1, fun hn => ?_⟩
        obtain ⟨b, o, e, hc⟩ := HI.out.2 hn
        refine ⟨b, o, e, fun i hi => ?_⟩
        have h1 := hc i hi
        have hlt := World.block_lt_of_cell? V _ h1
        have := b4.block b hlt (HA.out _ e)
        unfold World.cell? at h1 ⊢
        simp only at h1 ⊢
        rw [this]
        exact h1
      obtain ⟨b, o, rfl, hc⟩ := hIw.2 (by omega)
      have h1 := hc j hjl
      obtain ⟨⟨u, hu⟩, ⟨u2, hu2⟩⟩ := HC.out _ (List.getElem_mem hjl)
      have hsn := pns_add (2 * j) 2 s
      have hds := dbl_snoc os j hjl
      have hdl := dbl_len (os.take j)
      generalize hst : (pns (2 * j) s).2 = st at *
      generalize hvl : (pns (2 * j) s).1 = vl at *
      obtain ⟨ix, hix⟩ : ∃ ix, os[j]'hjl = ix := ⟨_, rfl⟩
      rw [hix] at h1 hu hu2 hds
      have hlt1 := (bothA (rdA g st) (blkA x t (sets cs (ivs (dbl (os.take j)) vs)))).lt b1
      have HX := Lib.hid (fun (k : Nat) => by
        have hb := below_drewN (Below.refl wr.heap.size wr) k
        have hb2 := hb.alloc (by exact Nat.le_refl _) (.cells #[.pointer (some ⟨x, ix, none⟩), .pointer (some ⟨x, ix + 1, none⟩)] 207)
        exact rdNums g x t (sets cs (ivs (dbl (os.take j)) vs)) st (some ⟨wr.heap.size, 0, none⟩) 2 2 [ix, ix + 1] ((wr.drewN k).alloc (.cells #[.pointer (some ⟨x, ix, none⟩), .pointer (some ⟨x, ix + 1, none⟩)] 207)) F1
          ((bothA (rdA g st) (blkA x t (sets cs (ivs (dbl (os.take j)) vs)))).on b1 hb2.size fun k e => hb2.block k (hlt1 k e))
          ⟨rfl, fun _ => ⟨wr.heap.size, 0, rfl, fun i hi => by
            have hnew := (Blk.new (wr.drewN k) 207 #[.pointer (some ⟨x, ix, none⟩), .pointer (some ⟨x, ix + 1, none⟩)])
            match i, hi with
            | 0, _ => exact hnew.cell 0
            | 1, _ => exact hnew.cell 1
            | i + 2, hi => exact absurd hi (by simp)⟩⟩
          (fun a ha e => by cases ha; have := hlt1 _ e; simp at this) (by omega)
          (fun i hi => by
            simp at hi
            rcases hi with rfl | rfl
            · exact sets_int hu
            · exact sets_int hu2))
      have HTr := Lib.hid (show Grow F V wr ∧ (∀ k, F1 k → nF F V wr k) ∧ ∀ k, F1 k → k < wr.heap.size from ⟨b4, b5, hlt1⟩)
      have HPn := Lib.hid (show (pns (2 * (j + 1)) s).2 = (pns 2 st).2 ∧ (pns (2 * (j + 1)) s).1 = vl ++ (pns 2 st).1 by rw [show 2 * (j + 1) = 2 * j + 2 by omega, hsn]; exact ⟨rfl, rfl⟩)
      have hdl2 : (dbl (os.take j)).length = vs.length := by rw [hdl, q1, List.length_take]; omega
      have HDS := Lib.hid (show ∀ us, sets cs (ivs (dbl (os.take (j + 1))) (vs ++ us)) = sets (sets cs (ivs (dbl (os.take j)) vs)) (ivs [ix, ix + 1] us) from fun us => by rw [hds, ivs_app _ _ _ _ hdl2, sets_app])
      have Q1 := Lib.hid q1
      have Q2 := Lib.hid q2
      have Q3 := Lib.hid q3
      clear hc hIw hsn hst hvl HH b4 b5 b1 q1 q2 q3 hu hu2 hix hds hdl hdl2 hlt1
      go_wp2_with fail
      go_region_with (go_at_call 142; refine (HX.out _).mono ?_; rintro e w3 ⟨rfl, us, hul, hub, hus, ht⟩)
      go_wp2
      go_roundw
      case rel =>
        obtain ⟨b4, b5, hlt1⟩ := HTr.out
        obtain ⟨F5, p1, p2, p3⟩ := ht.pre ((below_drewN (Below.refl wr.heap.size wr) 1).alloc (by exact Nat.le_refl _) _) hlt1
        refine ⟨j + 1, vs ++ us, by omega, by go_num, Lib.hid ⟨by rw [List.length_append, Q1.out, hul]; omega, fun z hz => ?_, fun hne => ?_, F5, ?_, b4.trans (p2.mono b5), fun k e => nF_nF b4.size p2.size b5 k (p3 k e)⟩⟩
        · rcases List.mem_append.1 hz with hz | hz
          · exact Q2.out z hz
          · exact hub z hz
        · rw [HPn.out.1] at hne
          rw [HPn.out.2, Q3.out (pns_noneR hne), hus hne]
        · rw [HPn.out.1, HDS.out]
          exact p1
      case measure => simp [intOf]; omega
    · have hjn : j = n := by omega
      have HE := Lib.hid HH.out
      subst hjn
      clear HH
      go_wp2
      go_end0
      have := HE.out
      rw [List.take_of_length_le (by omega)] at this
      exact ⟨rfl, vs, this⟩
theorem rdDone (g : Nat) (s : Rst) (V : World) (F : Nat → Prop) (hP : (rdA g s).p V F) :
    Calls Tryz.prog 148 #[pt g] V fun e w' => e = .returned (.bool (decide (s = some []))) ∧ w' = V := by
  obtain ⟨A, n, c, l, d1, d2, d3, d4, d5, d6, d7, d8⟩ := hP
  have g0 := d1.cell 0
  have g1 := d1.cell 1
  simp at g0 g1
  have hl := d2.1
  cases s with
  | none =>
    clear d1 d2 d8
    go_enter Tryz.func148, Tryz.ntmps148
    go_wp2
    go_ret
    exact ⟨rfl, rfl⟩
  | some l2 =>
    obtain rfl := d6 _ rfl
    have hd : decide (some l2 = some ([] : List UInt8)) = ((n : Int) == 0) := by
      rw [← hl]
      cases l2 <;> simp
      omega
    have HD := Lib.hid hd
    clear d1 d2 d8 hd
    go_enter Tryz.func148, Tryz.ntmps148
    go_wp2
    go_ret
    exact ⟨by rw [HD.out]; rfl, rfl⟩
theorem newRd (t : ByteArray) (V : World) (ht : t.size ≤ 225000000000000) :
    Calls Tryz.prog 141 #[.string t] V fun e w' => ∃ g, e = .returned (pt g) ∧ Below V.heap.size V w' ∧ ∃ F, (rdA g (if t.size ≤ 2048 then some (sb t) else none)).p w' F ∧ ∀ k, F k → V.heap.size ≤ k := by
  by_cases h : t.size ≤ 2048
  · rw [if_pos h]
    have hW := bytesWorld_below V 5 t
    have hA := bytesWorld_at V 5 t
    have kc := fun w => Lib.run_convert_string_bytes (P := Tryz.prog) w 9 164 5 t Tryz.underlying9 Tryz.underlying164 Tryz.underlying5
    have hc1 := grownCap_ge V t.size 0 5
    have hc2 := grownCap_le_maxLen V t.size 0 5 (by unfold maxLen; omega)
    have hc3 : maxLen ≤ 9223372036854775807 := by decide
    have hsz : (Lib.bytesWorld V 5 t).heap.size = V.heap.size + 1 := Lib.bytesWorld_size V 5 t
    have HA := Lib.hid hA
    have HW := Lib.hid hW
    have kc0 := kc V
    clear hA hW kc
    go_enter Tryz.func141, Tryz.ntmps141
    go_wp2
    go_ret
    refine ⟨V.heap.size + 1, by first | rfl | (simp [hsz]; done), HW.out.alloc HW.out.size _, fun k => (k = V.heap.size + 1 ∨ ∃ a, some (⟨V.heap.size, 0, none⟩ : Addr) = some a ∧ 0 < t.size ∧ a.block = k), ⟨some ⟨V.heap.size, 0, none⟩, t.size, grownCap V t.size 0 5, sb t, ?_, HA.out.alloc _, hc1, by omega, by rw [sb_len]; exact h, fun b hb => by simpa using hb.symm, fun a ha => by cases ha; simp, fun k => Iff.rfl⟩, fun k e => ?_⟩
    · rw [← hsz]
      exact Blk.new _ _ _
    · rcases e with e | ⟨a, ha, _, e⟩
      · omega
      · cases ha
        simp at e
        omega
  · rw [if_neg h]
    go_enter Tryz.func141, Tryz.ntmps141
    go_wp2
    go_ret
    refine ⟨_, rfl, nbl V _, fun k => k = V.heap.size, ⟨none, 0, 0, [], Blk.new V _ _, ⟨rfl, fun h0 => absurd h0 (by omega)⟩, Nat.le_refl _, by omega, by simp, fun b hb => (nomatch hb), fun a ha => (nomatch ha), fun k => ⟨.inl, fun e => e.elim id (fun ⟨a, ha, _⟩ => nomatch ha)⟩⟩, fun k e => Nat.le_of_eq e.symm⟩
end Go.Proofs.YtgccichmdddbpaaGreatDoor
set_option linter.unusedVariables false
set_option linter.unusedSimpArgs false
set_option maxRecDepth 100000
namespace Go.Proofs.YtgccichmdddbpaaGreatDoor
open Go.RowKit

section
variable {w V : World} {T : List As} {g x : Nat} {s : Rst} {t : TypeId} {cs : Array Value}
theorem Has.acallE {α : Type} {A : As} {A' : α → As} {Q : α → Ending → Prop} (h : Has w (A :: T) V) {W : World} {f : FuncId} {args : Array Value}
    (hc : ∀ F, A.p V F → Calls Tryz.prog f args W fun e w' => ∃ a, Q a e ∧ ATurn (A' a) F V w') :
    Calls Tryz.prog f args W fun e w' => ∃ a, Q a e ∧ Has w (A' a :: T) w' := by
  obtain ⟨F, h1, _, h2⟩ := h.step
  refine (hc F h1).mono ?_
  rintro e w' ⟨a, hq, F', h3, h4, h5⟩
  exact ⟨a, hq, h2 w' (A' a) F' h4 h3 h5⟩
theorem Has.rdNew (h : Has w T V) (u : ByteArray) (ht : u.size ≤ 225000000000000) :
    Calls Tryz.prog 141 #[.string u] V fun e w' => ∃ g, e = .returned (pt g) ∧ Has w (rdA g (if u.size ≤ 2048 then some (sb u) else none) :: T) w' := by
  refine (newRd u V ht).mono ?_
  rintro e w' ⟨g, rfl, hb, F, h1, h2⟩
  exact ⟨g, rfl, h.new hb h1 h2⟩
theorem Has.rdStr (h : Has w (rdA g s :: T) V) :
    Calls Tryz.prog 143 #[pt g] V fun e w' => ∃ u : ByteArray, (e = .returned (.string u) ∧ ((ps s).2 ≠ none → u = (ps s).1)) ∧ Has w (rdA g (ps s).2 :: T) w' :=
  h.acallE (A' := fun _ => rdA g (ps s).2) fun F hP => (Go.Proofs.YtgccichmdddbpaaGreatDoor.rdStr g s V F hP).mono fun e w' ⟨u, h1, h2, h3⟩ => ⟨u, ⟨h1, h2⟩, h3⟩
theorem Has.rdFlag (h : Has w (rdA g s :: T) V) :
    Calls Tryz.prog 147 #[pt g] V fun e w' => ∃ d : Bool, (e = .returned (.bool d) ∧ ((pf s).2 ≠ none → d = (pf s).1)) ∧ Has w (rdA g (pf s).2 :: T) w' :=
  h.acallE (A' := fun _ => rdA g (pf s).2) fun F hP => (Go.Proofs.YtgccichmdddbpaaGreatDoor.rdFlag g s V F hP).mono fun e w' ⟨u, h1, h2, h3⟩ => ⟨u, ⟨h1, h2⟩, h3⟩
theorem Has.rdDone (h : Has w (rdA g s :: T) V) :
    Calls Tryz.prog 148 #[pt g] V fun e w' => e = .returned (.bool (decide (s = some []))) ∧ w' = V := by
  obtain ⟨F, h1, _⟩ := h.get
  exact Go.Proofs.YtgccichmdddbpaaGreatDoor.rdDone g s V F h1
theorem pat_lit (V : World) (x : Nat) (is : List Nat) (t : TypeId) : PAt (V.alloc (.cells (is.map fun i => Value.pointer (some ⟨x, i, none⟩)).toArray t)) (some ⟨V.heap.size, 0, none⟩) is.length x is := by
  refine ⟨rfl, fun _ => ⟨_, _, rfl, fun i hi => ?_⟩⟩
  simp [hi]
theorem Has.rdNums (h : Has w (rdA g s :: blkA x t cs :: T) V) (is : List Nat) {b : Nat} (hb : b = V.heap.size) {pcs : Array Value} {k : Nat} {pt' : TypeId} (hcs : pcs = (is.map fun i => Value.pointer (some ⟨x, i, none⟩)).toArray) (hk : k = is.length)
    (hn : is.length ≤ 1000) (hi : ∀ i ∈ is, ∃ u, cs[i]? = some (.int .i64 u)) :
    Calls Tryz.prog 142 #[pt g, .slice (some ⟨b, 0, none⟩) k k] (V.alloc (.cells pcs pt')) fun e w' => ∃ vs : List Nat, (e = .returned (.tuple #[]) ∧ vs.length = is.length ∧ (∀ v ∈ vs, v ≤ 9007199254740991) ∧ ((pns is.length s).2 ≠ none → vs = (pns is.length s).1)) ∧ Has w (rdA g (pns is.length s).2 :: blkA x t (sets cs (ivs is vs)) :: T) w' := by
  subst hb hcs hk
  have h2 := h.both.acallE (A' := fun vs : List Nat => bothA (rdA g (pns is.length s).2) (blkA x t (sets cs (ivs is vs)))) (Q := fun vs e => e = .returned (.tuple #[]) ∧ vs.length = is.length ∧ (∀ v ∈ vs, v ≤ 9007199254740991) ∧ ((pns is.length s).2 ≠ none → vs = (pns is.length s).1))
    (W := V.alloc (.cells (is.map fun i => Value.pointer (some ⟨x, i, none⟩)).toArray pt')) (f := 142) (args := #[pt g, .slice (some ⟨V.heap.size, 0, none⟩) is.length is.length]) fun F hP => by
    have hlt := (bothA (rdA g s) (blkA x t cs)).lt hP
    refine (Go.Proofs.YtgccichmdddbpaaGreatDoor.rdNums g x t cs s (some ⟨V.heap.size, 0, none⟩) is.length is.length is _ F ((bothA (rdA g s) (blkA x t cs)).on hP (nbl V _).size fun k e => (nbl V _).block k (hlt k e)) (pat_lit V x is pt')
      (fun a ha e => by cases ha; have := hlt _ e; simp at this) hn hi).mono ?_
    rintro e w' ⟨h1, vs, h3, h4, h5, h6⟩
    exact ⟨vs, ⟨h1, h3, h4, h5⟩, h6.pre (nbl V _) hlt⟩
  exact h2.mono fun e w' ⟨vs, hq, hh⟩ => ⟨vs, hq, hh.unboth⟩
theorem Has.rdStamps (h : Has w (rdA g s :: blkA x t cs :: T) V) (os : List Nat) {b : Nat} (hb : b = V.heap.size) {pcs : Array Value} {k : Nat} {pt' : TypeId} (hcs : pcs = (os.map fun i => Value.pointer (some ⟨x, i, none⟩)).toArray) (hk : k = os.length)
    (hn : os.length ≤ 1000) (hi : ∀ o ∈ os, (∃ u, cs[o]? = some (.int .i64 u)) ∧ ∃ u, cs[o + 1]? = some (.int .i64 u)) :
    Calls Tryz.prog 144 #[pt g, .slice (some ⟨b, 0, none⟩) k k] (V.alloc (.cells pcs pt')) fun e w' => ∃ vs : List Nat, (e = .returned (.tuple #[]) ∧ vs.length = 2 * os.length ∧ (∀ v ∈ vs, v ≤ 9007199254740991) ∧ ((pns (2 * os.length) s).2 ≠ none → vs = (pns (2 * os.length) s).1)) ∧ Has w (rdA g (pns (2 * os.length) s).2 :: blkA x t (sets cs (ivs (dbl os) vs)) :: T) w' := by
  subst hb hcs hk
  have h2 := h.both.acallE (A' := fun vs : List Nat => bothA (rdA g (pns (2 * os.length) s).2) (blkA x t (sets cs (ivs (dbl os) vs)))) (Q := fun vs e => e = .returned (.tuple #[]) ∧ vs.length = 2 * os.length ∧ (∀ v ∈ vs, v ≤ 9007199254740991) ∧ ((pns (2 * os.length) s).2 ≠ none → vs = (pns (2 * os.length) s).1))
    (W := V.alloc (.cells (os.map fun i => Value.pointer (some ⟨x, i, none⟩)).toArray pt')) (f := 144) (args := #[pt g, .slice (some ⟨V.heap.size, 0, none⟩) os.length os.length]) fun F hP => by
    have hlt := (bothA (rdA g s) (blkA x t cs)).lt hP
    refine (Go.Proofs.YtgccichmdddbpaaGreatDoor.rdStamps g x t cs s (some ⟨V.heap.size, 0, none⟩) os.length os.length os _ F ((bothA (rdA g s) (blkA x t cs)).on hP (nbl V _).size fun k e => (nbl V _).block k (hlt k e)) (pat_lit V x os pt')
      (fun a ha e => by cases ha; have := hlt _ e; simp at this) hn hi).mono ?_
    rintro e w' ⟨h1, vs, h3, h4, h5, h6⟩
    exact ⟨vs, ⟨h1, h3, h4, h5⟩, h6.pre (nbl V _) hlt⟩
  exact h2.mono fun e w' ⟨vs, hq, hh⟩ => ⟨vs, hq, hh.unboth⟩
theorem Has.rowTurn {E : TypeId} {sz : Nat} {v v' : Value} {n n' : Nat} {xs xs' : List Value} {V' : World} (h : Has w (rowA E sz v n xs :: T) V) (h1 : V'.ownsRow 0 E sz v' n' xs') (hg : V.grownBy V' v.ownBlock) (hob : v'.ownBlock = v.ownBlock ∨ v'.ownBlock = some V.heap.size) :
    Has w (rowA E sz v' n' xs' :: T) V' := by
  obtain ⟨F, a1, _, a2⟩ := h.step
  refine a2 V' _ (fun k => v'.ownBlock = some k) (Grow.by_ hg fun k e => (a1.2 k).2 e) ⟨h1, fun k => Iff.rfl⟩ fun k e => ?_
  have hlt : k < V'.heap.size := (rowA E sz v' n' xs').lt (V := V') (F := fun k => v'.ownBlock = some k) ⟨h1, fun k => Iff.rfl⟩ k e
  rcases hob with hob | hob
  · exact .inl ((a1.2 k).2 (hob ▸ e))
  · rw [hob] at e
    injection e with e
    exact .inr ⟨by omega, hlt⟩
theorem Has.rowOf {E : TypeId} {sz : Nat} {v : Value} {n : Nat} {xs : List Value} (h : Has w (rowA E sz v n xs :: T) V) : V.ownsRow 0 E sz v n xs := by
  obtain ⟨F, a1, _⟩ := h.get
  exact a1.1
theorem Has.rd (h : Has w (rdA g s :: T) V) : ∃ A n c, Blk V g 234 #[.slice A n c, .bool s.isNone] ∧ ∀ b, s = some b → b.length ≤ 2048 := by
  obtain ⟨F, ⟨A, n, c, l, d1, d2, d3, d4, d5, d6, d7, d8⟩, _⟩ := h.get
  exact ⟨A, n, c, d1, fun b hb => by rw [d6 b hb]; exact d5⟩
end

set_option maxHeartbeats 2000000 in
theorem many_c {α : Type} (f : Rst → α × Rst) (cl : FuncId) (caps : Array Value) (g : Nat) (X : Value → List α → List As) (w : World)
    (hent : ∀ args W, (callFunc cl args).run Tryz.prog W = .ok (.enter cl args) W)
    (hf : ∀ b r, (f (some b)).2 = some r → r.length < b.length)
    (hcl : ∀ (T : List As) (V : World) (s : Rst) (v : Value) (l : List α), l.length ≤ 2048 → Has w (rdA g s :: (X v l ++ T)) V →
      Calls Tryz.prog cl caps V fun e w' => e = .returned (.tuple #[]) ∧ ∃ (a : α) (v' : Value), ((f s).2 ≠ none → a = (f s).1) ∧ Has w (rdA g (f s).2 :: (X v' (l ++ [a]) ++ T)) w')
    (V : World) (s : Rst) (v : Value) (T : List As) (h : Has w (rdA g s :: (X v [] ++ T)) V) :
    Calls Tryz.prog 145 #[pt g, .func (.func cl) #[] caps] V fun e w' => e = .returned (.tuple #[]) ∧ ∃ (l : List α) (v' : Value), ((many f (pn s).1 (pn s).2).2 ≠ none → l = (many f (pn s).1 (pn s).2).1) ∧ Has w (rdA g (many f (pn s).1 (pn s).2).2 :: (X v' l ++ T)) w' := by
  have HCL := Lib.hid hcl
  have HENT := Lib.hid hent
  have HF := Lib.hid hf
  have h1 := (h.newBlk 3 #[.int .i64 0]).swap
  have HQ := Lib.hid (h1.rdNums [0] (b := V.heap.size + 1) (by simp) (pt' := 207) rfl rfl (by simp) (fun i hi => by simp at hi; subst hi; exact ⟨0, rfl⟩))
  clear hcl hent hf h h1
  go_enter Tryz.func145, Tryz.ntmps145
  go_wp2_with (go_at_call 142; refine HQ.out.mono ?_; rintro e w1 ⟨vs, ⟨rfl, hvl, hvb, hvs⟩, h2⟩)
  obtain ⟨vv, rfl⟩ : ∃ u, vs = [u] := by
    match vs, hvl with
    | [u], _ => exact ⟨u, rfl⟩
  have hvv : vv ≤ 9007199254740991 := hvb vv (by simp)
  have e1 : (pns [0].length s).2 = (pn s).2 := rfl
  have e2 : (pns [0].length s).1 = [(pn s).1] := rfl
  rw [e1, e2] at hvs
  rw [e1] at h2
  have hvs' : (pn s).2 ≠ none → vv = (pn s).1 := fun hne => by simpa using hvs hne
  have h3 : Has w (rdA g (pn s).2 :: blkA V.heap.size 3 #[.int .i64 (vv : Int)] :: (X v [] ++ T)) w1 := by
    have : sets #[Value.int .i64 0] (ivs [0] [vv]) = #[.int .i64 (vv : Int)] := by simp [sets, ivs]
    rw [this] at h2
    exact h2
  clear hvs h2 e1 e2 HQ hvl hvb
  obtain ⟨nn, hnn⟩ : ∃ n, (pn s).1 = n := ⟨_, rfl⟩
  obtain ⟨s1, hs1⟩ : ∃ q, (pn s).2 = q := ⟨_, rfl⟩
  rw [hnn, hs1] at hvs'
  rw [hs1] at h3
  have HNN := Lib.hid hnn
  have HS1 := Lib.hid hs1
  have hb0 : ∀ b, s1 = some b → b.length ≤ 2048 := h3.rd.choose_spec.choose_spec.choose_spec.2
  have H3 := Lib.hid h3
  have HV := Lib.hid hvs'
  have HB0 := Lib.hid hb0
  clear h3 hvs' hb0 hnn hs1
  go_loopw [5] (fun i wr => ∃ (j : Nat) (l : List α) (st : Rst) (v' : Value), i = .int .i64 j ∧ Hid (j ≤ nn ∨ st = none) ∧ Hid ((many f nn s1).2 = (many f (nn - j) st).2) ∧ Hid ((many f nn s1).2 ≠ none → (many f nn s1).1 = l ++ (many f (nn - j) st).1) ∧ Hid (∀ b, st = some b → l.length + b.length ≤ 2048) ∧ Hid (st ≠ none → vv = nn) ∧
    Hid (Has w (rdA g st :: blkA V.heap.size 3 #[.int .i64 (vv : Int)] :: (X v' l ++ T)) wr)) (fun i _ => vv - (intOf i).toNat)
  case atStart => exact ⟨0, [], s1, v, rfl, Lib.hid (.inl (Nat.zero_le _)), rfl, fun _ => rfl, fun b hb => by simpa using HB0.out b hb, HV, H3⟩
  case round =>
    obtain ⟨j, l, st, v', rfl, K1, K2, K3, K4, K5, HH⟩ := hrel
    obtain ⟨A1, n1, c1, d1, _⟩ := HH.out.rd
    have g1 := d1.cell 1
    have n0 := HH.out.swap.blk.1.cell 0
    simp at g1 n0
    have hend : st = none ∨ ¬ j < vv → (many f nn s1).2 = st ∧ ((many f nn s1).2 ≠ none → l = (many f nn s1).1) := by
      intro hx
      by_cases h0 : st = none
      · subst h0
        have := K2.out
        rw [many_none] at this
        exact ⟨this, fun h => absurd this h⟩
      · have hj : nn - j = 0 := by
          have := K5.out h0
          rcases hx with hx | hx
          · exact absurd hx h0
          · omega
        have k2 := K2.out
        have k3 := K3.out
        rw [hj] at k2 k3
        exact ⟨k2, fun h => by rw [k3 h]; simp [many]⟩
    by_cases hgo : j < vv
    · cases st with
      | none =>
        have HE := Lib.hid (hend (.inl rfl))
        clear hend K1 K2 K3 K4 K5 d1
        simp at g1
        go_wp2
        go_end0
        rw [HNN.out, HS1.out]
        refine ⟨rfl, l, v', HE.out.2, ?_⟩
        rw [HE.out.1]
        exact (HH.out.swap.tail)
      | some b =>
        have hvn := K5.out (by simp)
        have hjn : j < nn := by omega
        have hs : nn - j = (nn - (j + 1)) + 1 := by omega
        have k2 := K2.out
        have k3 := K3.out
        have k4 := K4.out b rfl
        rw [hs, many] at k2 k3
        simp only at k2 k3
        have HC := Lib.hid (HCL.out (blkA V.heap.size 3 #[.int .i64 (vv : Int)] :: T) wr (some b) v' l (by omega) (HH.out.perm (List.Perm.cons _ (by exact (List.perm_middle).symm))))
        have he := HENT.out caps wr
        have hfb := HF.out b
        generalize hfs : f (some b) = fs at *
        obtain ⟨a0, s0⟩ := fs
        simp only at k2 k3 hfb HC
        have HK2 := Lib.hid k2
        have HK3 := Lib.hid k3
        have HFB := Lib.hid hfb
        clear hend K1 K2 K3 K4 K5 d1 k2 k3 hfb hfs
        simp at g1
        go_wp2_with fail
        refine HC.out.mono ?_
        rintro e w2 ⟨rfl, a, v2, ha, hh⟩
        go_wp2
        go_roundw
        case rel =>
          refine ⟨j + 1, l ++ [a], s0, v2, by go_num, Lib.hid (.inl (by omega)), HK2, Lib.hid fun hne => ?_, Lib.hid fun b' hb' => ?_, Lib.hid fun _ => hvn, Lib.hid (hh.perm (List.Perm.cons _ (by exact List.perm_middle)))⟩
          · have hs0 : s0 ≠ none := by
              rintro rfl
              rw [HK2.out, many_none] at hne
              exact hne rfl
            rw [HK3.out hne, ha hs0]
            simp
          · have := HFB.out b' hb'
            rw [List.length_append]
            simp
            omega
        case measure => simp [intOf]; omega
    · have HE := Lib.hid (hend (.inr hgo))
      clear hend K1 K2 K3 K4 K5 d1
      go_wp2
      go_end0
      rw [HNN.out, HS1.out]
      refine ⟨rfl, l, v', HE.out.2, ?_⟩
      rw [HE.out.1]
      exact (HH.out.swap.tail)
end Go.Proofs.YtgccichmdddbpaaGreatDoor
set_option linter.unusedVariables false
set_option linter.unusedSimpArgs false
set_option maxRecDepth 100000
namespace Go.Proofs.YtgccichmdddbpaaGreatDoor
open Go.RowKit

section
variable {w V V' : World} {l T : List As} {A : As} {F : Nat → Prop} {g : Nat}
theorem Sep.memL (h : Sep V l F) (hm : A ∈ l) : ∃ F1, A.p V F1 ∧ ∀ k, F1 k → F k := by
  induction l generalizing F with
  | nil => cases hm
  | cons B l ih =>
    obtain ⟨F1, F2, h1, h2, h3, h4⟩ := h
    rcases List.mem_cons.1 hm with rfl | hm
    · exact ⟨F1, h1, fun k e => (h4 k).2 (.inl e)⟩
    · obtain ⟨F3, h5, h6⟩ := ih h2 hm
      exact ⟨F3, h5, fun k e => (h4 k).2 (.inr (h6 k e))⟩
theorem Has.blkIn {t : TypeId} {cs : Array Value} (h : Has w l V) (hm : blkA g t cs ∈ l) : Blk V g t cs := by
  obtain ⟨⟨F, h1, h2⟩, _⟩ := h
  obtain ⟨F1, h3, h4⟩ := h1.memL hm
  exact h3.1
end
theorem infoCh : (Tryz.prog.info? 24).map (fun i => (i.zero, i.size, i.bytes)) = some (some (.agg #[.int .i64 0, .string ⟨#[]⟩, .bool false]), 3, 32) := by kernel_rfl
theorem chc_len : ∀ l : List Ch, (l.flatMap chc).length = l.length * 3
  | [] => rfl
  | c :: l => by rw [List.flatMap_cons, List.length_append, chc_len l, List.length_cons]; show 3 + _ = _; omega
theorem lay_new (W : World) (cs : Array Value) (t : TypeId) : ∀ j u, cs.toList[j]? = some u → (W.alloc (.cells cs t)).cell? ((⟨W.heap.size, 0, none⟩ : Addr).add j) = some u := by
  intro j u hj
  rw [Go.WideShapes.add_plain, Nat.zero_add, (Blk.new W t cs).cell j]
  simpa using hj

/-- The intent that is read, its record; beside it: the reader's variable, the row of changes. -/
def xI (x rb g : Nat) (y : It) (v : Value) (l : List Ch) : List As := [blkA x 38 (itc y v), blkA rb 204 #[pt g], rowA 24 3 v l.length (l.flatMap chc)]

set_option maxHeartbeats 1000000 in
theorem closI (x rb g : Nat) (y : It) (w : World) (T : List As) (V : World) (s : Rst) (v : Value) (l : List Ch) (hl : l.length ≤ 2048) (h : Has w (rdA g s :: (xI x rb g y v l ++ T)) V) :
    Calls Tryz.prog 146 #[pt rb, pt x] V fun e w' => e = .returned (.tuple #[]) ∧ ∃ (a : Ch) (v' : Value), ((pC s).2 ≠ none → a = (pC s).1) ∧ Has w (rdA g (pC s).2 :: (xI x rb g y v' (l ++ [a]) ++ T)) w' := by
  obtain ⟨i0, hi0, hz0, hz1, hz2⟩ := info_parts infoCh
  have h1 : Has w (rdA g s :: blkA V.heap.size 24 #[.int .i64 0, .string ⟨#[]⟩, .bool false] :: blkA x 38 (itc y v) :: blkA rb 204 #[pt g] :: rowA 24 3 v l.length (l.flatMap chc) :: T) (V.alloc (.cells #[.int .i64 0, .string ⟨#[]⟩, .bool false] 24)) := (h.newBlk _ _).swap
  have r1 := (h1.blkIn (g := rb) (t := 204) (cs := #[pt g]) (by simp)).cell 0
  simp at r1
  have H1 := Lib.hid h1
  have HXr := Lib.hid (h1.perm (List.perm_middle (l₁ := [_, _, _, _]))).rowOf
  clear h h1
  go_enter Tryz.func146, Tryz.ntmps146
  go_wp2_with (first
    | (go_at_call 142; refine (H1.out.rdNums [0] (by simp) rfl rfl (by simp) (fun i hi => by simp at hi; subst hi; exact ⟨0, rfl⟩)).mono ?_; rintro e w1 ⟨vs, ⟨rfl, hvl, hvb, hvs⟩, h2⟩
       obtain ⟨q, rfl⟩ : ∃ u, vs = [u] := by
         match vs, hvl with
         | [u], _ => exact ⟨u, rfl⟩
       have e1 : sets #[.int .i64 0, .string ⟨#[]⟩, .bool false] (ivs [0] [q]) = #[.int .i64 (q : Int), .string ⟨#[]⟩, .bool false] := by simp [sets, ivs]
       rw [e1] at h2
       have r2 := (h2.blkIn (g := rb) (t := 204) (cs := #[pt g]) (by simp)).cell 0
       simp at r2
       have H2 := Lib.hid h2
       clear h2 e1 H1 r1)
    | (go_at_call 147; refine H2.out.rdFlag.mono ?_; rintro e w2 ⟨d, ⟨rfl, hd⟩, h3⟩
       have z2 := h3.swap.blk.1.cell 2
       have zf := h3.swap.blk.1.frozen 2
       simp at z2
       have h3 := (h3.swap.setBlk 2 (.bool d)).swap
       have r3 := (h3.blkIn (g := rb) (t := 204) (cs := #[pt g]) (by simp)).cell 0
       simp at r3
       have H3 := Lib.hid h3
       clear h3 H2 r2)
    | (go_at_call 143; refine H3.out.rdStr.mono ?_; rintro e w3 ⟨u, ⟨rfl, hu⟩, h4⟩
       have z1 := h4.swap.blk.1.cell 1
       have zg := h4.swap.blk.1.frozen 1
       simp at z1
       have h4 := (h4.swap.setBlk 1 (.string u)).swap
       have c0 := h4.swap.blk.1.cell 0
       have c1 := h4.swap.blk.1.cell 1
       have c2 := h4.swap.blk.1.cell 2
       have x0 := (h4.blkIn (g := x) (t := 38) (cs := itc y v) (by simp)).cell 8
       simp at c0 c1 c2 x0
       have H5 := Lib.hid (h4.alloc (.cells #[.int .i64 (q : Int), .string u, .bool d] 24))
       clear h4 H3 r3)
    | (at_builtin; refine wpList_append_own_at _ rfl _ _ 36 rfl 0 24 i0 _ 3 32 Tryz.underlying36 hi0 hz0 hz1 hz2 rfl (by decide) v l.length (l.flatMap chc) rfl ?ho ⟨w3.heap.size, 0, none⟩ 1 1 (chc (⟨(q : Int), u, d⟩ : Ch)) ?hx ?hl ?hn ?h1 ?h2 ?h3 (Nat.zero_le _) ?_))
  case ho => exact (H5.out.perm (List.perm_middle (l₁ := [_, _, _, _]))).rowOf
  case hx => first | rfl | (simp [World.setCell]; rfl)
  case hl => rfl
  case hn => have := lay_new (w3.setCell ⟨V.heap.size, 1, none⟩ (.string u)) #[.int .i64 (q : Int), .string u, .bool d] 24; simpa [World.setCell, chc] using this
  case h1 => intro u hu; simp [chc] at hu; rcases hu with rfl | rfl | rfl <;> rfl
  case h2 => unfold maxLen; omega
  case h3 => omega
  intro v' w5 hown hg _ hob
  obtain ⟨Av, nv, cv, hve⟩ := slice_form hown
  have h6 := (H5.out.perm (List.perm_middle (l₁ := [_, _, _, _]))).rowTurn hown hg (by simpa [World.setCell] using hob)
  have h7 := h6.perm (List.perm_middle (l₁ := [_, _, _]))
  subst hve
  have x8 := h7.blk.1.cell 8
  have xf := h7.blk.1.frozen 8
  simp at x8
  have H8 := Lib.hid (h7.setBlk 8 (.slice Av nv cv))
  clear hown hg hob h6 h7
  go_wp2
  go_end0
  refine ⟨rfl, (⟨(q : Int), u, d⟩ : Ch), .slice Av nv cv, fun hne => ?_, ?_⟩
  · have k3 : (ps (pf (pn s).2).2).2 ≠ none := hne
    have k2 : (pf (pn s).2).2 ≠ none := fun e => k3 (by rw [e]; rfl)
    have k1 : (pn s).2 ≠ none := fun e => k2 (by rw [e]; rfl)
    have j1 : [q] = [(pn s).1] := hvs k1
    have j2 := hd k2
    have j3 := hu k3
    unfold pC
    simp only at j1 j2 j3 ⊢
    rw [j2, j3]
    simp at j1
    rw [j1]
    rfl
  have h9 := H8.out
  have hlen : (l ++ [(⟨(q : Int), u, d⟩ : Ch)]).length = l.length + 1 := by simp
  have hfl : (l ++ [(⟨(q : Int), u, d⟩ : Ch)]).flatMap chc = l.flatMap chc ++ chc (⟨(q : Int), u, d⟩ : Ch) := by simp
  unfold xI
  rw [hlen, hfl]
  have h10 := ((h9.perm (List.perm_middle (l₁ := [_, _, _]))).tail).perm (List.perm_middle (l₁ := [_, _]))
  exact h10.perm (List.Perm.cons _ (List.Perm.cons _ (List.Perm.swap _ _ _)))

end Go.Proofs.YtgccichmdddbpaaGreatDoor
set_option linter.unusedVariables false
set_option linter.unusedSimpArgs false
set_option maxRecDepth 100000
namespace Go.Proofs.YtgccichmdddbpaaGreatDoor
open Go.RowKit

theorem isId_c (n : Int) (b : Bool) (h : isI n = b) (w : World) : Calls Tryz.prog 181 #[.int .i64 n] w fun e w' => e = .returned (.bool b) ∧ w = w' := by
  subst h
  go_enter Tryz.func181, Tryz.ntmps181
  go_wp2
  all_goals go_ret
  all_goals refine ⟨congrArg (fun v => Ending.returned (Value.bool v)) ?_, rfl⟩
  all_goals unfold isI
  all_goals first | exact (decide_eq_true (by omega)).symm | exact (decide_eq_false (by omega)).symm | exact decide_eq_decide.2 (by omega)
theorem isNumber_c (n : Int) (b : Bool) (h : isN n = b) (w : World) : Calls Tryz.prog 182 #[.int .i64 n] w fun e w' => e = .returned (.bool b) ∧ w = w' := by
  subst h
  go_enter Tryz.func182, Tryz.ntmps182
  go_wp2
  all_goals go_ret
  all_goals refine ⟨congrArg (fun v => Ending.returned (Value.bool v)) ?_, rfl⟩
  all_goals unfold isN
  all_goals first | exact (decide_eq_true (by omega)).symm | exact (decide_eq_false (by omega)).symm | exact decide_eq_decide.2 (by omega)
theorem isKey_c (s : ByteArray) (b : Bool) (h : isK s = b) (w : World) : Calls Tryz.prog 178 #[.string s] w fun e w' => e = .returned (.bool b) ∧ w = w' := by
  have hb : ((if 1 ≤ s.size ∧ s.size ≤ 32 then 0 else 2 : Int) == 0) = b := by
    subst h
    unfold isK
    by_cases h1 : 1 ≤ s.size ∧ s.size ≤ 32
    · rw [if_pos h1, decide_eq_true h1]; rfl
    · rw [if_neg h1, decide_eq_false h1]; rfl
  have HC := Lib.hid (check s)
  generalize (if 1 ≤ s.size ∧ s.size ≤ 32 then 0 else 2 : Int) = x at hb HC
  have HB := Lib.hid hb
  clear hb h
  go_enter Tryz.func178, Tryz.ntmps178
  go_wp2_with fail
  refine (HC.out _).mono ?_
  rintro e w1 ⟨rfl, rfl⟩
  go_wp2
  go_ret
  exact ⟨congrArg (fun b => Ending.returned (Value.bool b)) HB.out, rfl⟩
theorem empty_iff (s : ByteArray) : (s.toList == ([] : List UInt8)) = decide (s.size = 0) := by
  rw [Lib.toList_data, ← sb_len]
  show (sb s == []) = _
  generalize sb s = l
  cases l <;> rfl
theorem empty_is (s : ByteArray) : s.toList.isEmpty = decide (s.size = 0) := by
  rw [Lib.toList_data, ← sb_len]
  show (sb s).isEmpty = _
  generalize sb s = l
  cases l <;> rfl
theorem isValue_c (s : ByteArray) (d : Bool) (b : Bool) (h : isV s d = b) (w : World) : Calls Tryz.prog 187 #[.string s, .bool d] w fun e w' => e = .returned (.bool b) ∧ w = w' := by
  subst h
  have h1 := empty_iff s
  have h2 := empty_is s
  by_cases h0 : s.size = 0
  · rw [decide_eq_true h0] at h1 h2
    cases d
    all_goals go_enter Tryz.func187, Tryz.ntmps187
    all_goals go_wp2
    all_goals go_ret
    all_goals refine ⟨congrArg (fun v => Ending.returned (Value.bool v)) ?_, rfl⟩
    all_goals unfold isV
    all_goals simp [h0, h1, h2]
  · rw [decide_eq_false h0] at h1 h2
    cases d
    all_goals go_enter Tryz.func187, Tryz.ntmps187
    all_goals go_wp2
    all_goals go_ret
    all_goals refine ⟨congrArg (fun v => Ending.returned (Value.bool v)) ?_, rfl⟩
    all_goals unfold isV
    all_goals first | (simp [h0, h1, h2]; done) | (simp [h0, h1, h2]; omega)
theorem argUnless_c (b : Bool) (w : World) : Calls Tryz.prog 137 #[.bool b] w fun e w' => e = .returned (.int .i64 (if b then 0 else 2)) ∧ w = w' := by
  cases b
  all_goals go_enter Tryz.func137, Tryz.ntmps137
  all_goals go_wp2
  all_goals go_ret
  all_goals exact ⟨rfl, rfl⟩
theorem isOwner_c (id ep pr : Int) (an : ByteArray) (b : Bool) (h : hdr id ep pr an = b) (w : World) : Calls Tryz.prog 138 #[.int .i64 id, .int .i64 ep, .int .i64 pr, .string an] w fun e w' => e = .returned (.bool b) ∧ w = w' := by
  subst h
  cases h1 : isI id
  all_goals cases h2 : isN ep
  all_goals cases h4 : isK an
  all_goals go_enter Tryz.func138, Tryz.ntmps138
  all_goals go_wp2_with (first
    | (go_at_call 181; refine (isId_c _ _ h1 _).mono ?_; rintro e w1 ⟨rfl, rfl⟩)
    | (go_at_call 182; refine (isNumber_c _ _ h2 _).mono ?_; rintro e w1 ⟨rfl, rfl⟩)
    | (go_at_call 178; refine (isKey_c _ _ h4 _).mono ?_; rintro e w1 ⟨rfl, rfl⟩))
  all_goals go_ret
  all_goals refine ⟨congrArg (fun v => Ending.returned (Value.bool v)) ?_, rfl⟩
  all_goals unfold hdr
  all_goals rw [h1, h2, h4]
  all_goals first
    | (simp; done)
    | (rw [show isP pr = true from decide_eq_true (by omega)]; rfl)
    | (rw [show isP pr = false from decide_eq_false (by omega)]; rfl)
    | (unfold isP; simp; omega)

/-! ### one change, one write, one stamp -/
theorem stampOne (p : Int × Int) (b : Bool) (h : mayP p = b) (w : World) : Calls Tryz.prog 184 #[sv p.1 p.2] w fun e w' => e = .returned (.bool b) ∧ Below w.heap.size w w' := by
  have hb : (ck p.1 p.2 == 0) = b := by
    subst h
    unfold ck mayP
    cases may p.1 p.2 <;> rfl
  have HC := Lib.hid (check_ok p.1 p.2)
  generalize ck p.1 p.2 = x at hb HC
  have HB := Lib.hid hb
  obtain ⟨a, c⟩ := p
  clear hb h
  go_enter Tryz.func184, Tryz.ntmps184
  go_wp2_with fail
  refine (HC.out _).mono ?_
  rintro e w1 ⟨rfl, hb1⟩
  have hb2 := (nbl w (.cells #[.int .i64 a, .int .i64 c] 26)).trans (hb1.mono (by simp))
  go_wp2
  go_ret
  exact ⟨congrArg (fun b => Ending.returned (Value.bool b)) HB.out, hb2⟩
set_option maxHeartbeats 4000000 in
theorem changeOne (ga : Nat) (a : Int) (c : Ch) (b : Bool) (h : okCh a c = b) (w : World) (hg : Blk w ga 3 #[.int .i64 a]) :
    Calls Tryz.prog 186 #[chv c, pt ga] w fun e w' => e = .returned (.bool b) ∧ Blk w' ga 3 #[.int .i64 c.q] ∧ Grow (fun k => k = ga) w w' := by
  subst h
  obtain ⟨q, s, d⟩ := c
  have hne : ga ≠ w.heap.size := by have := hg.lt; omega
  have hX := Blk.new w 24 #[.int .i64 q, .string s, .bool d]
  have hG : Blk (w.alloc (.cells #[.int .i64 q, .string s, .bool d] 24)) ga 3 #[.int .i64 a] := hg.below (nbl w _) hg.lt
  have hR : Grow (fun k => k = ga) w ((w.alloc (.cells #[.int .i64 q, .string s, .bool d] 24)).setCell ⟨ga, 0, none⟩ (.int .i64 q)) := (Grow.of_below (F := fun k => k = ga) (nbl w _)).set (p := ⟨ga, 0, none⟩) (.inl rfl) _
  have hS := hG.set_ 0 (.int .i64 q)
  have hY : Blk ((w.alloc (.cells #[.int .i64 q, .string s, .bool d] 24)).setCell ⟨ga, 0, none⟩ (.int .i64 q)) w.heap.size 24 #[.int .i64 q, .string s, .bool d] := by
    unfold Blk at *
    simp only [World.setCell, Array.getElem?_modify]
    rw [if_neg hne]
    exact hX
  have g0 := hG.cell 0
  have gz := hG.frozen 0
  have x0 := hX.cell 0
  have y0 := hY.cell 0
  have y1 := hY.cell 1
  have y2 := hY.cell 2
  simp at g0 x0 y0 y1 y2
  have HS := Lib.hid hS
  have HR := Lib.hid hR
  clear hX hG hS hY hR hg
  cases h1 : isI q
  all_goals cases h2 : isV s (!d)
  all_goals by_cases hlt : a < q
  all_goals go_enter Tryz.func186, Tryz.ntmps186
  all_goals go_wp2_with (first
    | (go_at_call 181; refine (isId_c _ _ h1 _).mono ?_; rintro e w1 ⟨rfl, rfl⟩)
    | (go_at_call 187; refine (isValue_c _ _ _ h2 _).mono ?_; rintro e w1 ⟨rfl, rfl⟩))
  all_goals go_ret
  all_goals refine ⟨congrArg (fun v => Ending.returned (Value.bool v)) ?_, HS.out, HR.out⟩
  all_goals unfold okCh
  all_goals simp only [h1, h2]
  all_goals first | (rw [decide_eq_true hlt]; rfl) | (rw [decide_eq_false (by omega)]; rfl)
end Go.Proofs.YtgccichmdddbpaaGreatDoor
set_option linter.unusedVariables false
set_option maxRecDepth 100000
namespace Go.Proofs.YtgccichmdddbpaaGreatDoor
open Go.RowKit


set_option maxHeartbeats 4000000 in
theorem idxS {S : Type} (ok : S → Int × Int → Bool) (nx : S → Int × Int → S) (gf : Nat) (J : S → World → Prop) (A : Option Addr) (n c : Nat) (l : List (Int × Int)) (hn : n ≤ 9223372036854775807)
    (hat : ∀ s W, J s W → Stamps W A n l)
    (step : ∀ s (c : Int × Int) W, J s W → Calls Tryz.prog 205 #[(sv c.1 c.2), pt gf] W fun e w' => e = .returned (.bool (!(ok s c))) ∧ J (nx s c) w')
    (s : S) (w : World) (hJ : J s w) :
    Calls Tryz.prog 180 #[.slice A n c, .func (.func 205) #[] #[pt gf]] w fun e w' => ∃ k : Int, e = .returned (.int .i64 k) ∧ decide (0 ≤ k) = !(scan ok nx s l) ∧ ∃ s', J s' w' := by
  have ST := Lib.hid step
  have HF := Lib.hid hat
  clear step hat
  go_enter Tryz.func180, Tryz.ntmps180
  go_wp2
  go_loopw [8] (fun i wr => ∃ (k : Nat) (s' : S), k ≤ n ∧ i = .int .i64 k ∧ Hid (scan ok nx s' (l.drop k) = scan ok nx s l) ∧ J s' wr) (fun i _ => n - (intOf i).toNat)
  case atStart => exact ⟨0, s, Nat.zero_le _, rfl, rfl, hJ⟩
  case round =>
    obtain ⟨k, s', hk, rfl, hrun, hRep⟩ := hrel
    have hfa := HF.out s' wr hRep
    have hlen := hfa.1
    by_cases hlt : k < n
    · have hkl : k < l.length := by omega
      obtain ⟨b, o, rfl, hc⟩ := hfa.2 (by omega)
      obtain ⟨h1, h2⟩ := hc k hkl
      have hs := ST.out s' (l[k]'hkl) wr hRep
      have hd : l.drop k = (l[k]'hkl) :: l.drop (k + 1) := List.drop_eq_getElem_cons hkl
      have hrun' := hrun.out
      rw [hd] at hrun'
      generalize (l[k]'hkl) = x at *
      clear hc hfa HF ST hd hrun
      cases hok : ok s' x with
      | true =>
        have HR := Lib.hid (show scan ok nx (nx s' x) (l.drop (k + 1)) = scan ok nx s l by rw [← hrun', scan, hok, Bool.true_and])
        rw [hok] at hs
        clear hrun' hok
        go_wp2_with fail
        refine hs.mono ?_
        rintro e w2 ⟨rfl, h2⟩
        go_wp2
        go_roundw
        case rel => exact ⟨k + 1, _, by omega, by go_num, HR, h2⟩
        case measure => simp [intOf]; omega
      | false =>
        have HR := Lib.hid (show scan ok nx s l = false by rw [← hrun', scan, hok, Bool.false_and])
        rw [hok] at hs
        clear hrun' hok
        go_wp2_with fail
        refine hs.mono ?_
        rintro e w2 ⟨rfl, h2⟩
        go_wp2
        go_ret
        exact ⟨k, rfl, by rw [HR.out]; exact decide_eq_true (by omega), _, h2⟩
    · have HR := Lib.hid (show scan ok nx s l = true by rw [← hrun.out, List.drop_of_length_le (by omega), scan])
      clear hrun HF ST hfa
      go_wp2
      go_ret
      exact ⟨-1, rfl, by rw [HR.out]; rfl, _, hRep⟩
theorem conS {S : Type} (ok : S → Int × Int → Bool) (nx : S → Int × Int → S) (gf : Nat) (J : S → World → Prop) (A : Option Addr) (n c : Nat) (l : List (Int × Int)) (hn : n ≤ 9223372036854775807)
    (hat : ∀ s W, J s W → Stamps W A n l)
    (step : ∀ s (c : Int × Int) W, J s W → Calls Tryz.prog 205 #[(sv c.1 c.2), pt gf] W fun e w' => e = .returned (.bool (!(ok s c))) ∧ J (nx s c) w')
    (s : S) (w : World) (hJ : J s w) :
    Calls Tryz.prog 135 #[.slice A n c, .func (.func 205) #[] #[pt gf]] w fun e w' => e = .returned (.bool (!(scan ok nx s l))) ∧ ∃ s', J s' w' := by
  have HI := Lib.hid (idxS ok nx gf J A n c l hn hat step s w hJ)
  clear step hat hJ
  go_enter Tryz.func135, Tryz.ntmps135
  go_wp2_with fail
  refine HI.out.mono ?_
  rintro e w1 ⟨k, rfl, hk, h1⟩
  have HK := Lib.hid hk
  clear hk
  go_wp2
  go_ret
  exact ⟨congrArg (fun b => Ending.returned (Value.bool b)) HK.out, h1⟩

set_option maxHeartbeats 4000000 in
theorem idxC {S : Type} (ok : S → Ch → Bool) (nx : S → Ch → S) (gf : Nat) (J : S → World → Prop) (A : Option Addr) (n c : Nat) (l : List (Ch)) (hn : n ≤ 9223372036854775807)
    (hat : ∀ s W, J s W → ChAt W A n l)
    (step : ∀ s (c : Ch) W, J s W → Calls Tryz.prog 207 #[(chv c), pt gf] W fun e w' => e = .returned (.bool (!(ok s c))) ∧ J (nx s c) w')
    (s : S) (w : World) (hJ : J s w) :
    Calls Tryz.prog 94 #[.slice A n c, .func (.func 207) #[] #[pt gf]] w fun e w' => ∃ k : Int, e = .returned (.int .i64 k) ∧ decide (0 ≤ k) = !(scan ok nx s l) ∧ ∃ s', J s' w' := by
  have ST := Lib.hid step
  have HF := Lib.hid hat
  clear step hat
  go_enter Tryz.func94, Tryz.ntmps94
  go_wp2
  go_loopw [8] (fun i wr => ∃ (k : Nat) (s' : S), k ≤ n ∧ i = .int .i64 k ∧ Hid (scan ok nx s' (l.drop k) = scan ok nx s l) ∧ J s' wr) (fun i _ => n - (intOf i).toNat)
  case atStart => exact ⟨0, s, Nat.zero_le _, rfl, rfl, hJ⟩
  case round =>
    obtain ⟨k, s', hk, rfl, hrun, hRep⟩ := hrel
    have hfa := HF.out s' wr hRep
    have hlen := hfa.1
    by_cases hlt : k < n
    · have hkl : k < l.length := by omega
      obtain ⟨b, o, rfl, hc⟩ := hfa.2 (by omega)
      obtain ⟨h1, h2, h3⟩ := hc k hkl
      have hs := ST.out s' (l[k]'hkl) wr hRep
      have hd : l.drop k = (l[k]'hkl) :: l.drop (k + 1) := List.drop_eq_getElem_cons hkl
      have hrun' := hrun.out
      rw [hd] at hrun'
      generalize (l[k]'hkl) = x at *
      clear hc hfa HF ST hd hrun
      cases hok : ok s' x with
      | true =>
        have HR := Lib.hid (show scan ok nx (nx s' x) (l.drop (k + 1)) = scan ok nx s l by rw [← hrun', scan, hok, Bool.true_and])
        rw [hok] at hs
        clear hrun' hok
        go_wp2_with fail
        refine hs.mono ?_
        rintro e w2 ⟨rfl, h2⟩
        go_wp2
        go_roundw
        case rel => exact ⟨k + 1, _, by omega, by go_num, HR, h2⟩
        case measure => simp [intOf]; omega
      | false =>
        have HR := Lib.hid (show scan ok nx s l = false by rw [← hrun', scan, hok, Bool.false_and])
        rw [hok] at hs
        clear hrun' hok
        go_wp2_with fail
        refine hs.mono ?_
        rintro e w2 ⟨rfl, h2⟩
        go_wp2
        go_ret
        exact ⟨k, rfl, by rw [HR.out]; exact decide_eq_true (by omega), _, h2⟩
    · have HR := Lib.hid (show scan ok nx s l = true by rw [← hrun.out, List.drop_of_length_le (by omega), scan])
      clear hrun HF ST hfa
      go_wp2
      go_ret
      exact ⟨-1, rfl, by rw [HR.out]; rfl, _, hRep⟩
theorem conC {S : Type} (ok : S → Ch → Bool) (nx : S → Ch → S) (gf : Nat) (J : S → World → Prop) (A : Option Addr) (n c : Nat) (l : List (Ch)) (hn : n ≤ 9223372036854775807)
    (hat : ∀ s W, J s W → ChAt W A n l)
    (step : ∀ s (c : Ch) W, J s W → Calls Tryz.prog 207 #[(chv c), pt gf] W fun e w' => e = .returned (.bool (!(ok s c))) ∧ J (nx s c) w')
    (s : S) (w : World) (hJ : J s w) :
    Calls Tryz.prog 206 #[.slice A n c, .func (.func 207) #[] #[pt gf]] w fun e w' => e = .returned (.bool (!(scan ok nx s l))) ∧ ∃ s', J s' w' := by
  have HI := Lib.hid (idxC ok nx gf J A n c l hn hat step s w hJ)
  clear step hat hJ
  go_enter Tryz.func206, Tryz.ntmps206
  go_wp2_with fail
  refine HI.out.mono ?_
  rintro e w1 ⟨k, rfl, hk, h1⟩
  have HK := Lib.hid hk
  clear hk
  go_wp2
  go_ret
  exact ⟨congrArg (fun b => Ending.returned (Value.bool b)) HK.out, h1⟩


theorem eachOneC (ga gf : Nat) (a : Int) (c : Ch) (W : World) (hg : Blk W ga 3 #[.int .i64 a]) (hf : Blk W gf 113 #[.func (.func 186) #[] #[pt ga]]) :
    Calls Tryz.prog 207 #[(chv c), pt gf] W fun e w' => e = .returned (.bool (!(okCh a c))) ∧ Blk w' ga 3 #[.int .i64 ((fun _ c => c.q) a c)] ∧ Grow (fun k => k = ga) W w' := by
  have h1 : Blk (W.alloc (.cells #[.int .i64 c.q, .string c.s, .bool c.d] 24)) ga 3 #[.int .i64 a] := hg.below (nbl W _) hg.lt
  have h2 : Blk (W.alloc (.cells #[.int .i64 c.q, .string c.s, .bool c.d] 24)) gf 113 #[.func (.func 186) #[] #[pt ga]] := hf.below (nbl W _) hf.lt
  have h3 := Blk.new W 24 #[.int .i64 c.q, .string c.s, .bool c.d]
  have HO := Lib.hid (changeOne ga a c _ rfl _ h1)
  have c2 := h2.cell 0
  have c3 := h3.cell 0
  simp at c2 c3
  have HG := Lib.hid (Grow.of_below (F := fun k => k = ga) (nbl W (.cells #[.int .i64 c.q, .string c.s, .bool c.d] 24)))
  clear h1 h2 h3 hg hf
  go_enter Tryz.func207, Tryz.ntmps207
  go_wp2_with fail
  refine HO.out.mono ?_
  rintro e w1 ⟨rfl, q1, q2⟩
  have q3 := HG.out.trans (q2.mono fun k hk => .inl hk)
  go_wp2
  go_ret
  exact ⟨rfl, q1, q3⟩
theorem eachC (ga : Nat) (a : Int) (A : Option Addr) (n c : Nat) (l : List Ch) (w : World) (hn : n ≤ 9223372036854775807) (hx : ∀ W, Below ga w W → ChAt W A n l) (hg : Blk w ga 3 #[.int .i64 a]) :
    Calls Tryz.prog 185 #[.slice A n c, .func (.func 186) #[] #[pt ga]] w fun e w' => e = .returned (.bool (rise a l)) ∧ Below ga w w' := by
  have hlt := hg.lt
  have HC := Lib.hid (conC okCh (fun _ c => c.q) w.heap.size (fun s W => Below ga w W ∧ Blk W ga 3 #[.int .i64 s] ∧ Blk W w.heap.size 113 #[.func (.func 186) #[] #[pt ga]]) A n c l hn
    (fun s W h => hx W h.1)
    (fun s x W h => (eachOneC ga w.heap.size s x W h.2.1 h.2.2).mono fun e w' ⟨h1, h2, h3⟩ => ⟨h1,
      ⟨h3.os.trans h.1.os, h3.tape.trans h.1.tape, h3.output.trans h.1.output, Nat.le_trans h.1.size h3.size, fun k hk => (h3.block k (by have := h.1.size; omega) (by omega)).trans (h.1.block k hk)⟩, h2,
      (h3.block _ h.2.2.lt (by omega)).trans h.2.2⟩)
    a (w.alloc (.cells #[.func (.func 186) #[] #[pt ga]] 113)) ⟨(Below.refl ga w).alloc (by omega) _, hg.below (nbl w _) hlt, Blk.new w _ _⟩)
  go_enter Tryz.func185, Tryz.ntmps185
  go_wp2_with fail
  refine HC.out.mono ?_
  rintro e w1 ⟨rfl, s', h1, _, _⟩
  go_wp2
  go_ret
  exact ⟨by rw [← scan_rise]; simp, h1⟩


theorem eachOneS (gf : Nat) (c : Int × Int) (W : World) (hf : Blk W gf 200 #[.func (.func 184) #[] #[]]) :
    Calls Tryz.prog 205 #[sv c.1 c.2, pt gf] W fun e w' => e = .returned (.bool (!(mayP c))) ∧ Below W.heap.size W w' := by
  obtain ⟨x, y⟩ := c
  have h2 : Blk (W.alloc (.cells #[.int .i64 x, .int .i64 y] 26)) gf 200 #[.func (.func 184) #[] #[]] := hf.below (nbl W _) hf.lt
  have h3 := Blk.new W 26 #[.int .i64 x, .int .i64 y]
  have HO := Lib.hid (stampOne (x, y) _ rfl (W.alloc (.cells #[.int .i64 x, .int .i64 y] 26)))
  have c2 := h2.cell 0
  have c3 := h3.cell 0
  simp at c2 c3
  clear h2 h3 hf
  go_enter Tryz.func205, Tryz.ntmps205
  go_wp2_with fail
  refine HO.out.mono ?_
  rintro e w1 ⟨rfl, q1⟩
  have q3 := (nbl W (.cells #[.int .i64 x, .int .i64 y] 26)).trans (q1.mono (by simp))
  go_wp2
  go_ret
  exact ⟨rfl, q3⟩
theorem areStamps_c (A : Option Addr) (n c : Nat) (l : List (Int × Int)) (b : Bool) (hb : l.all mayP = b) (w : World) (hn : n ≤ 9223372036854775807) (hx : Stamps w A n l) :
    Calls Tryz.prog 139 #[.slice A n c] w fun e w' => e = .returned (.bool b) ∧ Below w.heap.size w w' := by
  subst hb
  have HC := Lib.hid (conS (fun (_ : Unit) p => mayP p) (fun u _ => u) w.heap.size (fun _ W => Below w.heap.size w W ∧ Blk W w.heap.size 200 #[.func (.func 184) #[] #[]]) A n c l hn
    (fun s W h => hx.below' h.1)
    (fun s x W h => (eachOneS w.heap.size x W h.2).mono fun e w' ⟨h1, h3⟩ => ⟨h1, h.1.trans (h3.mono h.1.size), (h3.block _ h.2.lt).trans h.2⟩)
    () (w.alloc (.cells #[.func (.func 184) #[] #[]] 200)) ⟨nbl w _, Blk.new w _ _⟩)
  have HE : Calls Tryz.prog 183 #[.slice A n c, .func (.func 184) #[] #[]] w fun e w' => e = .returned (.bool (l.all mayP)) ∧ Below w.heap.size w w' := by
    go_enter Tryz.func183, Tryz.ntmps183
    go_wp2_with fail
    refine HC.out.mono ?_
    rintro e w1 ⟨rfl, s', h1, _⟩
    go_wp2
    go_ret
    exact ⟨by rw [← scan_all]; simp, h1⟩
  clear HC
  have HE' := Lib.hid HE
  clear HE
  go_enter Tryz.func139, Tryz.ntmps139
  go_wp2_with fail
  refine HE'.out.mono ?_
  rintro e w1 ⟨rfl, h1⟩
  go_wp2
  go_ret
  exact ⟨rfl, h1⟩
theorem areChanges_c (A : Option Addr) (n c : Nat) (l : List Ch) (b : Bool) (hb : (decide (1 ≤ l.length ∧ l.length ≤ 16) && rise 0 l) = b) (w : World) (hn : n ≤ 9223372036854775807) (hx : ChAt w A n l) :
    Calls Tryz.prog 140 #[.slice A n c] w fun e w' => e = .returned (.bool b) ∧ Below w.heap.size w w' := by
  have hl := hx.1
  by_cases h1 : 1 ≤ n ∧ n ≤ 16
  · rw [hl, decide_eq_true h1, Bool.true_and] at hb
    subst hb
    obtain ⟨h2, h3⟩ := h1
    have HC := Lib.hid (eachC w.heap.size 0 A n c l (w.alloc (.cells #[.int .i64 0] 3)) hn (fun W hb => hx.below ((nbl w _).trans hb)) (Blk.new w _ _))
    go_enter Tryz.func140, Tryz.ntmps140
    go_wp2_with fail
    refine HC.out.mono ?_
    rintro e w1 ⟨rfl, q1⟩
    have q2 := (nbl w (.cells #[.int .i64 0] 3)).trans q1
    go_wp2
    go_ret
    exact ⟨rfl, q2⟩
  · rw [hl, decide_eq_false h1, Bool.false_and] at hb
    subst hb
    by_cases h2 : n < 1
    · go_enter Tryz.func140, Tryz.ntmps140
      go_wp2
      go_ret
      exact ⟨rfl, Below.refl _ _⟩
    · have h3 : 16 < n := by omega
      go_enter Tryz.func140, Tryz.ntmps140
      go_wp2
      go_ret
      exact ⟨rfl, Below.refl _ _⟩
end Go.Proofs.YtgccichmdddbpaaGreatDoor
set_option linter.unusedVariables false
set_option linter.unusedSimpArgs false
set_option maxRecDepth 100000
namespace Go.Proofs.YtgccichmdddbpaaGreatDoor
open Go.RowKit

theorem mayI_eq (x : It) : mayI x = (hdr x.id x.ep x.pr x.an && ([(x.sw, x.sl), (x.bw, x.bl)].all mayP && (decide (1 ≤ x.l.length ∧ x.l.length ≤ 16) && rise 0 x.l))) := by
  unfold mayI mayP
  simp [Bool.and_assoc]
set_option maxHeartbeats 2000000 in
theorem checkI (x : It) (A : Option Addr) (n c : Nat) (w : World) (hx : ChAt w A n x.l) (hn : n ≤ 9223372036854775807) :
    Calls Tryz.prog 91 #[itv x (.slice A n c)] w fun e w' => e = .returned (.int .i64 (if mayI x then 0 else 2)) ∧ Below w.heap.size w w' := by
  rw [mayI_eq]
  cases h1 : hdr x.id x.ep x.pr x.an
  · obtain ⟨id, ep, pr, an, sw, sl, bw, bl, l⟩ := x
    simp only at h1 hx
    have hb := nbl w (.cells (itc ⟨id, ep, pr, an, sw, sl, bw, bl, l⟩ (.slice A n c)) 38)
    have HB := Lib.hid hb
    clear hb hx
    go_enter Tryz.func91, Tryz.ntmps91
    go_wp2_with (first
      | (go_at_call 138; refine (isOwner_c _ _ _ _ _ h1 _).mono ?_; rintro e w1 ⟨rfl, rfl⟩)
      | (go_at_call 137; refine (argUnless_c _ _).mono ?_; rintro e w1 ⟨rfl, rfl⟩))
    go_ret
    exact ⟨rfl, HB.out⟩
  · cases h2 : [(x.sw, x.sl), (x.bw, x.bl)].all mayP
    · obtain ⟨id, ep, pr, an, sw, sl, bw, bl, l⟩ := x
      simp only at h1 h2 hx
      have hb := (nbl w (.cells (itc ⟨id, ep, pr, an, sw, sl, bw, bl, l⟩ (.slice A n c)) 38)).alloc (by simp) (.cells #[.int .i64 sw, .int .i64 sl, .int .i64 bw, .int .i64 bl] 26)
      have hS := areStamps_c (some ⟨w.heap.size + 1, 0, none⟩) 2 2 _ _ h2 _ (by omega) (by have := stamps_lit (w.alloc (.cells (itc ⟨id, ep, pr, an, sw, sl, bw, bl, l⟩ (.slice A n c)) 38)) [(sw, sl), (bw, bl)] _ 26 rfl; simpa using this)
      have HB := Lib.hid hb
      have HS := Lib.hid hS
      clear hb hx hS
      go_enter Tryz.func91, Tryz.ntmps91
      go_wp2_with (first
        | (go_at_call 138; refine (isOwner_c _ _ _ _ _ h1 _).mono ?_; rintro e w1 ⟨rfl, rfl⟩)
        | (go_at_call 139; refine HS.out.mono ?_; rintro e w2 ⟨rfl, hb2⟩)
        | (go_at_call 137; refine (argUnless_c _ _).mono ?_; rintro e w1 ⟨rfl, rfl⟩))
      go_ret
      exact ⟨rfl, HB.out.trans (hb2.mono (by simp; omega))⟩
    · obtain ⟨b3, h3⟩ : ∃ b, (decide (1 ≤ x.l.length ∧ x.l.length ≤ 16) && rise 0 x.l) = b := ⟨_, rfl⟩
      rw [h3]
      obtain ⟨id, ep, pr, an, sw, sl, bw, bl, l⟩ := x
      simp only at h1 h2 h3 hx
      have hb := (nbl w (.cells (itc ⟨id, ep, pr, an, sw, sl, bw, bl, l⟩ (.slice A n c)) 38)).alloc (by simp) (.cells #[.int .i64 sw, .int .i64 sl, .int .i64 bw, .int .i64 bl] 26)
      have hS := areStamps_c (some ⟨w.heap.size + 1, 0, none⟩) 2 2 _ _ h2 _ (by omega) (by have := stamps_lit (w.alloc (.cells (itc ⟨id, ep, pr, an, sw, sl, bw, bl, l⟩ (.slice A n c)) 38)) [(sw, sl), (bw, bl)] _ 26 rfl; simpa using this)
      have hBx : Blk ((w.alloc (.cells (itc ⟨id, ep, pr, an, sw, sl, bw, bl, l⟩ (.slice A n c)) 38)).alloc (.cells #[.int .i64 sw, .int .i64 sl, .int .i64 bw, .int .i64 bl] 26)) w.heap.size 38 (itc ⟨id, ep, pr, an, sw, sl, bw, bl, l⟩ (.slice A n c)) := (Blk.new w _ _).below (nbl _ _) (by simp)
      have HB := Lib.hid hb
      have HS := Lib.hid hS
      have HBx := Lib.hid hBx
      have HX := Lib.hid hx
      clear hb hx hS hBx
      go_enter Tryz.func91, Tryz.ntmps91
      go_wp2_with (first
        | (go_at_call 138; refine (isOwner_c _ _ _ _ _ h1 _).mono ?_; rintro e w1 ⟨rfl, rfl⟩)
        | (go_at_call 139; refine HS.out.mono ?_; rintro e w2 ⟨rfl, hb2⟩
           have hb3 := HB.out.trans (hb2.mono (by simp; omega))
           have k8 := (HBx.out.below hb2 (by simp; omega)).cell 8
           simp at k8)
        | (go_at_call 140; refine (areChanges_c A n c l b3 h3 w2 hn (HX.out.below hb3)).mono ?_; rintro e w3 ⟨rfl, hb4⟩; have hb5 := hb3.trans (hb4.mono hb3.size))
        | (go_at_call 137; refine (argUnless_c _ _).mono ?_; rintro e w1 ⟨rfl, rfl⟩))
      all_goals go_ret
      all_goals exact ⟨by first | rfl | (simp_all; done) | (cases b3 <;> simp_all), hb5⟩

/-! ### plain texts -/
def ansT (ok : Bool) (l : List UInt8) : Ending := .returned (.tuple #[.string (if ok then ⟨l.toArray⟩ else ⟨#[]⟩), .int .i64 (if ok then 0 else 2)])
theorem ansT_t (l : List UInt8) : ansT true l = .returned (.tuple #[.string ⟨l.toArray⟩, .int .i64 0]) := rfl
end Go.Proofs.YtgccichmdddbpaaGreatDoor
