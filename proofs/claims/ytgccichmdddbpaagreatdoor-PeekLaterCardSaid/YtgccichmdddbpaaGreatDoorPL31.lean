/-
  Layer 12, the statements: the document's ReadVersion, of any text.
  Layer 12, the document's Versions: versions in memory; those of a key.
  Layer 12, the code: a key's intent; what is read in an own one.
-/
import Derived.Test.YtgccichmdddbpaaGreatDoorPL30
import Derived.Test.YtgccichmdddbpaaGreatDoorPL23
import Derived.Test.YtgccichmdddbpaaGreatDoorPL20
import Derived.Test.YtgccichmdddbpaaGreatDoorPL27
import Derived.Test.YtgccichmdddbpaaGreatDoorPL22
import Derived.Test.YtgccichmdddbpaaGreatDoorPL29
import Derived.Test.YtgccichmdddbpaaGreatDoorPL16
import Derived.Maps.AppendAt
import Derived.Laws.OwnMore
set_option linter.unusedVariables false
set_option linter.unusedSimpArgs false
set_option maxRecDepth 100000
namespace Go.Proofs.YtgccichmdddbpaaGreatDoor
open Go.RowKit

/-- What a table's key says, if it is a version's, by the document. -/
def rdVD (k : List UInt8) : Option (List UInt8 × Int × Int) :=
  if k.head? = some 118 then (match tkey 1000 (k.drop 1) with
    | .error _ => none
    | .ok (s, r) => match tdown r with
      | .ok (a, b, []) => some (s, a, b)
      | _ => none) else none
theorem tdown_err {l : List UInt8} {x : Nat} (h : tdown l = .error x) : ((x : Int) != 0) = true := by
  unfold tdown at h
  split at h
  · cases h; rfl
  · split at h
    · cases h
    · cases h; rfl
theorem refTD (t : ByteArray) (w : World) (hs : t.size ≤ 150000000000000) :
    Calls Tryz.prog 113 #[.string t] w fun e w' => e = TdAns (tdown (ob t)) ∧ Below w.heap.size w w' := by
  by_cases h : t.size < 9
  · have e : tdown (ob t) = .error 3 := by unfold tdown; rw [if_pos (by rw [ob_len]; exact h)]
    rw [e]
    exact refTakeDown_short t w h
  · exact refTakeDown_long t w (by omega) hs
set_option maxHeartbeats 1000000 in
theorem rReadV_empty (k : ByteArray) (w : World) (hk : k.size = 0) :
    Calls Tryz.prog 65 #[.string k] w fun e w' => e = .returned (.tuple #[.string ⟨#[]⟩, sv 0 0, .int .i64 4]) ∧ Below w.heap.size w w' := by
  have u0 := Blk.new w 26 #[.int .i64 0, .int .i64 0]
  have c0 := u0.cell 0
  have c1 := u0.cell 1
  have f0 := u0.frozen 0
  have f1 := u0.frozen 1
  have g := nbl w (.cells #[.int .i64 0, .int .i64 0] 26)
  simp at c0 c1
  go_enter Tryz.func65, Tryz.ntmps65
  go_wp2_with fail
  exact ret_tct rfl rfl u0 rfl ⟨rfl, g⟩
set_option maxHeartbeats 1000000 in
theorem rReadV_head (k : ByteArray) (w : World) (h0 : 0 < k.size) (c : UInt8) (hc : k[0]'h0 = c) (hne : ((c.toNat : Int) != 118) = true) :
    Calls Tryz.prog 65 #[.string k] w fun e w' => e = .returned (.tuple #[.string ⟨#[]⟩, sv 0 0, .int .i64 4]) ∧ Below w.heap.size w w' := by
  have u0 := Blk.new w 26 #[.int .i64 0, .int .i64 0]
  have c0 := u0.cell 0
  have c1 := u0.cell 1
  have f0 := u0.frozen 0
  have f1 := u0.frozen 1
  have g := nbl w (.cells #[.int .i64 0, .int .i64 0] 26)
  simp at c0 c1
  go_enter Tryz.func65, Tryz.ntmps65
  go_wp2_with fail
  exact ret_tct rfl rfl u0 rfl ⟨rfl, g⟩
set_option maxHeartbeats 2000000 in
theorem rReadV_err (k : ByteArray) (w : World) (h0 : 0 < k.size) (hc : k[0]'h0 = 118) (n : Int) (hn : (n != 0) = true)
    (hT : ∀ V, Calls Tryz.prog 112 #[.string (k.extract 1 k.size)] V fun e w' => e = .returned (.tuple #[.string ⟨#[]⟩, .string ⟨#[]⟩, .int .i64 n]) ∧ Below V.heap.size V w') :
    Calls Tryz.prog 65 #[.string k] w fun e w' => e = .returned (.tuple #[.string ⟨#[]⟩, sv 0 0, .int .i64 4]) ∧ Below w.heap.size w w' := by
  have HT := Lib.hid hT
  have H0 := Lib.hid ((Has.nil (Below.refl w.heap.size w)).newBlk 26 #[.int .i64 0, .int .i64 0])
  clear hT
  go_enter Tryz.func65, Tryz.ntmps65
  go_wp2_with fail
  refine (HT.out _).mono ?_
  rintro e w1 ⟨rfl, hb1⟩
  have H1 := Lib.hid (H0.out.keep hb1)
  clear H0 hb1
  have u0 := H1.out.blk.1
  have c0 := u0.cell 0
  have c1 := u0.cell 1
  have f0 := u0.frozen 0
  have f1 := u0.frozen 1
  have g := H1.out.bel
  simp at c0 c1
  go_wp2_with fail
  exact ret_tct rfl rfl ((u0.set_ 0 _).set_ 1 _) rfl ⟨rfl, (g.setCell (Nat.le_refl _) _).setCell (Nat.le_refl _) _⟩
set_option maxHeartbeats 2000000 in
theorem rReadV_bad (k : ByteArray) (w : World) (h0 : 0 < k.size) (hc : k[0]'h0 = 118) (s d t : ByteArray) (a b n : Int)
    (hT : ∀ V, Calls Tryz.prog 112 #[.string (k.extract 1 k.size)] V fun e w' => e = .returned (.tuple #[.string s, .string d, .int .i64 0]) ∧ Below V.heap.size V w')
    (hD : ∀ V, Calls Tryz.prog 113 #[.string d] V fun e w' => e = .returned (.tuple #[.agg #[.int .i64 a, .int .i64 b], .string t, .int .i64 n]) ∧ Below V.heap.size V w')
    (hn : (n != 0) = true ∨ (n = 0 ∧ (t.toList == []) = false)) :
    Calls Tryz.prog 65 #[.string k] w fun e w' => e = .returned (.tuple #[.string ⟨#[]⟩, sv 0 0, .int .i64 4]) ∧ Below w.heap.size w w' := by
  have HT := Lib.hid hT
  have HD := Lib.hid hD
  have H0 := Lib.hid ((Has.nil (Below.refl w.heap.size w)).newBlk 26 #[.int .i64 0, .int .i64 0])
  clear hT hD
  rcases hn with hn | ⟨hn, ht⟩
  · go_enter Tryz.func65, Tryz.ntmps65
    go_wp2_with fail
    refine (HT.out _).mono ?_
    rintro e w1 ⟨rfl, hb1⟩
    have H1 := Lib.hid (H0.out.keep hb1)
    clear H0 hb1
    go_wp2_with fail
    refine (HD.out _).mono ?_
    rintro e w2 ⟨rfl, hb2⟩
    have H2 := Lib.hid ((H1.out.keep hb2).newBlk 26 #[.int .i64 a, .int .i64 b])
    clear H1 hb2
    have u0 := H2.out.blkAt (g := w.heap.size) (t := 26) (cs := #[.int .i64 0, .int .i64 0]) (by simp)
    have c0 := u0.cell 0
    have c1 := u0.cell 1
    have f0 := u0.frozen 0
    have f1 := u0.frozen 1
    have g := H2.out.bel
    simp at c0 c1
    go_wp2_with fail
    exact ret_tct rfl rfl ((u0.set_ 0 _).set_ 1 _) rfl ⟨rfl, (g.setCell (Nat.le_refl _) _).setCell (Nat.le_refl _) _⟩
  · subst hn
    go_enter Tryz.func65, Tryz.ntmps65
    go_wp2_with fail
    refine (HT.out _).mono ?_
    rintro e w1 ⟨rfl, hb1⟩
    have H1 := Lib.hid (H0.out.keep hb1)
    clear H0 hb1
    go_wp2_with fail
    refine (HD.out _).mono ?_
    rintro e w2 ⟨rfl, hb2⟩
    have H2 := Lib.hid ((H1.out.keep hb2).newBlk 26 #[.int .i64 a, .int .i64 b])
    clear H1 hb2
    have u0 := H2.out.blkAt (g := w.heap.size) (t := 26) (cs := #[.int .i64 0, .int .i64 0]) (by simp)
    have c0 := u0.cell 0
    have c1 := u0.cell 1
    have f0 := u0.frozen 0
    have f1 := u0.frozen 1
    have g := H2.out.bel
    simp at c0 c1
    go_wp2_with fail
    exact ret_tct rfl rfl ((u0.set_ 0 _).set_ 1 _) rfl ⟨rfl, (g.setCell (Nat.le_refl _) _).setCell (Nat.le_refl _) _⟩
set_option maxHeartbeats 2000000 in
theorem rReadV_ok (k : ByteArray) (w : World) (h0 : 0 < k.size) (hc : k[0]'h0 = 118) (s d : ByteArray) (a b : Int)
    (hT : ∀ V, Calls Tryz.prog 112 #[.string (k.extract 1 k.size)] V fun e w' => e = .returned (.tuple #[.string s, .string d, .int .i64 0]) ∧ Below V.heap.size V w')
    (hD : ∀ V, Calls Tryz.prog 113 #[.string d] V fun e w' => e = .returned (.tuple #[.agg #[.int .i64 a, .int .i64 b], .string ⟨#[]⟩, .int .i64 0]) ∧ Below V.heap.size V w') :
    Calls Tryz.prog 65 #[.string k] w fun e w' => e = .returned (.tuple #[.string s, sv a b, .int .i64 0]) ∧ Below w.heap.size w w' := by
  have HT := Lib.hid hT
  have HD := Lib.hid hD
  clear hT hD
  have H0 := Lib.hid ((Has.nil (Below.refl w.heap.size w)).newBlk 26 #[.int .i64 0, .int .i64 0])
  go_enter Tryz.func65, Tryz.ntmps65
  go_wp2_with fail
  refine (HT.out _).mono ?_
  rintro e w1 ⟨rfl, hb1⟩
  have H1 := Lib.hid (H0.out.keep hb1)
  clear H0 hb1
  go_wp2_with fail
  refine (HD.out _).mono ?_
  rintro e w2 ⟨rfl, hb2⟩
  have H2 := Lib.hid ((H1.out.keep hb2).newBlk 26 #[.int .i64 a, .int .i64 b])
  clear H1 hb2
  have u0 := H2.out.blkAt (g := w.heap.size) (t := 26) (cs := #[.int .i64 0, .int .i64 0]) (by simp)
  have u1 := H2.out.blkAt (g := w2.heap.size) (t := 26) (cs := #[.int .i64 a, .int .i64 b]) (by simp)
  have c0 := u0.cell 0
  have c1 := u0.cell 1
  have f0 := u0.frozen 0
  have f1 := u0.frozen 1
  have d0 := u1.cell 0
  have d1 := u1.cell 1
  have hbel := H2.out.bel
  simp at c0 c1 d0 d1
  go_wp2_with fail
  go_region
  all_goals go_wp2_with fail
  all_goals exact ret_tct rfl rfl ((u0.set_ 0 _).set_ 1 _) rfl ⟨rfl, ((hbel.setCell (Nat.le_refl _) _).setCell (Nat.le_refl _) _).drew⟩
theorem rReadV_c (k : ByteArray) (w : World) (hk : k.size ≤ 150000000000000) :
    Calls Tryz.prog 65 #[.string k] w fun e w' => e = AnsK (rdVD (sb k)) ∧ Below w.heap.size w w' := by
  have e0 : (sb k).head? = if h : 0 < k.size then some (k[0]'h) else none := by
    have hl := sb_len k
    by_cases h : 0 < k.size
    · rw [dif_pos h, sb_get k 0 h]
      rw [List.head?_eq_getElem?]
      exact List.getElem?_eq_getElem (by rw [hl]; exact h)
    · rw [dif_neg h]
      have : sb k = [] := List.eq_nil_of_length_eq_zero (by omega)
      rw [this]
      rfl
  unfold rdVD
  by_cases h : 0 < k.size
  · rw [dif_pos h] at e0
    by_cases hc : k[0]'h = 118
    · rw [hc] at e0
      rw [if_pos e0]
      have HT := fun V => refTake (k.extract 1 k.size) V (by rw [ByteArray.size_extract]; omega)
      have e1 : ob (k.extract 1 k.size) = (sb k).drop 1 := ob_sb _ ▸ (sb_end k 1)
      rw [e1] at HT
      cases ht : tkey 1000 ((sb k).drop 1) with
      | error x =>
        rw [ht] at HT
        have hx : ((x : Int) != 0) = true := by have := tkey_err _ _ _ _ (Nat.le_refl _) ht; simpa using this
        exact rReadV_err k w h hc _ hx HT
      | ok p =>
        obtain ⟨s, r⟩ := p
        rw [ht] at HT
        have hb := (tkey_back _ _ _ _ _ (Nat.le_refl _) ht).1
        have hrl : r.length ≤ k.size := by
          have := congrArg List.length hb
          have := sb_len k
          simp at *
          omega
        have HD := fun V => refTD (bs r) V (by show r.length ≤ _; omega)
        have hob : ob (bs r) = r := rfl
        rw [hob] at HD
        simp only
        cases td : tdown r with
        | error n =>
          rw [td] at HD
          exact rReadV_bad k w h hc _ _ _ _ _ _ HT HD (.inl (tdown_err td))
        | ok q =>
          obtain ⟨a, b, l⟩ := q
          rw [td] at HD
          cases l with
          | nil => exact rReadV_ok k w h hc _ _ a b HT HD
          | cons c l => exact rReadV_bad k w h hc _ _ _ _ _ _ HT HD (.inr ⟨rfl, by rw [Lib.toList_data]; rfl⟩)
    · have hne : ((((k[0]'h).toNat : Nat) : Int) != 118) = true := by
        have : (k[0]'h).toNat ≠ 118 := fun e => hc (UInt8.toNat_inj.1 e)
        simp only [bne_iff_ne, ne_eq]
        omega
      rw [if_neg (by rw [e0]; intro e; exact hc (by injection e))]
      exact rReadV_head k w h _ rfl hne
  · rw [dif_neg h] at e0
    rw [if_neg (by rw [e0]; exact nofun)]
    exact rReadV_empty k w (by omega)
end Go.Proofs.YtgccichmdddbpaaGreatDoor
set_option linter.unusedVariables false
set_option linter.unusedSimpArgs false
set_option maxRecDepth 100000
namespace Go.Proofs.YtgccichmdddbpaaGreatDoor
open Go.RowKit

def vfc (x : Ver) : List Value := [.int .i64 x.1, .int .i64 x.2.1, .string x.2.2.1, .bool x.2.2.2]
def vfl (l : List Ver) : List Value := l.flatMap vfc
theorem vfl_app (l r : List Ver) : vfl (l ++ r) = vfl l ++ vfl r := by simp [vfl]
theorem vfl_cons (x : Ver) (l : List Ver) : vfl (x :: l) = .int .i64 x.1 :: .int .i64 x.2.1 :: .string x.2.2.1 :: .bool x.2.2.2 :: vfl l := by simp [vfl, vfc]
theorem vfl_len : ∀ l : List Ver, (vfl l).length = l.length * 4
  | [] => rfl
  | x :: l => by rw [vfl_cons, List.length_cons, List.length_cons, List.length_cons, List.length_cons, vfl_len l, List.length_cons]; omega
theorem vfl_get : ∀ (l : List Ver) (i : Nat) (h : i < l.length), (vfl l)[i * 4]? = some (.int .i64 (l[i]'h).1) ∧ (vfl l)[i * 4 + 1]? = some (.int .i64 (l[i]'h).2.1)
  | x :: l, 0, _ => by rw [vfl_cons]; exact ⟨rfl, rfl⟩
  | x :: l, i + 1, h => by
    have ih := vfl_get l i (by simpa using h)
    rw [vfl_cons, show (i + 1) * 4 = i * 4 + 1 + 1 + 1 + 1 by omega]
    simpa using ih
theorem vfl_one (l : List Ver) : ∀ u ∈ vfl l, u.oneCell' = true := by
  intro u hu
  obtain ⟨x, hx, h2⟩ := List.mem_flatMap.1 hu
  simp only [vfc, List.mem_cons, List.not_mem_nil, or_false] at h2
  rcases h2 with rfl | rfl | rfl | rfl <;> rfl
theorem infoVr : (Tryz.prog.info? 63).map (fun i => (i.zero, i.size, i.bytes)) = some (some (.agg #[.int .i64 0, .int .i64 0, .string ByteArray.empty, .bool false]), 4, 40) := by kernel_rfl
/-- Versions that lie in memory: their stamps. -/
def VrAt (w : World) (A : Option Addr) (n : Nat) (l : List Ver) : Prop :=
  l.length = n ∧ (0 < n → ∃ b o, A = some ⟨b, o, none⟩ ∧ ∀ i (h : i < l.length), w.cell? ⟨b, o + i * 4, none⟩ = some (.int .i64 (l[i]'h).1) ∧ w.cell? ⟨b, o + i * 4 + 1, none⟩ = some (.int .i64 (l[i]'h).2.1))
theorem VrAt.below {w w' : World} {A : Option Addr} {n : Nat} {l : List Ver} (h : VrAt w A n l) (hb : Below w.heap.size w w') : VrAt w' A n l := by
  refine ⟨h.1, fun hn => ?_⟩
  obtain ⟨b, o, e, hc⟩ := h.2 hn
  exact ⟨b, o, e, fun i hi => ⟨(hb.cell (World.block_lt_of_cell? w _ (hc i hi).1)).trans (hc i hi).1, (hb.cell (World.block_lt_of_cell? w _ (hc i hi).2)).trans (hc i hi).2⟩⟩
/-- Versions of one's own. -/
def VrRow (w : World) (B : Nat) (v : Value) (n : Nat) (l : List Ver) : Prop := w.ownsRow B 63 4 v n (vfl l)
section
variable {w w' : World} {B n : Nat} {v : Value} {l : List Ver}
theorem VrRow.nil (w : World) (B : Nat) : VrRow w B (.slice none 0 0) 0 [] := World.ownsRow_nil _ _ _ _
theorem VrRow.len (h : VrRow w B v n l) : l.length = n := by
  have := h.1
  rw [vfl_len] at this
  omega
theorem VrRow.form (h : VrRow w B v n l) : ∃ A c, v = .slice A n c ∧ VrAt w A n l ∧ n ≤ c ∧ c ≤ 9223372036854775807 := by
  have hl := h.len
  rcases h.2 with ⟨rfl, h0⟩ | ⟨g, cap, cur, rfl, hb, hg, hnc, hcm, _⟩
  · exact ⟨none, 0, by rw [h0], ⟨hl, fun hm => by omega⟩, by omega, by omega⟩
  · refine ⟨_, cap, rfl, ⟨hl, fun hm => ⟨g, 0, rfl, fun i hi => ?_⟩⟩, hnc, hcm⟩
    obtain ⟨h1, h2⟩ := vfl_get l i hi
    have c1 := World.ownsRow.cells h (g := g) rfl _ _ h1
    have c2 := World.ownsRow.cells h (g := g) rfl _ _ h2
    rw [Go.WideShapes.add_plain] at c1 c2
    exact ⟨c1, by rw [Nat.add_assoc]; exact c2⟩
theorem VrRow.keep (h : VrRow w B v n l) (hb : Below w.heap.size w w') : VrRow w' B v n l :=
  World.ownsRow.kept h (row := none) ⟨hb.os, hb.tape, hb.output, hb.size, fun k hk _ => hb.block k hk⟩ (by
    cases hv : v.ownBlock with
    | none => exact .inl rfl
    | some q => exact .inr (by simp))
theorem VrRow.lt (h : VrRow w B v n l) (k : Nat) (e : v.ownBlock = some k) : B ≤ k ∧ k < w.heap.size := World.ownsRow.lt h k e
end
set_option maxRecDepth 100000 in
/-- 'append(v, x)'. -/
theorem wpList_appVr {w : World} {ops : Array Oper} {rest : List Oper} {o : Oper} {a : Act} {Q : Exit → Act → World → Prop} (hgd : o.guard = none) (s x : Operand)
    (ho : o.op = .call { callee := .builtin .append, args := #[s, x], argTypes := #[59, 59] })
    (B : Nat) (v : Value) (k : Nat) (xs : List Ver) (y : Ver) (hs : a.eval s = v) (hown : VrRow w B v k xs)
    (g c : Nat) (hx : a.eval x = .slice (some ⟨g, 0, none⟩) 1 c) (hB : Blk w g 63 #[.int .i64 y.1, .int .i64 y.2.1, .string y.2.2.1, .bool y.2.2.2]) (hbytes : (k + 1) * 40 ≤ 140737488355328) (hbase : B ≤ w.heap.size)
    (h : ∀ v' w', VrRow w' B v' (k + 1) (xs ++ [y]) → w.grownBy w' v.ownBlock → wpList Tryz.prog ops Q rest (a.put o.dst v') w') :
    wpList Tryz.prog ops Q (o :: rest) a w := by
  obtain ⟨i, hi, hz, hsz, hby⟩ := info_parts infoVr
  refine wpList_append_own w hgd s x 59 ho B 63 i _ 4 40 Tryz.underlying59 hi hz hsz hby rfl (by decide) v k (vfl xs) hs hown ⟨g, 0, none⟩ 1 c (vfl [y]) hx (by rw [vfl_len]; rfl) (fun j u hj => ?_) (vfl_one [y]) (by unfold maxLen; omega) hbytes hbase ?_
  · rw [Go.WideShapes.add_plain, Nat.zero_add]
    have hjl : j < 4 := by
      rcases Nat.lt_or_ge j 4 with h0 | h0
      · exact h0
      · rw [List.getElem?_eq_none (by rw [vfl_len]; simpa using h0)] at hj
        cases hj
    have := hB.cell j
    rw [this]
    rcases (show j = 0 ∨ j = 1 ∨ j = 2 ∨ j = 3 by omega) with rfl | rfl | rfl | rfl <;> exact hj
  · intro v' w' h1 h2 _
    refine h v' w' ?_ h2
    unfold VrRow
    rw [vfl_app]
    exact h1

/-- A row's version of a key, by the document. -/
def vrsR (key : ByteArray) (x : Rw) : Option Ver :=
  match rdVD (sb x.key) with
  | none => none
  | some (s, a, b) => if bs s = key then (match tkV (sb x.value) with | none => none | some (v, i) => some (a, b, v, i)) else none
def vrsD (r : List Rw) (key : ByteArray) : List Ver := r.filterMap (vrsR key)
theorem vrsD_step (r : List Rw) (key : ByteArray) (j : Nat) (h : j < r.length) : vrsD (r.take (j + 1)) key = vrsD (r.take j) key ++ (match vrsR key (r[j]'h) with | some o => [o] | none => []) := by
  unfold vrsD
  rw [List.take_succ_eq_append_getElem h, List.filterMap_append]
  congr 1
  simp only [List.filterMap_cons, List.filterMap_nil]
  cases vrsR key (r[j]'h) <;> rfl
theorem vrsD_len (r : List Rw) (key : ByteArray) (j : Nat) : (vrsD (r.take j) key).length ≤ r.length := Nat.le_trans (List.length_filterMap_le _ _) (by rw [List.length_take]; omega)
set_option maxHeartbeats 4000000 in
theorem rVersions (A : Option Addr) (c b : Nat) (r : List Rw) (key : ByteArray) (V : World) (hcell : V.cell? ⟨b, 0, none⟩ = some (.slice A r.length c)) (hat : WAt V A r.length r) (hz : Szs r) (hl : r.length ≤ 1000000) :
    Calls Tryz.prog 21 #[pt b, .string key] V fun e w' => ∃ v, e = .returned v ∧ VrRow w' V.heap.size v (vrsD r key).length (vrsD r key) ∧ Below V.heap.size V w' := by
  have HX := Lib.hid hat
  have HZ := Lib.hid hz
  clear hat hz
  go_enter Tryz.func21, Tryz.ntmps21
  go_wp2_with fail
  go_loopw [5, 7] (fun v i wr => ∃ (j : Nat), j ≤ r.length ∧ i = .int .i64 j ∧ Hid (VrRow wr V.heap.size v (vrsD (r.take j) key).length (vrsD (r.take j) key) ∧ Below V.heap.size V wr)) (fun _ i _ => r.length - (intOf i).toNat)
  case atStart => exact ⟨0, Nat.zero_le _, rfl, VrRow.nil _ _, Below.refl _ _⟩
  case round =>
    obtain ⟨j, hj, rfl, HH⟩ := hrel
    by_cases c1 : j < r.length
    case neg =>
      obtain rfl : j = r.length := by omega
      have HF := Lib.hid (show vrsD (r.take r.length) key = vrsD r key by rw [List.take_length])
      go_wp2_with fail
      go_ret
      rw [← HF.out]
      exact ⟨_, rfl, HH.out.1, HH.out.2⟩
    obtain ⟨hrow, hb⟩ := HH.out
    obtain ⟨q, o, rfl, hc⟩ := (HX.out.below hb).2 (by omega)
    obtain ⟨x0, x1⟩ := hc j c1
    have hq := World.block_lt_of_cell? _ _ x0
    have hmem := HZ.out _ (List.getElem_mem c1)
    have hst := vrsD_step r key j c1
    have hcl := vrsD_len r key j
    obtain ⟨⟨ky, vl⟩, hg⟩ : ∃ u, r[j]'c1 = u := ⟨_, rfl⟩
    rw [hg] at x0 x1 hmem hst
    simp only at x0 x1 hmem
    have HRV := Lib.hid (fun W => rReadV_c ky W (by omega))
    have HTV := Lib.hid (fun W => rTakeVersion vl W (by omega))
    have hnx : vrsR key ⟨ky, vl⟩ = match rdVD (sb ky) with
      | none => none
      | some (s, a, b) => if bs s = key then (match tkV (sb vl) with | none => none | some (v, i) => some (a, b, v, i)) else none := rfl
    rw [hnx] at hst
    generalize (vrsD (r.take j) key) = outs at *
    have HROW := Lib.hid hrow
    have HB := Lib.hid hb
    have jz : (0 : Int) ≤ (j : Int) := by omega
    have jn : (j : Int) < (r.length : Int) := by omega
    clear hrow hb hc hnx HH hg hmem
    cases hrd : rdVD (sb ky) with
    | none =>
      rw [hrd] at HRV hst
      rw [show AnsK none = .returned (.tuple #[.string ⟨#[]⟩, sv 0 0, .int .i64 4]) from rfl] at HRV
      simp only [List.append_nil] at hst
      have HST := Lib.hid hst
      clear hst hrd
      go_wp2_with fail
      refine (HRV.out _).mono ?_
      rintro e w1 ⟨rfl, hb1⟩
      have hr1 := Lib.hid ((HROW.out.keep hb1).keep (nbl w1 (.cells #[.int .i64 0, .int .i64 0] 26)))
      have hB1 := Lib.hid (bsa (bst HB.out hb1) (.cells #[.int .i64 0, .int .i64 0] 26))
      clear hb1
      go_wp2_with fail
      go_roundw
      case rel => exact ⟨j + 1, by omega, by go_num, by rw [HST.out]; exact hr1.out, hB1.out⟩
      case measure => simp [intOf]; omega
    | some p =>
      obtain ⟨s, a, b'⟩ := p
      rw [hrd] at HRV hst
      simp only at hst
      obtain ⟨ks, hks⟩ : ∃ ks, bs s = ks := ⟨_, rfl⟩
      have hret : AnsK (some (s, a, b')) = .returned (.tuple #[.string ks, sv a b', .int .i64 0]) := by rw [← hks]; rfl
      rw [hret] at HRV
      rw [hks] at hst
      clear hrd hks hret
      by_cases hkk : ks = key
      case neg =>
        rw [if_neg hkk] at hst
        simp only [List.append_nil] at hst
        have HST := Lib.hid hst
        have hne : (ks.toList == key.toList) = false := by
          cases he : ks.toList == key.toList with
          | false => rfl
          | true => exact absurd (ByteArray.ext (Array.ext' (by have := eq_of_beq he; rw [Lib.toList_data, Lib.toList_data] at this; exact this))) hkk
        clear hst hkk
        go_wp2_with fail
        refine (HRV.out _).mono ?_
        rintro e w1 ⟨rfl, hb1⟩
        have hr1 := Lib.hid ((HROW.out.keep hb1).keep (nbl w1 (.cells #[.int .i64 a, .int .i64 b'] 26)))
        have hB1 := Lib.hid (bsa (bst HB.out hb1) (.cells #[.int .i64 a, .int .i64 b'] 26))
        clear hb1
        go_wp2_with fail
        go_roundw
        case rel => exact ⟨j + 1, by omega, by go_num, by rw [HST.out]; exact hr1.out, hB1.out⟩
        case measure => simp [intOf]; omega
      case pos =>
        subst hkk
        rw [if_pos rfl] at hst
        cases htv : tkV (sb vl) with
        | none =>
          rw [htv] at HTV hst
          rw [show AnsV none = .returned (.tuple #[.string ⟨#[]⟩, .bool false, .int .i64 4]) from rfl] at HTV
          simp only [List.append_nil] at hst
          have HST := Lib.hid hst
          clear hst htv
          go_wp2_with fail
          refine (HRV.out _).mono ?_
          rintro e w1 ⟨rfl, hb1⟩
          have x1' := (hb1.cell (p := ⟨q, o + j * 2 + 1, none⟩) hq).trans x1
          have hq1 := World.block_lt_of_cell? _ _ x1'
          have x2 := ((nbl w1 (.cells #[.int .i64 a, .int .i64 b'] 26)).cell (p := ⟨q, o + j * 2 + 1, none⟩) hq1).trans x1'
          have hr1 := Lib.hid ((HROW.out.keep hb1).keep (nbl w1 (.cells #[.int .i64 a, .int .i64 b'] 26)))
          have hB1 := Lib.hid (bsa (bst HB.out hb1) (.cells #[.int .i64 a, .int .i64 b'] 26))
          clear hb1 x1'
          go_wp2_with fail
          refine (HTV.out _).mono ?_
          rintro e w2 ⟨rfl, hb2⟩
          have hr2 := Lib.hid (hr1.out.keep hb2)
          have hB2 := Lib.hid (bst hB1.out hb2)
          clear hb2
          go_wp2_with fail
          go_roundw
          case rel => exact ⟨j + 1, by omega, by go_num, by rw [HST.out]; exact hr2.out, hB2.out⟩
          case measure => simp [intOf]; omega
        | some p =>
          obtain ⟨vv, ii⟩ := p
          rw [htv] at HTV hst
          rw [show AnsV (some (vv, ii)) = .returned (.tuple #[.string vv, .bool ii, .int .i64 0]) from rfl] at HTV
          simp only at hst
          have HST := Lib.hid hst
          clear hst htv
          go_wp2_with fail
          refine (HRV.out _).mono ?_
          rintro e w1 ⟨rfl, hb1⟩
          have x1' := (hb1.cell (p := ⟨q, o + j * 2 + 1, none⟩) hq).trans x1
          have hq1 := World.block_lt_of_cell? _ _ x1'
          have x2 := ((nbl w1 (.cells #[.int .i64 a, .int .i64 b'] 26)).cell (p := ⟨q, o + j * 2 + 1, none⟩) hq1).trans x1'
          have hr1 := Lib.hid ((HROW.out.keep hb1).keep (nbl w1 (.cells #[.int .i64 a, .int .i64 b'] 26)))
          have hB1 := Lib.hid (bsa (bst HB.out hb1) (.cells #[.int .i64 a, .int .i64 b'] 26))
          have hN1 := Lib.hid (Blk.new w1 26 #[.int .i64 a, .int .i64 b'])
          clear hb1 x1'
          go_wp2_with fail
          refine (HTV.out _).mono ?_
          rintro e w2 ⟨rfl, hb2⟩
          have hr2 := Lib.hid ((hr1.out.keep hb2).keep (nbl w2 (.cells #[.int .i64 a, .int .i64 b', .string vv, .bool ii] 63)))
          have hB2 := Lib.hid (bsa (bst hB1.out hb2) (.cells #[.int .i64 a, .int .i64 b', .string vv, .bool ii] 63))
          have k2 := hN1.out.below hb2 (by simp)
          have e0 := k2.cell 0
          have e1 := k2.cell 1
          simp at e0 e1
          have HN2 := Lib.hid (Blk.new w2 63 #[.int .i64 a, .int .i64 b', .string vv, .bool ii])
          clear hb2 k2
          go_wp2_with (at_builtin; refine wpList_appVr rfl _ _ rfl V.heap.size _ outs.length outs (a, b', vv, ii) rfl hr2.out w2.heap.size 1 rfl HN2.out (by omega) hB2.out.size ?_; intro v5 w5 hr5 hg5
                       have HR5 := Lib.hid hr5
                       have HB5 := Lib.hid (hB2.out.grown hg5 hB2.out.size (fun k e => (hr2.out.lt k e).1))
                       clear hr5 hg5)
          go_roundw
          case rel => exact ⟨j + 1, by omega, by go_num, by rw [HST.out, List.length_append]; exact HR5.out, HB5.out⟩
          case measure => simp [intOf]; omega
theorem Has.rVersions {w V : World} {l : List As} {b : Nat} {r : List Rw} (h : Has w l V) (hm : rtA b r ∈ l) (hz : Szs r) (hl : r.length ≤ 1000000) (key : ByteArray) :
    Calls Tryz.prog 21 #[pt b, .string key] V fun e w' => ∃ A c, e = .returned (.slice A (vrsD r key).length c) ∧ VrAt w' A (vrsD r key).length (vrsD r key) ∧ (vrsD r key).length ≤ c ∧ Has w l w' ∧ Below V.heap.size V w' := by
  obtain ⟨A, c, h1, h2, h3, h4⟩ := h.rtRows hm
  refine (Go.Proofs.YtgccichmdddbpaaGreatDoor.rVersions A c b r key V h1 h2 hz hl).mono ?_
  rintro e w' ⟨v, rfl, hr, hb⟩
  obtain ⟨A', c', rfl, g1, g2, g3⟩ := hr.form
  exact ⟨A', c', rfl, g1, g2, h.keep hb, hb⟩
end Go.Proofs.YtgccichmdddbpaaGreatDoor
set_option linter.unusedVariables false
set_option linter.unusedSimpArgs false
set_option maxRecDepth 100000
namespace Go.Proofs.YtgccichmdddbpaaGreatDoor
open Go.RowKit

theorem cell_set_ne {w : World} {g i : Nat} {u : Value} {p : Addr} (h : p.block ≠ g) : (w.setCell ⟨g, i, none⟩ u).cell? p = w.cell? p := by
  unfold World.cell? World.setCell
  simp only [Array.getElem?_modify]
  rw [if_neg (fun e => h e.symm)]
theorem ChAt.put {w : World} {A : Option Addr} {n g i : Nat} {u : Value} {l : List Ch} (h : ChAt w A n l) (ha : 0 < n → ∀ a, A = some a → a.block ≠ g) : ChAt (w.setCell ⟨g, i, none⟩ u) A n l := by
  refine ⟨h.1, fun hn => ?_⟩
  obtain ⟨b, o, e, hc⟩ := h.2 hn
  have hb : b ≠ g := ha hn _ e
  refine ⟨b, o, e, fun i hi => ?_⟩
  obtain ⟨h1, h2, h3⟩ := hc i hi
  exact ⟨(cell_set_ne (by exact hb)).trans h1, (cell_set_ne (by exact hb)).trans h2, (cell_set_ne (by exact hb)).trans h3⟩
theorem ChAt.apart {w : World} {A : Option Addr} {n g : Nat} {t : TypeId} {cs : Array Value} {l : List Ch} (h : ChAt w A n l) (hB : Blk w g t cs)
    (hno : ∀ o q s d, cs[o]? = some (.int .i64 q) → cs[o + 1]? = some (.string s) → cs[o + 2]? = some (.bool d) → False) : 0 < n → ∀ a, A = some a → a.block ≠ g := by
  rintro hn a rfl e
  obtain ⟨b, o, e2, hc⟩ := h.2 hn
  cases e2
  simp only at e
  subst e
  obtain ⟨h1, h2, h3⟩ := hc 0 (by have := h.1; omega)
  rw [hB.cell] at h1 h2 h3
  simp only [Nat.zero_mul, Nat.add_zero] at h1 h2 h3
  exact hno _ _ _ _ h1 h2 h3
theorem it_no (x : It) (v : Value) (hv : ∀ d, v ≠ .bool d) : ∀ o q s d, (itc x v)[o]? = some (.int .i64 q) → (itc x v)[o + 1]? = some (.string s) → (itc x v)[o + 2]? = some (.bool d) → False := by
  intro o q s d _ _ h
  match o with
  | 0 | 1 | 2 | 3 | 4 | 5 => simp at h
  | 6 => simp at h; exact hv d h
  | n + 7 => simp at h
theorem fd_no (x : Fd) (v : Value) (hv : ∀ d, v ≠ .bool d) : ∀ o q s d, (fdc x v)[o]? = some (.int .i64 q) → (fdc x v)[o + 1]? = some (.string s) → (fdc x v)[o + 2]? = some (.bool d) → False := by
  intro o q s d h1 h2 h
  match o with
  | 0 | 1 | 2 | 3 | 4 | 5 | 6 | 7 | 8 | 9 | 10 | 11 => simp at h1 h2 h
  | 12 => simp at h; exact hv d h
  | n + 13 => simp at h
theorem rval_le {r : List Rw} (hz : Szs r) (k : ByteArray) : (rval r k).size ≤ 140737488351233 := by
  unfold rval
  split
  · cases h : r[rpos r k]? with
    | none => simp [ByteArray.size]
    | some x => exact (hz x (List.mem_of_getElem? h)).2.2
  · simp [ByteArray.size]
def AnsT (o : Option It) (e : Ending) (w' : World) : Prop :=
  match o with
  | none => e = .returned (.tuple #[itv zI (.slice none 0 0), .bool false])
  | some y => ∃ A n c, e = .returned (.tuple #[itv y (.slice A n c), .bool true]) ∧ ChAt w' A n y.l ∧ n ≤ 9223372036854775807
set_option maxHeartbeats 2000000 in
theorem intentAt_c {V : World} {p : Nat} {r : List Rw} {F : Nat → Prop} (h : (tbA p r).p V F) (hz : Szs r) (hM : MaxL V) (key : ByteArray) (hk : isK key = true) :
    Calls Tryz.prog 123 #[pt p, .string key] V fun e w' => AnsT (pint r key) e w' ∧ Below V.heap.size V w' := by
  have hK : ∀ W, Below V.heap.size V W → Calls Tryz.prog 89 #[.string key] W fun e w' => e = .returned (.tuple #[.string (bs (ikey (sb key))), .int .i64 0]) ∧ Below W.heap.size W w' := fun W hb => by
    have := intentKey_c key W (hM.below hb)
    unfold markK at this
    rw [if_pos hk, List.append_nil] at this
    exact this
  have hG := fun W (hb : Below V.heap.size V W) => tb_get (tbA_below h hb) (bs (ikey (sb key)))
  have hT := fun W => takeI_c (rval r (bs (ikey (sb key)))) W (by have := rval_le hz (bs (ikey (sb key))); omega)
  unfold pint
  generalize rval r (bs (ikey (sb key))) = t at *
  generalize rhas r (bs (ikey (sb key))) = hh at *
  generalize bs (ikey (sb key)) = kk at *
  have HK := Lib.hid hK
  have HG := Lib.hid hG
  have k0 := Blk.new V 38 (itc zI (.slice none 0 0))
  have g0 := nbl V (.cells (itc zI (.slice none 0 0)) 38)
  clear hK hG h hM hk hz
  cases ho : tkI (sb t) with
  | none =>
    simp only [ho, AnsI] at hT
    have HT := Lib.hid hT
    clear ho hT
    go_enter Tryz.func123, Tryz.ntmps123
    go_wp2_with (first
      | (go_at_call 89; refine (HK.out _ g0).mono ?_; rintro e w1 ⟨rfl, hb1⟩; have g1 := bst g0 hb1; have k1 := k0.below hb1 k0.lt)
      | (go_at_call 25; refine (HG.out _ g1).mono ?_; rintro e w2 ⟨rfl, hb2⟩; have g2 := bst g1 hb2; have k2 := k1.below hb2 k1.lt)
      | (go_at_call 93; refine (HT.out _).mono ?_; rintro e w3 ⟨rfl, hb3⟩
         have k3 := (k2.below hb3 k2.lt).below (nbl w3 (.cells (itc zI (.slice none 0 0)) 38)) (k2.below hb3 k2.lt).lt
         have g3 := bsa (bst g2 hb3) (.cells (itc zI (.slice none 0 0)) 38)
         have p0 := k3.cell 0
         have f0 := k3.frozen 0
         have p1 := k3.cell 1
         have f1 := k3.frozen 1
         have p2 := k3.cell 2
         have f2 := k3.frozen 2
         have p3 := k3.cell 3
         have f3 := k3.frozen 3
         have p4 := k3.cell 4
         have f4 := k3.frozen 4
         have p5 := k3.cell 5
         have f5 := k3.frozen 5
         have p6 := k3.cell 6
         have f6 := k3.frozen 6
         have p7 := k3.cell 7
         have f7 := k3.frozen 7
         have p8 := k3.cell 8
         have f8 := k3.frozen 8
         simp at p0 p1 p2 p3 p4 p5 p6 p7 p8
         have K3 := Lib.hid k3
         have G3 := Lib.hid g3
         clear hb1 hb2 hb3 k3 g3))
    exact ret_it rfl rfl (Blk.all9 (v0 := .int .i64 zI.id) (v1 := .int .i64 zI.ep) (v2 := .int .i64 zI.pr) (v3 := .string zI.an) (v4 := .int .i64 zI.sw) (v5 := .int .i64 zI.sl) (v6 := .int .i64 zI.bw) (v7 := .int .i64 zI.bl) (v8 := .slice none 0 0) (by exact K3.out)) rfl rfl ⟨rfl, (((((((((G3.out.setCell (by exact Nat.le_refl _) _).setCell (by exact Nat.le_refl _) _).setCell (by exact Nat.le_refl _) _).setCell (by exact Nat.le_refl _) _).setCell (by exact Nat.le_refl _) _).setCell (by exact Nat.le_refl _) _).setCell (by exact Nat.le_refl _) _).setCell (by exact Nat.le_refl _) _).setCell (by exact Nat.le_refl _) _)⟩
  | some y =>
    simp only [ho, AnsI] at hT
    have HT := Lib.hid hT
    clear ho hT
    go_enter Tryz.func123, Tryz.ntmps123
    go_wp2_with (first
      | (go_at_call 89; refine (HK.out _ g0).mono ?_; rintro e w1 ⟨rfl, hb1⟩; have g1 := bst g0 hb1; have k1 := k0.below hb1 k0.lt)
      | (go_at_call 25; refine (HG.out _ g1).mono ?_; rintro e w2 ⟨rfl, hb2⟩; have g2 := bst g1 hb2; have k2 := k1.below hb2 k1.lt)
      | (go_at_call 93; refine (HT.out _).mono ?_; rintro e w3 ⟨⟨A, n, c, rfl, hat, hnc, hcm, hap⟩, hb3⟩
         have hne := hat.apart (k2.below hb3 k2.lt) (it_no _ _ (fun d e => nomatch e))
         have HAT := Lib.hid (hat.below (nbl w3 (.cells (itc y (.slice A n c)) 38)))
         have HNE := Lib.hid hne
         clear hat hap hne
         have k3 := (k2.below hb3 k2.lt).below (nbl w3 (.cells (itc y (.slice A n c)) 38)) (k2.below hb3 k2.lt).lt
         have g3 := bsa (bst g2 hb3) (.cells (itc y (.slice A n c)) 38)
         have p0 := k3.cell 0
         have f0 := k3.frozen 0
         have p1 := k3.cell 1
         have f1 := k3.frozen 1
         have p2 := k3.cell 2
         have f2 := k3.frozen 2
         have p3 := k3.cell 3
         have f3 := k3.frozen 3
         have p4 := k3.cell 4
         have f4 := k3.frozen 4
         have p5 := k3.cell 5
         have f5 := k3.frozen 5
         have p6 := k3.cell 6
         have f6 := k3.frozen 6
         have p7 := k3.cell 7
         have f7 := k3.frozen 7
         have p8 := k3.cell 8
         have f8 := k3.frozen 8
         simp at p0 p1 p2 p3 p4 p5 p6 p7 p8
         have K3 := Lib.hid k3
         have G3 := Lib.hid g3
         clear hb1 hb2 hb3 k3 g3))
    have HA9 := Lib.hid ((((((((((HAT.out.put (g := V.heap.size) (i := 0) (u := .int .i64 y.id) HNE.out).put (g := V.heap.size) (i := 1) (u := .int .i64 y.ep) HNE.out).put (g := V.heap.size) (i := 2) (u := .int .i64 y.pr) HNE.out).put (g := V.heap.size) (i := 3) (u := .string y.an) HNE.out).put (g := V.heap.size) (i := 4) (u := .int .i64 y.sw) HNE.out).put (g := V.heap.size) (i := 5) (u := .int .i64 y.sl) HNE.out).put (g := V.heap.size) (i := 6) (u := .int .i64 y.bw) HNE.out).put (g := V.heap.size) (i := 7) (u := .int .i64 y.bl) HNE.out).put (g := V.heap.size) (i := 8) (u := .slice A n c) HNE.out))
    exact ret_it rfl rfl (Blk.all9 (v0 := .int .i64 y.id) (v1 := .int .i64 y.ep) (v2 := .int .i64 y.pr) (v3 := .string y.an) (v4 := .int .i64 y.sw) (v5 := .int .i64 y.sl) (v6 := .int .i64 y.bw) (v7 := .int .i64 y.bl) (v8 := .slice A n c) (by exact K3.out)) rfl rfl ⟨⟨A, n, c, rfl, HA9.out, by omega⟩, (((((((((G3.out.setCell (by exact Nat.le_refl _) _).setCell (by exact Nat.le_refl _) _).setCell (by exact Nat.le_refl _) _).setCell (by exact Nat.le_refl _) _).setCell (by exact Nat.le_refl _) _).setCell (by exact Nat.le_refl _) _).setCell (by exact Nat.le_refl _) _).setCell (by exact Nat.le_refl _) _).setCell (by exact Nat.le_refl _) _)⟩
set_option maxHeartbeats 2000000 in
theorem ownFound_c (key : ByteArray) (y : It) (A : Option Addr) (n c : Nat) (w : World) (hx : ChAt w A n y.l) (hn : n ≤ 9223372036854775807) (hne : y.l ≠ []) :
    Calls Tryz.prog 124 #[.string key, itv y (.slice A n c)] w fun e w' => e = .returned (fdv (ownF key y) (.slice none 0 0)) ∧ Below w.heap.size w w' := by
  have hl := hx.1
  obtain ⟨m, rfl⟩ : ∃ m, n = m + 1 := ⟨n - 1, by have := List.length_pos_iff.2 hne; omega⟩
  obtain ⟨b, o, rfl, hc⟩ := ((hx.below (nbl w (.cells (itc y (.slice A (m + 1) c)) 38))).below (nbl _ (.cells #[.string ⟨#[]⟩, .string ⟨#[]⟩, .bool false, .bool false, .int .i64 0, .int .i64 0, .int .i64 0, .int .i64 0, .int .i64 0, .string ⟨#[]⟩, .int .i64 0, .int .i64 0, .int .i64 0, .int .i64 0, .slice none 0 0] 73))).2 (by omega)
  have hm : m < y.l.length := by omega
  obtain ⟨c0, c1, c2⟩ := hc m hm
  have hgl : y.l.getLast? = some (y.l[m]'hm) := by
    rw [List.getLast?_eq_getElem?, hl]
    exact List.getElem?_eq_getElem hm
  unfold ownF
  rw [hgl]
  simp only [Option.map_some, Option.getD_some]
  obtain ⟨ch, hch⟩ : ∃ ch, y.l[m]'hm = ch := ⟨_, rfl⟩
  rw [hch] at c0 c1 c2 ⊢
  obtain ⟨q, s, d⟩ := ch
  simp only at c0 c1 c2 ⊢
  have hmm : ((m + 1 : Nat) : Int) - 1 = (m : Int) := by omega
  clear hx hc hgl hch hl hne
  go_enter Tryz.func124, Tryz.ntmps124
  have hz1 : (w.alloc (.cells (itc y (.slice (some ⟨b, o, none⟩) (m + 1) c)) 38)).heap.size = w.heap.size + 1 := World.size_alloc _ _
  have hB := Blk.new (w.alloc (.cells (itc y (.slice (some ⟨b, o, none⟩) (m + 1) c)) 38)) 73 (fdc ⟨key, s, !d, true, y.sw, y.sl, zI⟩ (.slice none 0 0))
  have HB1 := Lib.hid (hB.below (nbl _ (.cells #[.int .i64 q, .string s, .bool d] 24)) hB.lt)
  rw [hz1] at HB1
  have HG := Lib.hid (bsa (bsa (nbl w (.cells (itc y (.slice (some ⟨b, o, none⟩) (m + 1) c)) 38)) (.cells (fdc ⟨key, s, !d, true, y.sw, y.sl, zI⟩ (.slice none 0 0)) 73)) (.cells #[.int .i64 q, .string s, .bool d] 24))
  clear hz1 hB
  go_wp2_with fail
  exact ret_fd rfl rfl HB1.out rfl rfl ⟨rfl, HG.out⟩
end Go.Proofs.YtgccichmdddbpaaGreatDoor
