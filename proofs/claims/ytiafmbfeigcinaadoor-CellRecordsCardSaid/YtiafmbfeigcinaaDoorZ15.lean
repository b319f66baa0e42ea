/-
  Layer 11, the code's reader as a walk takes it; many.
  Layer 11, the code: TakeVersion, TakeStamp.
  Layer 11, the code: keys under which something stands; the examples.
  Layer 11: the statements' own examples.
  Layer 11, the code: the function literals of TakeIntent, TakeRecord.
  Layer 11, the code: TakeIntent, TakeRecord.
  Layer 11, the code: Intent, Record.
-/
import Derived.Test.YtiafmbfeigcinaaDoorZ14
import Derived.Test.YtiafmbfeigcinaaDoorZ10
set_option linter.unusedVariables false
set_option linter.unusedSimpArgs false
set_option maxRecDepth 100000
namespace Go.Proofs.YtiafmbfeigcinaaDoor
open Go.RowKit

section
variable {w V : World} {T : List As} {g x : Nat} {s : Rst} {t : TypeId} {cs : Array Value}
theorem Has.acallE {α : Type} {A : As} {A' : α → As} {Q : α → Ending → Prop} (h : Has w (A :: T) V) {W : World} {f : FuncId} {args : Array Value}
    (hc : ∀ F, A.p V F → Calls Tryd.prog f args W fun e w' => ∃ a, Q a e ∧ ATurn (A' a) F V w') :
    Calls Tryd.prog f args W fun e w' => ∃ a, Q a e ∧ Has w (A' a :: T) w' := by
  obtain ⟨F, h1, _, h2⟩ := h.step
  refine (hc F h1).mono ?_
  rintro e w' ⟨a, hq, F', h3, h4, h5⟩
  exact ⟨a, hq, h2 w' (A' a) F' h4 h3 h5⟩
theorem Has.rdNew (h : Has w T V) (u : ByteArray) (ht : u.size ≤ 225000000000000) :
    Calls Tryd.prog 62 #[.string u] V fun e w' => ∃ g, e = .returned (pt g) ∧ Has w (rdA g (if u.size ≤ 2048 then some (sb u) else none) :: T) w' := by
  refine (newRd u V ht).mono ?_
  rintro e w' ⟨g, rfl, hb, F, h1, h2⟩
  exact ⟨g, rfl, h.new hb h1 h2⟩
theorem Has.rdStr (h : Has w (rdA g s :: T) V) :
    Calls Tryd.prog 64 #[pt g] V fun e w' => ∃ u : ByteArray, (e = .returned (.string u) ∧ ((ps s).2 ≠ none → u = (ps s).1)) ∧ Has w (rdA g (ps s).2 :: T) w' :=
  h.acallE (A' := fun _ => rdA g (ps s).2) fun F hP => (Go.Proofs.YtiafmbfeigcinaaDoor.rdStr g s V F hP).mono fun e w' ⟨u, h1, h2, h3⟩ => ⟨u, ⟨h1, h2⟩, h3⟩
theorem Has.rdFlag (h : Has w (rdA g s :: T) V) :
    Calls Tryd.prog 63 #[pt g] V fun e w' => ∃ d : Bool, (e = .returned (.bool d) ∧ ((pf s).2 ≠ none → d = (pf s).1)) ∧ Has w (rdA g (pf s).2 :: T) w' :=
  h.acallE (A' := fun _ => rdA g (pf s).2) fun F hP => (Go.Proofs.YtiafmbfeigcinaaDoor.rdFlag g s V F hP).mono fun e w' ⟨u, h1, h2, h3⟩ => ⟨u, ⟨h1, h2⟩, h3⟩
theorem Has.rdDone (h : Has w (rdA g s :: T) V) :
    Calls Tryd.prog 65 #[pt g] V fun e w' => e = .returned (.bool (decide (s = some []))) ∧ w' = V := by
  obtain ⟨F, h1, _⟩ := h.get
  exact Go.Proofs.YtiafmbfeigcinaaDoor.rdDone g s V F h1
theorem pat_lit (V : World) (x : Nat) (is : List Nat) (t : TypeId) : PAt (V.alloc (.cells (is.map fun i => Value.pointer (some ⟨x, i, none⟩)).toArray t)) (some ⟨V.heap.size, 0, none⟩) is.length x is := by
  refine ⟨rfl, fun _ => ⟨_, _, rfl, fun i hi => ?_⟩⟩
  simp [hi]
theorem Has.rdNums (h : Has w (rdA g s :: blkA x t cs :: T) V) (is : List Nat) {b : Nat} (hb : b = V.heap.size) {pcs : Array Value} {k : Nat} {pt' : TypeId} (hcs : pcs = (is.map fun i => Value.pointer (some ⟨x, i, none⟩)).toArray) (hk : k = is.length)
    (hn : is.length ≤ 1000) (hi : ∀ i ∈ is, ∃ u, cs[i]? = some (.int .i64 u)) :
    Calls Tryd.prog 78 #[pt g, .slice (some ⟨b, 0, none⟩) k k] (V.alloc (.cells pcs pt')) fun e w' => ∃ vs : List Nat, (e = .returned (.tuple #[]) ∧ vs.length = is.length ∧ (∀ v ∈ vs, v ≤ 9007199254740991) ∧ ((pns is.length s).2 ≠ none → vs = (pns is.length s).1)) ∧ Has w (rdA g (pns is.length s).2 :: blkA x t (sets cs (ivs is vs)) :: T) w' := by
  subst hb hcs hk
  have h2 := h.both.acallE (A' := fun vs : List Nat => bothA (rdA g (pns is.length s).2) (blkA x t (sets cs (ivs is vs)))) (Q := fun vs e => e = .returned (.tuple #[]) ∧ vs.length = is.length ∧ (∀ v ∈ vs, v ≤ 9007199254740991) ∧ ((pns is.length s).2 ≠ none → vs = (pns is.length s).1))
    (W := V.alloc (.cells (is.map fun i => Value.pointer (some ⟨x, i, none⟩)).toArray pt')) (f := 78) (args := #[pt g, .slice (some ⟨V.heap.size, 0, none⟩) is.length is.length]) fun F hP => by
    have hlt := (bothA (rdA g s) (blkA x t cs)).lt hP
    refine (Go.Proofs.YtiafmbfeigcinaaDoor.rdNums g x t cs s (some ⟨V.heap.size, 0, none⟩) is.length is.length is _ F ((bothA (rdA g s) (blkA x t cs)).on hP (nbl V _).size fun k e => (nbl V _).block k (hlt k e)) (pat_lit V x is pt')
      (fun a ha e => by cases ha; have := hlt _ e; simp at this) hn hi).mono ?_
    rintro e w' ⟨h1, vs, h3, h4, h5, h6⟩
    exact ⟨vs, ⟨h1, h3, h4, h5⟩, h6.pre (nbl V _) hlt⟩
  exact h2.mono fun e w' ⟨vs, hq, hh⟩ => ⟨vs, hq, hh.unboth⟩
theorem Has.rowTurn {E : TypeId} {sz : Nat} {v v' : Value} {n n' : Nat} {xs xs' : List Value} {V' : World} (h : Has w (rowA E sz v n xs :: T) V) (h1 : V'.ownsRow 0 E sz v' n' xs') (hg : V.grownBy V' v.ownBlock) (hob : v'.ownBlock = v.ownBlock ∨ v'.ownBlock = some V.heap.size) :
    Has w (rowA E sz v' n' xs' :: T) V' := by
  obtain ⟨F, a1, _, a2⟩ := h.step
  refine a2 V' _ (fun k => v'.ownBlock = some k) (Grow.by_ hg fun k e => (a1.2 k).2 e) ⟨h1, fun k => Iff.rfl⟩ fun k e => ?_
  have hlt : k < V'.heap.size := (rowA E sz v' n' xs').lt (V := V') (F := fun k => v'.ownBlock = some k) ⟨h1, fun k => Iff.rfl⟩ k e
  rcases hob with hob | hob
  · exact .inl ((a1.2 k).2 (hob ▸ e))
  · rw [hob] at e
    injection e with e
    exact .inr ⟨by omega, hlt⟩
theorem Has.rowOf {E : TypeId} {sz : Nat} {v : Value} {n : Nat} {xs : List Value} (h : Has w (rowA E sz v n xs :: T) V) : V.ownsRow 0 E sz v n xs := by
  obtain ⟨F, a1, _⟩ := h.get
  exact a1.1
theorem Has.rd (h : Has w (rdA g s :: T) V) : ∃ A n c, Blk V g 98 #[.slice A n c, .bool s.isNone] ∧ ∀ b, s = some b → b.length ≤ 2048 := by
  obtain ⟨F, ⟨A, n, c, l, d1, d2, d3, d4, d5, d6, d7, d8⟩, _⟩ := h.get
  exact ⟨A, n, c, d1, fun b hb => by rw [d6 b hb]; exact d5⟩
end

end Go.Proofs.YtiafmbfeigcinaaDoor
set_option linter.unusedVariables false
set_option linter.unusedSimpArgs false
set_option maxRecDepth 100000
namespace Go.Proofs.YtiafmbfeigcinaaDoor
open Go.RowKit

theorem Blk.all2 {w : World} {g : Nat} {t : TypeId} {c0 c1 v0 v1 : Value} (h : Blk w g t #[c0, c1]) : Blk ((w.setCell ⟨g, 0, none⟩ v0).setCell ⟨g, 1, none⟩ v1) g t #[v0, v1] := by
  have := (h.set_ 0 v0).set_ 1 v1
  simpa using this
def AnsV (o : Option (ByteArray × Bool)) : Ending :=
  match o with
  | none => .returned (.tuple #[.string ⟨#[]⟩, .bool false, .int .i64 4])
  | some x => .returned (.tuple #[.string x.1, .bool x.2, .int .i64 0])
def AnsS (o : Option (Int × Int)) : Ending :=
  match o with
  | none => .returned (.tuple #[sv 0 0, .int .i64 4])
  | some x => .returned (.tuple #[sv x.1 x.2, .int .i64 0])
/-- How far a reader is behind a version; what it says. -/
def finV (s : Rst) : Rst := if (pf s).1 then (ps (pf s).2).2 else (pf s).2
theorem s0_long (t : ByteArray) {s0 : Rst} (hs0 : (if t.size ≤ 2048 then some (sb t) else none) = s0) : (s0 = some (sb t)) ∨ (s0 = none ∧ 2048 < (sb t).length) := by
  by_cases hz : t.size ≤ 2048
  · rw [if_pos hz] at hs0; exact .inl hs0.symm
  · rw [if_neg hz] at hs0; exact .inr ⟨hs0.symm, by rw [sb_len]; omega⟩
theorem tkV_of {b : List UInt8} {d : Bool} (hd : (pf (some b)).2 ≠ none → d = (pf (some b)).1) : tkV b = if d = true then (if (ps (pf (some b)).2).2 = some [] then some ((ps (pf (some b)).2).1, true) else none) else if (pf (some b)).2 = some [] then some (⟨#[]⟩, false) else none := by
  unfold tkV
  simp only
  cases h : (pf (some b)).2 with
  | none => cases (pf (some b)).1 <;> cases d <;> simp [ps_none]
  | some r =>
    rw [hd (by rw [h]; simp)]
set_option maxHeartbeats 1000000 in
theorem takeV_c (t : ByteArray) (w : World) (ht : t.size ≤ 225000000000000) :
    Calls Tryd.prog 39 #[.string t] w fun e w' => e = AnsV (tkV (sb t)) ∧ Below w.heap.size w w' := by
  have HN := Lib.hid ((Has.nil (Below.refl w.heap.size w)).rdNew t ht)
  obtain ⟨s0, hs0⟩ : ∃ s0 : Rst, (if t.size ≤ 2048 then some (sb t) else none) = s0 := ⟨_, rfl⟩
  rw [hs0] at HN
  have HS := Lib.hid (s0_long t hs0)
  clear hs0
  go_enter Tryd.func39, Tryd.ntmps39
  go_wp2_with (first
    | (go_at_call 62; refine HN.out.mono ?_; rintro e w1 ⟨g, rfl, h1⟩; have H1 := Lib.hid h1; clear h1 HN)
    | (go_at_call 63; refine H1.out.rdFlag.mono ?_; rintro e w2 ⟨d, ⟨rfl, hd⟩, h2⟩; have H2 := Lib.hid h2; clear h2 H1)
    | (go_at_call 64; refine H2.out.rdStr.mono ?_; rintro e w3 ⟨u, ⟨rfl, hu⟩, h3⟩; have H3 := Lib.hid h3; clear h3)
    | (go_at_call 65; first | (refine H3.out.rdDone.mono ?_; rintro e w6 ⟨rfl, rfl⟩; have hb3 := H3.out.bel) | (refine H2.out.rdDone.mono ?_; rintro e w6 ⟨rfl, rfl⟩; have hb3 := H2.out.bel)))
  all_goals go_ret3
  all_goals refine ⟨?_, hb3⟩
  · have e1 : d = true := by assumption
    have e2 : (!decide ((ps (pf s0).2).2 = some [])) = true := by assumption
    have hne : ¬ (ps (pf s0).2).2 = some [] := by simpa using e2
    rcases HS.out with rfl | ⟨rfl, hl⟩
    · rw [tkV_of hd, if_pos e1, if_neg hne]; rfl
    · rw [tkV_long hl]; rfl
  · have e1 : d = true := by assumption
    have e2 : (!decide ((ps (pf s0).2).2 = some [])) = false := by assumption
    have he : (ps (pf s0).2).2 = some [] := by simpa using e2
    rcases HS.out with rfl | ⟨rfl, hl⟩
    · rw [tkV_of hd, if_pos e1, if_pos he, ← hu (by rw [he]; simp)]; rfl
    · cases he
  · have e1 : d = false := by assumption
    have e2 : (!decide ((pf s0).2 = some [])) = true := by assumption
    have hne : ¬ (pf s0).2 = some [] := by simpa using e2
    rcases HS.out with rfl | ⟨rfl, hl⟩
    · rw [tkV_of hd, if_neg (by rw [e1]; simp), if_neg hne]; rfl
    · rw [tkV_long hl]; rfl
  · have e1 : d = false := by assumption
    have e2 : (!decide ((pf s0).2 = some [])) = false := by assumption
    have he : (pf s0).2 = some [] := by simpa using e2
    rcases HS.out with rfl | ⟨rfl, hl⟩
    · rw [tkV_of hd, if_neg (by rw [e1]; simp), if_pos he]; rfl
    · cases he
end Go.Proofs.YtiafmbfeigcinaaDoor
set_option linter.unusedVariables false
set_option linter.unusedSimpArgs false
set_option maxRecDepth 100000
namespace Go.Proofs.YtiafmbfeigcinaaDoor
open Go.RowKit

def str2 (l : List UInt8) (e : Int) : Ending := .returned (.tuple #[.string ⟨l.toArray⟩, .int .i64 e])
def markK (m : List UInt8) (k : ByteArray) (b : List UInt8) : Ending := if isK k then str2 (m ++ okey (sb k) ++ b) 0 else str2 [] 2
theorem okey_len (k : ByteArray) (h : k.size ≤ 32) : (okey (sb k)).length ≤ 66 := by
  have := esc_len (ob k)
  rw [ob_len] at this
  show (esc (ob k) ++ [0, 0]).length ≤ 66
  rw [List.length_append]
  simp
  omega
set_option maxHeartbeats 1000000 in
theorem marked_c (m k b : ByteArray) (w : World) (hM : MaxL w) (hm : m.size ≤ 10) (hb : b.size ≤ 100) :
    Calls Tryd.prog 60 #[.string m, .string k, .string b] w fun e w' => e = markK (sb m) k (sb b) ∧ Below w.heap.size w w' := by
  unfold markK
  cases h1 : isK k
  · go_enter Tryd.func60, Tryd.ntmps60
    go_wp2_with (go_at_call 53; refine (isKey_c _ _ h1 _).mono ?_; rintro e w1 ⟨rfl, rfl⟩)
    go_ret2
    exact ⟨rfl, Below.refl _ _⟩
  · have hk := isK_iff.1 h1
    have HK := Lib.hid (key k w (by omega) hM)
    have hl := okey_len k hk.2
    have hq0 : okey (ob k) = okey (sb k) := rfl
    rw [hq0] at HK
    obtain ⟨q, hq⟩ : ∃ q, okey (sb k) = q := ⟨_, rfl⟩
    rw [hq] at HK hl ⊢
    obtain ⟨qb, hqb⟩ : ∃ qb : ByteArray, ⟨q.toArray⟩ = qb := ⟨_, rfl⟩
    rw [hqb] at HK
    have hqs : qb.size ≤ 66 := by rw [← hqb]; exact hl
    have HE := Lib.hid (show (m ++ qb ++ b : ByteArray) = ⟨(sb m ++ q ++ sb b).toArray⟩ by
      apply ByteArray.ext
      rw [← hqb]
      simp [sb])
    clear hqb hq hq0 hl
    go_enter Tryd.func60, Tryd.ntmps60
    go_wp2_with (first
      | (go_at_call 53; refine (isKey_c _ _ h1 _).mono ?_; rintro e w1 ⟨rfl, rfl⟩)
      | (go_at_call 75; refine HK.out.mono ?_; rintro e w1 ⟨rfl, hb1⟩))
    go_ret2
    refine ⟨?_, hb1⟩
    have hE := HE.out
    rw [List.append_assoc] at hE
    simp only [if_true, List.append_assoc]
    unfold str2
    rw [← hE]
    rfl
theorem intentKey_c (k : ByteArray) (w : World) (hM : MaxL w) :
    Calls Tryd.prog 36 #[.string k] w fun e w' => e = markK [105] k [] ∧ Below w.heap.size w w' := by
  have HC := Lib.hid (marked_c ⟨#[105]⟩ k ⟨#[]⟩ w hM (by decide) (by decide))
  have e0 : markK (sb ⟨#[105]⟩) k (sb ⟨#[]⟩) = markK [105] k [] := rfl
  rw [e0] at HC
  obtain ⟨s, n, hs⟩ : ∃ s n, markK [105] k [] = .returned (.tuple #[.string s, .int .i64 n]) := by
    unfold markK
    split
    · exact ⟨_, _, rfl⟩
    · exact ⟨_, _, rfl⟩
  rw [hs] at HC ⊢
  clear e0 hs
  go_enter Tryd.func36, Tryd.ntmps36
  go_wp2_with (go_at_call 60; refine HC.out.mono ?_; rintro e w1 ⟨rfl, hb1⟩)
  go_ret2
  exact ⟨rfl, hb1⟩
theorem bound_c (w : World) : Calls Tryd.prog 40 #[] w fun e w' => e = .returned (.string ⟨#[98]⟩) ∧ w = w' := by
  go_enter Tryd.func40, Tryd.ntmps40
  go_wp2
  go_ret
  exact ⟨rfl, rfl⟩
theorem threshold_no (n : Int) (h : n < 1 ∨ 6 < n) (w : World) : Calls Tryd.prog 35 #[.int .i64 n] w fun e w' => e = str2 [] 2 ∧ Below w.heap.size w w' := by
  rcases h with h | h
  all_goals go_enter Tryd.func35, Tryd.ntmps35
  all_goals go_wp2
  all_goals go_ret2
  all_goals exact ⟨rfl, Below.refl _ _⟩
theorem threshold_c (n : Nat) (h1 : 1 ≤ n) (h6 : n ≤ 6) (w : World) : Calls Tryd.prog 35 #[.int .i64 (n : Int)] w fun e w' => e = str2 [103, UInt8.ofNat n] 0 ∧ Below w.heap.size w w' := by
  have hn : (n : Int) % 256 = (n : Int) := by omega
  have hcv := (at_b (w := w) (x := (n : Int)) (b := UInt8.ofNat n) 5 (by rw [UInt8.toNat_ofNat']; omega)).conv (P := Tryd.prog) 1 43 5 9 Tryd.underlying43 (by kernel_rfl) Tryd.underlying9
  go_enter Tryd.func35, Tryd.ntmps35
  go_wp2
  go_ret2
  exact ⟨rfl, nbl w _⟩
theorem cutPre0 (k : ByteArray) (c : UInt8) (w : World) (b : Bool) (hb : (sb k).head? = some c ↔ b = true) :
    Calls Tryd.prog 76 #[.string k, .string ⟨#[c]⟩] w fun e w' => e = .returned (.tuple #[.string (if b then k.extract 1 k.size else k), .bool b]) ∧ w = w' := by
  have hp : Lib.hasPrefix (ob k) (ob ⟨#[c]⟩) = b := by
    rw [Bool.eq_iff_iff, ← hb]
    show Lib.hasPrefix (sb k) [c] = true ↔ _
    generalize sb k = l
    cases l with
    | nil => simp [Lib.hasPrefix]
    | cons x l =>
      constructor
      · intro h
        have : c = x := by simpa [Lib.hasPrefix, List.isPrefixOf] using h
        rw [this]
        rfl
      · intro h
        have : x = c := by simpa using h
        subst this
        simp [Lib.hasPrefix, List.isPrefixOf]
  have HP := Lib.hid (hasPre0 k ⟨#[c]⟩ b w hp)
  have H1 : Calls Tryd.prog 86 #[.string k, .string ⟨#[c]⟩] w fun e w' => e = .returned (.tuple #[.string (if b then k.extract 1 k.size else k), .bool b]) ∧ w = w' := by
    have hk : b = true → 1 ≤ k.size := by
      intro h
      have := hb.2 h
      rw [← sb_len]
      cases hh : sb k with
      | nil => rw [hh] at this; cases this
      | cons x l => simp
    clear hb hp
    cases b
    · go_enter Tryd.func86, Tryd.ntmps86
      go_wp2_with (go_at_call 93; refine HP.out.mono ?_; rintro e w1 ⟨rfl, rfl⟩)
      go_ret2
      exact ⟨rfl, rfl⟩
    · have hk1 := hk rfl
      have hz : (⟨#[c]⟩ : ByteArray).size = 1 := rfl
      go_enter Tryd.func86, Tryd.ntmps86
      go_wp2_with (go_at_call 93; refine HP.out.mono ?_; rintro e w1 ⟨rfl, rfl⟩)
      go_ret2
      exact ⟨rfl, rfl⟩
  obtain ⟨z, hz⟩ : ∃ z : ByteArray, (if b = true then k.extract 1 k.size else k) = z := ⟨_, rfl⟩
  rw [hz] at H1 ⊢
  have H2 := Lib.hid H1
  clear H1 hp hb HP hz
  go_enter Tryd.func76, Tryd.ntmps76
  go_wp2_with (go_at_call 86; refine H2.out.mono ?_; rintro e w1 ⟨rfl, rfl⟩)
  go_ret2
  exact ⟨rfl, rfl⟩
theorem tkey_err : ∀ (k : Nat) (l : List UInt8) (n x : Nat), l.length ≤ k → tkey n l = .error x → x ≠ 0
  | _, [], n, x, _, h => by rw [tkey_nil] at h; cases h; decide
  | 0, _ :: _, _, _, hl, _ => by simp at hl
  | k + 1, b :: t, n, x, hl, h => by
    simp only [List.length_cons] at hl
    have step : ∀ (u : List UInt8) (c : UInt8), u.length ≤ k → (if n = 0 then (.error 5 : Except Nat (List UInt8 × List UInt8)) else (tkey (n - 1) u).map fun p => (c :: p.1, p.2)) = .error x → x ≠ 0 := by
      intro u c hu h
      split at h
      · cases h; decide
      · cases hr : tkey (n - 1) u with
        | ok p => rw [hr] at h; cases h
        | error y =>
          rw [hr] at h
          have hy := tkey_err k u (n - 1) y hu hr
          cases h
          exact hy
    by_cases hb : b = 0
    · subst hb
      cases t with
      | nil => rw [tkey_zero] at h; cases h; decide
      | cons c t =>
        by_cases c0 : c = 0
        · subst c0; rw [tkey_end] at h; cases h
        · by_cases c1 : c = 1
          · subst c1
            rw [tkey_esc] at h
            exact step t 0 (by simp at hl; omega) h
          · rw [tkey_bad n c0 c1] at h; cases h; decide
    · rw [tkey_byte n hb] at h
      exact step t b (by omega) h
/-- With which key a table's key begins behind a mark, and what stands behind it. -/
def rk (m : UInt8) (k : List UInt8) : Option (List UInt8 × List UInt8) :=
  if k.head? = some m then (match tkey 1000 (k.drop 1) with
    | .ok p => if 1 ≤ p.1.length ∧ p.1.length ≤ 32 then some p else none
    | .error _ => none) else none
def rkA (o : Option (List UInt8 × List UInt8)) : Ending :=
  match o with
  | none => .returned (.tuple #[.string ⟨#[]⟩, .string ⟨#[]⟩, .bool false])
  | some p => .returned (.tuple #[.string ⟨p.1.toArray⟩, .string ⟨p.2.toArray⟩, .bool true])
set_option maxHeartbeats 1000000 in
theorem readKey_c (m : UInt8) (k : ByteArray) (w : World) (hk : k.size ≤ 150000000000000) :
    Calls Tryd.prog 61 #[.string ⟨#[m]⟩, .string k] w fun e w' => e = rkA (rk m (sb k)) ∧ Below w.heap.size w w' := by
  by_cases hh : (sb k).head? = some m
  · have HP := Lib.hid (cutPre0 k m w true ⟨fun _ => rfl, fun _ => hh⟩)
    rw [if_pos rfl] at HP
    have HT := Lib.hid (take (k.extract 1 k.size) w (by rw [ByteArray.size_extract]; omega))
    have e1 : ob (k.extract 1 k.size) = (sb k).drop 1 := ob_sb _ ▸ (sb_end k 1)
    rw [e1] at HT
    unfold rk
    rw [if_pos hh]
    cases ht : tkey 1000 ((sb k).drop 1) with
    | error x =>
      rw [ht] at HT
      have hx : ((x : Int) != 0) = true := by have := tkey_err _ _ _ _ (Nat.le_refl _) ht; simpa using this
      clear ht e1
      go_enter Tryd.func61, Tryd.ntmps61
      go_wp2_with (first
        | (go_at_call 76; refine HP.out.mono ?_; rintro e w1 ⟨rfl, rfl⟩)
        | (go_at_call 77; refine HT.out.mono ?_; rintro e w2 ⟨rfl, hb⟩; rw [TkAns_err]))
      go_ret3
      exact ⟨rfl, hb⟩
    | ok p =>
      rw [ht] at HT
      obtain ⟨s, r⟩ := p
      have hik : isK ⟨s.toArray⟩ = decide (1 ≤ s.length ∧ s.length ≤ 32) := rfl
      simp only
      by_cases h1 : 1 ≤ s.length ∧ s.length ≤ 32
      · rw [if_pos h1]
        rw [decide_eq_true h1] at hik
        clear ht e1 h1
        go_enter Tryd.func61, Tryd.ntmps61
        go_wp2_with (first
          | (go_at_call 76; refine HP.out.mono ?_; rintro e w1 ⟨rfl, rfl⟩)
          | (go_at_call 77; refine HT.out.mono ?_; rintro e w2 ⟨rfl, hb⟩; rw [TkAns_ok])
          | (go_at_call 53; refine (isKey_c _ _ hik _).mono ?_; rintro e w3 ⟨rfl, rfl⟩))
        go_ret3
        exact ⟨rfl, hb⟩
      · rw [if_neg h1]
        rw [decide_eq_false h1] at hik
        clear ht e1 h1
        go_enter Tryd.func61, Tryd.ntmps61
        go_wp2_with (first
          | (go_at_call 76; refine HP.out.mono ?_; rintro e w1 ⟨rfl, rfl⟩)
          | (go_at_call 77; refine HT.out.mono ?_; rintro e w2 ⟨rfl, hb⟩; rw [TkAns_ok])
          | (go_at_call 53; refine (isKey_c _ _ hik _).mono ?_; rintro e w3 ⟨rfl, rfl⟩))
        go_ret3
        exact ⟨rfl, hb⟩
  · have HP := Lib.hid (cutPre0 k m w false ⟨fun h => absurd h hh, fun h => nomatch h⟩)
    rw [if_neg (by simp)] at HP
    unfold rk
    rw [if_neg hh]
    clear hh
    go_enter Tryd.func61, Tryd.ntmps61
    go_wp2_with (go_at_call 76; refine HP.out.mono ?_; rintro e w1 ⟨rfl, rfl⟩)
    go_ret3
    exact ⟨rfl, Below.refl _ _⟩
theorem readIntent_c (k : ByteArray) (w : World) (hk : k.size ≤ 150000000000000) (s : List UInt8) (hr : rk 105 (sb k) = some (s, [])) :
    Calls Tryd.prog 37 #[.string k] w fun e w' => e = str2 s 0 ∧ Below w.heap.size w w' := by
  have HC := Lib.hid (readKey_c 105 k w hk)
  rw [hr] at HC
  clear hr
  go_enter Tryd.func37, Tryd.ntmps37
  go_wp2_with (go_at_call 61; refine HC.out.mono ?_; rintro e w1 ⟨rfl, hb1⟩; unfold rkA; simp only)
  go_ret2
  exact ⟨rfl, hb1⟩
theorem readIntent_no (k : ByteArray) (w : World) (hk : k.size ≤ 150000000000000) (hr : rk 105 (sb k) = none) :
    Calls Tryd.prog 37 #[.string k] w fun e w' => e = str2 [] 4 ∧ Below w.heap.size w w' := by
  have HC := Lib.hid (readKey_c 105 k w hk)
  rw [hr] at HC
  clear hr
  go_enter Tryd.func37, Tryd.ntmps37
  go_wp2_with (go_at_call 61; refine HC.out.mono ?_; rintro e w1 ⟨rfl, hb1⟩; unfold rkA; simp only)
  go_ret2
  exact ⟨rfl, hb1⟩
end Go.Proofs.YtiafmbfeigcinaaDoor
set_option linter.unusedVariables false
set_option linter.unusedSimpArgs false
set_option maxRecDepth 100000
namespace Go.Proofs.YtiafmbfeigcinaaDoor
open Go.RowKit

theorem aw_rk : rk 105 (sb ⟨#[105, 97, 0, 0]⟩) = some ([97], []) := by
  unfold rk
  rw [if_pos (show (sb ⟨#[105, 97, 0, 0]⟩).head? = some 105 from rfl), show (sb ⟨#[105, 97, 0, 0]⟩).drop 1 = esc [97] ++ 0 :: 0 :: [] by rfl, tkey_okey [97] 1000 [] (by decide)]
  rfl
set_option maxHeartbeats 400000 in
theorem awake_c (w : World) (hM : MaxL w) :
    Calls Tryd.prog 12 #[] w fun e w' => e = .returned (.bool true) ∧ Below w.heap.size w w' := by
  have hT2 := threshold_c 2 (by decide) (by decide) w
  rw [show ((2 : Nat) : Int) = 2 from rfl] at hT2
  have T2 := Lib.hid hT2
  clear hT2
  have e2 : str2 [103, UInt8.ofNat 2] 0 = .returned (.tuple #[.string ⟨#[103, 2]⟩, .int .i64 0]) := rfl
  rw [e2] at T2
  have e7 : str2 [] 2 = .returned (.tuple #[.string ⟨#[]⟩, .int .i64 2]) := rfl
  have eK : markK [105] ⟨#[97]⟩ [] = .returned (.tuple #[.string ⟨#[105, 97, 0, 0]⟩, .int .i64 0]) := by kernel_rfl
  have eR : str2 [97] 0 = .returned (.tuple #[.string ⟨#[97]⟩, .int .i64 0]) := rfl
  have v1 : isV ⟨#[120]⟩ true = true := by decide
  have v2 : isV ⟨#[120]⟩ false = false := by decide
  have v3 : isV ⟨#[]⟩ false = true := by decide
  obtain ⟨vx, hvx⟩ : ∃ vx : ByteArray, ⟨(txV ⟨#[120]⟩ true).toArray⟩ = vx := ⟨_, rfl⟩
  obtain ⟨vg, hvg⟩ : ∃ vg : ByteArray, ⟨(txV ⟨#[]⟩ false).toArray⟩ = vg := ⟨_, rfl⟩
  have eV1 : ansT (isV ⟨#[120]⟩ true) (txV ⟨#[120]⟩ true) = .returned (.tuple #[.string vx, .int .i64 0]) := by rw [v1, ← hvx]; rfl
  have eV2 : ansT (isV ⟨#[120]⟩ false) (txV ⟨#[120]⟩ false) = .returned (.tuple #[.string ⟨#[]⟩, .int .i64 2]) := by rw [v2]; rfl
  have eV3 : ansT (isV ⟨#[]⟩ false) (txV ⟨#[]⟩ false) = .returned (.tuple #[.string vg, .int .i64 0]) := by rw [v3, ← hvg]; rfl
  have eT1 : AnsV (tkV (sb vx)) = .returned (.tuple #[.string ⟨#[120]⟩, .bool true, .int .i64 0]) := by
    rw [← hvx]
    show AnsV (tkV (txV ⟨#[120]⟩ true)) = _
    rw [tkV_tx _ _ v1]
    rfl
  have eT2 : AnsV (tkV (sb vg)) = .returned (.tuple #[.string ⟨#[]⟩, .bool false, .int .i64 0]) := by
    rw [← hvg]
    show AnsV (tkV (txV ⟨#[]⟩ false)) = _
    rw [tkV_tx _ _ v3]
    rfl
  have z1 : vx.size ≤ 225000000000000 := by
    rw [← hvx]
    show (txV ⟨#[120]⟩ true).length ≤ _
    have := txV_len _ _ v1
    omega
  have z2 : vg.size ≤ 225000000000000 := by
    rw [← hvg]
    show (txV ⟨#[]⟩ false).length ≤ _
    have := txV_len _ _ v3
    omega
  clear hvx hvg v1 v2 v3 e2
  have z3 : (⟨#[105, 97, 0, 0]⟩ : ByteArray).size ≤ 150000000000000 := by decide
  have E7 := Lib.hid e7
  have EK := Lib.hid eK
  have ER := Lib.hid eR
  have EV1 := Lib.hid eV1
  have EV2 := Lib.hid eV2
  have EV3 := Lib.hid eV3
  have ET1 := Lib.hid eT1
  have ET2 := Lib.hid eT2
  clear e7 eK eR eV1 eV2 eV3 eT1 eT2
  go_enter Tryd.func12, Tryd.ntmps12
  go_wp2_with (first
    | (go_at_call 35; with_reducible refine T2.out.mono ?_; rintro e w1 ⟨rfl, b1⟩; clear T2)
    | (go_at_call 35; with_reducible refine (threshold_no 7 (.inr (by decide)) _).mono ?_; rintro e w2 ⟨he, b2⟩; rw [E7.out] at he; subst he; have b2 := b1.trans (b2.mono b1.size); have m2 := hM.below b2)
    | (go_at_call 36; with_reducible refine (intentKey_c ⟨#[97]⟩ _ m2).mono ?_; rintro e w3 ⟨he, b3⟩; rw [EK.out] at he; subst he; have b3 := b2.trans (b3.mono b2.size))
    | (go_at_call 37; with_reducible refine (readIntent_c ⟨#[105, 97, 0, 0]⟩ _ z3 _ aw_rk).mono ?_; rintro e w4 ⟨he, b4⟩; rw [ER.out] at he; subst he; have b4 := b3.trans (b4.mono b3.size))
    | (go_at_call 38; with_reducible refine (version_c ⟨#[120]⟩ true _).mono ?_; rintro e w5 ⟨he, b5⟩; rw [EV1.out] at he; subst he; have b5 := b4.trans (b5.mono b4.size))
    | (go_at_call 38; with_reducible refine (version_c ⟨#[120]⟩ false _).mono ?_; rintro e w6 ⟨he, b6⟩; rw [EV2.out] at he; subst he; have b6 := b5.trans (b6.mono b5.size))
    | (go_at_call 38; with_reducible refine (version_c ⟨#[]⟩ false _).mono ?_; rintro e w7 ⟨he, b7⟩; rw [EV3.out] at he; subst he; have b7 := b6.trans (b7.mono b6.size))
    | (go_at_call 39; with_reducible refine (takeV_c vx _ z1).mono ?_; rintro e w8 ⟨he, b8⟩; rw [ET1.out] at he; subst he; have b8 := b7.trans (b8.mono b7.size))
    | (go_at_call 39; with_reducible refine (takeV_c vg _ z2).mono ?_; rintro e w9 ⟨he, b9⟩; rw [ET2.out] at he; subst he; have b9 := b8.trans (b9.mono b8.size))
    | (go_at_call 40; with_reducible refine (bound_c _).mono ?_; rintro e w10 ⟨rfl, rfl⟩))
  go_ret
  exact ⟨rfl, b9⟩
end Go.Proofs.YtiafmbfeigcinaaDoor
set_option linter.unusedVariables false
set_option linter.unusedSimpArgs false
set_option maxRecDepth 100000
namespace Go.Proofs.YtiafmbfeigcinaaDoor
open Go.RowKit

section
variable {w V V' : World} {l T : List As} {A : As} {F : Nat → Prop} {g : Nat}
theorem Sep.memL (h : Sep V l F) (hm : A ∈ l) : ∃ F1, A.p V F1 ∧ ∀ k, F1 k → F k := by
  induction l generalizing F with
  | nil => cases hm
  | cons B l ih =>
    obtain ⟨F1, F2, h1, h2, h3, h4⟩ := h
    rcases List.mem_cons.1 hm with rfl | hm
    · exact ⟨F1, h1, fun k e => (h4 k).2 (.inl e)⟩
    · obtain ⟨F3, h5, h6⟩ := ih h2 hm
      exact ⟨F3, h5, fun k e => (h4 k).2 (.inr (h6 k e))⟩
theorem Has.blkIn {t : TypeId} {cs : Array Value} (h : Has w l V) (hm : blkA g t cs ∈ l) : Blk V g t cs := by
  obtain ⟨⟨F, h1, h2⟩, _⟩ := h
  obtain ⟨F1, h3, h4⟩ := h1.memL hm
  exact h3.1
end
theorem infoCh : (Tryd.prog.info? 50).map (fun i => (i.zero, i.size, i.bytes)) = some (some (.agg #[.int .i64 0, .string ⟨#[]⟩, .bool false]), 3, 32) := by kernel_rfl
theorem infoWt : (Tryd.prog.info? 68).map (fun i => (i.zero, i.size, i.bytes)) = some (some (.agg #[.string ⟨#[]⟩, .int .i64 0]), 2, 24) := by kernel_rfl
theorem chc_len : ∀ l : List Ch, (l.flatMap chc).length = l.length * 3
  | [] => rfl
  | c :: l => by rw [List.flatMap_cons, List.length_append, chc_len l, List.length_cons]; show 3 + _ = _; omega
theorem wtc_len : ∀ l : List Wt, (l.flatMap wtc).length = l.length * 2
  | [] => rfl
  | c :: l => by rw [List.flatMap_cons, List.length_append, wtc_len l, List.length_cons]; show 2 + _ = _; omega
theorem lay_new (W : World) (cs : Array Value) (t : TypeId) : ∀ j u, cs.toList[j]? = some u → (W.alloc (.cells cs t)).cell? ((⟨W.heap.size, 0, none⟩ : Addr).add j) = some u := by
  intro j u hj
  rw [Go.WideShapes.add_plain, Nat.zero_add, (Blk.new W t cs).cell j]
  simpa using hj

/-- The intent that is read, its record; beside it: the reader's variable, the row of changes. -/
def xI (x rb g : Nat) (y : It) (v : Value) (l : List Ch) : List As := [blkA x 26 (itc y v), blkA rb 88 #[pt g], rowA 50 3 v l.length (l.flatMap chc)]
def xR (x rb g : Nat) (y : Rc) (v : Value) (l : List Wt) : List As := [blkA x 37 (rcc y v), blkA rb 88 #[pt g], rowA 68 2 v l.length (l.flatMap wtc)]


end Go.Proofs.YtiafmbfeigcinaaDoor
set_option linter.unusedVariables false
set_option linter.unusedSimpArgs false
set_option maxRecDepth 100000
namespace Go.Proofs.YtiafmbfeigcinaaDoor
open Go.RowKit

theorem pC_eats (b r : List UInt8) (h : (pC (some b)).2 = some r) : r.length < b.length := by
  rcases e : pC (some b) with ⟨c, o⟩
  rw [e] at h
  simp only at h
  subst h
  obtain ⟨e2, _⟩ := pC_back e
  injection e2 with e2
  rw [e2, List.length_append]
  have := enc_pos c.q.toNat
  unfold txC nbs
  rw [List.length_append]
  omega
theorem pW_eats (b r : List UInt8) (h : (pW (some b)).2 = some r) : r.length < b.length := by
  rcases e : pW (some b) with ⟨c, o⟩
  rw [e] at h
  simp only at h
  subst h
  obtain ⟨e2, _⟩ := pW_back e
  injection e2 with e2
  rw [e2, List.length_append]
  have := enc_pos c.k.size
  unfold txW tbs
  rw [List.length_append, List.length_append]
  omega
theorem chc_get : ∀ (l : List Ch) (i : Nat) (h : i < l.length), (l.flatMap chc)[i * 3]? = some (.int .i64 (l[i]'h).q) ∧ (l.flatMap chc)[i * 3 + 1]? = some (.string (l[i]'h).s) ∧ (l.flatMap chc)[i * 3 + 2]? = some (.bool (l[i]'h).d)
  | [], i, h => absurd h (by simp)
  | c :: l, 0, h => ⟨rfl, rfl, rfl⟩
  | c :: l, i + 1, h => by
    have := chc_get l i (by simpa using h)
    have e1 : (i + 1) * 3 = i * 3 + 3 := by omega
    rw [e1]
    simpa [chc] using this
theorem wtc_get : ∀ (l : List Wt) (i : Nat) (h : i < l.length), (l.flatMap wtc)[i * 2]? = some (.string (l[i]'h).k) ∧ (l.flatMap wtc)[i * 2 + 1]? = some (.int .i64 (l[i]'h).q)
  | [], i, h => absurd h (by simp)
  | c :: l, 0, h => ⟨rfl, rfl⟩
  | c :: l, i + 1, h => by
    have := wtc_get l i (by simpa using h)
    have e1 : (i + 1) * 2 = i * 2 + 2 := by omega
    rw [e1]
    simpa [wtc] using this
theorem chRow {w : World} {B n : Nat} {v : Value} {l : List Ch} (h : w.ownsRow B 50 3 v n (l.flatMap chc)) : ∃ A c, v = .slice A n c ∧ ChAt w A n l ∧ n ≤ c ∧ c ≤ 9223372036854775807 ∧ ∀ p, A = some p → p.block < w.heap.size := by
  have hl : l.length = n := by have := h.1; rw [chc_len] at this; omega
  rcases h.2 with ⟨rfl, h0⟩ | ⟨g, cap, cur, rfl, hb, hg, hnc, hcm, _⟩
  · exact ⟨none, 0, by rw [h0], ⟨hl, fun hm => by omega⟩, by omega, by omega, fun p hp => nomatch hp⟩
  · refine ⟨_, cap, rfl, ⟨hl, fun hm => ⟨g, 0, rfl, fun i hi => ?_⟩⟩, hnc, hcm, fun p hp => by cases hp; exact (Array.getElem?_eq_some_iff.1 hg).1⟩
    obtain ⟨h1, h2, h3⟩ := chc_get l i hi
    have c1 := World.ownsRow.cells h (g := g) rfl _ _ h1
    have c2 := World.ownsRow.cells h (g := g) rfl _ _ h2
    have c3 := World.ownsRow.cells h (g := g) rfl _ _ h3
    rw [Go.WideShapes.add_plain] at c1 c2 c3
    exact ⟨c1, by rw [Nat.add_assoc]; exact c2, by rw [Nat.add_assoc]; exact c3⟩
theorem wtRow {w : World} {B n : Nat} {v : Value} {l : List Wt} (h : w.ownsRow B 68 2 v n (l.flatMap wtc)) : ∃ A c, v = .slice A n c ∧ WtAt w A n l ∧ n ≤ c ∧ c ≤ 9223372036854775807 ∧ ∀ p, A = some p → p.block < w.heap.size := by
  have hl : l.length = n := by have := h.1; rw [wtc_len] at this; omega
  rcases h.2 with ⟨rfl, h0⟩ | ⟨g, cap, cur, rfl, hb, hg, hnc, hcm, _⟩
  · exact ⟨none, 0, by rw [h0], ⟨hl, fun hm => by omega⟩, by omega, by omega, fun p hp => nomatch hp⟩
  · refine ⟨_, cap, rfl, ⟨hl, fun hm => ⟨g, 0, rfl, fun i hi => ?_⟩⟩, hnc, hcm, fun p hp => by cases hp; exact (Array.getElem?_eq_some_iff.1 hg).1⟩
    obtain ⟨h1, h2⟩ := wtc_get l i hi
    have c1 := World.ownsRow.cells h (g := g) rfl _ _ h1
    have c2 := World.ownsRow.cells h (g := g) rfl _ _ h2
    rw [Go.WideShapes.add_plain] at c1 c2
    exact ⟨c1, by rw [Nat.add_assoc]; exact c2⟩
theorem Has.apart {w V : World} {l : List As} {A : Option Addr} {n c s m g : Nat} {E t : TypeId} {xs : List Value} {cs : Array Value} (h : Has w (rowA E s (.slice A n c) m xs :: l) V) (hm : blkA g t cs ∈ l) : ∀ a, A = some a → a.block ≠ g := by
  obtain ⟨⟨F, ⟨F1, F2, h1, h2, h3, h4⟩, _⟩, _⟩ := h
  obtain ⟨F3, a1, a2⟩ := h2.memL hm
  intro a ha e
  subst ha
  exact h3 g ((h1.2 g).2 (by rw [← e]; rfl)) (a2 g ((a1.2 g).2 rfl))
def zI : It := ⟨0, 0, 0, ⟨#[]⟩, 0, 0, 0, 0, []⟩
def zR : Rc := ⟨0, 0, 0, 0, ⟨#[]⟩, 0, 0, 0, 0, []⟩
/-- What TakeIntent, TakeRecord answer. -/
def AnsI (o : Option It) (w : World) (e : Ending) (w' : World) : Prop :=
  match o with
  | none => e = .returned (.tuple #[itv zI (.slice none 0 0), .int .i64 4])
  | some x => ∃ A n c, e = .returned (.tuple #[itv x (.slice A n c), .int .i64 0]) ∧ ChAt w' A n x.l ∧ n ≤ c ∧ c ≤ 9223372036854775807 ∧ ∀ p, A = some p → p.block < w'.heap.size
def AnsR (o : Option Rc) (w : World) (e : Ending) (w' : World) : Prop :=
  match o with
  | none => e = .returned (.tuple #[rcv zR (.slice none 0 0), .int .i64 4])
  | some x => ∃ A n c, e = .returned (.tuple #[rcv x (.slice A n c), .int .i64 0]) ∧ WtAt w' A n x.l ∧ n ≤ c ∧ c ≤ 9223372036854775807 ∧ ∀ p, A = some p → p.block < w'.heap.size
theorem four_ {α : Type} {l : List α} (h : l.length = 4) : ∃ a b c d, l = [a, b, c, d] := by
  match l, h with
  | [a, b, c, d], _ => exact ⟨a, b, c, d, rfl⟩
theorem three3 {α : Type} {l : List α} (h : l.length = 3) : ∃ a b c, l = [a, b, c] := by
  match l, h with
  | [a, b, c], _ => exact ⟨a, b, c, rfl⟩
theorem Blk.all9 {w : World} {g : Nat} {t : TypeId} {c0 c1 c2 c3 c4 c5 c6 c7 c8 v0 v1 v2 v3 v4 v5 v6 v7 v8 : Value} (h : Blk w g t #[c0, c1, c2, c3, c4, c5, c6, c7, c8]) : Blk (((((((((w.setCell ⟨g, 0, none⟩ v0).setCell ⟨g, 1, none⟩ v1).setCell ⟨g, 2, none⟩ v2).setCell ⟨g, 3, none⟩ v3).setCell ⟨g, 4, none⟩ v4).setCell ⟨g, 5, none⟩ v5).setCell ⟨g, 6, none⟩ v6).setCell ⟨g, 7, none⟩ v7).setCell ⟨g, 8, none⟩ v8) g t #[v0, v1, v2, v3, v4, v5, v6, v7, v8] := by
  have := (((((((((h.set_ 0 v0).set_ 1 v1).set_ 2 v2).set_ 3 v3).set_ 4 v4).set_ 5 v5).set_ 6 v6).set_ 7 v7).set_ 8 v8)
  simpa using this
theorem Blk.all10 {w : World} {g : Nat} {t : TypeId} {c0 c1 c2 c3 c4 c5 c6 c7 c8 c9 v0 v1 v2 v3 v4 v5 v6 v7 v8 v9 : Value} (h : Blk w g t #[c0, c1, c2, c3, c4, c5, c6, c7, c8, c9]) : Blk ((((((((((w.setCell ⟨g, 0, none⟩ v0).setCell ⟨g, 1, none⟩ v1).setCell ⟨g, 2, none⟩ v2).setCell ⟨g, 3, none⟩ v3).setCell ⟨g, 4, none⟩ v4).setCell ⟨g, 5, none⟩ v5).setCell ⟨g, 6, none⟩ v6).setCell ⟨g, 7, none⟩ v7).setCell ⟨g, 8, none⟩ v8).setCell ⟨g, 9, none⟩ v9) g t #[v0, v1, v2, v3, v4, v5, v6, v7, v8, v9] := by
  have := ((((((((((h.set_ 0 v0).set_ 1 v1).set_ 2 v2).set_ 3 v3).set_ 4 v4).set_ 5 v5).set_ 6 v6).set_ 7 v7).set_ 8 v8).set_ 9 v9)
  simpa using this

/-- How far the reader is behind it all. -/
def finI (s : Rst) : Rst := (many pC (pn (pns 4 (ps (pns 3 s).2).2).2).1 (pn (pns 4 (ps (pns 3 s).2).2).2).2).2
theorem finI_some (b : List UInt8) : finI (some b) = (rdI b).2 := rfl
theorem finI_none : finI none = none := rfl
theorem rdI_parts (b : List UInt8) {a0 a1 a2 b0 b1 b2 b3 : Nat} {u : ByteArray} {l : List Ch} (h1 : (pns 3 (some b)).2 ≠ none → [a0, a1, a2] = (pns 3 (some b)).1) (h2 : (ps (pns 3 (some b)).2).2 ≠ none → u = (ps (pns 3 (some b)).2).1)
    (h3 : (pns 4 (ps (pns 3 (some b)).2).2).2 ≠ none → [b0, b1, b2, b3] = (pns 4 (ps (pns 3 (some b)).2).2).1) (h4 : finI (some b) ≠ none → l = (many pC (pn (pns 4 (ps (pns 3 (some b)).2).2).2).1 (pn (pns 4 (ps (pns 3 (some b)).2).2).2).2).1)
    (hf : finI (some b) ≠ none) : (⟨a0, a1, a2, u, b0, b1, b2, b3, l⟩ : It) = (rdI b).1 := by
  have k4 : (pn (pns 4 (ps (pns 3 (some b)).2).2).2).2 ≠ none := fun e => hf (by unfold finI; rw [e, many_none])
  have k3 : (pns 4 (ps (pns 3 (some b)).2).2).2 ≠ none := fun e => k4 (by rw [e]; rfl)
  have k2 : (ps (pns 3 (some b)).2).2 ≠ none := pns_noneR k3
  have k1 : (pns 3 (some b)).2 ≠ none := fun e => k2 (by rw [e]; rfl)
  have j1 := h1 k1
  have j2 := h2 k2
  have j3 := h3 k3
  have j4 := h4 hf
  simp only [pns, List.cons.injEq, and_true] at j1 j3
  obtain ⟨e0, e1, e2⟩ := j1
  obtain ⟨e3, e4, e5, e6⟩ := j3
  subst e0 e1 e2 e3 e4 e5 e6 j2 j4
  rfl

theorem ret_it {fn : Func} {R : Ending → World → Prop} {a : Act} {w : World} {p u : Tmp} {g : Nat} {cs : Array Value} (hr : fn.results = #[.cell p 26, .tmp u]) (hp : a.tmps.getD p undef = .pointer (some ⟨g, 0, none⟩))
    (hB : Blk w g 26 cs) (hs : cs.size = 9) (hd : a.defers = []) (hR : R (.returned (.tuple #[.agg cs, a.tmps.getD u undef])) w) : bodyPost Tryd.prog fn R .ret a w := by
  refine bodyPost_ret ?_ hd hR
  have hp' : a.tmps[p]?.getD undef = .pointer (some ⟨g, 0, none⟩) := by simpa using hp
  simp [results, hr, hp', asAddr, run_loadVar_row w g 26 26 _ (0, 0) _ hB Tryd.underlying26 rfl (by rw [hs]; kernel_rfl)]
theorem checkI2 (x : It) (A : Option Addr) (n c : Nat) (w : World) (hx : ChAt w A n x.l) (hn : n ≤ 9223372036854775807) :
    ∃ (k : Int) (b : Bool), (k != 0) = b ∧ b = !mayI x ∧ Calls Tryd.prog 8 #[itv x (.slice A n c)] w fun e w' => e = .returned (.int .i64 k) ∧ Below w.heap.size w w' :=
  ⟨_, _, rfl, by cases mayI x <;> rfl, checkI x A n c w hx hn⟩

/-- How far the reader is behind it all. -/
def finR (s : Rst) : Rst := (many pW (pn (pns 4 (ps (pns 4 s).2).2).2).1 (pn (pns 4 (ps (pns 4 s).2).2).2).2).2
theorem finR_some (b : List UInt8) : finR (some b) = (rdR b).2 := rfl
theorem finR_none : finR none = none := rfl
theorem rdR_parts (b : List UInt8) {a0 a1 a2 a3 b0 b1 b2 b3 : Nat} {u : ByteArray} {l : List Wt} (h1 : (pns 4 (some b)).2 ≠ none → [a0, a1, a2, a3] = (pns 4 (some b)).1) (h2 : (ps (pns 4 (some b)).2).2 ≠ none → u = (ps (pns 4 (some b)).2).1)
    (h3 : (pns 4 (ps (pns 4 (some b)).2).2).2 ≠ none → [b0, b1, b2, b3] = (pns 4 (ps (pns 4 (some b)).2).2).1) (h4 : finR (some b) ≠ none → l = (many pW (pn (pns 4 (ps (pns 4 (some b)).2).2).2).1 (pn (pns 4 (ps (pns 4 (some b)).2).2).2).2).1)
    (hf : finR (some b) ≠ none) : (⟨a0, a1, a2, a3, u, b0, b1, b2, b3, l⟩ : Rc) = (rdR b).1 := by
  have k4 : (pn (pns 4 (ps (pns 4 (some b)).2).2).2).2 ≠ none := fun e => hf (by unfold finR; rw [e, many_none])
  have k3 : (pns 4 (ps (pns 4 (some b)).2).2).2 ≠ none := fun e => k4 (by rw [e]; rfl)
  have k2 : (ps (pns 4 (some b)).2).2 ≠ none := pns_noneR k3
  have k1 : (pns 4 (some b)).2 ≠ none := fun e => k2 (by rw [e]; rfl)
  have j1 := h1 k1
  have j2 := h2 k2
  have j3 := h3 k3
  have j4 := h4 hf
  simp only [pns, List.cons.injEq, and_true] at j1 j3
  obtain ⟨e0, e1, e2, e7⟩ := j1
  obtain ⟨e3, e4, e5, e6⟩ := j3
  subst e0 e1 e2 e7 e3 e4 e5 e6 j2 j4
  rfl

theorem ret_rc {fn : Func} {R : Ending → World → Prop} {a : Act} {w : World} {p u : Tmp} {g : Nat} {cs : Array Value} (hr : fn.results = #[.cell p 37, .tmp u]) (hp : a.tmps.getD p undef = .pointer (some ⟨g, 0, none⟩))
    (hB : Blk w g 37 cs) (hs : cs.size = 10) (hd : a.defers = []) (hR : R (.returned (.tuple #[.agg cs, a.tmps.getD u undef])) w) : bodyPost Tryd.prog fn R .ret a w := by
  refine bodyPost_ret ?_ hd hR
  have hp' : a.tmps[p]?.getD undef = .pointer (some ⟨g, 0, none⟩) := by simpa using hp
  simp [results, hr, hp', asAddr, run_loadVar_row w g 37 37 _ (0, 0) _ hB Tryd.underlying37 rfl (by rw [hs]; kernel_rfl)]
theorem checkR2 (x : Rc) (A : Option Addr) (n c : Nat) (w : World) (hx : WtAt w A n x.l) (hn : n ≤ 9223372036854775807) :
    ∃ (k : Int) (b : Bool), (k != 0) = b ∧ b = !mayR x ∧ Calls Tryd.prog 16 #[rcv x (.slice A n c)] w fun e w' => e = .returned (.int .i64 k) ∧ Below w.heap.size w w' :=
  ⟨_, _, rfl, by cases mayR x <;> rfl, checkR x A n c w hx hn⟩
end Go.Proofs.YtiafmbfeigcinaaDoor
set_option linter.unusedVariables false
set_option linter.unusedSimpArgs false
set_option maxRecDepth 100000
namespace Go.Proofs.YtiafmbfeigcinaaDoor
open Go.RowKit

set_option maxHeartbeats 2000000 in
theorem intent_c (x : It) (A : Option Addr) (n c : Nat) (w : World) (hx : ChAt w A n x.l) (hn : n ≤ 9223372036854775807) :
    Calls Tryd.prog 6 #[itv x (.slice A n c)] w fun e w' => e = ansT (mayI x) (txI x) ∧ Below w.heap.size w w' := by
  have hB0 := nbl w (.cells (itc x (.slice A n c)) 26)
  have HK := Lib.hid (checkI x A n c (w.alloc (.cells (itc x (.slice A n c)) 26)) (hx.below hB0) hn)
  have HB0 := Lib.hid hB0
  cases hm : mayI x
  · rw [hm] at HK
    obtain ⟨id, ep, pr, an, sw, sl, bw, bl, l⟩ := x
    clear hB0 hx
    go_enter Tryd.func6, Tryd.ntmps6
    go_wp2_with (go_at_call 8; refine HK.out.mono ?_; rintro e w1 ⟨rfl, hb1⟩)
    go_ret2
    exact ⟨rfl, HB0.out.trans (hb1.mono (by simp))⟩
  · rw [hm] at HK
    have hlen := txI_len x hm
    have hmm := hm
    simp only [mayI, hdr, Bool.and_eq_true] at hmm
    obtain ⟨⟨⟨⟨⟨⟨⟨m1, m2⟩, m3⟩, m4⟩, m5⟩, m6⟩, m7⟩, m8⟩ := hmm
    have m1 := isI_iff.1 m1
    have m2 := isN_iff.1 m2
    have m3 := isP_iff.1 m3
    have m4 := (isK_iff.1 m4).2
    have m7 := of_decide_eq_true m7
    have m9 := rise_all m8
    have hxl := hx.1
    have hxn : n ≤ 16 := by omega
    obtain ⟨p4, hp4⟩ : ∃ p4, p4 = ((([] ++ [x.id, x.ep, x.pr].flatMap nbs) ++ tbs x.an) ++ [(x.sw, x.sl), (x.bw, x.bl)].flatMap txP) ++ [(n : Int)].flatMap nbs := ⟨_, rfl⟩
    have hT : txI x = p4 ++ x.l.flatMap txC := by
      rw [hp4]
      unfold txI
      rw [hxl]
      simp [txP, txS, List.append_assoc]
    have hl4 : p4.length ≤ 2048 := by
      have := congrArg List.length hT
      rw [List.length_append] at this
      omega
    have hl3 : ((([] ++ [x.id, x.ep, x.pr].flatMap nbs) ++ tbs x.an) ++ [(x.sw, x.sl), (x.bw, x.bl)].flatMap txP).length ≤ 2048 := by
      have := congrArg List.length hp4
      rw [List.length_append] at this
      omega
    have hl2 : (([] ++ [x.id, x.ep, x.pr].flatMap nbs) ++ tbs x.an).length ≤ 2048 := by
      rw [List.length_append] at hl3
      omega
    have hl1 : ([] ++ [x.id, x.ep, x.pr].flatMap nbs).length ≤ 2048 := by
      rw [List.length_append] at hl2
      omega
    have hS : ∀ p ∈ [(x.sw, x.sl), (x.bw, x.bl)], mayP p = true := by simp [mayP, m5, m6]
    have HH0 := Lib.hid ((Has.nil (Below.refl w.heap.size w)).newBlk 26 (itc x (.slice A n c)))
    have HX := Lib.hid hx
    have HP4 := Lib.hid hp4
    have HTx := Lib.hid hT
    have hfb : ∀ j, ((x.l.take j).flatMap txC).length ≤ 4000 := by
      intro j
      have := flat_take_le txC x.l j 88 fun c hc => by
        obtain ⟨q1, q2, q3⟩ := m9 c hc
        have r1 := num_len q2
        have r2 := fl_len c.d
        have r3 := str_len q3 (Nat.le_refl _)
        unfold txC
        simp only [List.length_append]
        omega
      omega
    have HM9 := Lib.hid m9
    have HFB := Lib.hid hfb
    have HFT := Lib.hid (fun j h => flat_take txC x.l j h)
    obtain ⟨id, ep, pr, an, sw, sl, bw, bl, l⟩ := x
    simp only at hl1 hl2 hl3 hS m1 m2 m3 m4 hxl
    clear hx hp4 hT m5 m6 m7 m8 m9 hm hB0 hlen hfb
    go_enter Tryd.func6, Tryd.ntmps6
    go_wp2_with (first
      | (go_at_call 8; refine HK.out.mono ?_; rintro e w1 ⟨rfl, hb1⟩
         have H1 := (HH0.out.keep hb1).penNew
         have kx := H1.swap.blk.1
         have k0 := kx.cell 0
         have k1 := kx.cell 1
         have k2 := kx.cell 2
         simp at k0 k1 k2)
      | (go_at_call 20; refine (H1.penNums (by simp) [id, ep, pr] (by simp; omega) (by simp) (by simp) rfl rfl).mono ?_; rintro e w2 ⟨rfl, h2⟩
         clear H1 kx
         have ka := h2.swap.blk.1.cell 3
         simp at ka)
      | (go_at_call 21; refine (h2.penStr an (by omega) (by omega)).mono ?_; rintro e w3 ⟨rfl, h3⟩
         clear h2 ka
         have ky := h3.swap.blk.1
         have k4 := ky.cell 4
         have k5 := ky.cell 5
         have k6 := ky.cell 6
         have k7 := ky.cell 7
         simp at k4 k5 k6 k7)
      | (go_at_call 22; refine (h3.penStamps (by simp) [(sw, sl), (bw, bl)] hS (by simp) (by omega) rfl rfl).mono ?_; rintro e w4 ⟨rfl, h4⟩
         clear h3 ky
         have kl := h4.swap.blk.1.cell 8
         simp at kl)
      | (go_at_call 20; refine (h4.penNums (by simp) [(n : Int)] (by simp; omega) (by simp) (by omega) rfl rfl).mono ?_; rintro e w5 ⟨rfl, h5⟩
         clear h4 kl
         have km := h5.swap.blk.1.cell 8
         simp at km))
    rw [← HP4.out] at h5
    have H5 := Lib.hid h5
    clear h5 hl1 hl2 hl3 hS HH0 HK HP4 km
    go_loopw [38] (fun i wr => ∃ j : Nat, j ≤ n ∧ i = .int .i64 j ∧ Hid (Has w (penA w1.heap.size (p4 ++ (l.take j).flatMap txC) :: blkA w.heap.size 26 (itc ⟨id, ep, pr, an, sw, sl, bw, bl, l⟩ (.slice A n c)) :: []) wr)) (fun i _ => n - (intOf i).toNat)
    case atStart => exact ⟨0, Nat.zero_le _, rfl, by simpa using H5⟩
    case round =>
      obtain ⟨j, hj, rfl, HH⟩ := hrel
      by_cases hlt : j < n
      · have hjl : j < l.length := by omega
        have hfa := HX.out.below HH.out.bel
        obtain ⟨b, o, rfl, hc⟩ := hfa.2 (by omega)
        have hcj := hc j hjl
        have hq3 := HM9.out _ (List.getElem_mem hjl)
        have hfl := HFT.out j hjl
        have hfb := HFB.out j
        obtain ⟨cc, hcc⟩ : ∃ cc, l[j]'hjl = cc := ⟨_, rfl⟩
        rw [hcc] at hcj hq3
        try simp only at hfl
        rw [hcc] at hfl
        obtain ⟨q, s, d⟩ := cc
        simp only at hcj hq3
        have hq : 0 ≤ q ∧ q ≤ 9007199254740991 := ⟨hq3.1, hq3.2.1⟩
        have hs : s.size ≤ 64 := hq3.2.2
        have hnl := num_len hq.2
        have hdl := fl_len d
        have HA := Lib.hid (HH.out.newBlk 50 #[.int .i64 q, .string s, .bool d]).swap
        generalize hys : p4 ++ (l.take j).flatMap txC = ys at *
        have hyl : ys.length ≤ 6100 := by rw [← hys, List.length_append]; (try simp only at hfb); omega
        have HFL := Lib.hid (show ys ++ txC ⟨q, s, d⟩ = p4 ++ (l.take (j + 1)).flatMap txC by rw [hfl, ← hys, List.append_assoc])
        obtain ⟨k0, kr⟩ := hcj
        clear hc hfa hfl hys hfb hcc HH hq3
        go_wp2_with (first
          | (go_at_call 20; refine (HA.out.penNums (by simp) [q] (by simpa using hq) (by simp) (by omega) rfl rfl).mono ?_; rintro e z1 ⟨rfl, y1⟩
             have c2 := y1.swap.blk.1.cell 2
             simp at c2)
          | (go_at_call 23; refine (y1.penFlag d (by simp only [List.length_append, List.flatMap_cons, List.flatMap_nil, List.append_nil]; omega)).mono ?_; rintro e z2 ⟨rfl, y2⟩
             have c1 := y2.swap.blk.1.cell 1
             simp at c1)
          | (go_at_call 21; refine (y2.penStr s hs (by simp only [List.length_append, List.flatMap_cons, List.flatMap_nil, List.append_nil]; omega)).mono ?_; rintro e z3 ⟨rfl, y3⟩))
        go_roundw
        case rel =>
          refine ⟨j + 1, by omega, by go_num, Lib.hid ?_⟩
          rw [← HFL.out]
          have := y3.swap.tail
          simpa [txC, List.append_assoc] using this
        case measure => simp [intOf]; omega
      · have hjn : j = n := by omega
        have h6 := HH.out
        rw [List.take_of_length_le (by omega)] at h6
        have ht := HTx.out
        try simp only at ht
        clear HH
        go_wp2_with (go_at_call 24; refine h6.penText.mono ?_; rintro e w7 ⟨rfl, rfl⟩)
        go_ret2
        refine ⟨?_, h6.bel⟩
        rw [ansT_t, ht]
        rfl

set_option maxHeartbeats 2000000 in
theorem record_c (x : Rc) (A : Option Addr) (n c : Nat) (w : World) (hx : WtAt w A n x.l) (hn : n ≤ 9223372036854775807) :
    Calls Tryd.prog 14 #[rcv x (.slice A n c)] w fun e w' => e = ansT (mayR x) (txR x) ∧ Below w.heap.size w w' := by
  have hB0 := nbl w (.cells (rcc x (.slice A n c)) 37)
  have HK := Lib.hid (checkR x A n c (w.alloc (.cells (rcc x (.slice A n c)) 37)) (hx.below hB0) hn)
  have HB0 := Lib.hid hB0
  cases hm : mayR x
  · rw [hm] at HK
    obtain ⟨id, ep, st, pr, an, sw, sl, bw, bl, l⟩ := x
    clear hB0 hx
    go_enter Tryd.func14, Tryd.ntmps14
    go_wp2_with (go_at_call 16; refine HK.out.mono ?_; rintro e w1 ⟨rfl, hb1⟩)
    go_ret2
    exact ⟨rfl, HB0.out.trans (hb1.mono (by simp))⟩
  · rw [hm] at HK
    have hlen := txR_len x hm
    have hmm := hm
    simp only [mayR, hdr, Bool.and_eq_true] at hmm
    obtain ⟨⟨⟨⟨⟨⟨⟨m1, m2⟩, m3⟩, m4⟩, m5⟩, m6⟩, m7⟩, m8⟩ := hmm
    have m1 := isI_iff.1 m1
    have m2 := isN_iff.1 m2
    have m3 := isP_iff.1 m3
    have m4 := (isK_iff.1 m4).2
    have m7 := isS_iff.1 m7
    obtain ⟨m8, m9⟩ := areW_all m8
    have hxl := hx.1
    have hxn : n ≤ 32 := by omega
    obtain ⟨p4, hp4⟩ : ∃ p4, p4 = ((([] ++ [x.id, x.ep, x.st, x.pr].flatMap nbs) ++ tbs x.an) ++ [(x.sw, x.sl), (x.bw, x.bl)].flatMap txP) ++ [(n : Int)].flatMap nbs := ⟨_, rfl⟩
    have hT : txR x = p4 ++ x.l.flatMap txW := by
      rw [hp4]
      unfold txR
      rw [hxl]
      simp [txP, txS, List.append_assoc]
    have hl4 : p4.length ≤ 2048 := by
      have := congrArg List.length hT
      rw [List.length_append] at this
      omega
    have hl3 : ((([] ++ [x.id, x.ep, x.st, x.pr].flatMap nbs) ++ tbs x.an) ++ [(x.sw, x.sl), (x.bw, x.bl)].flatMap txP).length ≤ 2048 := by
      have := congrArg List.length hp4
      rw [List.length_append] at this
      omega
    have hl2 : (([] ++ [x.id, x.ep, x.st, x.pr].flatMap nbs) ++ tbs x.an).length ≤ 2048 := by
      rw [List.length_append] at hl3
      omega
    have hl1 : ([] ++ [x.id, x.ep, x.st, x.pr].flatMap nbs).length ≤ 2048 := by
      rw [List.length_append] at hl2
      omega
    have hS : ∀ p ∈ [(x.sw, x.sl), (x.bw, x.bl)], mayP p = true := by simp [mayP, m5, m6]
    have HH0 := Lib.hid ((Has.nil (Below.refl w.heap.size w)).newBlk 37 (rcc x (.slice A n c)))
    have HX := Lib.hid hx
    have HP4 := Lib.hid hp4
    have HTx := Lib.hid hT
    have hfb : ∀ j, ((x.l.take j).flatMap txW).length ≤ 4000 := by
      intro j
      have := flat_take_le txW x.l j 80 fun c hc => by
        obtain ⟨q1, q2, q3⟩ := m9 c hc
        have r1 := num_len q2
        have r3 := str_len q3 (Nat.le_refl _)
        unfold txW
        simp only [List.length_append]
        omega
      omega
    have HM9 := Lib.hid m9
    have HFB := Lib.hid hfb
    have HFT := Lib.hid (fun j h => flat_take txW x.l j h)
    obtain ⟨id, ep, st, pr, an, sw, sl, bw, bl, l⟩ := x
    simp only at hl1 hl2 hl3 hS m1 m2 m3 m4 m7 hxl
    clear hx hp4 hT m5 m6  m8 m9 hm hB0 hlen hfb
    go_enter Tryd.func14, Tryd.ntmps14
    go_wp2_with (first
      | (go_at_call 16; refine HK.out.mono ?_; rintro e w1 ⟨rfl, hb1⟩
         have H1 := (HH0.out.keep hb1).penNew
         have kx := H1.swap.blk.1
         have k0 := kx.cell 0
         have k1 := kx.cell 1
         have k2 := kx.cell 2
         have k3 := kx.cell 3
         simp at k0 k1 k2 k3)
      | (go_at_call 20; refine (H1.penNums (by simp) [id, ep, st, pr] (by simp; omega) (by simp) (by simp) rfl rfl).mono ?_; rintro e w2 ⟨rfl, h2⟩
         clear H1 kx
         have ka := h2.swap.blk.1.cell 4
         simp at ka)
      | (go_at_call 21; refine (h2.penStr an (by omega) (by omega)).mono ?_; rintro e w3 ⟨rfl, h3⟩
         clear h2 ka
         have ky := h3.swap.blk.1
         have k5 := ky.cell 5
         have k6 := ky.cell 6
         have k7 := ky.cell 7
         have k8 := ky.cell 8
         simp at k5 k6 k7 k8)
      | (go_at_call 22; refine (h3.penStamps (by simp) [(sw, sl), (bw, bl)] hS (by simp) (by omega) rfl rfl).mono ?_; rintro e w4 ⟨rfl, h4⟩
         clear h3 ky
         have kl := h4.swap.blk.1.cell 9
         simp at kl)
      | (go_at_call 20; refine (h4.penNums (by simp) [(n : Int)] (by simp; omega) (by simp) (by omega) rfl rfl).mono ?_; rintro e w5 ⟨rfl, h5⟩
         clear h4 kl
         have km := h5.swap.blk.1.cell 9
         simp at km))
    rw [← HP4.out] at h5
    have H5 := Lib.hid h5
    clear h5 hl1 hl2 hl3 hS HH0 HK HP4 km
    go_loopw [40] (fun i wr => ∃ j : Nat, j ≤ n ∧ i = .int .i64 j ∧ Hid (Has w (penA w1.heap.size (p4 ++ (l.take j).flatMap txW) :: blkA w.heap.size 37 (rcc ⟨id, ep, st, pr, an, sw, sl, bw, bl, l⟩ (.slice A n c)) :: []) wr)) (fun i _ => n - (intOf i).toNat)
    case atStart => exact ⟨0, Nat.zero_le _, rfl, by simpa using H5⟩
    case round =>
      obtain ⟨j, hj, rfl, HH⟩ := hrel
      by_cases hlt : j < n
      · have hjl : j < l.length := by omega
        have hfa := HX.out.below HH.out.bel
        obtain ⟨b, o, rfl, hc⟩ := hfa.2 (by omega)
        have hcj := hc j hjl
        have hq3 := HM9.out _ (List.getElem_mem hjl)
        have hfl := HFT.out j hjl
        have hfb := HFB.out j
        obtain ⟨cc, hcc⟩ : ∃ cc, l[j]'hjl = cc := ⟨_, rfl⟩
        rw [hcc] at hcj hq3
        try simp only at hfl
        rw [hcc] at hfl
        obtain ⟨s, q⟩ := cc
        simp only at hcj hq3
        have hq : 0 ≤ q ∧ q ≤ 9007199254740991 := ⟨hq3.1, hq3.2.1⟩
        have hs : s.size ≤ 64 := hq3.2.2
        have hnl := num_len hq.2
        have hsl := str_len hs (Nat.le_refl _)
        have HA := Lib.hid (HH.out.newBlk 68 #[.string s, .int .i64 q]).swap
        generalize hys : p4 ++ (l.take j).flatMap txW = ys at *
        have hyl : ys.length ≤ 6100 := by rw [← hys, List.length_append]; (try simp only at hfb); omega
        have HFL := Lib.hid (show ys ++ txW ⟨s, q⟩ = p4 ++ (l.take (j + 1)).flatMap txW by rw [hfl, ← hys, List.append_assoc])
        obtain ⟨k0, kr⟩ := hcj
        clear hc hfa hfl hys hfb hcc HH hq3
        go_wp2_with (first
          | (go_at_call 21; refine (HA.out.penStr s hs (by omega)).mono ?_; rintro e z1 ⟨rfl, y1⟩
             have c1 := y1.swap.blk.1.cell 1
             simp at c1)
          | (go_at_call 20; refine (y1.penNums (by simp) [q] (by simpa using hq) (by simp) (by simp only [List.length_append]; omega) rfl rfl).mono ?_; rintro e z3 ⟨rfl, y3⟩))
        go_roundw
        case rel =>
          refine ⟨j + 1, by omega, by go_num, Lib.hid ?_⟩
          rw [← HFL.out]
          have := y3.swap.tail
          simpa [txW, List.append_assoc] using this
        case measure => simp [intOf]; omega
      · have hjn : j = n := by omega
        have h6 := HH.out
        rw [List.take_of_length_le (by omega)] at h6
        have ht := HTx.out
        try simp only at ht
        clear HH
        go_wp2_with (go_at_call 24; refine h6.penText.mono ?_; rintro e w7 ⟨rfl, rfl⟩)
        go_ret2
        refine ⟨?_, h6.bel⟩
        rw [ansT_t, ht]
        rfl
end Go.Proofs.YtiafmbfeigcinaaDoor
