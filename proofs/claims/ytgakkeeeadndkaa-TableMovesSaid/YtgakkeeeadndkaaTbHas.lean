/-
  Layer 10: a walk's own tables: each call takes them one step further; what stays in a range's rounds.
-/
import Derived.Test.YtgakkeeeadndkaaTbRows
import Derived.Test.YtgakkeeeadndkaaTbRefDo
set_option linter.unusedVariables false
namespace Go.Proofs.Ytgakkeeeadndkaa
open Go.RowKit Go.Shelf

def CelA (A : As) : Prop := ∀ V F, A.p V F → Cel V F
theorem cel_tb (p : Nat) (r : List Rw) : CelA (tbA p r) := fun V F h => tbA_cel h
theorem cel_rt (b : Nat) (r : List Rw) : CelA (rtA b r) := fun V F h => rtA_cel h
theorem cel_blk (g : Nat) (t : TypeId) (cs : Array Value) : CelA (blkA g t cs) := fun V F h k e => by
  obtain rfl := (h.2 k).1 e
  exact h.1.cel
theorem cel_row (E : TypeId) (size : Nat) (v : Value) (n : Nat) (xs : List Value) : CelA (rowA E size v n xs) := fun V F h k e => by
  have e2 := (h.2 k).1 e
  rcases h.1.2 with ⟨rfl, _⟩ | ⟨g, cap, cur, rfl, _, hh, _⟩
  · cases e2
  · have e3 : some g = some k := e2
    injection e3 with e3
    subst e3
    exact ⟨_, hh, rfl⟩
section
variable {w V V' W : World} {l T : List As} {A A2 A' B C D E : As} {F : Nat → Prop} {p b g g1 g2 g3 : Nat} {r r' : List Rw}
theorem Sep.cel (h : Sep V l F) (hc : ∀ A ∈ l, CelA A) : Cel V F := by
  induction l generalizing F with
  | nil => exact fun k e => absurd e (h k)
  | cons A l ih =>
    obtain ⟨F1, F2, h1, h2, h3, h4⟩ := h
    intro k e
    rcases (h4 k).1 e with e | e
    · exact hc A (by simp) V F1 h1 k e
    · exact ih h2 (fun B hB => hc B (by simp [hB])) k e
theorem Has.firm (h : Has w l V) {n : Nat} (hf : Firm n V V') (hn : w.heap.size ≤ n) (hc : ∀ A ∈ l, CelA A) : Has w l V' := by
  obtain ⟨⟨F, h1, h2⟩, h3⟩ := h
  have hcel := h1.cel hc
  refine ⟨⟨F, h1.on hf.size (fun k e => ?_), h2⟩, h3.trans (hf.below hn h3.size)⟩
  obtain ⟨o, ho, hoc⟩ := hcel k e
  rw [hf.same k o ho (.inl hoc), ho]
theorem Sep.mem (h : Sep V l F) (hm : A ∈ l) : ∃ F1, A.p V F1 ∧ ∀ k, F1 k → F k := by
  induction l generalizing F with
  | nil => cases hm
  | cons B l ih =>
    obtain ⟨F1, F2, h1, h2, h3, h4⟩ := h
    rcases List.mem_cons.1 hm with rfl | hm
    · exact ⟨F1, h1, fun k e => (h4 k).2 (.inl e)⟩
    · obtain ⟨F3, h5, h6⟩ := ih h2 hm
      exact ⟨F3, h5, fun k e => (h4 k).2 (.inr (h6 k e))⟩
theorem Has.at_ (h : Has w l V) (hm : A ∈ l) : ∃ F, A.p V F ∧ ∀ k, F k → w.heap.size ≤ k := by
  obtain ⟨⟨F, h1, h2⟩, _⟩ := h
  obtain ⟨F1, h3, h4⟩ := h1.mem hm
  exact ⟨F1, h3, fun k e => h2 k (h4 k e)⟩
theorem Has.blkAt {t : TypeId} {cs : Array Value} (h : Has w l V) (hm : blkA g t cs ∈ l) : Blk V g t cs := (h.at_ hm).choose_spec.1.1
theorem keeps_grow {n : Nat} (hg : Grow F V W) (hc : Cel V F) : KeepsFrom n V W := by
  refine ⟨hg.size, fun k o _ hk ho => ?_⟩
  have hlt := lt_of_some hk
  rw [hg.block k hlt (fun e => ?_), hk]
  obtain ⟨o2, h2, h3⟩ := hc k e
  rw [hk] at h2
  cases h2
  rw [ho] at h3
  cases h3
theorem keeps_below {n : Nat} (hb : Below V.heap.size V W) : KeepsFrom n V W := ⟨hb.size, fun k o _ hk ho => (hb.block k (lt_of_some hk)).trans hk⟩
/-- The first thing turns; what is no cells stays. -/
theorem Has.turnK (h : Has w (A :: l) V) (hca : CelA A) {f : FuncId} {args : Array Value} {Q : Ending → Prop}
    (hc : ∀ F, A.p V F → (∀ k, F k → w.heap.size ≤ k) → Calls Try.prog f args V fun e w' => Q e ∧ AsTurn A' F V w') :
    Calls Try.prog f args V fun e w' => Q e ∧ Has w (A' :: l) w' ∧ ∀ n, KeepsFrom n V w' := by
  obtain ⟨F, h1, h1b, h2⟩ := h.step
  refine (hc F h1 h1b).mono ?_
  rintro e w' ⟨hq, F', h3, h4, h5⟩
  exact ⟨hq, h2 w' A' F' h4 h3 h5, fun n => keeps_grow h4 (hca V F h1)⟩
/-- What lies beside the first thing stays while that turns. -/
theorem Has.beside (h : Has w (A :: A2 :: l) V) : ∀ F, A.p V F → True := fun _ _ => trivial
theorem Has.step2 (h : Has w (A :: A2 :: l) V) : ∃ F, A.p V F ∧ (∀ k, F k → w.heap.size ≤ k) ∧ (∀ W, Grow F V W → ∃ F2, A2.p W F2) ∧ ∀ (V' : World) (A' : As) (F' : Nat → Prop), Grow F V V' → A'.p V' F' → (∀ k, F' k → nF F V V' k) → Has w (A' :: A2 :: l) V' := by
  have hs := h
  obtain ⟨⟨F, ⟨F1, F2, h1, h2, h3, h4⟩, h5⟩, h6⟩ := h
  obtain ⟨F3, F4, h7, h8, h9, h10⟩ := h2
  refine ⟨F1, h1, fun k e => h5 k ((h4 k).2 (.inl e)), fun W hg => ⟨F3, A2.on h7 hg.size (fun k e => hg.block k (A2.lt h7 k e) (fun e1 => h3 k e1 ((h10 k).2 (.inl e))))⟩, fun V' A' F' hG hA hF => ?_⟩
  have h2 : Sep V (A2 :: l) F2 := ⟨F3, F4, h7, h8, h9, h10⟩
  have hlt2 := h2.lt
  refine ⟨⟨fun k => F' k ∨ F2 k, ⟨F', F2, hA, h2.on hG.size (fun k e => hG.block k (hlt2 k e) (fun e1 => h3 k e1 e)), fun k e e2 => ?_, fun k => Iff.rfl⟩, fun k e => ?_⟩, hG.below h6 h6.size (fun k e => h5 k ((h4 k).2 (.inl e)))⟩
  · rcases hF k e with e1 | e1
    · exact h3 k e1 e2
    · have := hlt2 k e2; omega
  · rcases e with e | e
    · rcases hF k e with e1 | e1
      · exact h5 k ((h4 k).2 (.inl e1))
      · exact Nat.le_trans h6.size e1.1
    · exact h5 k ((h4 k).2 (.inr e))
/-! the calls -/
theorem Has.tbNew (h : Has w T V) (s : Int) : Calls Try.prog 12 #[.int .i64 s] V fun e w' => ∃ p, e = .returned (pt p) ∧ Has w (tbA p [] :: T) w' := by
  refine (tb_new s V).mono ?_
  rintro e w' ⟨p, F, rfl, hA, hF, hb⟩
  exact ⟨p, rfl, h.new hb hA hF⟩
theorem Has.tbApply (h : Has w (tbA p r :: T) V) {N : Nat} (hr : ROk N r) (hN : N ≤ 999999000) (A : Option Addr) (n c : Nat) (ops : List Op_) (ho : OAt w A n ops) (hn : n ≤ 9223372036854775807) (hs : OSz ops) :
    Calls Try.prog 14 #[pt p, .slice A n c] V fun e w' => e = .returned (.int .i64 (chk ops)) ∧ Has w (tbA p (rapp r ops) :: T) w' ∧ ∀ n, KeepsFrom n V w' :=
  h.turnK (cel_tb p r) (Q := fun e => e = .returned (.int .i64 (chk ops))) fun F hA hF => tb_apply hA A n c ops (fun W hg => ho.below (hg.below h.bel h.size hF)) hn hr hN hs
theorem Has.tbApplyB (h : Has w (tbA p r :: A2 :: T) V) {N : Nat} (hr : ROk N r) (hN : N ≤ 999999000) (A : Option Addr) (n c : Nat) (ops : List Op_) (ho : ∀ W F2, A2.p W F2 → OAt W A n ops) (hn : n ≤ 9223372036854775807) (hs : OSz ops) :
    Calls Try.prog 14 #[pt p, .slice A n c] V fun e w' => e = .returned (.int .i64 (chk ops)) ∧ Has w (tbA p (rapp r ops) :: A2 :: T) w' ∧ ∀ n, KeepsFrom n V w' := by
  obtain ⟨F, h1, h1b, h2, h3⟩ := h.step2
  refine (tb_apply h1 A n c ops (fun W hg => by obtain ⟨F2, h4⟩ := h2 W hg; exact ho W F2 h4) hn hr hN hs).mono ?_
  rintro e w' ⟨hq, F', h4, h5, h6⟩
  exact ⟨hq, h3 w' _ F' h5 h4 h6, fun n => keeps_grow h5 (tbA_cel h1)⟩
theorem Has.tbGet (h : Has w (tbA p r :: T) V) (key : ByteArray) : Calls Try.prog 21 #[pt p, .string key] V fun e w' => e = .returned (.tuple #[.string (rval r key), .bool (rhas r key)]) ∧ Has w (tbA p r :: T) w' := by
  obtain ⟨F, hA, _⟩ := h.get
  refine (tb_get hA key).mono ?_
  rintro e w' ⟨rfl, hb⟩
  exact ⟨rfl, h.keep hb⟩
theorem Has.tbLen (h : Has w (tbA p r :: T) V) : Calls Try.prog 16 #[pt p] V fun e w' => e = .returned (.int .i64 (r.length : Int)) ∧ Has w (tbA p r :: T) w' := by
  obtain ⟨F, hA, _⟩ := h.get
  refine (tb_len hA).mono ?_
  rintro e w' ⟨rfl, rfl⟩
  exact ⟨rfl, h⟩
/-- Rows of the walk's own. -/
abbrev rwA (v : Value) (l : List Rw) : As := rowA 39 2 v l.length (rfl2 l)
theorem Has.newRw (h : Has w T V) {v : Value} {l : List Rw} (hr : RRow V' V.heap.size v l.length l) (hb : Below V.heap.size V V') : Has w (rwA v l :: T) V' :=
  h.new (F := fun k => v.ownBlock = some k) hb ⟨RRow.base hr (Nat.zero_le _), fun k => Iff.rfl⟩ (fun k e => (World.ownsRow.lt hr k e).1)
theorem Has.rwForm (h : Has w l V) {v : Value} {L : List Rw} (hm : rwA v L ∈ l) : ∃ A c, v = .slice A L.length c ∧ WAt V A L.length L ∧ L.length ≤ c ∧ c ≤ 9223372036854775807 := by
  obtain ⟨F, h1, _⟩ := h.at_ hm
  exact RRow.form (show RRow V 0 v L.length L from h1.1)
theorem Has.tbRows (h : Has w (tbA p r :: T) V) (hz : Szs r) (hl : r.length ≤ 1000000) : Calls Try.prog 18 #[pt p] V fun e w' => ∃ u, e = .returned u ∧ Has w (rwA u r :: tbA p r :: T) w' := by
  obtain ⟨F, hA, _⟩ := h.get
  refine (tb_rows hA hz hl).mono ?_
  rintro e w' ⟨u, rfl, hr, hb⟩
  exact ⟨u, rfl, h.newRw hr hb⟩
theorem Has.tbRangedU (h : Has w (tbA p r :: T) V) (hz : Szs r) (hl : r.length ≤ 1000000) (f t : ByteArray) : Calls Try.prog 24 #[pt p, .string f, .string t, .bool false] V fun e w' => ∃ u, e = .returned u ∧ Has w (rwA u (btw r f t) :: tbA p r :: T) w' := by
  obtain ⟨F, hA, _⟩ := h.get
  refine (tb_rangedU hA hz hl f t).mono ?_
  rintro e w' ⟨u, rfl, hr, hb⟩
  exact ⟨u, rfl, h.newRw hr hb⟩
theorem Has.tbRangedD (h : Has w (tbA p r :: T) V) (hz : Szs r) (hl : r.length ≤ 1000000) (f t : ByteArray) : Calls Try.prog 24 #[pt p, .string f, .string t, .bool true] V fun e w' => ∃ u, e = .returned u ∧ Has w (rwA u (btw r f t).reverse :: tbA p r :: T) w' := by
  obtain ⟨F, hA, _⟩ := h.get
  refine (tb_rangedD hA hz hl f t).mono ?_
  rintro e w' ⟨u, rfl, hr, hb⟩
  exact ⟨u, rfl, h.newRw hr hb⟩
theorem Has.tbAll (h : Has w T V) (p : Nat) (f t : ByteArray) : Calls Try.prog 26 #[pt p, .string f, .string t] V fun e w' => ∃ g1 g2 g3, e = .returned (.func (.func 44) #[] #[pt g1, pt g2, pt g3]) ∧ Has w (blkA g1 23 #[pt p] :: blkA g2 9 #[.string f] :: blkA g3 9 #[.string t] :: T) w' := by
  refine (tb_all p f t V).mono ?_
  rintro e w' ⟨g1, g2, g3, rfl, ⟨q1, q2, q3, q4, q5⟩, ⟨k1, k2, k3⟩, hb⟩
  refine ⟨g1, g2, g3, rfl, ?_⟩
  obtain ⟨⟨F2, h1, h2⟩, h3⟩ := h
  have hlt := h1.lt
  refine ⟨⟨fun k => k = g1 ∨ k = g2 ∨ k = g3 ∨ F2 k, ⟨fun k => k = g1, fun k => k = g2 ∨ k = g3 ∨ F2 k, ⟨k1, fun k => Iff.rfl⟩, ⟨fun k => k = g2, fun k => k = g3 ∨ F2 k, ⟨k2, fun k => Iff.rfl⟩, ⟨fun k => k = g3, F2, ⟨k3, fun k => Iff.rfl⟩, h1.on hb.size (fun k e => hb.block k (hlt k e)), fun k e e2 => ?_, fun k => Iff.rfl⟩, fun k e e2 => ?_, fun k => Iff.rfl⟩, fun k e e2 => ?_, fun k => Iff.rfl⟩, fun k e => ?_⟩, h3.trans (hb.mono h3.size)⟩
  · have := hlt k e2; omega
  · rcases e2 with e2 | e2
    · omega
    · have := hlt k e2; omega
  · rcases e2 with e2 | e2 | e2
    · omega
    · omega
    · have := hlt k e2; omega
  · have := h3.size
    rcases e with e | e | e | e
    · omega
    · omega
    · omega
    · exact h2 k e
theorem Has.tbBack (h : Has w T V) (p : Nat) (f t : ByteArray) : Calls Try.prog 30 #[pt p, .string f, .string t] V fun e w' => ∃ g1 g2 g3, e = .returned (.func (.func 47) #[] #[pt g1, pt g3, pt g2]) ∧ Has w (blkA g1 23 #[pt p] :: blkA g2 9 #[.string f] :: blkA g3 9 #[.string t] :: T) w' := by
  refine (tb_back p f t V).mono ?_
  rintro e w' ⟨g1, g2, g3, rfl, ⟨q1, q2, q3, q4, q5⟩, ⟨k1, k2, k3⟩, hb⟩
  refine ⟨g1, g2, g3, rfl, ?_⟩
  obtain ⟨⟨F2, h1, h2⟩, h3⟩ := h
  have hlt := h1.lt
  refine ⟨⟨fun k => k = g1 ∨ k = g2 ∨ k = g3 ∨ F2 k, ⟨fun k => k = g1, fun k => k = g2 ∨ k = g3 ∨ F2 k, ⟨k1, fun k => Iff.rfl⟩, ⟨fun k => k = g2, fun k => k = g3 ∨ F2 k, ⟨k2, fun k => Iff.rfl⟩, ⟨fun k => k = g3, F2, ⟨k3, fun k => Iff.rfl⟩, h1.on hb.size (fun k e => hb.block k (hlt k e)), fun k e e2 => ?_, fun k => Iff.rfl⟩, fun k e e2 => ?_, fun k => Iff.rfl⟩, fun k e e2 => ?_, fun k => Iff.rfl⟩, fun k e => ?_⟩, h3.trans (hb.mono h3.size)⟩
  · have := hlt k e2; omega
  · rcases e2 with e2 | e2
    · omega
    · have := hlt k e2; omega
  · rcases e2 with e2 | e2 | e2
    · omega
    · omega
    · have := hlt k e2; omega
  · have := h3.size
    rcases e with e | e | e | e
    · omega
    · omega
    · omega
    · exact h2 k e
/-- An iterator's reading, of what a walk has. -/
theorem Has.trd {f t : ByteArray} (h : Has w l V) (hz : Szs r) (h0 : tbA p r ∈ l) (h1 : blkA g1 23 #[pt p] ∈ l) (h2 : blkA g2 9 #[.string f] ∈ l) (h3 : blkA g3 9 #[.string t] ∈ l) : TRD p g1 g2 g3 f t r V := by
  obtain ⟨F, hA, _⟩ := h.at_ h0
  exact ⟨⟨F, hA⟩, hz, h.blkAt h1, h.blkAt h2, h.blkAt h3⟩
theorem Has.rtNew (h : Has w T V) (s : Int) : Calls Try.prog 13 #[.int .i64 s] V fun e w' => ∃ b, e = .returned (pt b) ∧ Has w (rtA b [] :: T) w' := by
  refine (rt_new s V).mono ?_
  rintro e w' ⟨rfl, hR, hb⟩
  refine ⟨_, rfl, h.new (F := rtF V.heap.size (.slice none 0 0)) hb ⟨_, hR, fun k => Iff.rfl⟩ (fun k e => ?_)⟩
  rcases e with e | e
  · omega
  · cases e
theorem Has.rtApply (h : Has w (rtA b r :: T) V) (hr : r.length ≤ 999999000) (A : Option Addr) (n c : Nat) (ops : List Op_) (ho : OAt w A n ops) (hn : n ≤ 9223372036854775807) :
    Calls Try.prog 15 #[pt b, .slice A n c] V fun e w' => e = .returned (.int .i64 (chk ops)) ∧ Has w (rtA b (rapp r ops) :: T) w' ∧ ∀ n, KeepsFrom n V w' :=
  h.turnK (cel_rt b r) (Q := fun e => e = .returned (.int .i64 (chk ops))) fun F hA hF => rt_apply hA A n c ops (fun W hg => ho.below (hg.below h.bel h.size hF)) hn hr
theorem Has.rtGet (h : Has w (rtA b r :: T) V) (key : ByteArray) : Calls Try.prog 22 #[pt b, .string key] V fun e w' => e = .returned (.tuple #[.string (rval r key), .bool (rhas r key)]) ∧ Has w (rtA b r :: T) w' := by
  obtain ⟨F, ⟨v, hR, _⟩, _⟩ := h.get
  refine (rt_get hR key).mono ?_
  rintro e w' ⟨rfl, hb⟩
  exact ⟨rfl, h.keep hb⟩
theorem Has.rtLen (h : Has w (rtA b r :: T) V) : Calls Try.prog 17 #[pt b] V fun e w' => e = .returned (.int .i64 (r.length : Int)) ∧ Has w (rtA b r :: T) w' := by
  obtain ⟨F, ⟨v, hR, _⟩, _⟩ := h.get
  refine (rt_len hR).mono ?_
  rintro e w' ⟨rfl, rfl⟩
  exact ⟨rfl, h⟩
theorem Has.rtBetween (h : Has w (rtA b r :: T) V) (hs : RSor r) (f t : ByteArray) (hl : r.length ≤ 1000000000) : Calls Try.prog 23 #[pt b, .string f, .string t] V fun e w' => ∃ u, e = .returned u ∧ Has w (rwA u (btw r f t) :: rtA b r :: T) w' := by
  obtain ⟨F, ⟨v, hR, _⟩, _⟩ := h.get
  refine (rt_between hR hs f t hl).mono ?_
  rintro e w' ⟨u, rfl, hr, hb⟩
  exact ⟨u, rfl, h.newRw hr hb⟩
/-- The document's rows, where they lie. -/
theorem Has.rtRows (h : Has w l V) (hm : rtA b r ∈ l) : ∃ A c, V.cell? ⟨b, 0, none⟩ = some (.slice A r.length c) ∧ WAt V A r.length r ∧ r.length ≤ c ∧ c ≤ 9223372036854775807 := by
  obtain ⟨F, ⟨v, hR, _⟩, _⟩ := h.at_ hm
  obtain ⟨A, c, rfl, hat, h1, h2⟩ := hR.row.form
  exact ⟨A, c, hR.obj.cell 0, hat, h1, h2⟩
end
end Go.Proofs.Ytgakkeeeadndkaa
