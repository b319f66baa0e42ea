/-
  Layer 10: a walk's own tables: each call takes them one step further; what stays in a range's rounds.
  Layer 10, the code: Copy.
  Layer 10, the statements' words: turned, keys, chapter, works.
  Layer 10: the chapter's table ('chapter', 'works').
-/
import Derived.Test.YtgccichmdddbpaaGreatDoorPL13
import Derived.Test.YtgccichmdddbpaaGreatDoorPL14
set_option linter.unusedVariables false
namespace Go.Proofs.YtgccichmdddbpaaGreatDoor
open Go.RowKit Go.Shelf

def CelA (A : As) : Prop := ∀ V F, A.p V F → Cel V F
theorem cel_tb (p : Nat) (r : List Rw) : CelA (tbA p r) := fun V F h => tbA_cel h
theorem cel_blk (g : Nat) (t : TypeId) (cs : Array Value) : CelA (blkA g t cs) := fun V F h k e => by
  obtain rfl := (h.2 k).1 e
  exact h.1.cel
section
variable {w V V' W : World} {l T : List As} {A A2 A' B C D E : As} {F : Nat → Prop} {p b g g1 g2 g3 : Nat} {r r' : List Rw}
theorem Sep.cel (h : Sep V l F) (hc : ∀ A ∈ l, CelA A) : Cel V F := by
  induction l generalizing F with
  | nil => exact fun k e => absurd e (h k)
  | cons A l ih =>
    obtain ⟨F1, F2, h1, h2, h3, h4⟩ := h
    intro k e
    rcases (h4 k).1 e with e | e
    · exact hc A (by simp) V F1 h1 k e
    · exact ih h2 (fun B hB => hc B (by simp [hB])) k e
theorem Has.firm (h : Has w l V) {n : Nat} (hf : Firm n V V') (hn : w.heap.size ≤ n) (hc : ∀ A ∈ l, CelA A) : Has w l V' := by
  obtain ⟨⟨F, h1, h2⟩, h3⟩ := h
  have hcel := h1.cel hc
  refine ⟨⟨F, h1.on hf.size (fun k e => ?_), h2⟩, h3.trans (hf.below hn h3.size)⟩
  obtain ⟨o, ho, hoc⟩ := hcel k e
  rw [hf.same k o ho (.inl hoc), ho]
theorem Sep.mem (h : Sep V l F) (hm : A ∈ l) : ∃ F1, A.p V F1 ∧ ∀ k, F1 k → F k := by
  induction l generalizing F with
  | nil => cases hm
  | cons B l ih =>
    obtain ⟨F1, F2, h1, h2, h3, h4⟩ := h
    rcases List.mem_cons.1 hm with rfl | hm
    · exact ⟨F1, h1, fun k e => (h4 k).2 (.inl e)⟩
    · obtain ⟨F3, h5, h6⟩ := ih h2 hm
      exact ⟨F3, h5, fun k e => (h4 k).2 (.inr (h6 k e))⟩
theorem Has.at_ (h : Has w l V) (hm : A ∈ l) : ∃ F, A.p V F ∧ ∀ k, F k → w.heap.size ≤ k := by
  obtain ⟨⟨F, h1, h2⟩, _⟩ := h
  obtain ⟨F1, h3, h4⟩ := h1.mem hm
  exact ⟨F1, h3, fun k e => h2 k (h4 k e)⟩
theorem Has.blkAt {t : TypeId} {cs : Array Value} (h : Has w l V) (hm : blkA g t cs ∈ l) : Blk V g t cs := (h.at_ hm).choose_spec.1.1
theorem keeps_grow {n : Nat} (hg : Grow F V W) (hc : Cel V F) : KeepsFrom n V W := by
  refine ⟨hg.size, fun k o _ hk ho => ?_⟩
  have hlt := lt_of_some hk
  rw [hg.block k hlt (fun e => ?_), hk]
  obtain ⟨o2, h2, h3⟩ := hc k e
  rw [hk] at h2
  cases h2
  rw [ho] at h3
  cases h3
theorem keeps_below {n : Nat} (hb : Below V.heap.size V W) : KeepsFrom n V W := ⟨hb.size, fun k o _ hk ho => (hb.block k (lt_of_some hk)).trans hk⟩
/-- The first thing turns; what is no cells stays. -/
theorem Has.turnK (h : Has w (A :: l) V) (hca : CelA A) {f : FuncId} {args : Array Value} {Q : Ending → Prop}
    (hc : ∀ F, A.p V F → (∀ k, F k → w.heap.size ≤ k) → Calls Tryz.prog f args V fun e w' => Q e ∧ AsTurn A' F V w') :
    Calls Tryz.prog f args V fun e w' => Q e ∧ Has w (A' :: l) w' ∧ ∀ n, KeepsFrom n V w' := by
  obtain ⟨F, h1, h1b, h2⟩ := h.step
  refine (hc F h1 h1b).mono ?_
  rintro e w' ⟨hq, F', h3, h4, h5⟩
  exact ⟨hq, h2 w' A' F' h4 h3 h5, fun n => keeps_grow h4 (hca V F h1)⟩
/-- What lies beside the first thing stays while that turns. -/
theorem Has.beside (h : Has w (A :: A2 :: l) V) : ∀ F, A.p V F → True := fun _ _ => trivial
theorem Has.step2 (h : Has w (A :: A2 :: l) V) : ∃ F, A.p V F ∧ (∀ k, F k → w.heap.size ≤ k) ∧ (∀ W, Grow F V W → ∃ F2, A2.p W F2) ∧ ∀ (V' : World) (A' : As) (F' : Nat → Prop), Grow F V V' → A'.p V' F' → (∀ k, F' k → nF F V V' k) → Has w (A' :: A2 :: l) V' := by
  have hs := h
  obtain ⟨⟨F, ⟨F1, F2, h1, h2, h3, h4⟩, h5⟩, h6⟩ := h
  obtain ⟨F3, F4, h7, h8, h9, h10⟩ := h2
  refine ⟨F1, h1, fun k e => h5 k ((h4 k).2 (.inl e)), fun W hg => ⟨F3, A2.on h7 hg.size (fun k e => hg.block k (A2.lt h7 k e) (fun e1 => h3 k e1 ((h10 k).2 (.inl e))))⟩, fun V' A' F' hG hA hF => ?_⟩
  have h2 : Sep V (A2 :: l) F2 := ⟨F3, F4, h7, h8, h9, h10⟩
  have hlt2 := h2.lt
  refine ⟨⟨fun k => F' k ∨ F2 k, ⟨F', F2, hA, h2.on hG.size (fun k e => hG.block k (hlt2 k e) (fun e1 => h3 k e1 e)), fun k e e2 => ?_, fun k => Iff.rfl⟩, fun k e => ?_⟩, hG.below h6 h6.size (fun k e => h5 k ((h4 k).2 (.inl e)))⟩
  · rcases hF k e with e1 | e1
    · exact h3 k e1 e2
    · have := hlt2 k e2; omega
  · rcases e with e | e
    · rcases hF k e with e1 | e1
      · exact h5 k ((h4 k).2 (.inl e1))
      · exact Nat.le_trans h6.size e1.1
    · exact h5 k ((h4 k).2 (.inr e))
/-! the calls -/
theorem Has.tbNew (h : Has w T V) (s : Int) : Calls Tryz.prog 41 #[.int .i64 s] V fun e w' => ∃ p, e = .returned (pt p) ∧ Has w (tbA p [] :: T) w' := by
  refine (tb_new s V).mono ?_
  rintro e w' ⟨p, F, rfl, hA, hF, hb⟩
  exact ⟨p, rfl, h.new hb hA hF⟩
theorem Has.tbApply (h : Has w (tbA p r :: T) V) {N : Nat} (hr : ROk N r) (hN : N ≤ 999999000) (A : Option Addr) (n c : Nat) (ops : List Op_) (ho : OAt w A n ops) (hn : n ≤ 9223372036854775807) (hs : OSz ops) :
    Calls Tryz.prog 19 #[pt p, .slice A n c] V fun e w' => e = .returned (.int .i64 (chk ops)) ∧ Has w (tbA p (rapp r ops) :: T) w' ∧ ∀ n, KeepsFrom n V w' :=
  h.turnK (cel_tb p r) (Q := fun e => e = .returned (.int .i64 (chk ops))) fun F hA hF => tb_apply hA A n c ops (fun W hg => ho.below (hg.below h.bel h.size hF)) hn hr hN hs
theorem Has.tbApplyB (h : Has w (tbA p r :: A2 :: T) V) {N : Nat} (hr : ROk N r) (hN : N ≤ 999999000) (A : Option Addr) (n c : Nat) (ops : List Op_) (ho : ∀ W F2, A2.p W F2 → OAt W A n ops) (hn : n ≤ 9223372036854775807) (hs : OSz ops) :
    Calls Tryz.prog 19 #[pt p, .slice A n c] V fun e w' => e = .returned (.int .i64 (chk ops)) ∧ Has w (tbA p (rapp r ops) :: A2 :: T) w' ∧ ∀ n, KeepsFrom n V w' := by
  obtain ⟨F, h1, h1b, h2, h3⟩ := h.step2
  refine (tb_apply h1 A n c ops (fun W hg => by obtain ⟨F2, h4⟩ := h2 W hg; exact ho W F2 h4) hn hr hN hs).mono ?_
  rintro e w' ⟨hq, F', h4, h5, h6⟩
  exact ⟨hq, h3 w' _ F' h5 h4 h6, fun n => keeps_grow h5 (tbA_cel h1)⟩
theorem Has.tbAll (h : Has w T V) (p : Nat) (f t : ByteArray) : Calls Tryz.prog 56 #[pt p, .string f, .string t] V fun e w' => ∃ g1 g2 g3, e = .returned (.func (.func 107) #[] #[pt g1, pt g2, pt g3]) ∧ Has w (blkA g1 31 #[pt p] :: blkA g2 9 #[.string f] :: blkA g3 9 #[.string t] :: T) w' := by
  refine (tb_all p f t V).mono ?_
  rintro e w' ⟨g1, g2, g3, rfl, ⟨q1, q2, q3, q4, q5⟩, ⟨k1, k2, k3⟩, hb⟩
  refine ⟨g1, g2, g3, rfl, ?_⟩
  obtain ⟨⟨F2, h1, h2⟩, h3⟩ := h
  have hlt := h1.lt
  refine ⟨⟨fun k => k = g1 ∨ k = g2 ∨ k = g3 ∨ F2 k, ⟨fun k => k = g1, fun k => k = g2 ∨ k = g3 ∨ F2 k, ⟨k1, fun k => Iff.rfl⟩, ⟨fun k => k = g2, fun k => k = g3 ∨ F2 k, ⟨k2, fun k => Iff.rfl⟩, ⟨fun k => k = g3, F2, ⟨k3, fun k => Iff.rfl⟩, h1.on hb.size (fun k e => hb.block k (hlt k e)), fun k e e2 => ?_, fun k => Iff.rfl⟩, fun k e e2 => ?_, fun k => Iff.rfl⟩, fun k e e2 => ?_, fun k => Iff.rfl⟩, fun k e => ?_⟩, h3.trans (hb.mono h3.size)⟩
  · have := hlt k e2; omega
  · rcases e2 with e2 | e2
    · omega
    · have := hlt k e2; omega
  · rcases e2 with e2 | e2 | e2
    · omega
    · omega
    · have := hlt k e2; omega
  · have := h3.size
    rcases e with e | e | e | e
    · omega
    · omega
    · omega
    · exact h2 k e
/-- The document's rows, where they lie. -/
theorem Has.rtRows (h : Has w l V) (hm : rtA b r ∈ l) : ∃ A c, V.cell? ⟨b, 0, none⟩ = some (.slice A r.length c) ∧ WAt V A r.length r ∧ r.length ≤ c ∧ c ≤ 9223372036854775807 := by
  obtain ⟨F, ⟨v, hR, _⟩, _⟩ := h.at_ hm
  obtain ⟨A, c, rfl, hat, h1, h2⟩ := hR.row.form
  exact ⟨A, c, hR.obj.cell 0, hat, h1, h2⟩
end
end Go.Proofs.YtgccichmdddbpaaGreatDoor
set_option linter.unusedVariables false
namespace Go.Proofs.YtgccichmdddbpaaGreatDoor
open Go.RowKit Go.Shelf
attribute [local go_sem] Oper.semAt_some

end Go.Proofs.YtgccichmdddbpaaGreatDoor
set_option linter.unusedVariables false
namespace Go.Proofs.YtgccichmdddbpaaGreatDoor
open Go.RowKit Go.Shelf

section
variable {w V : World} {T : List As} {p : Nat} {r : List Rw}
end
end Go.Proofs.YtgccichmdddbpaaGreatDoor
set_option linter.unusedVariables false
namespace Go.Proofs.YtgccichmdddbpaaGreatDoor
open Go.RowKit Go.Shelf

/-! ### reckoned by bytes -/
/-! ### changes in a literal -/
def ofl (l : List Op_) : List Value := l.flatMap fun o => [.string o.key, .string o.value, .bool o.del]
theorem ofl_cons (o : Op_) (l : List Op_) : ofl (o :: l) = .string o.key :: .string o.value :: .bool o.del :: ofl l := by simp [ofl]
theorem ofl_app (l r : List Op_) : ofl (l ++ r) = ofl l ++ ofl r := by simp [ofl]
theorem ofl_len : ∀ l : List Op_, (ofl l).length = l.length * 3
  | [] => rfl
  | x :: l => by rw [ofl_cons, List.length_cons, List.length_cons, List.length_cons, ofl_len l, List.length_cons]; omega
theorem ofl_get : ∀ (l : List Op_) (i : Nat) (h : i < l.length), (ofl l)[i * 3]? = some (.string (l[i]'h).key) ∧ (ofl l)[i * 3 + 1]? = some (.string (l[i]'h).value) ∧ (ofl l)[i * 3 + 2]? = some (.bool (l[i]'h).del)
  | x :: l, 0, _ => by rw [ofl_cons]; exact ⟨rfl, rfl, rfl⟩
  | x :: l, i + 1, h => by
    have ih := ofl_get l i (by simpa using h)
    rw [ofl_cons, show (i + 1) * 3 = i * 3 + 1 + 1 + 1 by omega]
    simpa using ih
theorem OAt.lit {w : World} {b : Nat} {l : List Op_} {t : TypeId} {f : Nat × Nat} (h : w.heap[b]? = some (.cells (ofl l).toArray t f)) : OAt w (some ⟨b, 0, none⟩) l.length l :=
  ⟨rfl, fun _ => ⟨b, 0, rfl, fun i hi => by
    obtain ⟨h1, h2, h3⟩ := ofl_get l i hi
    exact ⟨by rw [cell_of_row w b _ _ t f h, Nat.zero_add]; simpa using h1, by rw [cell_of_row w b _ _ t f h, Nat.zero_add]; simpa using h2, by rw [cell_of_row w b _ _ t f h, Nat.zero_add]; simpa using h3⟩⟩⟩
section
variable {w V : World} {T : List As} {p : Nat} {r : List Rw}
end
abbrev nB : ByteArray := ⟨#[98]⟩
abbrev nC : ByteArray := ⟨#[99]⟩
abbrev nD : ByteArray := ⟨#[100]⟩
abbrev n1 : ByteArray := ⟨#[49]⟩
abbrev n2 : ByteArray := ⟨#[50]⟩
abbrev n3 : ByteArray := ⟨#[51]⟩
abbrev n4 : ByteArray := ⟨#[52]⟩
abbrev n5 : ByteArray := ⟨#[53]⟩
def T2 : List Rw := [⟨nB, n2⟩, ⟨nC, n5⟩, ⟨nD, n4⟩]
section
variable {w V : World} {T : List As} {p : Nat} {r : List Rw}
end
end Go.Proofs.YtgccichmdddbpaaGreatDoor
