/-
  Layer 7: the document's disk: all; Crash.
-/
import Derived.Test.YtmjoaeljfhgojaaDFind
import Derived.Test.YtmjoaeljfhgojaaRef
set_option linter.unusedVariables false
namespace Go.Proofs.Ytmjoaeljfhgojaa
open Go.RowKit

theorem sum_take_succ (l : List Fl) (k : Nat) (h : k < l.length) : sum (l.take (k + 1)) = sum (l.take k) + l[k].bs.length := by
  unfold sum
  rw [List.take_succ_eq_append_getElem h, List.map_append, List.sum_append]
  simp
theorem sum_take_le (l : List Fl) (k : Nat) : sum (l.take k) ≤ sum l := by
  conv => rhs; rw [← List.take_append_drop k l]
  unfold sum
  rw [List.map_append, List.sum_append]
  omega

set_option maxHeartbeats 4000000 in
theorem all_ok (w : World) (g : Nat) (D : Dk) (F : Nat → Prop) (h : RDk w g D F) :
    Calls Try.prog 70 #[pt g] w fun e w' => e = .returned (.int .i64 (sum D.l : Nat)) ∧ w' = w := by
  obtain ⟨Fb, v, KA, kn, kc, qs, h⟩ := h
  obtain ⟨A, c, rfl, hc1, hc2, _, hcell⟩ := h.list.form
  have c0 := h.c0
  have hlen := h.len
  have H := Lib.hid h
  have HC := Lib.hid hcell
  have hsum := h.ok.sum
  clear h hcell
  go_enter Try.func70, Try.ntmps70
  go_wp2_with fail
  go_loopw [3, 4] (fun nv iv wr => ∃ (k m : Nat), k ≤ qs.length ∧ iv = .int .i64 k ∧ nv = .int .i64 m ∧ m = sum (D.l.take k) ∧ wr = w) (fun _ iv _ => qs.length - (intOf iv).toNat)
  case atStart => exact ⟨0, 0, Nat.zero_le _, rfl, rfl, rfl, rfl⟩
  case round =>
    obtain ⟨k, m, hk, rfl, rfl, hm, rfl⟩ := hrel
    by_cases hlt : k < qs.length
    · obtain ⟨b, rfl, hFb, hnb, hcl⟩ := HC.out (by omega)
      obtain ⟨d0, d1, d2⟩ := hcl k hlt
      clear hcl
      have hkl : k < D.l.length := by omega
      have hq := H.out.get hlt
      have hs := sum_take_succ D.l k hkl
      have hs2 := sum_take_le D.l (k + 1)
      rw [hq] at hs
      have hw : IntKind.i64.wrap ((m : Int) + (qs[k].f.bs.length : Int)) = (m : Int) + (qs[k].f.bs.length : Int) := IntWalk.i64_in _ (by omega)
      have HS := Lib.hid (show m + qs[k].f.bs.length = sum (D.l.take (k + 1)) by omega)
      clear hq hs hs2 hm
      go_wp2_with fail
      go_roundw
      case rel => exact ⟨k + 1, m + qs[k].f.bs.length, by omega, by go_num, by go_num, HS.out, trivial⟩
      case measure => simp [intOf]; omega
    · have hkk : k = qs.length := by omega
      have HM := Lib.hid (show (m : Int) = (sum D.l : Nat) by rw [hm, List.take_of_length_le (by omega)])
      clear hm
      go_wp2
      go_ret
      exact ⟨by rw [← HM.out]; rfl, rfl⟩

/-! ### the power goes: plain -/
def fallTo (keep : List Int) (i : Nat) (l : List Fl) : List Fl := l.mapIdx (fun j f => if j < i then fallF keep j f else f)
theorem fallTo_zero (keep : List Int) (l : List Fl) : fallTo keep 0 l = l := by
  unfold fallTo
  apply List.ext_getElem
  · simp
  · intro i h1 h2
    simp
theorem fallTo_len (keep : List Int) (i : Nat) (l : List Fl) : (fallTo keep i l).length = l.length := by simp [fallTo]
theorem fallTo_all (keep : List Int) (l : List Fl) : fallTo keep l.length l = fall keep l := by
  unfold fallTo fall
  apply List.ext_getElem
  · simp
  · intro i h1 h2
    have h : i < l.length := by simpa using h1
    simp [h]
theorem fallTo_get (keep : List Int) (i : Nat) (l : List Fl) (h : i < l.length) : (fallTo keep i l)[i]'(by rw [fallTo_len]; exact h) = l[i] := by simp [fallTo]
theorem fallTo_succ (keep : List Int) (i : Nat) (l : List Fl) (h : i < l.length) : fallTo keep (i + 1) l = (fallTo keep i l).set i (fallF keep i l[i]) := by
  unfold fallTo
  apply List.ext_getElem
  · simp
  · intro j h1 h2
    rw [List.getElem_set]
    by_cases e : i = j
    · subst e
      simp
    · rw [if_neg e]
      simp only [List.getElem_mapIdx]
      by_cases hj : j < i
      · rw [if_pos hj, if_pos (by omega)]
      · rw [if_neg hj, if_neg (by omega)]
theorem sum_set : ∀ (l : List Fl) (i : Nat) (f : Fl) (h : i < l.length), sum (l.set i f) + l[i].bs.length = sum l + f.bs.length
  | a :: l, 0, f, _ => by simp [sum]; omega
  | a :: l, i + 1, f, h => by
    have := sum_set l i f (by simpa using h)
    simp [sum] at *
    omega
theorem ok_set {D : Dk} (h : D.ok) {i : Nat} (hi : i < D.l.length) {f : Fl} (hn : f.name = D.l[i].name) (hm : f.mark ≤ f.bs.length) (hs : sum D.l + f.bs.length ≤ 4194304 + D.l[i].bs.length) : ({ D with l := D.l.set i f } : Dk).ok := by
  have e : (D.l.set i f).map Fl.name = D.l.map Fl.name := by
    rw [List.map_set, hn]
    apply List.ext_getElem
    · simp
    · intro j h1 h2
      rw [List.getElem_set]
      split
      · rename_i e; subst e; simp
      · rfl
  refine ⟨?_, fun q hq => ?_, by simpa using h.few, ?_, h.low, h.high⟩
  · have h0 := (List.pairwise_map (f := Fl.name) (R := fun a b => nl a b = true)).2 h.sorted
    rw [← e] at h0
    exact List.pairwise_map.1 h0
  · rcases List.mem_or_eq_of_mem_set hq with h1 | rfl
    · exact h.marks q h1
    · exact hm
  · have := sum_set D.l i f hi
    show sum (D.l.set i f) ≤ _
    omega
theorem brn_lt (k : Int) (n : Nat) (h : 0 < n) : brn k n < n := by
  unfold brn
  rw [if_neg (by omega)]
  have h1 := Int.emod_nonneg k (b := (n : Int)) (by omega)
  have h2 := Int.emod_lt_of_pos k (b := (n : Int)) (by omega)
  omega

/-! ### a file of the list is written -/
theorem rows_set : ∀ (qs : List Fv) (i j : Nat) (u : Value) (q : Fv) (h : i < qs.length), j < 3 → (qs[i].vals).set j u = q.vals → (rows qs).set (i * 3 + j) u = rows (qs.set i q)
  | a :: qs, 0, j, u, q, _, hj, e => by
    unfold rows
    rw [List.flatMap_cons, List.set_append_left _ _ (by simp [Fv.vals]; omega), List.set_cons_zero, List.flatMap_cons, ← e]
    simp
  | a :: qs, i + 1, j, u, q, h, hj, e => by
    have := rows_set qs i j u q (by simpa using h) hj (by simpa using e)
    unfold rows at *
    rw [List.flatMap_cons, List.set_append_right _ _ (by simp [Fv.vals]; omega), List.set_cons_succ, List.flatMap_cons, ← this]
    congr 2
    simp [Fv.vals]
    omega
section
variable {V V' : World} {g : Nat} {D : Dk} {F Fb G : Nat → Prop} {v : Value} {A : Option Addr} {n c : Nat} {qs : List Fv}
theorem RDkB.store {b m cap : Nat} (h : RDkB V g D F Fb (.slice (some ⟨b, 0, none⟩) m cap) A n c qs) {i j : Nat} (hi : i < qs.length) (hj : j < 3) {u : Value} {q : Fv} (hq : (qs[i].vals).set j u = q.vals)
    (hr : RFl V Fb q) (ho : ({ D with l := D.l.set i q.f } : Dk).ok) : RDkB (V.setCell ⟨b, i * 3 + j, none⟩ u) g { D with l := D.l.set i q.f } F Fb (.slice (some ⟨b, 0, none⟩) m cap) A n c (qs.set i q) := by
  have hob := h.list.own b rfl
  have hgb : g ≠ b := fun e => h.fg.2.2 (by rw [e]; rfl)
  have hm : m = qs.length := by
    obtain ⟨_, _, e, _⟩ := h.list.form
    injection e
  subst hm
  have k : ∀ x, x ≠ b → (V.setCell ⟨b, i * 3 + j, none⟩ u).heap[x]? = V.heap[x]? := fun x hx => by
    simp only [World.setCell, Array.getElem?_modify]
    rw [if_neg (fun e => hx e.symm)]
  have hFb : ∀ x, Fb x → (V.setCell ⟨b, i * 3 + j, none⟩ u).heap[x]? = V.heap[x]? := fun x hx => k x (fun e => hob.2 (e ▸ hx))
  have hrow := (h.list.row.stored (i * 3 + j) u).1
  rw [rows_set qs i j u q hi hj hq] at hrow
  refine ⟨(k g hgb).trans h.obj, by rw [List.map_set, h.eq], ⟨by rw [List.length_set]; exact hrow, h.list.own, fun x hx => ?_⟩, h.keep.on h.keepF hFb, h.keepF, h.kcap, h.fg, h.sub, fun x e => ?_, ho⟩
  · rcases List.mem_or_eq_of_mem_set hx with h1 | rfl
    · exact (h.list.each x h1).on hFb (fun _ e => e)
    · exact hr.on hFb (fun _ e => e)
  · rw [World.setCell]
    simp only [Array.size_modify]
    exact h.lt x e
/-- New blocks have come: they may hold bytes. -/
theorem RDkB.grow (h : RDkB V g D F Fb v A n c qs) (hb : Below V.heap.size V V') : RDkB V' g D (nF F V V') (nF Fb V V') v A n c qs := by
  have h1 := h.below hb
  have hl : ∀ k, F k → k < V.heap.size := h.lt
  refine ⟨h1.obj, h1.eq, ⟨h1.list.row, fun k e => ⟨.inl (h.list.own k e).1, ?_⟩, fun q hq => (h1.list.each q hq).on (fun _ _ => rfl) (fun _ e => .inl e)⟩, h1.keep, fun a e => .inl (h.keepF a e), h.kcap, ⟨.inl h.fg.1, ?_, h.fg.2.2⟩, fun k e => ?_, fun k e => ?_, h.ok⟩
  · rintro (e2 | e2)
    · exact (h.list.own k e).2 e2
    · have := hl k (h.list.own k e).1
      omega
  · rintro (e2 | e2)
    · exact h.fg.2.1 e2
    · have := hl g h.fg.1
      omega
  · rcases e with e | e
    · exact .inl (h.sub k e)
    · exact .inr e
  · rcases e with e | e
    · exact Nat.lt_of_lt_of_le (hl k e) hb.size
    · exact e.2
/-- A block that is none of its own is written. -/
theorem RDkB.far (h : RDkB V g D F Fb v A n c qs) {p : Addr} (hp : ¬ F p.block) (u : Value) : RDkB (V.setCell p u) g D F Fb v A n c qs :=
  h.on (by rw [World.setCell]; simp) (fun k e => by
    simp only [World.setCell, Array.getElem?_modify]
    rw [if_neg (fun (e2 : p.block = k) => hp (by rw [e2]; exact e))])
end
end Go.Proofs.Ytmjoaeljfhgojaa
