/-
  Layer 7: the document's disk: find, may, all.
-/
import Derived.Test.YtmjoaeljfhgojaaDRep
import Derived.Deep.RegionWith
import Derived.Deep.RegionHeld3
import Derived.Deep.QuietTactic
import Derived.BigQuiet
import Derived.IntWalk
set_option linter.unusedVariables false
namespace Go.Proofs.Ytmjoaeljfhgojaa
open Go.RowKit

theorem pos_eq {l : List Fl} {s : ByteArray} {k : Nat} (hk : k ≤ l.length) (h1 : ∀ i, (h : i < k) → nl (l[i]'(by omega)).name s = true) (h2 : ∀ h : k < l.length, nl l[k].name s = false) : pos l s = k := by
  unfold pos
  induction l generalizing k with
  | nil => simp at hk; simp [hk]
  | cons f l ih =>
    cases k with
    | zero =>
      have := h2 (by simp)
      simp at this
      simp [this]
    | succ k =>
      have h0 := h1 0 (by omega)
      simp at h0
      have := ih (k := k) (by simpa using hk) (fun i hi => by have := h1 (i + 1) (by omega); simpa using this) (fun h => by have := h2 (by simpa using h); simpa using this)
      simp [h0, this]
theorem pos_le (l : List Fl) (s : ByteArray) : pos l s ≤ l.length := by
  unfold pos
  exact (List.takeWhile_sublist _).length_le
theorem isAt_eq {l : List Fl} {s : ByteArray} {k : Nat} (hp : pos l s = k) (h : k < l.length) : isAt l s = decide (l[k].name = s) := by
  unfold isAt
  rw [hp, List.getElem?_eq_getElem h]
theorem isAt_end {l : List Fl} {s : ByteArray} (h : ¬ pos l s < l.length) : isAt l s = false := by
  unfold isAt
  rw [List.getElem?_eq_none (by omega)]
theorem isAt_lt {l : List Fl} {s : ByteArray} (h : isAt l s = true) : pos l s < l.length := by
  by_cases h1 : pos l s < l.length
  · exact h1
  · rw [isAt_end h1] at h
    cases h

theorem may_ok (w : World) (s : ByteArray) : Calls Try.prog 68 #[.string s] w fun e w' => e = .returned (.bool (mayN s)) ∧ w' = w := by
  obtain ⟨b, hb⟩ : ∃ b, mayN s = b := ⟨_, rfl⟩
  have hb2 := hb
  unfold mayN at hb2
  rw [hb]
  have HB := Lib.hid hb2
  clear hb hb2
  by_cases h1 : (s.size : Int) < 1
  · have e : b = false := by rw [← HB.out]; simp; omega
    subst e
    go_enter Try.func68, Try.ntmps68
    go_wp2
    go_ret
    exact ⟨rfl, rfl⟩
  · have e : decide ((s.size : Int) ≤ 40) = b := by rw [← HB.out]; exact decide_eq_decide.2 (by omega)
    go_enter Try.func68, Try.ntmps68
    go_wp2
    go_ret
    exact ⟨rfl, rfl⟩

set_option maxHeartbeats 4000000 in
theorem find_ok (w : World) (g : Nat) (D : Dk) (F : Nat → Prop) (s : ByteArray) (h : RDk w g D F) :
    Calls Try.prog 69 #[pt g, .string s] w fun e w' => e = .returned (.tuple #[.int .i64 (pos D.l s : Nat), .bool (isAt D.l s)]) ∧ Below w.heap.size w w' := by
  obtain ⟨Fb, v, KA, kn, kc, qs, h⟩ := h
  obtain ⟨A, c, rfl, hc1, hc2, _, hcell⟩ := h.list.form
  have c0 := h.c0
  have hlen := h.len
  have H := Lib.hid h
  have HC := Lib.hid hcell
  have hfew := h.ok.few
  clear h hcell
  go_enter Try.func69, Try.ntmps69
  go_wp2_with fail
  go_loopw [6] (fun iv wr => ∃ k : Nat, k ≤ qs.length ∧ iv = .int .i64 k ∧ Hid (∀ i, (h : i < k) → (h2 : i < D.l.length) → nl (D.l[i]'h2).name s = true) ∧ wr = w) (fun iv _ => qs.length - (intOf iv).toNat)
  case atStart => exact ⟨0, Nat.zero_le _, rfl, Lib.hid (fun i h => by omega), rfl⟩
  case round =>
    obtain ⟨k, hk, rfl, hall, rfl⟩ := hrel
    by_cases hlt : k < qs.length
    · obtain ⟨b, rfl, hFb, hnb, hcl⟩ := HC.out (by omega)
      obtain ⟨d0, d1, d2⟩ := hcl k hlt
      clear hcl
      have hkl : k < D.l.length := by omega
      have hq := H.out.get hlt
      cases hn : nl qs[k].f.name s
      · have hb : Op.bytesLess qs[k].f.name.toList s.toList = false := hn
        have hp : pos D.l s = k := pos_eq (by omega) (fun i hi => hall.out i hi (by omega)) (fun h => by rw [hq]; exact hn)
        have hi : isAt D.l s = (qs[k].f.name.toList == s.toList) := by rw [isAt_eq hp hkl, hq, beq_nm]
        have HP := Lib.hid hp
        have HI := Lib.hid hi
        have hg : decide ((k : Int) < (qs.length : Int)) = true := decide_eq_true (by omega)
        clear hp hi hn hq
        go_wp2_with fail
        go_quiet (fail)
        go_wp2
        go_ret2
        exact ⟨by rw [HP.out, HI.out]; rfl, below_drewN (Below.refl _ _) _⟩
      · have hb : Op.bytesLess qs[k].f.name.toList s.toList = true := hn
        have hall2 : Hid (∀ i, (h : i < k + 1) → (h2 : i < D.l.length) → nl (D.l[i]'h2).name s = true) := Lib.hid (fun i hi h2 => by
          by_cases e : i = k
          · subst e
            rw [hq]
            exact hn
          · exact hall.out i (by omega) h2)
        clear hq hn
        go_wp2_with fail
        go_roundw
        case rel => exact ⟨k + 1, by omega, by go_num, hall2, trivial⟩
        case measure => simp [intOf]; omega
    · have hkk : k = qs.length := by omega
      have hp : pos D.l s = k := pos_eq (by omega) (fun i hi => hall.out i hi (by omega)) (fun h => by omega)
      have hi : isAt D.l s = false := isAt_end (by rw [hp]; omega)
      have HP := Lib.hid hp
      have HI := Lib.hid hi
      have hg : decide ((k : Int) < (qs.length : Int)) = false := decide_eq_false (by omega)
      clear hp hi
      go_wp2_with fail
      go_quiet (fail)
      go_wp2
      go_ret2
      exact ⟨by rw [HP.out, HI.out]; rfl, below_drewN (Below.refl _ _) _⟩
end Go.Proofs.Ytmjoaeljfhgojaa
