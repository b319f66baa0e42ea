/-
  Layer 10: what only asks, wherever a thing stands among a walk's own; batches done to both tables.
-/
import Derived.Test.YtgakkeeeadndkaaOpenTb
set_option linter.unusedVariables false
namespace Go.Proofs.Ytgakkeeeadndkaa
open Go.RowKit Go.Shelf

section
variable {w V V' : World} {l T : List As} {p b : Nat} {r r' : List Rw}
theorem Has.tbGetM (h : Has w l V) (hm : tbA p r ∈ l) (key : ByteArray) : Calls Try.prog 21 #[pt p, .string key] V fun e w' => e = .returned (.tuple #[.string (rval r key), .bool (rhas r key)]) ∧ Has w l w' := by
  obtain ⟨F, hA, _⟩ := h.at_ hm
  refine (tb_get hA key).mono ?_
  rintro e w' ⟨rfl, hb⟩
  exact ⟨rfl, h.keep hb⟩
theorem Has.tbLenM (h : Has w l V) (hm : tbA p r ∈ l) : Calls Try.prog 16 #[pt p] V fun e w' => e = .returned (.int .i64 (r.length : Int)) ∧ w' = V := by
  obtain ⟨F, hA, _⟩ := h.at_ hm
  exact tb_len hA
theorem Has.tbRowsM (h : Has w l V) (hm : tbA p r ∈ l) (hz : Szs r) (hl : r.length ≤ 1000000) : Calls Try.prog 18 #[pt p] V fun e w' => ∃ A c, e = .returned (.slice A r.length c) ∧ Has w (rwA (.slice A r.length c) r :: l) w' ∧ WAt w' A r.length r ∧ r.length ≤ c ∧ c ≤ 9223372036854775807 ∧ Below V.heap.size V w' := by
  obtain ⟨F, hA, _⟩ := h.at_ hm
  refine (tb_rows hA hz hl).mono ?_
  rintro e w' ⟨u, rfl, hr, hb⟩
  obtain ⟨A, c, rfl, h1, h2, h3⟩ := hr.form
  exact ⟨A, c, rfl, h.newRw hr hb, h1, h2, h3, hb⟩
theorem Has.tbRangedUM (h : Has w l V) (hm : tbA p r ∈ l) (hz : Szs r) (hl : r.length ≤ 1000000) (f t : ByteArray) (L : List Rw) (hL : btw r f t = L) : Calls Try.prog 24 #[pt p, .string f, .string t, .bool false] V fun e w' => ∃ A c, e = .returned (.slice A L.length c) ∧ Has w (rwA (.slice A L.length c) L :: l) w' ∧ WAt w' A L.length L ∧ L.length ≤ c ∧ c ≤ 9223372036854775807 ∧ Below V.heap.size V w' := by
  subst hL
  obtain ⟨F, hA, _⟩ := h.at_ hm
  refine (tb_rangedU hA hz hl f t).mono ?_
  rintro e w' ⟨u, rfl, hr, hb⟩
  obtain ⟨A, c, rfl, h1, h2, h3⟩ := hr.form
  exact ⟨A, c, rfl, h.newRw hr hb, h1, h2, h3, hb⟩
theorem Has.tbRangedDM (h : Has w l V) (hm : tbA p r ∈ l) (hz : Szs r) (hl : r.length ≤ 1000000) (f t : ByteArray) (L : List Rw) (hL : (btw r f t).reverse = L) : Calls Try.prog 24 #[pt p, .string f, .string t, .bool true] V fun e w' => ∃ A c, e = .returned (.slice A L.length c) ∧ Has w (rwA (.slice A L.length c) L :: l) w' ∧ WAt w' A L.length L ∧ L.length ≤ c ∧ c ≤ 9223372036854775807 ∧ Below V.heap.size V w' := by
  subst hL
  obtain ⟨F, hA, _⟩ := h.at_ hm
  refine (tb_rangedD hA hz hl f t).mono ?_
  rintro e w' ⟨u, rfl, hr, hb⟩
  obtain ⟨A, c, rfl, h1, h2, h3⟩ := hr.form
  exact ⟨A, c, rfl, h.newRw hr hb, h1, h2, h3, hb⟩
theorem Has.rtGetM (h : Has w l V) (hm : rtA b r ∈ l) (key : ByteArray) : Calls Try.prog 22 #[pt b, .string key] V fun e w' => e = .returned (.tuple #[.string (rval r key), .bool (rhas r key)]) ∧ Has w l w' := by
  obtain ⟨F, ⟨v, hR, _⟩, _⟩ := h.at_ hm
  refine (rt_get hR key).mono ?_
  rintro e w' ⟨rfl, hb⟩
  exact ⟨rfl, h.keep hb⟩
theorem Has.rtLenM (h : Has w l V) (hm : rtA b r ∈ l) : Calls Try.prog 17 #[pt b] V fun e w' => e = .returned (.int .i64 (r.length : Int)) ∧ w' = V := by
  obtain ⟨F, ⟨v, hR, _⟩, _⟩ := h.at_ hm
  exact rt_len hR
theorem Has.rtBetweenM (h : Has w l V) (hm : rtA b r ∈ l) (hs : RSor r) (f t : ByteArray) (hl : r.length ≤ 1000000000) (L : List Rw) (hL : btw r f t = L) : Calls Try.prog 23 #[pt b, .string f, .string t] V fun e w' => ∃ A c, e = .returned (.slice A L.length c) ∧ Has w (rwA (.slice A L.length c) L :: l) w' ∧ WAt w' A L.length L ∧ L.length ≤ c ∧ c ≤ 9223372036854775807 ∧ Below V.heap.size V w' := by
  subst hL
  obtain ⟨F, ⟨v, hR, _⟩, _⟩ := h.at_ hm
  refine (rt_between hR hs f t hl).mono ?_
  rintro e w' ⟨u, rfl, hr, hb⟩
  obtain ⟨A, c, rfl, h1, h2, h3⟩ := hr.form
  exact ⟨A, c, rfl, h.newRw hr hb, h1, h2, h3, hb⟩
theorem Has.sameM (h : Has w l V) (A1 A2 : Option Addr) (n1 n2 c1 c2 : Nat) (L1 L2 : List Rw) (h1 : WAt V A1 n1 L1) (h2 : WAt V A2 n2 L2) (hn1 : n1 ≤ 9223372036854775807) (hn2 : n2 ≤ 9223372036854775807) (e0 : L1 = L2) : Calls Try.prog 19 #[.slice A1 n1 c1, .slice A2 n2 c2] V fun e w' => e = .returned (.bool true) ∧ Has w l w' ∧ Below V.heap.size V w' := by
  refine (same10 A1 A2 n1 n2 c1 c2 L1 L2 V h1 h2 hn1 hn2).mono ?_
  rintro e w' ⟨rfl, hb⟩
  exact ⟨by rw [decide_eq_true e0], h.keep hb, hb⟩
theorem Has.turnedM (h : Has w l V) (A : Option Addr) (n c : Nat) (L L' : List Rw) (hx : WAt V A n L) (hn : n ≤ 1000000) (hL : L.reverse = L') : Calls Try.prog 25 #[.slice A n c] V fun e w' => ∃ A c, e = .returned (.slice A L'.length c) ∧ Has w (rwA (.slice A L'.length c) L' :: l) w' ∧ WAt w' A L'.length L' ∧ L'.length ≤ c ∧ c ≤ 9223372036854775807 ∧ Below V.heap.size V w' := by
  subst hL
  refine (turned10 A n c L V hx hn).mono ?_
  rintro e w' ⟨u, rfl, hr, hb⟩
  obtain ⟨A, c, rfl, h1, h2, h3⟩ := hr.form
  exact ⟨A, c, rfl, h.newRw hr hb, h1, h2, h3, hb⟩
end
/-! ### batches -/
def tabs (bs : List (List Op_)) (k : Nat) : List Rw := (bs.take k).foldl rapp []
theorem tabs_succ {bs : List (List Op_)} {k : Nat} (h : k < bs.length) : tabs bs (k + 1) = rapp (tabs bs k) (bs[k]'h) := by
  unfold tabs
  rw [List.take_succ_eq_append_getElem h, List.foldl_append]
  rfl
theorem tabs_ok {bs : List (List Op_)} (hz : ∀ b ∈ bs, OSz b) (k : Nat) : ROk (128 * k) (tabs bs k) := by
  induction k with
  | zero => exact ROk.nil
  | succ k ih =>
    by_cases h : k < bs.length
    · rw [tabs_succ h]
      exact (ih.app (hz _ (List.getElem_mem h))).mono (by omega)
    · unfold tabs at ih ⊢
      rw [List.take_of_length_le (by omega)] at ih ⊢
      exact ih.mono (by omega)
section
variable {w V V' : World} {T : List As} {p b : Nat} {r r' : List Rw} {x y : Bool}
/-- Where the two tables stand. -/
def TS (w : World) (p b : Nat) (r r' : List Rw) (T : List As) (x y : Bool) (V : World) : Prop := Has w (tbA p (if x then r' else r) :: rtA b (if y then r' else r) :: T) V
theorem TS.bel (h : TS w p b r r' T x y V) : Below w.heap.size w V := Has.bel h
theorem TS.appA {N : Nat} {ops : List Op_} (h : TS w p b r (rapp r ops) T false y V) (hr : ROk N r) (hN : N ≤ 999999000) (A : Option Addr) (n c : Nat) (ho : OAt w A n ops) (hn : n ≤ 9223372036854775807) (hs : OSz ops) :
    Calls Try.prog 14 #[pt p, .slice A n c] V fun e w' => e = .returned (.int .i64 (chk ops)) ∧ TS w p b r (rapp r ops) T true y w' ∧ Below w.heap.size w w' ∧ ∀ n, KeepsFrom n V w' := by
  refine (Has.tbApply h hr hN A n c ops ho hn hs).mono ?_
  rintro e w' ⟨rfl, h2, h3⟩
  exact ⟨rfl, h2, Has.bel h2, h3⟩
theorem TS.appB {ops : List Op_} (h : TS w p b r (rapp r ops) T x false V) (hr : r.length ≤ 999999000) (A : Option Addr) (n c : Nat) (ho : OAt w A n ops) (hn : n ≤ 9223372036854775807) :
    Calls Try.prog 15 #[pt b, .slice A n c] V fun e w' => e = .returned (.int .i64 (chk ops)) ∧ TS w p b r (rapp r ops) T x true w' ∧ Below w.heap.size w w' ∧ ∀ n, KeepsFrom n V w' := by
  refine (Has.rtApply (Has.swap h) hr A n c ops ho hn).mono ?_
  rintro e w' ⟨rfl, h2, h3⟩
  exact ⟨rfl, Has.swap h2, Has.bel h2, h3⟩
end
end Go.Proofs.Ytgakkeeeadndkaa
