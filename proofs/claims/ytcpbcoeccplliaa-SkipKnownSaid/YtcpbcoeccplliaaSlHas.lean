/-
  Layer 9: lists of slices of texts: a walk's own (written by wip/gensl.py from SkHas).
-/
import Derived.Test.YtcpbcoeccplliaaSkHas
import Derived.Test.YtcpbcoeccplliaaSlDrop
import Derived.Test.YtcpbcoeccplliaaSlStep
set_option linter.unusedVariables false
namespace Go.Proofs.Ytcpbcoeccplliaa
open Go.RowKit

abbrev z9s : Value := .slice none 0 0
def slA (q : Nat) (l : List Kv) : As where
  p V F := ∃ h L g, SkR 80 78 z9s V q h L g ∧ kvs L = l ∧ ∀ k, F k ↔ skF q h L k
  on {V V' F} h hs hk := by
    obtain ⟨h', L, g, hR, e, hF⟩ := h
    exact ⟨h', L, g, ⟨hR.mem.on (fun k e2 => hk k ((hF k).2 e2)), hR.ck, hR.st, hR.sor⟩, e, hF⟩
  lt {V F} h k e := by
    obtain ⟨h', L, g, hR, _, hF⟩ := h
    exact hR.mem.lt ((hF k).1 e)
section
variable {w V V' : World} {T : List As} {q b : Nat} {l : List Kv} {key : ByteArray}
theorem Has.slNew (h : Has w T V) : Calls Try.prog 32 #[] V fun e w' => ∃ q, e = .returned (pt q) ∧ Has w (slA q [] :: T) w' := by
  refine (SL.sk_new V).mono ?_
  rintro e w' ⟨rfl, hR, hb, hs⟩
  refine ⟨_, rfl, h.new (F := skF (V.heap.size + 1) V.heap.size []) hb ⟨_, [], _, hR, rfl, fun k => Iff.rfl⟩ (fun k e => ?_)⟩
  rcases e with e | e | e
  · omega
  · omega
  · cases e
theorem Has.slPut (h : Has w (slA q l :: T) V) (vA : Option Addr) (vm vc : Nat) (s : Int) (hl : l.length ≤ 1000000000) (hs1 : -9223372036854775808 ≤ s) (hs2 : s ≤ 9223372036854775807) (hks : key.size ≤ 281474976710656) :
    Calls Try.prog 37 #[pt q, .string key, .slice vA vm vc, .int .i64 s] V fun e w' => e = .returned (.bool (decide (1 ≤ s ∧ s ≤ 16))) ∧ Has w (slA q (kputI l key (.slice vA vm vc) s) :: T) w' := by
  refine h.turn (fun F hA => ?_)
  obtain ⟨h', L, g, hR, rfl, hF⟩ := hA
  refine (SL.sk_put z9s q h' L g key vA vm vc s V hR (by rw [kvs_len] at hl; exact hl) hs1 hs2 hks).mono ?_
  rintro e w' ⟨rfl, L', g', hR', e2, hG, hN⟩
  exact ⟨rfl, skF q h' L', ⟨h', L', g', hR', e2, fun k => Iff.rfl⟩, hG.mono (fun k e => (hF k).2 e), fun k e => (hN k e).imp (fun e => (hF k).2 e) id⟩
theorem Has.slDrop (h : Has w (slA q l :: T) V) (key : ByteArray) (hl : l.length ≤ 1000000000) :
    Calls Try.prog 35 #[pt q, .string key] V fun e w' => e = .returned (.bool (khas l key)) ∧ Has w (slA q (kdrop l key) :: T) w' := by
  refine h.turn (fun F hA => ?_)
  obtain ⟨h', L, g, hR, rfl, hF⟩ := hA
  refine (SL.sk_drop z9s q h' L g key V hR (by rw [kvs_len] at hl; exact hl)).mono ?_
  rintro e w' ⟨rfl, L', g', hR', e2, hG, hN⟩
  exact ⟨rfl, skF q h' L', ⟨h', L', g', hR', e2, fun k => Iff.rfl⟩, hG.mono (fun k e => (hF k).2 e), fun k e => (hN k e).imp (fun e => (hF k).2 e) id⟩
theorem Has.slGet (h : Has w (slA q l :: T) V) (key : ByteArray) : Calls Try.prog 33 #[pt q, .string key] V fun e w' => e = .returned (.tuple #[kval z9s l key, .bool (khas l key)]) ∧ Has w (slA q l :: T) w' := by
  obtain ⟨F, ⟨h', L, g, hR, rfl, hF⟩, _⟩ := h.get
  refine (SL.sk_get z9s rfl q h' L g key V hR).mono ?_
  rintro e w' ⟨rfl, hb⟩
  exact ⟨rfl, h.keep hb⟩
theorem Has.slLen (h : Has w (slA q l :: T) V) : Calls Try.prog 34 #[pt q] V fun e w' => e = .returned (.int .i64 (l.length : Int)) ∧ Has w (slA q l :: T) w' := by
  obtain ⟨F, ⟨h', L, g, hR, rfl, hF⟩, _⟩ := h.get
  refine (SL.sk_len z9s q h' L g V hR).mono ?_
  rintro e w' ⟨rfl, rfl⟩
  exact ⟨rfl, h⟩
theorem Has.slFirst (h : Has w (slA q l :: T) V) (key : ByteArray) : Calls Try.prog 38 #[pt q, .string key] V fun e w' => e = .returned (firstV l key) ∧ Has w (slA q l :: T) w' := by
  obtain ⟨F, ⟨h', L, g, hR, rfl, hF⟩, _⟩ := h.get
  refine (SL.sk_first z9s q h' L g key V hR).mono ?_
  rintro e w' ⟨rfl, hb⟩
  exact ⟨rfl, h.keep hb⟩
theorem Has.slLast (h : Has w (slA q l :: T) V) (key : ByteArray) : Calls Try.prog 39 #[pt q, .string key] V fun e w' => e = .returned (lastV l key) ∧ Has w (slA q l :: T) w' := by
  obtain ⟨F, ⟨h', L, g, hR, rfl, hF⟩, _⟩ := h.get
  refine (SL.sk_last z9s q h' L g key V hR).mono ?_
  rintro e w' ⟨rfl, hb⟩
  exact ⟨rfl, h.keep hb⟩
theorem Has.slStep (h : Has w (slA q l :: T) V) (n : Int) (hl : l.length ≤ 1000000000) (hn1 : -9223372036854775808 ≤ n) (hn2 : n ≤ 9223372036854775807) :
    Calls Try.prog 36 #[pt q, .int .i64 n] V fun e w' => ∃ v, e = .returned v ∧ Has w (txA v (kstepI l n) :: slA q l :: T) w' := by
  obtain ⟨F, ⟨h', L, g, hR, rfl, hF⟩, _⟩ := h.get
  refine (SL.sk_step z9s q h' L g n V hR (by rw [kvs_len] at hl; exact hl) hn1 hn2).mono ?_
  rintro e w' ⟨v, rfl, hr, hb⟩
  exact ⟨v, rfl, h.newRow hr hb⟩
end
end Go.Proofs.Ytcpbcoeccplliaa
