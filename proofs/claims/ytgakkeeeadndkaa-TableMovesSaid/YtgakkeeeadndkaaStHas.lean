/-
  Layer 9: lists of texts: a walk's own (written by wip/genst.py from SkHas).
-/
import Derived.Test.YtgakkeeeadndkaaStDrop
set_option linter.unusedVariables false
namespace Go.Proofs.Ytgakkeeeadndkaa
open Go.RowKit

abbrev z9 : Value := .string ⟨#[]⟩
theorem row0 {w : World} {B n : Nat} {e : TypeId} {s : Nat} {v : Value} {xs : List Value} (h : w.ownsRow B e s v n xs) : w.ownsRow 0 e s v n xs := by
  refine ⟨h.1, ?_⟩
  rcases h.2 with hn | ⟨g, cap, cur, hv, hb, rest⟩
  · exact .inl hn
  · exact .inr ⟨g, cap, cur, hv, Nat.zero_le _, rest⟩
def skA (q : Nat) (l : List Kv) : As where
  p V F := ∃ h L g, SkR 78 76 z9 V q h L g ∧ kvs L = l ∧ ∀ k, F k ↔ skF q h L k
  on {V V' F} h hs hk := by
    obtain ⟨h', L, g, hR, e, hF⟩ := h
    exact ⟨h', L, g, ⟨hR.mem.on (fun k e2 => hk k ((hF k).2 e2)), hR.ck, hR.st, hR.sor⟩, e, hF⟩
  lt {V F} h k e := by
    obtain ⟨h', L, g, hR, _, hF⟩ := h
    exact hR.mem.lt ((hF k).1 e)
def kputI (l : List Kv) (k : ByteArray) (v : Value) (s : Int) : List Kv := if 1 ≤ s ∧ s ≤ 16 then kput l k v s.toNat else l
theorem kputI_len (l : List Kv) (k : ByteArray) (v : Value) (s : Int) : (kputI l k v s).length ≤ l.length + 1 := by
  unfold kputI
  split
  · have := kput_len l k v s.toNat
    split at this <;> omega
  · omega
theorem kdrop_len2 (l : List Kv) (k : ByteArray) : (kdrop l k).length ≤ l.length := by have := kdrop_len l k; split at this <;> omega
section
variable {w V V' : World} {T : List As} {q b : Nat} {l : List Kv} {key : ByteArray}
theorem Has.skNew (h : Has w T V) : Calls Try.prog 33 #[] V fun e w' => ∃ q, e = .returned (pt q) ∧ Has w (skA q [] :: T) w' := by
  refine (sk_new V).mono ?_
  rintro e w' ⟨rfl, hR, hb, hs⟩
  refine ⟨_, rfl, h.new (F := skF (V.heap.size + 1) V.heap.size []) hb ⟨_, [], _, hR, rfl, fun k => Iff.rfl⟩ (fun k e => ?_)⟩
  rcases e with e | e | e
  · omega
  · omega
  · cases e
theorem Has.skPut (h : Has w (skA q l :: T) V) (vs : ByteArray) (s : Int) (hl : l.length ≤ 1000000000) (hs1 : -9223372036854775808 ≤ s) (hs2 : s ≤ 9223372036854775807) (hks : key.size ≤ 281474976710656) :
    Calls Try.prog 56 #[pt q, .string key, .string vs, .int .i64 s] V fun e w' => e = .returned (.bool (decide (1 ≤ s ∧ s ≤ 16))) ∧ Has w (skA q (kputI l key (.string vs) s) :: T) w' := by
  refine h.turn (fun F hA => ?_)
  obtain ⟨h', L, g, hR, rfl, hF⟩ := hA
  refine (sk_put z9 q h' L g key vs s V hR (by rw [kvs_len] at hl; exact hl) hs1 hs2 hks).mono ?_
  rintro e w' ⟨rfl, L', g', hR', e2, hG, hN⟩
  exact ⟨rfl, skF q h' L', ⟨h', L', g', hR', e2, fun k => Iff.rfl⟩, hG.mono (fun k e => (hF k).2 e), fun k e => (hN k e).imp (fun e => (hF k).2 e) id⟩
theorem Has.skDrop (h : Has w (skA q l :: T) V) (key : ByteArray) (hl : l.length ≤ 1000000000) :
    Calls Try.prog 51 #[pt q, .string key] V fun e w' => e = .returned (.bool (khas l key)) ∧ Has w (skA q (kdrop l key) :: T) w' := by
  refine h.turn (fun F hA => ?_)
  obtain ⟨h', L, g, hR, rfl, hF⟩ := hA
  refine (sk_drop z9 q h' L g key V hR (by rw [kvs_len] at hl; exact hl)).mono ?_
  rintro e w' ⟨rfl, L', g', hR', e2, hG, hN⟩
  exact ⟨rfl, skF q h' L', ⟨h', L', g', hR', e2, fun k => Iff.rfl⟩, hG.mono (fun k e => (hF k).2 e), fun k e => (hN k e).imp (fun e => (hF k).2 e) id⟩
theorem Has.skGet (h : Has w (skA q l :: T) V) (key : ByteArray) : Calls Try.prog 42 #[pt q, .string key] V fun e w' => e = .returned (.tuple #[kval z9 l key, .bool (khas l key)]) ∧ Has w (skA q l :: T) w' := by
  obtain ⟨F, ⟨h', L, g, hR, rfl, hF⟩, _⟩ := h.get
  refine (sk_get z9 rfl q h' L g key V hR).mono ?_
  rintro e w' ⟨rfl, hb⟩
  exact ⟨rfl, h.keep hb⟩
theorem Has.skLen (h : Has w (skA q l :: T) V) : Calls Try.prog 41 #[pt q] V fun e w' => e = .returned (.int .i64 (l.length : Int)) ∧ Has w (skA q l :: T) w' := by
  obtain ⟨F, ⟨h', L, g, hR, rfl, hF⟩, _⟩ := h.get
  refine (sk_len z9 q h' L g V hR).mono ?_
  rintro e w' ⟨rfl, rfl⟩
  exact ⟨rfl, h⟩
theorem Has.skFirst (h : Has w (skA q l :: T) V) (key : ByteArray) : Calls Try.prog 45 #[pt q, .string key] V fun e w' => e = .returned (firstV l key) ∧ Has w (skA q l :: T) w' := by
  obtain ⟨F, ⟨h', L, g, hR, rfl, hF⟩, _⟩ := h.get
  refine (sk_first z9 q h' L g key V hR).mono ?_
  rintro e w' ⟨rfl, hb⟩
  exact ⟨rfl, h.keep hb⟩
theorem Has.skLast (h : Has w (skA q l :: T) V) (key : ByteArray) : Calls Try.prog 48 #[pt q, .string key] V fun e w' => e = .returned (lastV l key) ∧ Has w (skA q l :: T) w' := by
  obtain ⟨F, ⟨h', L, g, hR, rfl, hF⟩, _⟩ := h.get
  refine (sk_last z9 q h' L g key V hR).mono ?_
  rintro e w' ⟨rfl, hb⟩
  exact ⟨rfl, h.keep hb⟩
end
end Go.Proofs.Ytgakkeeeadndkaa
