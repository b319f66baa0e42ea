/-
  Layer 9: a walk's own lists: each call takes them one step further.
-/
import Derived.Test.YtcpbcoeccplliaaSkRefDo
import Derived.Test.YtcpbcoeccplliaaSkDrop
set_option linter.unusedVariables false
namespace Go.Proofs.Ytcpbcoeccplliaa
open Go.RowKit

theorem row0 {w : World} {B n : Nat} {e : TypeId} {s : Nat} {v : Value} {xs : List Value} (h : w.ownsRow B e s v n xs) : w.ownsRow 0 e s v n xs := by
  refine ⟨h.1, ?_⟩
  rcases h.2 with hn | ⟨g, cap, cur, hv, hb, rest⟩
  · exact .inl hn
  · exact .inr ⟨g, cap, cur, hv, Nat.zero_le _, rest⟩
abbrev z9 : Value := .int .i64 0
/-- The code's list. -/
def skA (q : Nat) (l : List Kv) : As where
  p V F := ∃ h L g, SkR 57 61 z9 V q h L g ∧ kvs L = l ∧ ∀ k, F k ↔ skF q h L k
  on {V V' F} h hs hk := by
    obtain ⟨h', L, g, hR, e, hF⟩ := h
    exact ⟨h', L, g, ⟨hR.mem.on (fun k e2 => hk k ((hF k).2 e2)), hR.ck, hR.st, hR.sor⟩, e, hF⟩
  lt {V F} h k e := by
    obtain ⟨h', L, g, hR, _, hF⟩ := h
    exact hR.mem.lt ((hF k).1 e)
/-- The document's list. -/
def rfA (b : Nat) (l : List Kv) : As where
  p V F := ∃ v, RfR V b v l ∧ ∀ k, F k ↔ rfF b v k
  on {V V' F} h hs hk := by
    obtain ⟨v, hR, hF⟩ := h
    exact ⟨v, hR.on (fun k e2 => hk k ((hF k).2 e2)), hF⟩
  lt {V F} h k e := by
    obtain ⟨v, hR, hF⟩ := h
    exact hR.lt ((hF k).1 e)
/-- What Put makes of a list. -/
def kputI (l : List Kv) (k : ByteArray) (v : Value) (s : Int) : List Kv := if 1 ≤ s ∧ s ≤ 16 then kput l k v s.toNat else l
def kstepI (l : List Kv) (n : Int) : List ByteArray := if 1 ≤ n then kstep l n.toNat else []
theorem kputI_len (l : List Kv) (k : ByteArray) (v : Value) (s : Int) : (kputI l k v s).length ≤ l.length + 1 := by
  unfold kputI
  split
  · have := kput_len l k v s.toNat
    split at this <;> omega
  · omega
theorem kdrop_len2 (l : List Kv) (k : ByteArray) : (kdrop l k).length ≤ l.length := by have := kdrop_len l k; split at this <;> omega
section
variable {w V V' : World} {T : List As} {q b : Nat} {l : List Kv} {key : ByteArray}
theorem Has.skNew (h : Has w T V) : Calls Try.prog 11 #[] V fun e w' => ∃ q, e = .returned (pt q) ∧ Has w (skA q [] :: T) w' := by
  refine (sk_new V).mono ?_
  rintro e w' ⟨rfl, hR, hb, hs⟩
  refine ⟨_, rfl, h.new (F := skF (V.heap.size + 1) V.heap.size []) hb ⟨_, [], _, hR, rfl, fun k => Iff.rfl⟩ (fun k e => ?_)⟩
  rcases e with e | e | e
  · omega
  · omega
  · cases e
theorem Has.rfNew (h : Has w T V) : Calls Try.prog 12 #[] V fun e w' => ∃ b, e = .returned (pt b) ∧ Has w (rfA b [] :: T) w' := by
  refine (rf_new V).mono ?_
  rintro e w' ⟨rfl, hR, hb⟩
  refine ⟨_, rfl, h.new (F := rfF V.heap.size (.slice none 0 0)) hb ⟨_, hR, fun k => Iff.rfl⟩ (fun k e => ?_)⟩
  rcases e with e | e
  · omega
  · cases e
theorem Has.skPut (h : Has w (skA q l :: T) V) (vn s : Int) (hl : l.length ≤ 1000000000) (hs1 : -9223372036854775808 ≤ s) (hs2 : s ≤ 9223372036854775807) (hks : key.size ≤ 281474976710656) :
    Calls Try.prog 30 #[pt q, .string key, .int .i64 vn, .int .i64 s] V fun e w' => e = .returned (.bool (decide (1 ≤ s ∧ s ≤ 16))) ∧ Has w (skA q (kputI l key (.int .i64 vn) s) :: T) w' := by
  refine h.turn (fun F hA => ?_)
  obtain ⟨h', L, g, hR, rfl, hF⟩ := hA
  refine (sk_put z9 q h' L g key vn s V hR (by rw [kvs_len] at hl; exact hl) hs1 hs2 hks).mono ?_
  rintro e w' ⟨rfl, L', g', hR', e2, hG, hN⟩
  exact ⟨rfl, skF q h' L', ⟨h', L', g', hR', e2, fun k => Iff.rfl⟩, hG.mono (fun k e => (hF k).2 e), fun k e => (hN k e).imp (fun e => (hF k).2 e) id⟩
theorem Has.skDrop (h : Has w (skA q l :: T) V) (key : ByteArray) (hl : l.length ≤ 1000000000) :
    Calls Try.prog 31 #[pt q, .string key] V fun e w' => e = .returned (.bool (khas l key)) ∧ Has w (skA q (kdrop l key) :: T) w' := by
  refine h.turn (fun F hA => ?_)
  obtain ⟨h', L, g, hR, rfl, hF⟩ := hA
  refine (sk_drop z9 q h' L g key V hR (by rw [kvs_len] at hl; exact hl)).mono ?_
  rintro e w' ⟨rfl, L', g', hR', e2, hG, hN⟩
  exact ⟨rfl, skF q h' L', ⟨h', L', g', hR', e2, fun k => Iff.rfl⟩, hG.mono (fun k e => (hF k).2 e), fun k e => (hN k e).imp (fun e => (hF k).2 e) id⟩
theorem Has.rfPut (h : Has w (rfA b l :: T) V) (vn s : Int) (hl : l.length ≤ 1000000000) (hs1 : -9223372036854775808 ≤ s) (hs2 : s ≤ 9223372036854775807) :
    Calls Try.prog 42 #[pt b, .string key, .int .i64 vn, .int .i64 s] V fun e w' => e = .returned (.bool (decide (1 ≤ s ∧ s ≤ 16))) ∧ Has w (rfA b (kputI l key (.int .i64 vn) s) :: T) w' := by
  refine h.turn (fun F hA => ?_)
  obtain ⟨v, hR, hF⟩ := hA
  refine (rf_put V b v l key vn s hR hl hs1 hs2).mono ?_
  rintro e w' ⟨rfl, v', hR', hG, hN⟩
  exact ⟨rfl, rfF b v', ⟨v', hR', fun k => Iff.rfl⟩, hG.mono (fun k e => (hF k).2 e), fun k e => (hN k e).imp (fun e => (hF k).2 e) id⟩
theorem Has.rfDrop (h : Has w (rfA b l :: T) V) (key : ByteArray) (hl : l.length ≤ 1000000000) :
    Calls Try.prog 41 #[pt b, .string key] V fun e w' => e = .returned (.bool (khas l key)) ∧ Has w (rfA b (kdrop l key) :: T) w' := by
  refine h.turn (fun F hA => ?_)
  obtain ⟨v, hR, hF⟩ := hA
  refine (rf_drop V b v l key hR hl).mono ?_
  rintro e w' ⟨rfl, v', hR', hG, hN⟩
  exact ⟨rfl, rfF b v', ⟨v', hR', fun k => Iff.rfl⟩, hG.mono (fun k e => (hF k).2 e), fun k e => (hN k e).imp (fun e => (hF k).2 e) id⟩
/-! what only asks -/
theorem Has.skGet (h : Has w (skA q l :: T) V) (key : ByteArray) : Calls Try.prog 16 #[pt q, .string key] V fun e w' => e = .returned (.tuple #[kval z9 l key, .bool (khas l key)]) ∧ Has w (skA q l :: T) w' := by
  obtain ⟨F, ⟨h', L, g, hR, rfl, hF⟩, _⟩ := h.get
  refine (sk_get z9 rfl q h' L g key V hR).mono ?_
  rintro e w' ⟨rfl, hb⟩
  exact ⟨rfl, h.keep hb⟩
theorem Has.skSteps (h : Has w (skA q l :: T) V) (key : ByteArray) : Calls Try.prog 22 #[pt q, .string key] V fun e w' => e = .returned (.int .i64 ((ksteps l key : Nat) : Int)) ∧ Has w (skA q l :: T) w' := by
  obtain ⟨F, ⟨h', L, g, hR, rfl, hF⟩, _⟩ := h.get
  refine (sk_steps z9 q h' L g key V hR).mono ?_
  rintro e w' ⟨rfl, hb⟩
  exact ⟨rfl, h.keep hb⟩
theorem Has.skLen (h : Has w (skA q l :: T) V) : Calls Try.prog 14 #[pt q] V fun e w' => e = .returned (.int .i64 (l.length : Int)) ∧ Has w (skA q l :: T) w' := by
  obtain ⟨F, ⟨h', L, g, hR, rfl, hF⟩, _⟩ := h.get
  refine (sk_len z9 q h' L g V hR).mono ?_
  rintro e w' ⟨rfl, rfl⟩
  exact ⟨rfl, h⟩
theorem Has.skFirst (h : Has w (skA q l :: T) V) (key : ByteArray) : Calls Try.prog 18 #[pt q, .string key] V fun e w' => e = .returned (firstV l key) ∧ Has w (skA q l :: T) w' := by
  obtain ⟨F, ⟨h', L, g, hR, rfl, hF⟩, _⟩ := h.get
  refine (sk_first z9 q h' L g key V hR).mono ?_
  rintro e w' ⟨rfl, hb⟩
  exact ⟨rfl, h.keep hb⟩
theorem Has.skLast (h : Has w (skA q l :: T) V) (key : ByteArray) : Calls Try.prog 20 #[pt q, .string key] V fun e w' => e = .returned (lastV l key) ∧ Has w (skA q l :: T) w' := by
  obtain ⟨F, ⟨h', L, g, hR, rfl, hF⟩, _⟩ := h.get
  refine (sk_last z9 q h' L g key V hR).mono ?_
  rintro e w' ⟨rfl, hb⟩
  exact ⟨rfl, h.keep hb⟩
/-- Texts of the walk's own. -/
abbrev txA (v : Value) (xs : List ByteArray) : As := rowA 9 1 v xs.length (xs.map Value.string)
theorem Has.newRow (h : Has w T V) {v : Value} {xs : List ByteArray} (hr : V'.ownsRow V.heap.size 9 1 v xs.length (xs.map Value.string)) (hb : Below V.heap.size V V') : Has w (txA v xs :: T) V' :=
  h.new (F := fun k => v.ownBlock = some k) hb ⟨row0 hr, fun k => Iff.rfl⟩ (fun k e => (World.ownsRow.lt hr k e).1)
theorem Has.skStep (h : Has w (skA q l :: T) V) (n : Int) (hl : l.length ≤ 1000000000) (hn1 : -9223372036854775808 ≤ n) (hn2 : n ≤ 9223372036854775807) :
    Calls Try.prog 24 #[pt q, .int .i64 n] V fun e w' => ∃ v, e = .returned v ∧ Has w (txA v (kstepI l n) :: skA q l :: T) w' := by
  obtain ⟨F, ⟨h', L, g, hR, rfl, hF⟩, _⟩ := h.get
  refine (sk_step z9 q h' L g n V hR (by rw [kvs_len] at hl; exact hl) hn1 hn2).mono ?_
  rintro e w' ⟨v, rfl, hr, hb⟩
  exact ⟨v, rfl, h.newRow hr hb⟩
theorem Has.rfStep (h : Has w (rfA b l :: T) V) (n : Int) (hl : l.length ≤ 1000000000) (hn1 : -9223372036854775808 ≤ n) (hn2 : n ≤ 9223372036854775807) :
    Calls Try.prog 26 #[pt b, .int .i64 n] V fun e w' => ∃ v, e = .returned v ∧ Has w (txA v (kstepI l n) :: rfA b l :: T) w' := by
  obtain ⟨F, ⟨v0, hR, hF⟩, _⟩ := h.get
  refine (rf_step V b v0 l n hR hl hn1 hn2).mono ?_
  rintro e w' ⟨v, rfl, hr, hb⟩
  exact ⟨v, rfl, h.newRow hr hb⟩
theorem Has.rfGet (h : Has w (rfA b l :: T) V) (key : ByteArray) : Calls Try.prog 17 #[pt b, .string key] V fun e w' => e = .returned (.tuple #[kval z9 l key, .bool (khas l key)]) ∧ Has w (rfA b l :: T) w' := by
  obtain ⟨F, ⟨v0, hR, hF⟩, _⟩ := h.get
  refine (rf_get V b v0 l key hR).mono ?_
  rintro e w' ⟨rfl, rfl⟩
  exact ⟨rfl, h⟩
theorem Has.rfSteps (h : Has w (rfA b l :: T) V) (key : ByteArray) : Calls Try.prog 23 #[pt b, .string key] V fun e w' => e = .returned (.int .i64 ((ksteps l key : Nat) : Int)) ∧ Has w (rfA b l :: T) w' := by
  obtain ⟨F, ⟨v0, hR, hF⟩, _⟩ := h.get
  refine (rf_steps V b v0 l key hR).mono ?_
  rintro e w' ⟨rfl, rfl⟩
  exact ⟨rfl, h⟩
theorem Has.rfLen (h : Has w (rfA b l :: T) V) : Calls Try.prog 15 #[pt b] V fun e w' => e = .returned (.int .i64 (l.length : Int)) ∧ Has w (rfA b l :: T) w' := by
  obtain ⟨F, ⟨v0, hR, hF⟩, _⟩ := h.get
  refine (rf_len V b v0 l hR).mono ?_
  rintro e w' ⟨rfl, rfl⟩
  exact ⟨rfl, h⟩
theorem Has.rfFirst (h : Has w (rfA b l :: T) V) (key : ByteArray) : Calls Try.prog 19 #[pt b, .string key] V fun e w' => e = .returned (firstV l key) ∧ Has w (rfA b l :: T) w' := by
  obtain ⟨F, ⟨v0, hR, hF⟩, _⟩ := h.get
  refine (rf_first V b v0 l key hR).mono ?_
  rintro e w' ⟨rfl, rfl⟩
  exact ⟨rfl, h⟩
theorem Has.rfLast (h : Has w (rfA b l :: T) V) (key : ByteArray) : Calls Try.prog 21 #[pt b, .string key] V fun e w' => e = .returned (lastV l key) ∧ Has w (rfA b l :: T) w' := by
  obtain ⟨F, ⟨v0, hR, hF⟩, _⟩ := h.get
  refine (rf_last V b v0 l key hR).mono ?_
  rintro e w' ⟨rfl, rfl⟩
  exact ⟨rfl, h⟩
end
end Go.Proofs.Ytcpbcoeccplliaa
