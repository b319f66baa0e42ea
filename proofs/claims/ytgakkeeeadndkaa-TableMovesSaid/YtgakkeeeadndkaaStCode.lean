/-
  Layer 9, the code: what a list's calls answer.
-/
import Derived.Test.YtgakkeeeadndkaaStFind
set_option linter.unusedVariables false
namespace Go.Proofs.Ytgakkeeeadndkaa
open Go.RowKit

section
variable {TL TI : TypeId} {z : Value} {V V' w : World} {q h cnt : Nat} {L : List Nd} {g : Nat → Nat → Option Nat}
def kvs (L : List Nd) : List Kv := L.map (·.2)
theorem kvs_len (L : List Nd) : (kvs L).length = L.length := by simp [kvs]
theorem kvs_get {L : List Nd} {i : Nat} (hi : i < L.length) : (kvs L)[i]'(by rw [kvs_len]; exact hi) = (L[i]'hi).2 := by simp [kvs]
theorem SkR.below (hR : SkR TL TI z V q h L g) (hb : Below V.heap.size V V') : SkR TL TI z V' q h L g :=
  ⟨hR.mem.on (fun k e => hb.block k (hR.mem.lt e)), hR.ck, hR.st, hR.sor⟩
end
set_option maxRecDepth 100000 in
theorem sk_below1 (a : Nat) (k key : ByteArray) (w : World) (hc : w.cell? ⟨a, 0, none⟩ = some (.string key)) :
    Calls Try.prog 61 #[.string k, pt a] w fun e w' => e = .returned (.bool (kl k key)) ∧ w' = w := by
  go_enter Try.func61, Try.ntmps61
  go_wp2_with fail
  go_ret
  exact ⟨rfl, rfl⟩
set_option maxRecDepth 100000 in
theorem sk_last1 (a : Nat) (k key : ByteArray) (w : World) (hc : w.cell? ⟨a, 0, none⟩ = some (.string key)) :
    Calls Try.prog 58 #[.string k, pt a] w fun e w' => e = .returned (.bool (decide (key.toList = []) || kl k key)) ∧ w' = w := by
  by_cases h0 : key.toList = []
  · have h1 : key.toList.isEmpty = true := by rw [h0]; rfl
    go_enter Try.func58, Try.ntmps58
    go_wp2_with fail
    go_ret
    exact ⟨by rw [decide_eq_true h0]; rfl, rfl⟩
  · have h1 : key.toList.isEmpty = false := by simpa using h0
    go_enter Try.func58, Try.ntmps58
    go_wp2_with fail
    go_ret
    exact ⟨by rw [decide_eq_false h0]; rfl, rfl⟩
/-- Where the items that are below a key end. -/
theorem sk_pos {TL TI : TypeId} {z : Value} {V : World} {q h : Nat} {L : List Nd} {g : Nat → Nat → Option Nat} (hR : SkR TL TI z V q h L g) (key : ByteArray) :
    kpos (kvs L) key ≤ L.length ∧ (∀ i (hi : i < L.length), i < kpos (kvs L) key → kl (L[i]'hi).2.key key = true) ∧ (∀ i (hi : i < L.length), kpos (kvs L) key ≤ i → kl (L[i]'hi).2.key key = false) := by
  have hl := kvs_len L
  refine ⟨by have := kpos_le (kvs L) key; omega, fun i hi hp => ?_, fun i hi hp => ?_⟩
  · obtain ⟨_, h2⟩ := kpos_lt hp
    rw [kvs_get hi] at h2
    exact h2
  · have h2 := kpos_ge hR.sor (k := key) hp (by simpa [kvs] using hi)
    have e := kvs_get hi
    unfold kvs at e h2
    rw [e] at h2
    exact h2
set_option maxRecDepth 100000 in
set_option maxHeartbeats 4000000 in
theorem sk_below (z : Value) (q h : Nat) (L : List Nd) (g : Nat → Nat → Option Nat) (key : ByteArray) (w : World) (hR : SkR 78 76 z w q h L g) :
    Calls Try.prog 55 #[pt q, .string key] w fun e w' => e = .returned (.agg (waysC (fun m => pt (la m (sh h (L.take (kpos (kvs L) key))))))) ∧ Below w.heap.size w w' := by
  obtain ⟨p1, p2, p3⟩ := sk_pos hR key
  have hb1 := nbl w (.cells #[.string key] 9)
  have hb2 := bst hb1 (nbl _ (.cells zeroW 74))
  have hc : ((w.alloc (.cells #[.string key] 9)).alloc (.cells zeroW 74)).cell? ⟨w.heap.size, 0, none⟩ = some (.string key) := by simp
  have hs : ((w.alloc (.cells #[.string key] 9)).alloc (.cells zeroW 74)).heap.size = w.heap.size + 2 := by simp
  have hz : Blk ((w.alloc (.cells #[.string key] 9)).alloc (.cells zeroW 74)) (w.heap.size + 1) 74 zeroW := by
    have := Blk.new (w.alloc (.cells #[.string key] 9)) 74 zeroW
    simp only [World.alloc, Array.size_push] at this
    exact this
  have HZ := Lib.hid hz
  have LO := Lib.hid (sk_lastOf z q h L g _ (hR.below hb2) (kpos (kvs L) key) p1 61 (pt w.heap.size) (fun k => kl k key) (fun _ _ => rfl)
    (fun k W hW => sk_below1 w.heap.size k key W ((hW.cell (p := ⟨w.heap.size, 0, none⟩) (by show w.heap.size < _; rw [hs]; omega)).trans hc)) p2 p3)
  clear hR p1 p2 p3 hz hc hb1
  have HS := Lib.hid hs
  have HB := Lib.hid hb2
  clear hs hb2
  go_enter Try.func55, Try.ntmps55
  go_wp2_with (first
    | (go_at_call 57; refine LO.out.mono ?_; rintro e w2 ⟨rfl, hb⟩; have HZ2 := Lib.hid (HZ.out.below hb (by rw [HS.out]; omega)); have HB2 := Lib.hid (bst HB.out hb))
    | (refine wpList_store_row rfl 74 _ _ rfl (w.heap.size + 1) (waysC (fun m => pt (la m (sh h (L.take (kpos (kvs L) key)))))) rfl rfl 74 zeroW HZ2.out (by kernel_rfl) rfl (waysC_all (fun _ _ => rfl)) ?_))
  refine bodyPost_ret (v := .agg (waysC (fun m => pt (la m (sh h (L.take (kpos (kvs L) key))))))) (results_cell_row (p := 4) (ty := 74) rfl _ _ (w.heap.size + 1) 74 _ (0, 0) _ rfl (HZ2.out.row _) Try.underlying74 rfl (by kernel_rfl)) rfl ⟨rfl, brow HB2.out (Nat.le_succ _) _⟩
set_option maxRecDepth 100000 in
theorem sk_isNone (z : Value) (q h cnt : Nat) (L : List Nd) (g : Nat → Nat → Option Nat) (w : World) (hR : SkW 78 76 z w q h cnt L g) :
    Calls Try.prog 53 #[pt q] w fun e w' => e = .returned (.bool false) ∧ w' = w := by
  have k0 : w.cell? ⟨q, 0, none⟩ = some (pt h) := hR.obj.cell 0
  clear hR
  go_enter Try.func53, Try.ntmps53
  go_wp2_with fail
  go_ret
  exact ⟨rfl, rfl⟩
set_option maxRecDepth 100000 in
theorem sk_isStep (n : Int) (w : World) (h1 : -9223372036854775808 ≤ n) (h2 : n ≤ 9223372036854775807) :
    Calls Try.prog 62 #[.int .i64 n] w fun e w' => e = .returned (.bool (decide (1 ≤ n ∧ n ≤ 16))) ∧ w' = w := by
  by_cases a : 1 ≤ n
  · by_cases b : n ≤ 16
    · go_enter Try.func62, Try.ntmps62
      go_wp2_with fail
      go_ret
      exact ⟨by simp [a, b], rfl⟩
    · go_enter Try.func62, Try.ntmps62
      go_wp2_with fail
      go_ret
      exact ⟨by simp [b], rfl⟩
  · go_enter Try.func62, Try.ntmps62
    go_wp2_with fail
    go_ret
    exact ⟨by simp; omega, rfl⟩
end Go.Proofs.Ytgakkeeeadndkaa
