/-
  Layer 12, plain: things that stand in a table; what is read under a key.
-/
import Derived.Test.YtgccichmdddbpaaGreatDoorPL16
import Derived.Test.YtgccichmdddbpaaGreatDoorPL26
import Derived.Test.YtgccichmdddbpaaGreatDoorPL27
set_option linter.unusedVariables false
namespace Go.Proofs.YtgccichmdddbpaaGreatDoor
open Go.RowKit

structure Th where
  k : Int
  key : ByteArray
  value : ByteArray
  gone : Bool
  sw : Int
  sl : Int
  it : It
/-- The keys of a version, of an intent. -/
def vkey (s : List UInt8) (a b : Int) : List UInt8 := 118 :: (okey s ++ odown a b)
def ikey (s : List UInt8) : List UInt8 := 105 :: okey s
def bs (l : List UInt8) : ByteArray := ⟨l.toArray⟩
theorem sb_bs (l : List UInt8) : sb (bs l) = l := rfl
theorem bs_sb (s : ByteArray) : bs (sb s) = s := mk_tb s
/-- Which kind a thing is. -/
def kd (k : Int) : Int := (k.tmod 3 + 3).tmod 3
theorem kd_is (k : Int) : kd k = 0 ∨ kd k = 1 ∨ kd k = 2 := by
  unfold kd
  have h1 : -3 < k.tmod 3 := Int.lt_tmod_of_pos k (by omega)
  have h2 : k.tmod 3 < 3 := Int.tmod_lt_of_pos k (by omega)
  have h3 := Int.tmod_nonneg 3 (show 0 ≤ k.tmod 3 + 3 by omega)
  have h4 := Int.tmod_lt_of_pos (k.tmod 3 + 3) (show (0 : Int) < 3 by omega)
  omega
/-- What the document's VersionKey, Version, IntentKey, Intent answer. -/
def vkS (s : ByteArray) (a b : Int) : ByteArray := if s.size ≤ 1000 ∧ may a b = true then bs (vkey (sb s) a b) else ⟨#[]⟩
def ikS (s : ByteArray) : ByteArray := if s.size ≤ 1000 then bs (ikey (sb s)) else ⟨#[]⟩
def okV (x : Th) : Bool := decide (x.key.size ≤ 1000) && may x.sw x.sl && isV (if x.gone then ⟨#[]⟩ else x.value) (!x.gone)
def okI (x : Th) : Bool := decide (x.key.size ≤ 1000) && mayI x.it
/-- A thing's change, if it can stand there. -/
def opOf (x : Th) : Option Op_ :=
  if kd x.k = 0 then (if okV x then some ⟨bs (vkey (sb x.key) x.sw x.sl), bs (txV (if x.gone then ⟨#[]⟩ else x.value) (!x.gone)), false⟩ else none)
  else if kd x.k = 1 then (if okI x then some ⟨bs (ikey (sb x.key)), bs (txI x.it), false⟩ else none)
  else some ⟨x.key, x.value, false⟩
def laidP (l : List Th) : List Op_ := (l.take 60).filterMap opOf
def tabP (l : List Th) : List Rw := (laidP l).foldl (fun r o => rapp r [o]) []

/-! ### things in memory -/
abbrev thc (x : Th) (v : Value) : Array Value := #[.int .i64 x.k, .string x.key, .string x.value, .bool x.gone, .int .i64 x.sw, .int .i64 x.sl, .int .i64 x.it.id, .int .i64 x.it.ep, .int .i64 x.it.pr, .string x.it.an, .int .i64 x.it.sw, .int .i64 x.it.sl, .int .i64 x.it.bw, .int .i64 x.it.bl, v]
abbrev thv (x : Th) (v : Value) : Value := .agg (thc x v)
/-- What a thing's numbers and texts must keep. -/
def TSz (x : Th) : Prop := x.key.size ≤ 140737488351232 ∧ x.value.size ≤ 140737488351232 ∧ -9223372036854775808 ≤ x.k ∧ x.k ≤ 9223372036854775807
def ThAt (w : World) (A : Option Addr) (n : Nat) (l : List Th) : Prop :=
  l.length = n ∧ (0 < n → ∃ b o, A = some ⟨b, o, none⟩ ∧ ∀ i (h : i < l.length), ∃ Ai ni ci, (∀ j u, (thc (l[i]'h) (.slice Ai ni ci))[j]? = some u → w.cell? ⟨b, o + i * 15 + j, none⟩ = some u) ∧ ChAt w Ai ni (l[i]'h).it.l ∧ ni ≤ 9223372036854775807)
theorem ThAt.below {w w' : World} {A : Option Addr} {n : Nat} {l : List Th} (h : ThAt w A n l) (hb : Below w.heap.size w w') : ThAt w' A n l := by
  refine ⟨h.1, fun hn => ?_⟩
  obtain ⟨b, o, e, hc⟩ := h.2 hn
  refine ⟨b, o, e, fun i hi => ?_⟩
  obtain ⟨Ai, ni, ci, h1, h2, h3⟩ := hc i hi
  exact ⟨Ai, ni, ci, fun j u hu => kept_below hb _ _ (h1 j u hu), h2.below hb, h3⟩
theorem ThAt.nil (w : World) (A : Option Addr) : ThAt w A 0 [] := ⟨rfl, fun h => absurd h (by omega)⟩

/-! ### sizes -/
theorem odown_le (a b : Int) : (odown a b).length ≤ 9 := by
  unfold odown
  simp [wide_len]
theorem okey_le (s : List UInt8) (h : s.length ≤ 1000) : (okey s).length ≤ 2002 := by
  have := esc_len s
  unfold okey
  rw [List.length_append]
  simp
  omega
theorem opOf_sz {x : Th} (h : TSz x) {o : Op_} (ho : opOf x = some o) : o.key.size ≤ 140737488351233 ∧ o.value.size ≤ 140737488351233 ∧ o.del = false := by
  unfold opOf at ho
  split at ho
  · split at ho
    · rename_i hk
      simp only [okV, Bool.and_eq_true] at hk
      have h1 := okey_le (sb x.key) (by rw [sb_len]; exact of_decide_eq_true hk.1.1)
      have h2 := odown_le x.sw x.sl
      have h3 := txV_len _ _ hk.2
      cases ho
      refine ⟨?_, ?_, rfl⟩
      · show (vkey _ _ _).length ≤ _
        simp only [vkey, List.length_cons, List.length_append]
        omega
      · show (txV _ _).length ≤ _
        omega
    · cases ho
  · split at ho
    · split at ho
      · rename_i hk
        simp only [okI, Bool.and_eq_true] at hk
        have h1 := okey_le (sb x.key) (by rw [sb_len]; exact of_decide_eq_true hk.1)
        have h3 := txI_len _ hk.2
        cases ho
        refine ⟨?_, ?_, rfl⟩
        · show (ikey _).length ≤ _
          simp only [ikey, List.length_cons]
          omega
        · show (txI _).length ≤ _
          omega
      · cases ho
    · cases ho
      exact ⟨Nat.le_trans h.1 (by decide), Nat.le_trans h.2.1 (by decide), rfl⟩
theorem tab_fold {l : List Op_} : ∀ {N : Nat} {r : List Rw}, ROk N r → (∀ o ∈ l, o.key.size ≤ 140737488351233 ∧ o.value.size ≤ 140737488351233) → ROk (N + 128 * l.length) (l.foldl (fun r o => rapp r [o]) r) := by
  induction l with
  | nil => intro N r h _; exact h
  | cons o l ih =>
    intro N r h h1
    have := ih (h.app (l := [o]) (fun y hy => by rw [List.mem_singleton.1 hy]; exact h1 o (by simp))) (fun y hy => h1 y (by simp [hy]))
    rw [List.length_cons, List.foldl_cons]
    exact this.mono (by omega)
theorem laidP_sz {l : List Th} (h : ∀ x ∈ l, TSz x) : ∀ o ∈ laidP l, o.key.size ≤ 140737488351233 ∧ o.value.size ≤ 140737488351233 := by
  intro o ho
  obtain ⟨x, hx, hxo⟩ := List.mem_filterMap.1 ho
  have := opOf_sz (h x (List.mem_of_mem_take hx)) hxo
  exact ⟨this.1, this.2.1⟩
theorem laidP_len (l : List Th) : (laidP l).length ≤ 60 := by
  unfold laidP
  refine Nat.le_trans (List.length_filterMap_le _ _) ?_
  rw [List.length_take]
  omega
theorem tabP_ok {l : List Th} (h : ∀ x ∈ l, TSz x) : ROk 7680 (tabP l) := (tab_fold ROk.nil (laidP_sz h)).mono (by have := laidP_len l; omega)
end Go.Proofs.YtgccichmdddbpaaGreatDoor
