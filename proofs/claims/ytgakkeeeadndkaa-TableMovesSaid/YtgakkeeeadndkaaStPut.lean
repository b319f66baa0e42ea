/-
  Layer 9, the code: Put.
-/
import Derived.Test.YtgakkeeeadndkaaStAsk
import Derived.Test.YtgakkeeeadndkaaShelf
set_option linter.unusedVariables false
namespace Go.Proofs.Ytgakkeeeadndkaa
open Go.RowKit

set_option maxRecDepth 100000 in
theorem sk_clone (s : ByteArray) (w : World) (hs : s.size ≤ 281474976710656) : Calls Try.prog 52 #[.string s] w fun e w' => e = .returned (.string s) ∧ Below w.heap.size w w' := by
  have CL := Lib.hid (Try.stringslite_Clone s w hs)
  clear hs
  go_enter Try.func52, Try.ntmps52
  go_wp2_with (first
    | (go_at_call 60; refine CL.out.mono ?_; rintro e w2 ⟨rfl, hb⟩))
  go_ret
  exact ⟨rfl, hb⟩
/-! ### what the ways are while a key is put in -/
def gIns (h : Nat) (A : List Nd) (n : Nat) (g : Nat → Nat → Option Nat) (k : Nat) : Nat → Nat → Option Nat := fun m a =>
  if m < k then (if a = n then g m (la m (sh h A)) else if a = la m (sh h A) then some n else g m a) else (if a = n then none else g m a)
theorem gIns_next {h : Nat} {A : List Nd} {n : Nat} {g : Nat → Nat → Option Nat} {k : Nat} (hn : la k (sh h A) ≠ n) :
    (fun m b => if m = k ∧ b = la k (sh h A) then some n else (fun m b => if m = k ∧ b = n then g k (la k (sh h A)) else gIns h A n g k m b) m b) = gIns h A n g (k + 1) := by
  funext m b
  unfold gIns
  by_cases hm : m = k
  · subst hm
    simp only [true_and, Nat.lt_irrefl, if_false, Nat.lt_succ_self, if_true]
    by_cases hb : b = n
    · subst hb
      rw [if_neg (fun e => hn e.symm), if_pos rfl, if_pos rfl]
    · rw [if_neg hb]
      by_cases hb2 : b = la m (sh h A)
      · rw [if_pos hb2, if_neg hb, if_pos hb2]
      · rw [if_neg hb2, if_neg hb, if_neg hb, if_neg hb2]
  · have e : (m < k + 1) ↔ (m < k) := by omega
    simp only [hm, false_and, if_false, e]
section
variable {TL TI : TypeId} {z : Value} {V V' w : World} {q h cnt n s : Nat} {L A B : List Nd} {g : Nat → Nat → Option Nat} {key : ByteArray} {v : Value}
theorem SkW.ins (hM : SkW TL TI z w q h cnt (A ++ B) g) (hb : Below w.heap.size w V) (hn : Blk V n TI (nodeC key v (s : Int) (fun _ => none))) (hnw : w.heap.size ≤ n) :
    SkW TL TI z V q h cnt (A ++ (n, ⟨key, v, s⟩) :: B) (gIns h A n g 0) := by
  have hlt := fun k e => hM.lt (k := k) e
  have hM2 := hM.on (V' := V) (fun k e => hb.block k (hlt k e))
  have hh : h ≠ n := fun e => by have := hM.head.lt; omega
  have ef : ∀ a, a ≠ n → (fun m => gIns h A n g 0 m a) = fun m => g m a := fun a ha => by funext m; unfold gIns; rw [if_neg (by omega), if_neg ha]
  refine ⟨hM2.obj, by rw [ef h hh]; exact hM2.head, fun x hx => ?_, ?_⟩
  · by_cases e : x = (n, ⟨key, v, s⟩)
    · subst e
      have e2 : (fun m => gIns h A n g 0 m n) = fun _ => none := by funext m; unfold gIns; rw [if_neg (by omega), if_pos rfl]
      show Blk V n TI (nodeC key v (s : Int) (fun m => gIns h A n g 0 m n))
      rw [e2]
      exact hn
    · have hx2 : x ∈ A ++ B := by
        rcases List.mem_append.1 hx with h1 | h1
        · exact List.mem_append_left _ h1
        · rcases List.mem_cons.1 h1 with h1 | h1
          · exact absurd h1 e
          · exact List.mem_append_right _ h1
      have hne : x.1 ≠ n := fun e2 => by have := hlt x.1 (.inr (.inr (List.mem_map.2 ⟨x, hx2, rfl⟩))); omega
      rw [ef x.1 hne]
      exact hM2.node x hx2
  · have hnd := hM.ne
    have hp : (q :: h :: (A ++ (n, (⟨key, v, s⟩ : Kv)) :: B).map (·.1)).Perm (n :: q :: h :: (A ++ B).map (·.1)) := by
      have p1 : ((A ++ (n, (⟨key, v, s⟩ : Kv)) :: B).map (·.1)).Perm (n :: (A ++ B).map (·.1)) := by
        rw [List.map_append, List.map_append, List.map_cons]
        exact List.perm_middle
      exact ((List.Perm.cons q ((List.Perm.cons h p1).trans (List.Perm.swap n h _)))).trans (List.Perm.swap n q _)
    rw [hp.nodup_iff, List.nodup_cons]
    refine ⟨fun e => ?_, hnd⟩
    have := hlt n (by
      rcases List.mem_cons.1 e with e | e
      · exact .inl e
      · rcases List.mem_cons.1 e with e | e
        · exact .inr (.inl e)
        · exact .inr (.inr e))
    omega
/-- All steps are done. -/
theorem SkR.insDone (hR : SkR TL TI z w q h L g) (key : ByteArray) (v : Value) (hs1 : 1 ≤ s) (hs2 : s ≤ 16) (hk : khas (kvs L) key = false)
    (hM : SkW TL TI z V q h (L.length + 1) (L.take (kpos (kvs L) key) ++ (n, ⟨key, v, s⟩) :: L.drop (kpos (kvs L) key)) (gIns h (L.take (kpos (kvs L) key)) n g s)) :
    SkR TL TI z V q h (L.take (kpos (kvs L) key) ++ (n, ⟨key, v, s⟩) :: L.drop (kpos (kvs L) key)) (gIns h (L.take (kpos (kvs L) key)) n g s) ∧
      kvs (L.take (kpos (kvs L) key) ++ (n, ⟨key, v, s⟩) :: L.drop (kpos (kvs L) key)) = kput (kvs L) key v s := by
  have hl := kvs_len L
  have hp := kpos_le (kvs L) key
  have hkv : kvs (L.take (kpos (kvs L) key) ++ (n, ⟨key, v, s⟩) :: L.drop (kpos (kvs L) key)) = kput (kvs L) key v s := by
    unfold kput
    rw [hk, if_neg (by decide)]
    simp only [kvs, List.map_append, List.map_cons, List.map_take, List.map_drop]
  obtain ⟨p, hpe⟩ : ∃ p, kpos (kvs L) key = p := ⟨_, rfl⟩
  rw [hpe] at hM hkv hp ⊢
  have hlen : (L.take p ++ (n, (⟨key, v, s⟩ : Kv)) :: L.drop p).length = L.length + 1 := by
    rw [List.length_append, List.length_cons, List.length_take, List.length_drop]; omega
  refine ⟨⟨by rw [hlen]; exact hM, fun m hm => ?_, fun x hx => ?_, ?_⟩, hkv⟩
  · have hc := hR.ck m hm
    have e1 : sh h L = sh h (L.take p) ++ (L.drop p).map (fun x => (x.1, x.2.st)) := by
      rw [← sh_take, ← sh_drop, List.take_append_drop]
    have e2 : sh h (L.take p ++ (n, (⟨key, v, s⟩ : Kv)) :: L.drop p) = sh h (L.take p) ++ (n, s) :: (L.drop p).map (fun x => (x.1, x.2.st)) := by simp [sh]
    rw [e1] at hc
    rw [e2]
    have hnd := hM.nd
    rw [e2] at hnd
    have hmid : ((sh h (L.take p) ++ (n, s) :: (L.drop p).map (fun x => (x.1, x.2.st))).map (·.1)).Perm (n :: (sh h (L.take p) ++ (L.drop p).map (fun x => (x.1, x.2.st))).map (·.1)) := by
      rw [List.map_append, List.map_append, List.map_cons]
      exact List.perm_middle
    rw [hmid.nodup_iff, List.nodup_cons] at hnd
    by_cases hms : m < s
    · have := ck_ins (n := (n, s)) hc (sh_on hm h _) hms hnd.2 hnd.1
      have e3 : gIns h (L.take p) n g s m = fun a => if a = n then g m (la m (sh h (L.take p))) else if a = la m (sh h (L.take p)) then some n else g m a := by
        funext a
        unfold gIns
        rw [if_pos hms]
      rw [e3]
      exact this
    · have h3 := (ck_mid (x := (n, s)) (by exact hms)).2 hc
      refine ck_congr h3 (fun x hx hmx => ?_)
      have hne : x.1 ≠ n := fun e => by
        rcases List.mem_append.1 hx with h1 | h1
        · exact hnd.1 (by rw [← e, List.map_append]; exact List.mem_append_left _ (List.mem_map.2 ⟨x, h1, rfl⟩))
        · rcases List.mem_cons.1 h1 with h1 | h1
          · subst h1; exact hms hmx
          · exact hnd.1 (by rw [← e, List.map_append]; exact List.mem_append_right _ (List.mem_map.2 ⟨x, h1, rfl⟩))
      unfold gIns
      rw [if_neg hms, if_neg hne]
  · rcases List.mem_append.1 hx with h1 | h1
    · exact hR.st x (List.mem_of_mem_take h1)
    · rcases List.mem_cons.1 h1 with h1 | h1
      · subst h1; exact ⟨hs1, hs2⟩
      · exact hR.st x (List.mem_of_mem_drop h1)
  · show Sor (kvs _)
    rw [hkv]
    exact Sor.put hR.sor key v s
end
/-- A way is set, in a block of the list. -/
theorem SkW.two {TL TI : TypeId} {z : Value} {V : World} {q h cnt : Nat} {L A : List Nd} {g : Nat → Nat → Option Nat} {n k : Nat} (hM : SkW TL TI z V q h cnt L (gIns h A n g k)) (hn : n ∈ L.map (·.1)) (hk : k < 16) (hla : la k (sh h A) = h ∨ la k (sh h A) ∈ L.map (·.1)) (hne : la k (sh h A) ≠ n) :
    SkW TL TI z (V.setCell ⟨n, 3 + k, none⟩ (pp (g k (la k (sh h A))))) q h cnt L (fun m b => if m = k ∧ b = n then g k (la k (sh h A)) else gIns h A n g k m b) ∧
      SkW TL TI z ((V.setCell ⟨n, 3 + k, none⟩ (pp (g k (la k (sh h A))))).setCell ⟨la k (sh h A), 3 + k, none⟩ (pp (some n))) q h cnt L (gIns h A n g (k + 1)) := by
  have h1 := hM.setNext (.inr hn) hk (g k (la k (sh h A)))
  refine ⟨h1, ?_⟩
  have h2 := h1.setNext hla hk (some n)
  rw [← gIns_next hne]
  exact h2
theorem nodeC_val (k : ByteArray) (v u : Value) (s : Int) (f : Nat → Option Nat) : (nodeC k v s f).setIfInBounds 1 u = nodeC k u s f := rfl
/-- A value is set. -/
theorem SkR.setVal {TL TI : TypeId} {z : Value} {V : World} {q h : Nat} {L : List Nd} {g : Nat → Nat → Option Nat} (hR : SkR TL TI z V q h L g) {p : Nat} (hp : p < L.length) (v : Value) :
    SkR TL TI z (V.setCell ⟨(L[p]'hp).1, 1, none⟩ v) q h (L.set p ((L[p]'hp).1, ⟨(L[p]'hp).2.key, v, (L[p]'hp).2.st⟩)) g ∧ (L.set p ((L[p]'hp).1, ⟨(L[p]'hp).2.key, v, (L[p]'hp).2.st⟩)).map (·.1) = L.map (·.1) := by
  have hM := hR.mem
  have hxm := List.getElem_mem hp
  have hma : (L.set p ((L[p]'hp).1, ⟨(L[p]'hp).2.key, v, (L[p]'hp).2.st⟩)).map (·.1) = L.map (·.1) := by
    rw [List.map_set]
    refine List.ext_getElem? (fun i => ?_)
    rw [List.getElem?_set]
    by_cases e : p = i
    · subst e; simp [hp]
    · rw [if_neg e]
  have hms : (L.set p ((L[p]'hp).1, ⟨(L[p]'hp).2.key, v, (L[p]'hp).2.st⟩)).map (fun x => (x.1, x.2.st)) = L.map (fun x => (x.1, x.2.st)) := by
    rw [List.map_set]
    refine List.ext_getElem? (fun i => ?_)
    rw [List.getElem?_set]
    by_cases e : p = i
    · subst e; simp [hp]
    · rw [if_neg e]
  have hxa : (L[p]'hp).1 ∈ L.map (·.1) := List.mem_map.2 ⟨_, hxm, rfl⟩
  refine ⟨⟨⟨(heap_setNe (fun e => hM.qL hxa e.symm) _).trans (by rw [List.length_set]; exact hM.obj), (heap_setNe (fun e => hM.hL hxa e.symm) _).trans hM.head, fun y hy => ?_, by rw [hma]; exact hM.ne⟩, fun m hm => by unfold sh; rw [hms]; exact hR.ck m hm, fun y hy => ?_, ?_⟩, hma⟩
  · obtain ⟨i, hi, rfl⟩ := List.mem_iff_getElem.1 hy
    rw [List.length_set] at hi
    rw [List.getElem_set]
    by_cases e : p = i
    · subst e
      rw [if_pos rfl]
      have := (hM.node _ hxm).set_ 1 v
      rw [nodeC_val] at this
      exact this
    · rw [if_neg e]
      have hne : (L[i]'hi).1 ≠ (L[p]'hp).1 := fun e2 => by
        have hnd := hM.nd
        have e3 : (sh h L).map (·.1) = h :: L.map (·.1) := by simp [sh]
        rw [e3, List.nodup_cons] at hnd
        have := (List.getElem_inj (i := i) (j := p) (h₀ := by simpa using hi) (h₁ := by simpa using hp) hnd.2).1 (by simpa using e2)
        exact e this.symm
      exact (heap_setNe hne _).trans (hM.node _ (List.getElem_mem hi))
  · rcases List.mem_or_eq_of_mem_set hy with h1 | h1
    · exact hR.st y h1
    · subst h1; exact (hR.st _ hxm : 1 ≤ (L[p]'hp).2.st ∧ (L[p]'hp).2.st ≤ 16)
  · have hs := hR.sor
    unfold Sor at hs ⊢
    have e : ∀ l : List Nd, (l.map (·.2)).Pairwise (fun a b => kl a.key b.key = true) ↔ (l.map (·.2.key)).Pairwise (fun a b => kl a b = true) := fun l => by rw [List.pairwise_map, List.pairwise_map]
    rw [e] at hs ⊢
    have hk : (L.set p ((L[p]'hp).1, ⟨(L[p]'hp).2.key, v, (L[p]'hp).2.st⟩)).map (·.2.key) = L.map (·.2.key) := by
      rw [List.map_set]
      refine List.ext_getElem? (fun i => ?_)
      rw [List.getElem?_set]
      by_cases e : p = i
      · subst e; simp [hp]
      · rw [if_neg e]
    rw [hk]
    exact hs
set_option maxRecDepth 100000 in
set_option maxHeartbeats 8000000 in
theorem sk_put (z : Value) (q h : Nat) (L : List Nd) (g : Nat → Nat → Option Nat) (key : ByteArray) (vs : ByteArray) (s : Int) (w : World) (hR : SkR 78 76 z w q h L g) (hL : L.length ≤ 1000000000) (hs1 : -9223372036854775808 ≤ s) (hs2 : s ≤ 9223372036854775807) (hks : key.size ≤ 281474976710656) :
    Calls Try.prog 56 #[pt q, .string key, .string vs, .int .i64 s] w fun e w' => e = .returned (.bool (decide (1 ≤ s ∧ s ≤ 16))) ∧ ∃ L' g', SkR 78 76 z w' q h L' g' ∧ kvs L' = (if 1 ≤ s ∧ s ≤ 16 then kput (kvs L) key (.string vs) s.toNat else kvs L) ∧ Grow (skF q h L) w w' ∧ ∀ k, skF q h L' k → nF (skF q h L) w w' k := by
  have NO := Lib.hid (sk_isNone z q h L.length L g _ hR.mem)
  have IS := Lib.hid (sk_isStep s w hs1 hs2)
  by_cases hs : 1 ≤ s ∧ s ≤ 16
  · rw [decide_eq_true hs] at IS ⊢
    rw [if_pos hs]
    obtain ⟨s, rfl⟩ : ∃ n : Nat, s = (n : Int) := ⟨s.toNat, by omega⟩
    have hsa : 1 ≤ s := by omega
    have hsb : s ≤ 16 := by omega
    rw [show ((s : Int)).toNat = s from by omega]
    have FI := Lib.hid (sk_find z q h L g key w hR)
    rcases fnd_cases z L key with ⟨x, hp, hx, hm, h1, h2, h3, h4⟩ | ⟨h1, h2, h3, h4⟩
    · rw [h1, show pp (some x.1) = pt x.1 from rfl] at FI
      have hkp : kvs (L.set (kpos (kvs L) key) (x.1, ⟨x.2.key, .string vs, x.2.st⟩)) = kput (kvs L) key (.string vs) s := by
        have hl := kvs_len L
        obtain ⟨q1, q2⟩ := (khas_iff _ _).1 h2
        unfold kput
        rw [if_pos h2, stAt_eq q1, kvs_get hp, ← hx]
        rw [kvs_get hp, ← hx] at q2
        simp only [kvs, List.map_set]
        rw [q2]
      have HK := Lib.hid hkp
      have HX := Lib.hid (fun V (hb : Below w.heap.size w V) => (hR.below hb).setVal hp (.string vs))
      rw [← hx] at HX
      have HC := Lib.hid (fun V (hb : Below w.heap.size w V) => And.intro ((hR.below hb).mem.val hm) ((hR.below hb).mem.free (.inr (List.mem_map.2 ⟨x, hm, rfl⟩)) 1))
      have HXF := Lib.hid (show skF q h L x.1 from .inr (.inr (List.mem_map.2 ⟨x, hm, rfl⟩)))
      clear hR hkp hx h1 h2 h3 h4 hp hm hs hL
      obtain ⟨⟨b, ⟨k, v, st⟩⟩, rfl⟩ : ∃ y, x = y := ⟨x, rfl⟩
      simp only at HK HX HC HXF FI
      go_enter Try.func56, Try.ntmps56
      go_wp2_with (first
        | (go_at_call 53; refine NO.out.mono ?_; rintro e w2 ⟨rfl, hw2⟩; obtain rfl : w = w2 := hw2.symm)
        | (go_at_call 62; refine IS.out.mono ?_; rintro e w2 ⟨rfl, hw2⟩; obtain rfl : w = w2 := hw2.symm)
        | (go_at_call 54; refine FI.out.mono ?_; rintro e w2 ⟨rfl, hb⟩; have HB2 := Lib.hid (brow (bst hb (nbl w2 (.cells zeroW 74))) hb.size (waysC fun m => pt (ahd h L key m))); obtain ⟨c1, f1⟩ := HC.out _ HB2.out)
        | (refine wpList_store_row rfl 74 _ _ rfl w2.heap.size (waysC fun m => pt (ahd h L key m)) rfl rfl 74 zeroW (Blk.new w2 74 zeroW) (by kernel_rfl) rfl (waysC_all (fun _ _ => rfl)) ?_))
      go_ret
      obtain ⟨r1, r2⟩ := HX.out _ HB2.out
      refine ⟨rfl, _, g, r1, HK.out, (Grow.of_below HB2.out).set (.inl HXF.out) _, fun k e => ?_⟩
      unfold skF at e
      rw [r2] at e
      exact .inl e
    · rw [h1, show pp none = .pointer none from rfl] at FI
      have HR := Lib.hid hR
      have HKH := Lib.hid h2
      have HL := Lib.hid hL
      have CL := Lib.hid (fun V => sk_clone key V hks)
      clear hR h1 h2 h3 h4 hs hks hL
      go_enter Try.func56, Try.ntmps56
      go_wp2_with (first
        | (go_at_call 53; refine NO.out.mono ?_; rintro e w2 ⟨rfl, hw2⟩; obtain rfl : w = w2 := hw2.symm)
        | (go_at_call 62; refine IS.out.mono ?_; rintro e w2 ⟨rfl, hw2⟩; obtain rfl : w = w2 := hw2.symm)
        | (go_at_call 54; refine FI.out.mono ?_; rintro e w2 ⟨rfl, hb⟩; have HB2 := Lib.hid (brow (bst hb (nbl w2 (.cells zeroW 74))) hb.size (waysC fun m => pt (ahd h L key m))); have HZ2 := Lib.hid ((Blk.new w2 74 zeroW).row (waysC fun m => pt (ahd h L key m))); have HS2 := Lib.hid hb.size)
        | (refine wpList_store_row rfl 74 _ _ rfl w2.heap.size (waysC fun m => pt (ahd h L key m)) rfl rfl 74 zeroW (Blk.new w2 74 zeroW) (by kernel_rfl) rfl (waysC_all (fun _ _ => rfl)) ?_)
        | (go_at_call 52; refine (CL.out _).mono ?_; rintro e w3 ⟨rfl, hb3⟩; have HB3 := Lib.hid (bst HB2.out hb3); have HZ3 := Lib.hid (HZ2.out.below hb3 (by simp)); have HS3 := Lib.hid (show w2.heap.size < w3.heap.size from by have := hb3.size; simp at this; omega)))
      have HN := Lib.hid (Blk.new w3 76 (nodeC key (.string vs) (s : Int) (fun _ => none)))
      have HB4 := Lib.hid (bst HB3.out (nbl w3 (.cells (nodeC key (.string vs) (s : Int) (fun _ => none)) 76)))
      have HZ4 := Lib.hid (HZ3.out.below (nbl w3 (.cells (nodeC key (.string vs) (s : Int) (fun _ => none)) 76)) HS3.out)
      change Code.wp _ _ _ _ (w3.alloc (.cells (nodeC key (.string vs) (s : Int) (fun _ => none)) 76))
      generalize w3.alloc (.cells (nodeC key (.string vs) (s : Int) (fun _ => none)) 76) = X at *
      have HLA := Lib.hid (fun m => HR.out.laMem m (kpos (kvs L) key))
      have hsp : L.take (kpos (kvs L) key) ++ L.drop (kpos (kvs L) key) = L := List.take_append_drop _ _
      have HW0 := Lib.hid (SkW.ins (A := L.take (kpos (kvs L) key)) (B := L.drop (kpos (kvs L) key)) (by rw [hsp]; exact HR.out.mem) HB4.out HN.out (Nat.le_trans HS2.out (Nat.le_of_lt HS3.out)))
      have HG0 := Lib.hid (Grow.of_below (F := skF q h L) HB4.out)
      have HDN := Lib.hid (fun V (c : Nat) (hM : SkW 78 76 z V q h (L.length + 1) (L.take (kpos (kvs L) key) ++ (w3.heap.size, ⟨key, .string vs, s⟩) :: L.drop (kpos (kvs L) key)) (gIns h (L.take (kpos (kvs L) key)) w3.heap.size g s)) => HR.out.insDone key (.string vs) hsa hsb HKH.out hM)
      have HNF := Lib.hid (Nat.le_trans HS2.out (Nat.le_of_lt HS3.out))
      have hlz : L.length < 1000000001 := by have := HL.out; omega
      have HQ := Lib.hid (fun k (e : skF q h L k) => HR.out.mem.lt e)
      have HSZ := Lib.hid (show w3.heap.size < X.heap.size from HN.out.lt)
      clear hsp HB2 HZ2 HB3 HZ3 HN HB4 hb hb3 NO IS FI CL
      generalize hn : w3.heap.size = n at *
      generalize hb10 : w2.heap.size = b10 at *
      have hbn : b10 < n := HS3.out
      have hwb : w.heap.size ≤ b10 := HS2.out
      clear hn hb10 HS3 HS2
      have HA : ∀ m, la m (sh h (L.take (kpos (kvs L) key))) = ahd h L key m := fun m => rfl
      go_loopw [39] (fun i wr => ∃ k : Nat, k ≤ s ∧ i = .int .i64 k ∧ Hid (SkW 78 76 z wr q h L.length (L.take (kpos (kvs L) key) ++ (n, ⟨key, .string vs, s⟩) :: L.drop (kpos (kvs L) key)) (gIns h (L.take (kpos (kvs L) key)) n g k)) ∧ Hid (Blk wr b10 74 (waysC fun m => pt (ahd h L key m))) ∧ Hid (Grow (skF q h L) w wr ∧ X.heap.size ≤ wr.heap.size)) (fun i _ => s - (intOf i).toNat)
      case atStart => exact ⟨0, Nat.zero_le _, rfl, HW0, HZ4, Lib.hid ⟨HG0.out, Nat.le_refl _⟩⟩
      case round =>
        obtain ⟨k, hk, rfl, HW, HZ, HG⟩ := hrel
        by_cases hlt : k < s
        · have hk16 : k < 16 := by omega
          obtain ⟨a, ha⟩ : ∃ a, ahd h L key k = a := ⟨_, rfl⟩
          have ha2 : la k (sh h (L.take (kpos (kvs L) key))) = a := ha
          have hmem := HLA.out k
          rw [ha2] at hmem
          have halt : a < w.heap.size := HQ.out a (hmem.elim (fun e => .inr (.inl e)) (fun e => .inr (.inr e)))
          have hnm : n ∈ (L.take (kpos (kvs L) key) ++ (n, (⟨key, .string vs, s⟩ : Kv)) :: L.drop (kpos (kvs L) key)).map (·.1) := by simp
          have hmem2 : a = h ∨ a ∈ (L.take (kpos (kvs L) key) ++ (n, (⟨key, .string vs, s⟩ : Kv)) :: L.drop (kpos (kvs L) key)).map (·.1) := by
            rcases hmem with e | e
            · exact .inl e
            · refine .inr ?_
              rw [← List.take_append_drop (kpos (kvs L) key) L, List.map_append] at e
              rw [List.map_append, List.map_cons]
              rcases List.mem_append.1 e with e | e
              · exact List.mem_append_left _ e
              · exact List.mem_append_right _ (List.mem_cons_of_mem _ e)
          have hne : a ≠ n := by have := HNF.out; omega
          obtain ⟨t1, t2⟩ := HW.out.two (k := k) hnm hk16 (by rw [ha2]; exact hmem2) (by rw [ha2]; exact hne)
          rw [ha2] at t1 t2
          have hgk : gIns h (L.take (kpos (kvs L) key)) n g k k a = g k a := by unfold gIns; rw [if_neg (Nat.lt_irrefl _), if_neg hne]
          have c1 := HW.out.next hmem2 hk16
          rw [hgk] at c1
          have c2 := HW.out.next (.inr hnm) hk16
          have f2 := HW.out.free (.inr hnm) (3 + k)
          have c3 := (HZ.out.cell k).trans (waysC_get _ hk16)
          rw [ha] at c3
          have c4 := t1.next hmem2 hk16
          have f4 := t1.free hmem2 (3 + k)
          have HG2 := Lib.hid ((HG.out.1.set (p := ⟨n, 3 + k, none⟩) (.inr (by have := HNF.out; omega)) (pp (g k a))).set (p := ⟨a, 3 + k, none⟩) (.inl (hmem.elim (fun e => .inr (.inl e)) (fun e => .inr (.inr e)))) (pp (some n)))
          have HT := Lib.hid t2
          have hgs := HG.out.2
          have hb1 : b10 ≠ n := by omega
          have hb2 : b10 ≠ a := by omega
          have HZa := (show Blk (wr.setCell ⟨n, 3 + k, none⟩ (pp (g k a))) b10 74 (waysC fun m => pt (ahd h L key m)) from (heap_setNe hb1 _).trans HZ.out)
          have c5 := (HZa.cell k).trans (waysC_get _ hk16)
          rw [ha] at c5
          have HZ2 := Lib.hid (show Blk ((wr.setCell ⟨n, 3 + k, none⟩ (pp (g k a))).setCell ⟨a, 3 + k, none⟩ (pp (some n))) b10 74 (waysC fun m => pt (ahd h L key m)) from (heap_setNe hb2 _).trans HZa)
          clear HZa t1 t2 hgk
          generalize pp (gIns h (L.take (kpos (kvs L) key)) n g k k n) = v2 at *
          generalize pp ((fun m b => if m = k ∧ b = n then g k a else gIns h (L.take (kpos (kvs L) key)) n g k m b) k a) = v4 at *
          obtain ⟨pv, hpv⟩ : ∃ p, pp (g k a) = .pointer p := by cases g k a with
            | none => exact ⟨_, rfl⟩
            | some x => exact ⟨_, rfl⟩
          rw [hpv] at c1 c4 f4 c5 HT HG2 HZ2
          clear HW HZ HG halt hmem hmem2 hnm ha ha2 HA hne hb1 hb2
          go_wp2_with fail
          have hi1 : (0 : Int) ≤ (k : Int) := by omega
          have hi2 : (k : Int) < 16 := by omega
          have hi3 : ¬ (16 : Int) ≤ (k : Int) := by omega
          go_still_tail 13, (by kernel_rfl)
          change wpList _ _ _ _ _ wr.drew
          go_wp2_with fail
          go_roundw
          case rel => exact ⟨k + 1, by omega, by go_num, ⟨HT.out.obj, HT.out.head, HT.out.node, HT.out.ne⟩, HZ2.out, ⟨HG2.out.drewN 1, by simp [World.setCell]; exact hgs⟩⟩
          case measure => simp [intOf]; omega
        · obtain rfl : k = s := by omega
          have c1 := HW.out.obj.cell 1
          have f1 := HW.out.obj.frozen 1
          obtain ⟨r1, r2⟩ := HDN.out _ L.length (HW.out.setCnt (L.length + 1))
          have HR1 := Lib.hid r1
          have HR2 := Lib.hid r2
          have HG2 := Lib.hid (HG.out.1.set (p := ⟨q, 1, none⟩) (.inl (.inl rfl)) (.int .i64 ((L.length + 1 : Nat) : Int)))
          have hgs := HG.out.2
          clear r1 r2 HA HW
          go_wp2_with fail
          go_ret
          refine ⟨rfl, _, _, HR1.out, HR2.out, HG2.out, fun j e => ?_⟩
          unfold skF at e
          rcases e with e | e | e
          · exact .inl (.inl e)
          · exact .inl (.inr (.inl e))
          · rw [List.map_append, List.map_cons] at e
            rcases List.mem_append.1 e with e | e
            · exact .inl (.inr (.inr (by rw [List.map_take] at e; exact List.mem_of_mem_take e)))
            · rcases List.mem_cons.1 e with e | e
              · refine .inr ⟨?_, ?_⟩
                · rw [e]; exact HNF.out
                · rw [e]; have := HSZ.out; simp [World.setCell]; omega
              · exact .inl (.inr (.inr (by rw [List.map_drop] at e; exact List.mem_of_mem_drop e)))
  · rw [decide_eq_false hs] at IS ⊢
    rw [if_neg hs]
    have HR := Lib.hid hR
    clear hR hs
    go_enter Try.func56, Try.ntmps56
    go_wp2_with (first
      | (go_at_call 53; refine NO.out.mono ?_; rintro e w2 ⟨rfl, hw2⟩; obtain rfl : w = w2 := hw2.symm)
      | (go_at_call 62; refine IS.out.mono ?_; rintro e w2 ⟨rfl, hw2⟩; obtain rfl : w = w2 := hw2.symm))
    go_ret
    exact ⟨rfl, L, g, HR.out, rfl, Grow.refl _ _, fun k e => .inl e⟩
end Go.Proofs.Ytgakkeeeadndkaa
