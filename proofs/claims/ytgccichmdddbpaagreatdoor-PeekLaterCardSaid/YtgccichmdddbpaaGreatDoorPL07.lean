/-
  Layer 9, the code: Put.
  Layer 9, the code: Drop.
  Layer 9: lists of texts: a walk's own (written by wip/genst.py from SkHas).
  Layer 10, plain: rows in the order of their keys, changes; what a list of texts tells of rows; what stands between two keys.
-/
import Derived.Test.YtgccichmdddbpaaGreatDoorPL05
import Derived.Test.YtgccichmdddbpaaGreatDoorPL06
set_option linter.unusedVariables false
namespace Go.Proofs.YtgccichmdddbpaaGreatDoor
open Go.RowKit

set_option maxRecDepth 100000 in
theorem sk_clone (s : ByteArray) (w : World) (hs : s.size ≤ 281474976710656) : Calls Tryz.prog 75 #[.string s] w fun e w' => e = .returned (.string s) ∧ Below w.heap.size w w' := by
  have CL := Lib.hid (Tryz.stringslite_Clone s w hs)
  clear hs
  go_enter Tryz.func75, Tryz.ntmps75
  go_wp2_with (first
    | (go_at_call 126; refine CL.out.mono ?_; rintro e w2 ⟨rfl, hb⟩))
  go_ret
  exact ⟨rfl, hb⟩
/-! ### what the ways are while a key is put in -/
def gIns (h : Nat) (A : List Nd) (n : Nat) (g : Nat → Nat → Option Nat) (k : Nat) : Nat → Nat → Option Nat := fun m a =>
  if m < k then (if a = n then g m (la m (sh h A)) else if a = la m (sh h A) then some n else g m a) else (if a = n then none else g m a)
theorem gIns_next {h : Nat} {A : List Nd} {n : Nat} {g : Nat → Nat → Option Nat} {k : Nat} (hn : la k (sh h A) ≠ n) :
    (fun m b => if m = k ∧ b = la k (sh h A) then some n else (fun m b => if m = k ∧ b = n then g k (la k (sh h A)) else gIns h A n g k m b) m b) = gIns h A n g (k + 1) := by
  funext m b
  unfold gIns
  by_cases hm : m = k
  · subst hm
    simp only [true_and, Nat.lt_irrefl, if_false, Nat.lt_succ_self, if_true]
    by_cases hb : b = n
    · subst hb
      rw [if_neg (fun e => hn e.symm), if_pos rfl, if_pos rfl]
    · rw [if_neg hb]
      by_cases hb2 : b = la m (sh h A)
      · rw [if_pos hb2, if_neg hb, if_pos hb2]
      · rw [if_neg hb2, if_neg hb, if_neg hb, if_neg hb2]
  · have e : (m < k + 1) ↔ (m < k) := by omega
    simp only [hm, false_and, if_false, e]
section
variable {TL TI : TypeId} {z : Value} {V V' w : World} {q h cnt n s : Nat} {L A B : List Nd} {g : Nat → Nat → Option Nat} {key : ByteArray} {v : Value}
theorem SkW.ins (hM : SkW TL TI z w q h cnt (A ++ B) g) (hb : Below w.heap.size w V) (hn : Blk V n TI (nodeC key v (s : Int) (fun _ => none))) (hnw : w.heap.size ≤ n) :
    SkW TL TI z V q h cnt (A ++ (n, ⟨key, v, s⟩) :: B) (gIns h A n g 0) := by
  have hlt := fun k e => hM.lt (k := k) e
  have hM2 := hM.on (V' := V) (fun k e => hb.block k (hlt k e))
  have hh : h ≠ n := fun e => by have := hM.head.lt; omega
  have ef : ∀ a, a ≠ n → (fun m => gIns h A n g 0 m a) = fun m => g m a := fun a ha => by funext m; unfold gIns; rw [if_neg (by omega), if_neg ha]
  refine ⟨hM2.obj, by rw [ef h hh]; exact hM2.head, fun x hx => ?_, ?_⟩
  · by_cases e : x = (n, ⟨key, v, s⟩)
    · subst e
      have e2 : (fun m => gIns h A n g 0 m n) = fun _ => none := by funext m; unfold gIns; rw [if_neg (by omega), if_pos rfl]
      show Blk V n TI (nodeC key v (s : Int) (fun m => gIns h A n g 0 m n))
      rw [e2]
      exact hn
    · have hx2 : x ∈ A ++ B := by
        rcases List.mem_append.1 hx with h1 | h1
        · exact List.mem_append_left _ h1
        · rcases List.mem_cons.1 h1 with h1 | h1
          · exact absurd h1 e
          · exact List.mem_append_right _ h1
      have hne : x.1 ≠ n := fun e2 => by have := hlt x.1 (.inr (.inr (List.mem_map.2 ⟨x, hx2, rfl⟩))); omega
      rw [ef x.1 hne]
      exact hM2.node x hx2
  · have hnd := hM.ne
    have hp : (q :: h :: (A ++ (n, (⟨key, v, s⟩ : Kv)) :: B).map (·.1)).Perm (n :: q :: h :: (A ++ B).map (·.1)) := by
      have p1 : ((A ++ (n, (⟨key, v, s⟩ : Kv)) :: B).map (·.1)).Perm (n :: (A ++ B).map (·.1)) := by
        rw [List.map_append, List.map_append, List.map_cons]
        exact List.perm_middle
      exact ((List.Perm.cons q ((List.Perm.cons h p1).trans (List.Perm.swap n h _)))).trans (List.Perm.swap n q _)
    rw [hp.nodup_iff, List.nodup_cons]
    refine ⟨fun e => ?_, hnd⟩
    have := hlt n (by
      rcases List.mem_cons.1 e with e | e
      · exact .inl e
      · rcases List.mem_cons.1 e with e | e
        · exact .inr (.inl e)
        · exact .inr (.inr e))
    omega
/-- All steps are done. -/
theorem SkR.insDone (hR : SkR TL TI z w q h L g) (key : ByteArray) (v : Value) (hs1 : 1 ≤ s) (hs2 : s ≤ 16) (hk : khas (kvs L) key = false)
    (hM : SkW TL TI z V q h (L.length + 1) (L.take (kpos (kvs L) key) ++ (n, ⟨key, v, s⟩) :: L.drop (kpos (kvs L) key)) (gIns h (L.take (kpos (kvs L) key)) n g s)) :
    SkR TL TI z V q h (L.take (kpos (kvs L) key) ++ (n, ⟨key, v, s⟩) :: L.drop (kpos (kvs L) key)) (gIns h (L.take (kpos (kvs L) key)) n g s) ∧
      kvs (L.take (kpos (kvs L) key) ++ (n, ⟨key, v, s⟩) :: L.drop (kpos (kvs L) key)) = kput (kvs L) key v s := by
  have hl := kvs_len L
  have hp := kpos_le (kvs L) key
  have hkv : kvs (L.take (kpos (kvs L) key) ++ (n, ⟨key, v, s⟩) :: L.drop (kpos (kvs L) key)) = kput (kvs L) key v s := by
    unfold kput
    rw [hk, if_neg (by decide)]
    simp only [kvs, List.map_append, List.map_cons, List.map_take, List.map_drop]
  obtain ⟨p, hpe⟩ : ∃ p, kpos (kvs L) key = p := ⟨_, rfl⟩
  rw [hpe] at hM hkv hp ⊢
  have hlen : (L.take p ++ (n, (⟨key, v, s⟩ : Kv)) :: L.drop p).length = L.length + 1 := by
    rw [List.length_append, List.length_cons, List.length_take, List.length_drop]; omega
  refine ⟨⟨by rw [hlen]; exact hM, fun m hm => ?_, fun x hx => ?_, ?_⟩, hkv⟩
  · have hc := hR.ck m hm
    have e1 : sh h L = sh h (L.take p) ++ (L.drop p).map (fun x => (x.1, x.2.st)) := by
      rw [← sh_take, ← sh_drop, List.take_append_drop]
    have e2 : sh h (L.take p ++ (n, (⟨key, v, s⟩ : Kv)) :: L.drop p) = sh h (L.take p) ++ (n, s) :: (L.drop p).map (fun x => (x.1, x.2.st)) := by simp [sh]
    rw [e1] at hc
    rw [e2]
    have hnd := hM.nd
    rw [e2] at hnd
    have hmid : ((sh h (L.take p) ++ (n, s) :: (L.drop p).map (fun x => (x.1, x.2.st))).map (·.1)).Perm (n :: (sh h (L.take p) ++ (L.drop p).map (fun x => (x.1, x.2.st))).map (·.1)) := by
      rw [List.map_append, List.map_append, List.map_cons]
      exact List.perm_middle
    rw [hmid.nodup_iff, List.nodup_cons] at hnd
    by_cases hms : m < s
    · have := ck_ins (n := (n, s)) hc (sh_on hm h _) hms hnd.2 hnd.1
      have e3 : gIns h (L.take p) n g s m = fun a => if a = n then g m (la m (sh h (L.take p))) else if a = la m (sh h (L.take p)) then some n else g m a := by
        funext a
        unfold gIns
        rw [if_pos hms]
      rw [e3]
      exact this
    · have h3 := (ck_mid (x := (n, s)) (by exact hms)).2 hc
      refine ck_congr h3 (fun x hx hmx => ?_)
      have hne : x.1 ≠ n := fun e => by
        rcases List.mem_append.1 hx with h1 | h1
        · exact hnd.1 (by rw [← e, List.map_append]; exact List.mem_append_left _ (List.mem_map.2 ⟨x, h1, rfl⟩))
        · rcases List.mem_cons.1 h1 with h1 | h1
          · subst h1; exact hms hmx
          · exact hnd.1 (by rw [← e, List.map_append]; exact List.mem_append_right _ (List.mem_map.2 ⟨x, h1, rfl⟩))
      unfold gIns
      rw [if_neg hms, if_neg hne]
  · rcases List.mem_append.1 hx with h1 | h1
    · exact hR.st x (List.mem_of_mem_take h1)
    · rcases List.mem_cons.1 h1 with h1 | h1
      · subst h1; exact ⟨hs1, hs2⟩
      · exact hR.st x (List.mem_of_mem_drop h1)
  · show Sor (kvs _)
    rw [hkv]
    exact Sor.put hR.sor key v s
end
/-- A way is set, in a block of the list. -/
theorem SkW.two {TL TI : TypeId} {z : Value} {V : World} {q h cnt : Nat} {L A : List Nd} {g : Nat → Nat → Option Nat} {n k : Nat} (hM : SkW TL TI z V q h cnt L (gIns h A n g k)) (hn : n ∈ L.map (·.1)) (hk : k < 16) (hla : la k (sh h A) = h ∨ la k (sh h A) ∈ L.map (·.1)) (hne : la k (sh h A) ≠ n) :
    SkW TL TI z (V.setCell ⟨n, 3 + k, none⟩ (pp (g k (la k (sh h A))))) q h cnt L (fun m b => if m = k ∧ b = n then g k (la k (sh h A)) else gIns h A n g k m b) ∧
      SkW TL TI z ((V.setCell ⟨n, 3 + k, none⟩ (pp (g k (la k (sh h A))))).setCell ⟨la k (sh h A), 3 + k, none⟩ (pp (some n))) q h cnt L (gIns h A n g (k + 1)) := by
  have h1 := hM.setNext (.inr hn) hk (g k (la k (sh h A)))
  refine ⟨h1, ?_⟩
  have h2 := h1.setNext hla hk (some n)
  rw [← gIns_next hne]
  exact h2
theorem nodeC_val (k : ByteArray) (v u : Value) (s : Int) (f : Nat → Option Nat) : (nodeC k v s f).setIfInBounds 1 u = nodeC k u s f := rfl
/-- A value is set. -/
theorem SkR.setVal {TL TI : TypeId} {z : Value} {V : World} {q h : Nat} {L : List Nd} {g : Nat → Nat → Option Nat} (hR : SkR TL TI z V q h L g) {p : Nat} (hp : p < L.length) (v : Value) :
    SkR TL TI z (V.setCell ⟨(L[p]'hp).1, 1, none⟩ v) q h (L.set p ((L[p]'hp).1, ⟨(L[p]'hp).2.key, v, (L[p]'hp).2.st⟩)) g ∧ (L.set p ((L[p]'hp).1, ⟨(L[p]'hp).2.key, v, (L[p]'hp).2.st⟩)).map (·.1) = L.map (·.1) := by
  have hM := hR.mem
  have hxm := List.getElem_mem hp
  have hma : (L.set p ((L[p]'hp).1, ⟨(L[p]'hp).2.key, v, (L[p]'hp).2.st⟩)).map (·.1) = L.map (·.1) := by
    rw [List.map_set]
    refine List.ext_getElem? (fun i => ?_)
    rw [List.getElem?_set]
    by_cases e : p = i
    · subst e; simp [hp]
    · rw [if_neg e]
  have hms : (L.set p ((L[p]'hp).1, ⟨(L[p]'hp).2.key, v, (L[p]'hp).2.st⟩)).map (fun x => (x.1, x.2.st)) = L.map (fun x => (x.1, x.2.st)) := by
    rw [List.map_set]
    refine List.ext_getElem? (fun i => ?_)
    rw [List.getElem?_set]
    by_cases e : p = i
    · subst e; simp [hp]
    · rw [if_neg e]
  have hxa : (L[p]'hp).1 ∈ L.map (·.1) := List.mem_map.2 ⟨_, hxm, rfl⟩
  refine ⟨⟨⟨(heap_setNe (fun e => hM.qL hxa e.symm) _).trans (by rw [List.length_set]; exact hM.obj), (heap_setNe (fun e => hM.hL hxa e.symm) _).trans hM.head, fun y hy => ?_, by rw [hma]; exact hM.ne⟩, fun m hm => by unfold sh; rw [hms]; exact hR.ck m hm, fun y hy => ?_, ?_⟩, hma⟩
  · obtain ⟨i, hi, rfl⟩ := List.mem_iff_getElem.1 hy
    rw [List.length_set] at hi
    rw [List.getElem_set]
    by_cases e : p = i
    · subst e
      rw [if_pos rfl]
      have := (hM.node _ hxm).set_ 1 v
      rw [nodeC_val] at this
      exact this
    · rw [if_neg e]
      have hne : (L[i]'hi).1 ≠ (L[p]'hp).1 := fun e2 => by
        have hnd := hM.nd
        have e3 : (sh h L).map (·.1) = h :: L.map (·.1) := by simp [sh]
        rw [e3, List.nodup_cons] at hnd
        have := (List.getElem_inj (i := i) (j := p) (h₀ := by simpa using hi) (h₁ := by simpa using hp) hnd.2).1 (by simpa using e2)
        exact e this.symm
      exact (heap_setNe hne _).trans (hM.node _ (List.getElem_mem hi))
  · rcases List.mem_or_eq_of_mem_set hy with h1 | h1
    · exact hR.st y h1
    · subst h1; exact (hR.st _ hxm : 1 ≤ (L[p]'hp).2.st ∧ (L[p]'hp).2.st ≤ 16)
  · have hs := hR.sor
    unfold Sor at hs ⊢
    have e : ∀ l : List Nd, (l.map (·.2)).Pairwise (fun a b => kl a.key b.key = true) ↔ (l.map (·.2.key)).Pairwise (fun a b => kl a b = true) := fun l => by rw [List.pairwise_map, List.pairwise_map]
    rw [e] at hs ⊢
    have hk : (L.set p ((L[p]'hp).1, ⟨(L[p]'hp).2.key, v, (L[p]'hp).2.st⟩)).map (·.2.key) = L.map (·.2.key) := by
      rw [List.map_set]
      refine List.ext_getElem? (fun i => ?_)
      rw [List.getElem?_set]
      by_cases e : p = i
      · subst e; simp [hp]
      · rw [if_neg e]
    rw [hk]
    exact hs
set_option maxRecDepth 100000 in
set_option maxHeartbeats 8000000 in
theorem sk_put (z : Value) (q h : Nat) (L : List Nd) (g : Nat → Nat → Option Nat) (key : ByteArray) (vs : ByteArray) (s : Int) (w : World) (hR : SkR 195 186 z w q h L g) (hL : L.length ≤ 1000000000) (hs1 : -9223372036854775808 ≤ s) (hs2 : s ≤ 9223372036854775807) (hks : key.size ≤ 281474976710656) :
    Calls Tryz.prog 164 #[pt q, .string key, .string vs, .int .i64 s] w fun e w' => e = .returned (.bool (decide (1 ≤ s ∧ s ≤ 16))) ∧ ∃ L' g', SkR 195 186 z w' q h L' g' ∧ kvs L' = (if 1 ≤ s ∧ s ≤ 16 then kput (kvs L) key (.string vs) s.toNat else kvs L) ∧ Grow (skF q h L) w w' ∧ ∀ k, skF q h L' k → nF (skF q h L) w w' k := by
  have NO := Lib.hid (sk_isNone z q h L.length L g _ hR.mem)
  have IS := Lib.hid (sk_isStep s w hs1 hs2)
  by_cases hs : 1 ≤ s ∧ s ≤ 16
  · rw [decide_eq_true hs] at IS ⊢
    rw [if_pos hs]
    obtain ⟨s, rfl⟩ : ∃ n : Nat, s = (n : Int) := ⟨s.toNat, by omega⟩
    have hsa : 1 ≤ s := by omega
    have hsb : s ≤ 16 := by omega
    rw [show ((s : Int)).toNat = s from by omega]
    have FI := Lib.hid (sk_find z q h L g key w hR)
    rcases fnd_cases z L key with ⟨x, hp, hx, hm, h1, h2, h3, h4⟩ | ⟨h1, h2, h3, h4⟩
    · rw [h1, show pp (some x.1) = pt x.1 from rfl] at FI
      have hkp : kvs (L.set (kpos (kvs L) key) (x.1, ⟨x.2.key, .string vs, x.2.st⟩)) = kput (kvs L) key (.string vs) s := by
        have hl := kvs_len L
        obtain ⟨q1, q2⟩ := (khas_iff _ _).1 h2
        unfold kput
        rw [if_pos h2, stAt_eq q1, kvs_get hp, ← hx]
        rw [kvs_get hp, ← hx] at q2
        simp only [kvs, List.map_set]
        rw [q2]
      have HK := Lib.hid hkp
      have HX := Lib.hid (fun V (hb : Below w.heap.size w V) => (hR.below hb).setVal hp (.string vs))
      rw [← hx] at HX
      have HC := Lib.hid (fun V (hb : Below w.heap.size w V) => And.intro ((hR.below hb).mem.val hm) ((hR.below hb).mem.free (.inr (List.mem_map.2 ⟨x, hm, rfl⟩)) 1))
      have HXF := Lib.hid (show skF q h L x.1 from .inr (.inr (List.mem_map.2 ⟨x, hm, rfl⟩)))
      clear hR hkp hx h1 h2 h3 h4 hp hm hs hL
      obtain ⟨⟨b, ⟨k, v, st⟩⟩, rfl⟩ : ∃ y, x = y := ⟨x, rfl⟩
      simp only at HK HX HC HXF FI
      go_enter Tryz.func164, Tryz.ntmps164
      go_wp2_with (first
        | (go_at_call 162; refine NO.out.mono ?_; rintro e w2 ⟨rfl, hw2⟩; obtain rfl : w = w2 := hw2.symm)
        | (go_at_call 200; refine IS.out.mono ?_; rintro e w2 ⟨rfl, hw2⟩; obtain rfl : w = w2 := hw2.symm)
        | (go_at_call 119; refine FI.out.mono ?_; rintro e w2 ⟨rfl, hb⟩; have HB2 := Lib.hid (brow (bst hb (nbl w2 (.cells zeroW 182))) hb.size (waysC fun m => pt (ahd h L key m))); obtain ⟨c1, f1⟩ := HC.out _ HB2.out)
        | (refine wpList_store_row rfl 182 _ _ rfl w2.heap.size (waysC fun m => pt (ahd h L key m)) rfl rfl 182 zeroW (Blk.new w2 182 zeroW) (by kernel_rfl) rfl (waysC_all (fun _ _ => rfl)) ?_))
      go_ret
      obtain ⟨r1, r2⟩ := HX.out _ HB2.out
      refine ⟨rfl, _, g, r1, HK.out, (Grow.of_below HB2.out).set (.inl HXF.out) _, fun k e => ?_⟩
      unfold skF at e
      rw [r2] at e
      exact .inl e
    · rw [h1, show pp none = .pointer none from rfl] at FI
      have HR := Lib.hid hR
      have HKH := Lib.hid h2
      have HL := Lib.hid hL
      have CL := Lib.hid (fun V => sk_clone key V hks)
      clear hR h1 h2 h3 h4 hs hks hL
      go_enter Tryz.func164, Tryz.ntmps164
      go_wp2_with (first
        | (go_at_call 162; refine NO.out.mono ?_; rintro e w2 ⟨rfl, hw2⟩; obtain rfl : w = w2 := hw2.symm)
        | (go_at_call 200; refine IS.out.mono ?_; rintro e w2 ⟨rfl, hw2⟩; obtain rfl : w = w2 := hw2.symm)
        | (go_at_call 119; refine FI.out.mono ?_; rintro e w2 ⟨rfl, hb⟩; have HB2 := Lib.hid (brow (bst hb (nbl w2 (.cells zeroW 182))) hb.size (waysC fun m => pt (ahd h L key m))); have HZ2 := Lib.hid ((Blk.new w2 182 zeroW).row (waysC fun m => pt (ahd h L key m))); have HS2 := Lib.hid hb.size)
        | (refine wpList_store_row rfl 182 _ _ rfl w2.heap.size (waysC fun m => pt (ahd h L key m)) rfl rfl 182 zeroW (Blk.new w2 182 zeroW) (by kernel_rfl) rfl (waysC_all (fun _ _ => rfl)) ?_)
        | (go_at_call 75; refine (CL.out _).mono ?_; rintro e w3 ⟨rfl, hb3⟩; have HB3 := Lib.hid (bst HB2.out hb3); have HZ3 := Lib.hid (HZ2.out.below hb3 (by simp)); have HS3 := Lib.hid (show w2.heap.size < w3.heap.size from by have := hb3.size; simp at this; omega)))
      have HN := Lib.hid (Blk.new w3 186 (nodeC key (.string vs) (s : Int) (fun _ => none)))
      have HB4 := Lib.hid (bst HB3.out (nbl w3 (.cells (nodeC key (.string vs) (s : Int) (fun _ => none)) 186)))
      have HZ4 := Lib.hid (HZ3.out.below (nbl w3 (.cells (nodeC key (.string vs) (s : Int) (fun _ => none)) 186)) HS3.out)
      change Code.wp _ _ _ _ (w3.alloc (.cells (nodeC key (.string vs) (s : Int) (fun _ => none)) 186))
      generalize w3.alloc (.cells (nodeC key (.string vs) (s : Int) (fun _ => none)) 186) = X at *
      have HLA := Lib.hid (fun m => HR.out.laMem m (kpos (kvs L) key))
      have hsp : L.take (kpos (kvs L) key) ++ L.drop (kpos (kvs L) key) = L := List.take_append_drop _ _
      have HW0 := Lib.hid (SkW.ins (A := L.take (kpos (kvs L) key)) (B := L.drop (kpos (kvs L) key)) (by rw [hsp]; exact HR.out.mem) HB4.out HN.out (Nat.le_trans HS2.out (Nat.le_of_lt HS3.out)))
      have HG0 := Lib.hid (Grow.of_below (F := skF q h L) HB4.out)
      have HDN := Lib.hid (fun V (c : Nat) (hM : SkW 195 186 z V q h (L.length + 1) (L.take (kpos (kvs L) key) ++ (w3.heap.size, ⟨key, .string vs, s⟩) :: L.drop (kpos (kvs L) key)) (gIns h (L.take (kpos (kvs L) key)) w3.heap.size g s)) => HR.out.insDone key (.string vs) hsa hsb HKH.out hM)
      have HNF := Lib.hid (Nat.le_trans HS2.out (Nat.le_of_lt HS3.out))
      have hlz : L.length < 1000000001 := by have := HL.out; omega
      have HQ := Lib.hid (fun k (e : skF q h L k) => HR.out.mem.lt e)
      have HSZ := Lib.hid (show w3.heap.size < X.heap.size from HN.out.lt)
      clear hsp HB2 HZ2 HB3 HZ3 HN HB4 hb hb3 NO IS FI CL
      generalize hn : w3.heap.size = n at *
      generalize hb10 : w2.heap.size = b10 at *
      have hbn : b10 < n := HS3.out
      have hwb : w.heap.size ≤ b10 := HS2.out
      clear hn hb10 HS3 HS2
      have HA : ∀ m, la m (sh h (L.take (kpos (kvs L) key))) = ahd h L key m := fun m => rfl
      go_loopw [39] (fun i wr => ∃ k : Nat, k ≤ s ∧ i = .int .i64 k ∧ Hid (SkW 195 186 z wr q h L.length (L.take (kpos (kvs L) key) ++ (n, ⟨key, .string vs, s⟩) :: L.drop (kpos (kvs L) key)) (gIns h (L.take (kpos (kvs L) key)) n g k)) ∧ Hid (Blk wr b10 182 (waysC fun m => pt (ahd h L key m))) ∧ Hid (Grow (skF q h L) w wr ∧ X.heap.size ≤ wr.heap.size)) (fun i _ => s - (intOf i).toNat)
      case atStart => exact ⟨0, Nat.zero_le _, rfl, HW0, HZ4, Lib.hid ⟨HG0.out, Nat.le_refl _⟩⟩
      case round =>
        obtain ⟨k, hk, rfl, HW, HZ, HG⟩ := hrel
        by_cases hlt : k < s
        · have hk16 : k < 16 := by omega
          obtain ⟨a, ha⟩ : ∃ a, ahd h L key k = a := ⟨_, rfl⟩
          have ha2 : la k (sh h (L.take (kpos (kvs L) key))) = a := ha
          have hmem := HLA.out k
          rw [ha2] at hmem
          have halt : a < w.heap.size := HQ.out a (hmem.elim (fun e => .inr (.inl e)) (fun e => .inr (.inr e)))
          have hnm : n ∈ (L.take (kpos (kvs L) key) ++ (n, (⟨key, .string vs, s⟩ : Kv)) :: L.drop (kpos (kvs L) key)).map (·.1) := by simp
          have hmem2 : a = h ∨ a ∈ (L.take (kpos (kvs L) key) ++ (n, (⟨key, .string vs, s⟩ : Kv)) :: L.drop (kpos (kvs L) key)).map (·.1) := by
            rcases hmem with e | e
            · exact .inl e
            · refine .inr ?_
              rw [← List.take_append_drop (kpos (kvs L) key) L, List.map_append] at e
              rw [List.map_append, List.map_cons]
              rcases List.mem_append.1 e with e | e
              · exact List.mem_append_left _ e
              · exact List.mem_append_right _ (List.mem_cons_of_mem _ e)
          have hne : a ≠ n := by have := HNF.out; omega
          obtain ⟨t1, t2⟩ := HW.out.two (k := k) hnm hk16 (by rw [ha2]; exact hmem2) (by rw [ha2]; exact hne)
          rw [ha2] at t1 t2
          have hgk : gIns h (L.take (kpos (kvs L) key)) n g k k a = g k a := by unfold gIns; rw [if_neg (Nat.lt_irrefl _), if_neg hne]
          have c1 := HW.out.next hmem2 hk16
          rw [hgk] at c1
          have c2 := HW.out.next (.inr hnm) hk16
          have f2 := HW.out.free (.inr hnm) (3 + k)
          have c3 := (HZ.out.cell k).trans (waysC_get _ hk16)
          rw [ha] at c3
          have c4 := t1.next hmem2 hk16
          have f4 := t1.free hmem2 (3 + k)
          have HG2 := Lib.hid ((HG.out.1.set (p := ⟨n, 3 + k, none⟩) (.inr (by have := HNF.out; omega)) (pp (g k a))).set (p := ⟨a, 3 + k, none⟩) (.inl (hmem.elim (fun e => .inr (.inl e)) (fun e => .inr (.inr e)))) (pp (some n)))
          have HT := Lib.hid t2
          have hgs := HG.out.2
          have hb1 : b10 ≠ n := by omega
          have hb2 : b10 ≠ a := by omega
          have HZa := (show Blk (wr.setCell ⟨n, 3 + k, none⟩ (pp (g k a))) b10 182 (waysC fun m => pt (ahd h L key m)) from (heap_setNe hb1 _).trans HZ.out)
          have c5 := (HZa.cell k).trans (waysC_get _ hk16)
          rw [ha] at c5
          have HZ2 := Lib.hid (show Blk ((wr.setCell ⟨n, 3 + k, none⟩ (pp (g k a))).setCell ⟨a, 3 + k, none⟩ (pp (some n))) b10 182 (waysC fun m => pt (ahd h L key m)) from (heap_setNe hb2 _).trans HZa)
          clear HZa t1 t2 hgk
          generalize pp (gIns h (L.take (kpos (kvs L) key)) n g k k n) = v2 at *
          generalize pp ((fun m b => if m = k ∧ b = n then g k a else gIns h (L.take (kpos (kvs L) key)) n g k m b) k a) = v4 at *
          obtain ⟨pv, hpv⟩ : ∃ p, pp (g k a) = .pointer p := by cases g k a with
            | none => exact ⟨_, rfl⟩
            | some x => exact ⟨_, rfl⟩
          rw [hpv] at c1 c4 f4 c5 HT HG2 HZ2
          clear HW HZ HG halt hmem hmem2 hnm ha ha2 HA hne hb1 hb2
          go_wp2_with fail
          have hi1 : (0 : Int) ≤ (k : Int) := by omega
          have hi2 : (k : Int) < 16 := by omega
          have hi3 : ¬ (16 : Int) ≤ (k : Int) := by omega
          go_still_tail 13, (by kernel_rfl)
          change wpList _ _ _ _ _ wr.drew
          go_wp2_with fail
          go_roundw
          case rel => exact ⟨k + 1, by omega, by go_num, ⟨HT.out.obj, HT.out.head, HT.out.node, HT.out.ne⟩, HZ2.out, ⟨HG2.out.drewN 1, by simp [World.setCell]; exact hgs⟩⟩
          case measure => simp [intOf]; omega
        · obtain rfl : k = s := by omega
          have c1 := HW.out.obj.cell 1
          have f1 := HW.out.obj.frozen 1
          obtain ⟨r1, r2⟩ := HDN.out _ L.length (HW.out.setCnt (L.length + 1))
          have HR1 := Lib.hid r1
          have HR2 := Lib.hid r2
          have HG2 := Lib.hid (HG.out.1.set (p := ⟨q, 1, none⟩) (.inl (.inl rfl)) (.int .i64 ((L.length + 1 : Nat) : Int)))
          have hgs := HG.out.2
          clear r1 r2 HA HW
          go_wp2_with fail
          go_ret
          refine ⟨rfl, _, _, HR1.out, HR2.out, HG2.out, fun j e => ?_⟩
          unfold skF at e
          rcases e with e | e | e
          · exact .inl (.inl e)
          · exact .inl (.inr (.inl e))
          · rw [List.map_append, List.map_cons] at e
            rcases List.mem_append.1 e with e | e
            · exact .inl (.inr (.inr (by rw [List.map_take] at e; exact List.mem_of_mem_take e)))
            · rcases List.mem_cons.1 e with e | e
              · refine .inr ⟨?_, ?_⟩
                · rw [e]; exact HNF.out
                · rw [e]; have := HSZ.out; simp [World.setCell]; omega
              · exact .inl (.inr (.inr (by rw [List.map_drop] at e; exact List.mem_of_mem_drop e)))
  · rw [decide_eq_false hs] at IS ⊢
    rw [if_neg hs]
    have HR := Lib.hid hR
    clear hR hs
    go_enter Tryz.func164, Tryz.ntmps164
    go_wp2_with (first
      | (go_at_call 162; refine NO.out.mono ?_; rintro e w2 ⟨rfl, hw2⟩; obtain rfl : w = w2 := hw2.symm)
      | (go_at_call 200; refine IS.out.mono ?_; rintro e w2 ⟨rfl, hw2⟩; obtain rfl : w = w2 := hw2.symm))
    go_ret
    exact ⟨rfl, L, g, HR.out, rfl, Grow.refl _ _, fun k e => .inl e⟩
end Go.Proofs.YtgccichmdddbpaaGreatDoor
set_option linter.unusedVariables false
namespace Go.Proofs.YtgccichmdddbpaaGreatDoor
open Go.RowKit

def gDel (h : Nat) (A : List Nd) (x : Nat) (g : Nat → Nat → Option Nat) (k : Nat) : Nat → Nat → Option Nat := fun m a => if m < k ∧ a = la m (sh h A) then g m x else g m a
theorem gDel_0 (h : Nat) (A : List Nd) (x : Nat) (g : Nat → Nat → Option Nat) : gDel h A x g 0 = g := by
  funext m a
  unfold gDel
  rw [if_neg (by omega)]
theorem gDel_next (h : Nat) (A : List Nd) (x : Nat) (g : Nat → Nat → Option Nat) (k : Nat) : (fun m b => if m = k ∧ b = la k (sh h A) then g k x else gDel h A x g k m b) = gDel h A x g (k + 1) := by
  funext m b
  unfold gDel
  by_cases hm : m = k
  · subst hm
    simp
  · have e : (m < k + 1) ↔ (m < k) := by omega
    simp only [hm, false_and, if_false, e]
section
variable {TL TI : TypeId} {z : Value} {V V' w : World} {q h cnt n s : Nat} {L A B : List Nd} {g : Nat → Nat → Option Nat} {key : ByteArray} {v : Value}
theorem SkR.delDone (hR : SkR TL TI z w q h L g) (key : ByteArray) (hk : khas (kvs L) key = true) (hp : kpos (kvs L) key < L.length) (s : Nat) (hs : s = (L[kpos (kvs L) key]'hp).2.st)
    (hM : SkW TL TI z V q h (L.length - 1) L (gDel h (L.take (kpos (kvs L) key)) (L[kpos (kvs L) key]'hp).1 g s)) :
    SkR TL TI z V q h (L.take (kpos (kvs L) key) ++ L.drop (kpos (kvs L) key + 1)) (gDel h (L.take (kpos (kvs L) key)) (L[kpos (kvs L) key]'hp).1 g s) ∧
      kvs (L.take (kpos (kvs L) key) ++ L.drop (kpos (kvs L) key + 1)) = kdrop (kvs L) key := by
  have hl := kvs_len L
  have hkv : kvs (L.take (kpos (kvs L) key) ++ L.drop (kpos (kvs L) key + 1)) = kdrop (kvs L) key := by
    unfold kdrop
    rw [hk, if_pos rfl]
    simp only [kvs, List.map_append, List.map_take, List.map_drop]
  obtain ⟨p, hpe⟩ : ∃ p, kpos (kvs L) key = p := ⟨_, rfl⟩
  simp only [hpe] at hM hkv hp hs ⊢
  have hlen : (L.take p ++ L.drop (p + 1)).length = L.length - 1 := by
    rw [List.length_append, List.length_take, List.length_drop]; omega
  have hsub : (L.take p ++ L.drop (p + 1)).Sublist L := by
    have e : L.take p ++ L.drop (p + 1) = L.eraseIdx p := (List.eraseIdx_eq_take_drop_succ L _).symm
    rw [e]
    exact List.eraseIdx_sublist _ _
  have hsp : L.take p ++ L[p]'hp :: L.drop (p + 1) = L := by
    rw [← List.drop_eq_getElem_cons hp, List.take_append_drop]
  refine ⟨⟨by rw [hlen]; exact hM.sub (fun x hx => hsub.subset hx) (List.Nodup.sublist (List.Sublist.cons_cons _ (List.Sublist.cons_cons _ (hsub.map _))) hM.ne), fun m hm => ?_, fun x hx => hR.st x (hsub.subset hx), ?_⟩, hkv⟩
  · have hc := hR.ck m hm
    have e1 : sh h L = sh h (L.take p) ++ ((L[p]'hp).1, (L[p]'hp).2.st) :: (L.drop (p + 1)).map (fun x => (x.1, x.2.st)) := by
      have : sh h (L.take p ++ L[p]'hp :: L.drop (p + 1)) = sh h (L.take p) ++ ((L[p]'hp).1, (L[p]'hp).2.st) :: (L.drop (p + 1)).map (fun x => (x.1, x.2.st)) := by unfold sh; rw [List.map_append, List.map_cons]; rfl
      rw [hsp] at this
      exact this
    have e2 : sh h (L.take p ++ L.drop (p + 1)) = sh h (L.take p) ++ (L.drop (p + 1)).map (fun x => (x.1, x.2.st)) := by simp [sh]
    have hnd := hR.mem.nd
    rw [e1] at hc hnd
    rw [e2]
    by_cases hms : m < s
    · have := ck_del hc (sh_on hm h _) (by rw [hs] at hms; exact hms) hnd
      have e3 : gDel h (L.take p) (L[p]'hp).1 g s m = fun a => if a = la m (sh h (L.take p)) then g m (L[p]'hp).1 else g m a := by
        funext a
        unfold gDel
        simp only [hms, true_and]
      rw [e3]
      exact this
    · have h3 := (ck_mid (by rw [hs] at hms; exact hms)).1 hc
      have e3 : gDel h (L.take p) (L[p]'hp).1 g s m = g m := by
        funext a
        unfold gDel
        rw [if_neg (fun e => hms e.1)]
      rw [e3]
      exact h3
  · show Sor (kvs _)
    rw [hkv]
    exact Sor.dropk hR.sor key
end
set_option maxRecDepth 100000 in
set_option maxHeartbeats 8000000 in
theorem sk_drop (z : Value) (q h : Nat) (L : List Nd) (g : Nat → Nat → Option Nat) (key : ByteArray) (w : World) (hR : SkR 195 186 z w q h L g) (hL : L.length ≤ 1000000000) :
    Calls Tryz.prog 109 #[pt q, .string key] w fun e w' => e = .returned (.bool (khas (kvs L) key)) ∧ ∃ L' g', SkR 195 186 z w' q h L' g' ∧ kvs L' = kdrop (kvs L) key ∧ Grow (skF q h L) w w' ∧ ∀ k, skF q h L' k → nF (skF q h L) w w' k := by
  have FI := Lib.hid (sk_find z q h L g key w hR)
  rcases fnd_cases z L key with ⟨x, hp, hx, hm, h1, h2, h3, h4⟩ | ⟨h1, h2, h3, h4⟩
  · rw [h1, show pp (some x.1) = pt x.1 from rfl] at FI
    rw [h2]
    have HR := Lib.hid hR
    have HDN := Lib.hid (fun V (hM : SkW 195 186 z V q h (L.length - 1) L (gDel h (L.take (kpos (kvs L) key)) x.1 g x.2.st)) => (show SkR 195 186 z V q h (L.take (kpos (kvs L) key) ++ L.drop (kpos (kvs L) key + 1)) (gDel h (L.take (kpos (kvs L) key)) x.1 g x.2.st) ∧ kvs (L.take (kpos (kvs L) key) ++ L.drop (kpos (kvs L) key + 1)) = kdrop (kvs L) key from by
      have := hR.delDone (V := V) key h2 hp x.2.st (by rw [hx]) (by rw [← hx]; exact hM)
      rw [← hx] at this
      exact this))
    have HLA := Lib.hid (fun m => hR.laMem m (kpos (kvs L) key))
    have HQ := Lib.hid (fun k (e : skF q h L k) => hR.mem.lt e)
    have hxn : x.1 ∈ L.map (·.1) := List.mem_map.2 ⟨x, hm, rfl⟩
    have HXN := Lib.hid hxn
    have hst := hR.st x hm
    have HLN := Lib.hid (show 0 < L.length ∧ L.length < 1000000001 from by omega)
    have HNE := Lib.hid (fun m (hm16 : m < 16) => (show la m (sh h (L.take (kpos (kvs L) key))) ≠ x.1 from fun e => by
      have hla : la m (sh h (L.take (kpos (kvs L) key))) ∈ (sh h (L.take (kpos (kvs L) key))).map (·.1) := la_mem (by simp [sh])
      rw [e] at hla
      have hnd := hR.mem.nd
      have e1 : sh h L = sh h (L.take (kpos (kvs L) key)) ++ (x.1, x.2.st) :: (L.drop (kpos (kvs L) key + 1)).map (fun x => (x.1, x.2.st)) := by
        have hsp : L.take (kpos (kvs L) key) ++ x :: L.drop (kpos (kvs L) key + 1) = L := by
          rw [hx, ← List.drop_eq_getElem_cons hp, List.take_append_drop]
        have : sh h (L.take (kpos (kvs L) key) ++ x :: L.drop (kpos (kvs L) key + 1)) = sh h (L.take (kpos (kvs L) key)) ++ (x.1, x.2.st) :: (L.drop (kpos (kvs L) key + 1)).map (fun x => (x.1, x.2.st)) := by unfold sh; rw [List.map_append, List.map_cons]; rfl
        rw [hsp] at this
        exact this
      rw [e1, List.map_append, List.map_cons, List.nodup_append] at hnd
      exact hnd.2.2 _ hla x.1 List.mem_cons_self rfl))
    have HST := Lib.hid (fun V (hb : Below w.heap.size w V) => (hR.below hb).mem.stc hm)
    clear hx hp h1 h2 h3 h4 hR hm hxn hL
    obtain ⟨⟨b, ⟨k0, v, s⟩⟩, rfl⟩ : ∃ y, x = y := ⟨x, rfl⟩
    simp only at HDN HXN HNE HST FI hst
    obtain ⟨hsa, hsb⟩ := hst
    go_enter Tryz.func109, Tryz.ntmps109
    go_wp2_with (first
      | (go_at_call 119; refine FI.out.mono ?_; rintro e w2 ⟨rfl, hb⟩; have HB2 := Lib.hid (brow (bst hb (nbl w2 (.cells zeroW 182))) hb.size (waysC fun m => pt (ahd h L key m))); have HZ2 := Lib.hid ((Blk.new w2 182 zeroW).row (waysC fun m => pt (ahd h L key m))); have HS2 := Lib.hid hb.size; have c2 := HST.out _ HB2.out)
      | (refine wpList_store_row rfl 182 _ _ rfl w2.heap.size (waysC fun m => pt (ahd h L key m)) rfl rfl 182 zeroW (Blk.new w2 182 zeroW) (by kernel_rfl) rfl (waysC_all (fun _ _ => rfl)) ?_))
    generalize (w2.alloc (.cells zeroW 182)).setRow w2.heap.size (waysC fun m => pt (ahd h L key m)) = X at *
    generalize hb10 : w2.heap.size = b10 at *
    have hwb : w.heap.size ≤ b10 := HS2.out
    have HW0 := Lib.hid (HR.out.below HB2.out).mem
    have HG0 := Lib.hid (Grow.of_below (F := skF q h L) HB2.out)
    clear hb10 HS2 hb c2 FI HST
    go_loopw [20] (fun i wr => ∃ k : Nat, k ≤ s ∧ i = .int .i64 k ∧ Hid (SkW 195 186 z wr q h L.length L (gDel h (L.take (kpos (kvs L) key)) b g k)) ∧ Hid (Blk wr b10 182 (waysC fun m => pt (ahd h L key m))) ∧ Hid (Grow (skF q h L) w wr)) (fun i _ => s - (intOf i).toNat)
    case atStart => exact ⟨0, Nat.zero_le _, rfl, Lib.hid (by rw [gDel_0]; exact HW0.out), HZ2, HG0⟩
    case round =>
      obtain ⟨k, hk, rfl, HW, HZ, HG⟩ := hrel
      by_cases hlt : k < s
      · have hk16 : k < 16 := by omega
        obtain ⟨a, ha⟩ : ∃ a, ahd h L key k = a := ⟨_, rfl⟩
        have ha2 : la k (sh h (L.take (kpos (kvs L) key))) = a := ha
        have hmem := HLA.out k
        have hne := HNE.out k hk16
        rw [ha2] at hmem hne
        have halt : a < w.heap.size := HQ.out a (hmem.elim (fun e => .inr (.inl e)) (fun e => .inr (.inr e)))
        have t1 := HW.out.setNext hmem hk16 (g k b)
        rw [← ha2, gDel_next, ha2] at t1
        have hgk : gDel h (L.take (kpos (kvs L) key)) b g k k b = g k b := by unfold gDel; rw [if_neg (fun e => absurd e.1 (Nat.lt_irrefl _))]
        have c1 := HW.out.next (.inr HXN.out) hk16
        rw [hgk] at c1
        have c2 := HW.out.next hmem hk16
        have f2 := HW.out.free hmem (3 + k)
        have c3 := (HZ.out.cell k).trans (waysC_get _ hk16)
        rw [ha] at c3
        have HG2 := Lib.hid (HG.out.set (p := ⟨a, 3 + k, none⟩) (.inl (hmem.elim (fun e => .inr (.inl e)) (fun e => .inr (.inr e)))) (pp (g k b)))
        have HT := Lib.hid t1
        have hb2 : b10 ≠ a := by omega
        have HZ3 := Lib.hid (show Blk (wr.setCell ⟨a, 3 + k, none⟩ (pp (g k b))) b10 182 (waysC fun m => pt (ahd h L key m)) from (heap_setNe hb2 _).trans HZ.out)
        clear t1 hgk
        generalize pp (gDel h (L.take (kpos (kvs L) key)) b g k k a) = v2 at *
        obtain ⟨pv, hpv⟩ : ∃ p, pp (g k b) = .pointer p := by cases g k b with
          | none => exact ⟨_, rfl⟩
          | some x => exact ⟨_, rfl⟩
        rw [hpv] at c1 HT HG2 HZ3
        clear HW HZ HG halt hmem ha ha2 hne hb2
        have hi1 : (0 : Int) ≤ (k : Int) := by omega
        have hi2 : (k : Int) < 16 := by omega
        have hi3 : ¬ (16 : Int) ≤ (k : Int) := by omega
        go_wp2_with fail
        go_still_tail 13, (by kernel_rfl)
        change wpList _ _ _ _ _ wr.drew
        go_wp2_with fail
        go_roundw
        case rel => exact ⟨k + 1, by omega, by go_num, ⟨HT.out.obj, HT.out.head, HT.out.node, HT.out.ne⟩, HZ3.out, HG2.out.drewN 1⟩
        case measure => simp [intOf]; omega
      · obtain rfl : k = s := by omega
        have c1 := HW.out.obj.cell 1
        have f1 := HW.out.obj.frozen 1
        obtain ⟨hl0, hl1⟩ := HLN.out
        obtain ⟨r1, r2⟩ := HDN.out _ (HW.out.setCnt (L.length - 1))
        have HG2 := Lib.hid (HG.out.set (p := ⟨q, 1, none⟩) (.inl (.inl rfl)) (.int .i64 ((L.length - 1 : Nat) : Int)))
        rw [show ((L.length - 1 : Nat) : Int) = (L.length : Int) - 1 from by omega] at r1 HG2
        have HR1 := Lib.hid r1
        have HR2 := Lib.hid r2
        clear r1 r2 HW
        go_wp2_with fail
        go_ret
        refine ⟨rfl, _, _, HR1.out, HR2.out, HG2.out, fun j e => ?_⟩
        unfold skF at e
        rcases e with e | e | e
        · exact .inl (.inl e)
        · exact .inl (.inr (.inl e))
        · rw [List.map_append] at e
          rcases List.mem_append.1 e with e | e
          · exact .inl (.inr (.inr (by rw [List.map_take] at e; exact List.mem_of_mem_take e)))
          · exact .inl (.inr (.inr (by rw [List.map_drop] at e; exact List.mem_of_mem_drop e)))
  · rw [h1, show pp none = .pointer none from rfl] at FI
    have HKD := Lib.hid (show kdrop (kvs L) key = kvs L from by unfold kdrop; rw [h2]; rfl)
    rw [h2]
    have HR := Lib.hid hR
    clear hR h1 h2 h3 h4
    go_enter Tryz.func109, Tryz.ntmps109
    go_wp2_with (first
      | (go_at_call 119; refine FI.out.mono ?_; rintro e w2 ⟨rfl, hb⟩; have HB2 := Lib.hid (brow (bst hb (nbl w2 (.cells zeroW 182))) hb.size (waysC fun m => pt (ahd h L key m))))
      | (refine wpList_store_row rfl 182 _ _ rfl w2.heap.size (waysC fun m => pt (ahd h L key m)) rfl rfl 182 zeroW (Blk.new w2 182 zeroW) (by kernel_rfl) rfl (waysC_all (fun _ _ => rfl)) ?_))
    go_ret
    exact ⟨rfl, L, g, HR.out.below HB2.out, HKD.out.symm, Grow.of_below HB2.out, fun k e => .inl e⟩
end Go.Proofs.YtgccichmdddbpaaGreatDoor
set_option linter.unusedVariables false
namespace Go.Proofs.YtgccichmdddbpaaGreatDoor
open Go.RowKit

abbrev z9 : Value := .string ⟨#[]⟩
theorem row0 {w : World} {B n : Nat} {e : TypeId} {s : Nat} {v : Value} {xs : List Value} (h : w.ownsRow B e s v n xs) : w.ownsRow 0 e s v n xs := by
  refine ⟨h.1, ?_⟩
  rcases h.2 with hn | ⟨g, cap, cur, hv, hb, rest⟩
  · exact .inl hn
  · exact .inr ⟨g, cap, cur, hv, Nat.zero_le _, rest⟩
def skA (q : Nat) (l : List Kv) : As where
  p V F := ∃ h L g, SkR 195 186 z9 V q h L g ∧ kvs L = l ∧ ∀ k, F k ↔ skF q h L k
  on {V V' F} h hs hk := by
    obtain ⟨h', L, g, hR, e, hF⟩ := h
    exact ⟨h', L, g, ⟨hR.mem.on (fun k e2 => hk k ((hF k).2 e2)), hR.ck, hR.st, hR.sor⟩, e, hF⟩
  lt {V F} h k e := by
    obtain ⟨h', L, g, hR, _, hF⟩ := h
    exact hR.mem.lt ((hF k).1 e)
def kputI (l : List Kv) (k : ByteArray) (v : Value) (s : Int) : List Kv := if 1 ≤ s ∧ s ≤ 16 then kput l k v s.toNat else l
section
variable {w V V' : World} {T : List As} {q b : Nat} {l : List Kv} {key : ByteArray}
end
end Go.Proofs.YtgccichmdddbpaaGreatDoor
set_option linter.unusedVariables false
namespace Go.Proofs.YtgccichmdddbpaaGreatDoor
open Go.RowKit

structure Rw where
  key : ByteArray
  value : ByteArray
structure Op_ where
  key : ByteArray
  value : ByteArray
  del : Bool
def rpos (r : List Rw) (k : ByteArray) : Nat := (r.takeWhile (fun x => kl x.key k)).length
def rhas (r : List Rw) (k : ByteArray) : Bool := match r[rpos r k]? with | some x => decide (x.key = k) | none => false
def rval (r : List Rw) (k : ByteArray) : ByteArray := if rhas r k then (r[rpos r k]?.map Rw.value).getD ⟨#[]⟩ else ⟨#[]⟩
def rrest (r : List Rw) (k : ByteArray) : Nat := rpos r k + if rhas r k then 1 else 0
def rone (r : List Rw) (o : Op_) : List Rw := r.take (rpos r o.key) ++ (if o.del then [] else [⟨o.key, o.value⟩]) ++ r.drop (rrest r o.key)
def opBad (o : Op_) : Bool := o.key.toList.isEmpty || (o.del && !o.value.toList.isEmpty)
def chk (l : List Op_) : Nat := if 128 < l.length then 5 else if l.any opBad then 2 else 0
def rapp (r : List Rw) (l : List Op_) : List Rw := if chk l = 0 then l.foldl rone r else r
def rkey (r : List Rw) (n : Nat) : ByteArray := (r[n]?.map Rw.key).getD ⟨#[]⟩
/-- Where Last looks. -/
def rend (r : List Rw) (k : ByteArray) : Nat := if k.toList = [] then r.length else rpos r k
def RSor (r : List Rw) : Prop := r.Pairwise (fun a b => kl a.key b.key = true)
def btw (r : List Rw) (from_ to_ : ByteArray) : List Rw := (r.take (rend r to_)).drop (rpos r from_)

/-! ### a list of texts as rows -/
def strOf : Value → ByteArray
  | .string s => s
  | _ => ⟨#[]⟩
def rw1 (x : Kv) : Rw := ⟨x.key, strOf x.val⟩
def tab (l : List Kv) : List Rw := l.map rw1
def Strs (l : List Kv) : Prop := ∀ x ∈ l, ∃ s, x.val = .string s
theorem tab_len (l : List Kv) : (tab l).length = l.length := by simp [tab]
theorem tab_get (l : List Kv) (n : Nat) : (tab l)[n]? = l[n]?.map rw1 := by simp [tab]
theorem tab_pos (l : List Kv) (k : ByteArray) : rpos (tab l) k = kpos l k := by
  unfold rpos kpos tab
  rw [List.takeWhile_map, List.length_map]
  rfl
theorem tab_has (l : List Kv) (k : ByteArray) : rhas (tab l) k = khas l k := by
  unfold rhas khas
  rw [tab_get, tab_pos]
  cases l[kpos l k]? <;> rfl
theorem tab_key (l : List Kv) (n : Nat) : rkey (tab l) n = keyAt l n := by
  unfold rkey keyAt
  rw [tab_get]
  cases l[n]? <;> rfl
theorem tab_val {l : List Kv} (h : Strs l) (k : ByteArray) : kval z9 l k = .string (rval (tab l) k) := by
  unfold kval rval
  rw [tab_has, tab_get, tab_pos]
  cases hh : khas l k with
  | false => rfl
  | true =>
    obtain ⟨hp, _⟩ := (khas_iff l k).1 hh
    obtain ⟨s, hs⟩ := h _ (List.getElem_mem hp)
    rw [if_pos rfl, if_pos rfl, List.getElem?_eq_getElem hp]
    show (l[kpos l k]'hp).val = .string (strOf (l[kpos l k]'hp).val)
    rw [hs]
    rfl
theorem tab_sor (l : List Kv) : RSor (tab l) ↔ Sor l := by
  unfold RSor Sor tab
  rw [List.pairwise_map]
  exact Iff.rfl
theorem tab_put (l : List Kv) (k v : ByteArray) (s : Nat) : tab (kput l k (.string v) s) = rone (tab l) ⟨k, v, false⟩ := by
  unfold kput rone rrest
  simp only [tab_has, tab_pos]
  cases hh : khas l k with
  | true =>
    obtain ⟨hp, _⟩ := (khas_iff l k).1 hh
    rw [if_pos rfl, if_pos rfl]
    simp only [Bool.false_eq_true, if_false]
    rw [List.set_eq_take_append_cons_drop, if_pos hp]
    simp [tab, List.map_take, List.map_drop, rw1, strOf]
  | false =>
    simp only [Bool.false_eq_true, if_false]
    simp [tab, List.map_take, List.map_drop, rw1, strOf]
theorem tab_drop (l : List Kv) (k v : ByteArray) : tab (kdrop l k) = rone (tab l) ⟨k, v, true⟩ := by
  unfold kdrop rone rrest
  simp only [tab_has, tab_pos]
  cases hh : khas l k with
  | true =>
    rw [if_pos rfl, if_pos rfl]
    simp [tab, List.map_take, List.map_drop]
  | false =>
    simp only [Bool.false_eq_true, if_false, if_true]
    simp [tab]
theorem Strs.put {l : List Kv} (h : Strs l) (k v : ByteArray) (s : Nat) : Strs (kput l k (.string v) s) := by
  unfold kput
  split
  · intro x hx
    rcases List.mem_or_eq_of_mem_set hx with h1 | h1
    · exact h x h1
    · exact ⟨v, by rw [h1]⟩
  · intro x hx
    rcases List.mem_append.1 hx with h1 | h1
    · exact h x (List.mem_of_mem_take h1)
    · rcases List.mem_cons.1 h1 with h1 | h1
      · exact ⟨v, by rw [h1]⟩
      · exact h x (List.mem_of_mem_drop h1)
theorem Strs.drop {l : List Kv} (h : Strs l) (k : ByteArray) : Strs (kdrop l k) := by
  unfold kdrop
  split
  · intro x hx
    rcases List.mem_append.1 hx with h1 | h1
    · exact h x (List.mem_of_mem_take h1)
    · exact h x (List.mem_of_mem_drop h1)
  · exact h

/-! ### rows -/
theorem rpos_le (r : List Rw) (k : ByteArray) : rpos r k ≤ r.length := by
  unfold rpos
  induction r with
  | nil => simp
  | cons a r ih =>
    rw [List.takeWhile_cons]
    split
    · simp only [List.length_cons]; omega
    · simp
/-- Rows as a list. -/
def kvOf (r : List Rw) : List Kv := r.map (fun x => ⟨x.key, .string x.value, 1⟩)
theorem tab_kv (r : List Rw) : tab (kvOf r) = r := by
  unfold tab kvOf
  rw [List.map_map]
  exact List.map_id'' (fun x => rfl) r
theorem kv_len (r : List Rw) : (kvOf r).length = r.length := by simp [kvOf]
theorem kv_key {r : List Rw} {i : Nat} (h : i < r.length) : ((kvOf r)[i]'(by rw [kv_len]; exact h)).key = (r[i]'h).key := by simp [kvOf]
theorem kv_pos (r : List Rw) (k : ByteArray) : kpos (kvOf r) k = rpos r k := by rw [← tab_pos, tab_kv]
theorem kv_sor (r : List Rw) : Sor (kvOf r) ↔ RSor r := by rw [← tab_sor, tab_kv]
theorem rpos_lt {r : List Rw} {k : ByteArray} {i : Nat} (h : i < rpos r k) : ∃ hi : i < r.length, kl (r[i]'hi).key k = true := by
  rw [← kv_pos] at h
  obtain ⟨hi, h2⟩ := kpos_lt h
  have hi2 : i < r.length := by rw [kv_len] at hi; exact hi
  exact ⟨hi2, by rw [← kv_key hi2]; exact h2⟩
theorem rpos_ge {r : List Rw} (hs : RSor r) {k : ByteArray} {i : Nat} (h : rpos r k ≤ i) (hi : i < r.length) : kl (r[i]'hi).key k = false := by
  rw [← kv_pos] at h
  rw [← kv_key hi]
  exact kpos_ge ((kv_sor r).2 hs) h (by rw [kv_len]; exact hi)
theorem rpos_at {r : List Rw} {k : ByteArray} (h : rpos r k < r.length) : kl (r[rpos r k]'h).key k = false := by
  have h2 : kpos (kvOf r) k < (kvOf r).length := by rw [kv_pos, kv_len]; exact h
  have := kpos_at h2
  simp only [kv_pos] at this
  rw [← kv_key h]
  exact this
theorem rpos_iff {r : List Rw} (hs : RSor r) {k : ByteArray} {i : Nat} (hi : i < r.length) : kl (r[i]'hi).key k = decide (i < rpos r k) := by
  by_cases h : i < rpos r k
  · rw [decide_eq_true h]; exact (rpos_lt h).2
  · rw [decide_eq_false h]; exact rpos_ge hs (by omega) hi
theorem rend_le (r : List Rw) (k : ByteArray) : rend r k ≤ r.length := by
  unfold rend
  split
  · exact Nat.le_refl _
  · exact rpos_le _ _
theorem rend_iff {r : List Rw} (hs : RSor r) {k : ByteArray} {i : Nat} (hi : i < r.length) : (decide (k.toList = []) || kl (r[i]'hi).key k) = decide (i < rend r k) := by
  unfold rend
  by_cases h : k.toList = []
  · rw [decide_eq_true h, if_pos h, decide_eq_true hi]; rfl
  · rw [decide_eq_false h, if_neg h, rpos_iff hs hi]; rfl
theorem rhas_iff (r : List Rw) (k : ByteArray) : rhas r k = true ↔ ∃ h : rpos r k < r.length, (r[rpos r k]'h).key = k := by
  unfold rhas
  by_cases h : rpos r k < r.length
  · rw [List.getElem?_eq_getElem h]; simp [h]
  · rw [List.getElem?_eq_none (by omega)]; simp [h]
theorem rhas_at {r : List Rw} {k : ByteArray} (h : rpos r k < r.length) : rhas r k = decide ((r[rpos r k]'h).key = k) := by
  unfold rhas
  rw [List.getElem?_eq_getElem h]
theorem rhas_end {r : List Rw} {k : ByteArray} (h : r.length ≤ rpos r k) : rhas r k = false := by
  unfold rhas
  rw [List.getElem?_eq_none h]
theorem rone_kv (r : List Rw) (o : Op_) : rone r o = tab (if o.del then kdrop (kvOf r) o.key else kput (kvOf r) o.key (.string o.value) 1) := by
  obtain ⟨k, v, d⟩ := o
  cases d with
  | true => simp only [if_true]; rw [tab_drop _ _ v, tab_kv]
  | false => simp only [Bool.false_eq_true, if_false]; rw [tab_put, tab_kv]
theorem RSor.one {r : List Rw} (h : RSor r) (o : Op_) : RSor (rone r o) := by
  rw [rone_kv, tab_sor]
  have := (kv_sor r).2 h
  split
  · exact Sor.dropk this _
  · exact Sor.put this _ _ _
theorem rone_len (r : List Rw) (o : Op_) : (rone r o).length ≤ r.length + 1 := by
  have := rpos_le r o.key
  unfold rone rrest
  simp only [List.length_append, List.length_take, List.length_drop]
  split <;> split <;> simp <;> omega
theorem rone_mem {r : List Rw} {o : Op_} {x : Rw} (hx : x ∈ rone r o) : x ∈ r ∨ (o.del = false ∧ x = ⟨o.key, o.value⟩) := by
  unfold rone at hx
  rcases List.mem_append.1 hx with h | h
  · rcases List.mem_append.1 h with h | h
    · exact .inl (List.mem_of_mem_take h)
    · cases hd : o.del with
      | true => rw [hd] at h; simp at h
      | false => rw [hd] at h; exact .inr ⟨rfl, by simpa using h⟩
  · exact .inl (List.mem_of_mem_drop h)
/-- Rows that may stand in a table: in order, no key without bytes, none too long to be told. -/
def Szs (r : List Rw) : Prop := ∀ x ∈ r, x.key.toList ≠ [] ∧ x.key.size ≤ 140737488351233 ∧ x.value.size ≤ 140737488351233
def OSz (l : List Op_) : Prop := ∀ o ∈ l, o.key.size ≤ 140737488351233 ∧ o.value.size ≤ 140737488351233
theorem Szs.one {r : List Rw} (h : Szs r) {o : Op_} (ho : opBad o = false) (hs : o.key.size ≤ 140737488351233 ∧ o.value.size ≤ 140737488351233) : Szs (rone r o) := by
  intro x hx
  rcases rone_mem hx with h1 | ⟨_, rfl⟩
  · exact h x h1
  · refine ⟨fun e => ?_, hs⟩
    unfold opBad at ho
    rw [e] at ho
    cases ho
theorem chk_ok {l : List Op_} (h : chk l = 0) : l.length ≤ 128 ∧ ∀ o ∈ l, opBad o = false := by
  unfold chk at h
  split at h
  · cases h
  · split at h
    · cases h
    · rename_i h1 h2
      refine ⟨by omega, fun o ho => ?_⟩
      cases hb : opBad o with
      | false => rfl
      | true => exact absurd (List.any_eq_true.2 ⟨o, ho, hb⟩) h2
/-- What a table may have. -/
structure ROk (N : Nat) (r : List Rw) : Prop where
  sor : RSor r
  szs : Szs r
  len : r.length ≤ N
theorem ROk.nil : ROk 0 [] := ⟨List.Pairwise.nil, fun x hx => (nomatch hx), Nat.le_refl _⟩
theorem ROk.mono {N M : Nat} {r : List Rw} (h : ROk N r) (hm : N ≤ M) : ROk M r := ⟨h.sor, h.szs, Nat.le_trans h.len hm⟩
theorem ROk.one {N : Nat} {r : List Rw} (h : ROk N r) {o : Op_} (ho : opBad o = false) (hs : o.key.size ≤ 140737488351233 ∧ o.value.size ≤ 140737488351233) : ROk (N + 1) (rone r o) :=
  ⟨h.sor.one o, h.szs.one ho hs, Nat.le_trans (rone_len r o) (by have := h.len; omega)⟩
theorem ROk.fold {l : List Op_} : ∀ {N : Nat} {r : List Rw}, ROk N r → (∀ o ∈ l, opBad o = false) → OSz l → ROk (N + l.length) (l.foldl rone r) := by
  induction l with
  | nil => intro N r h _ _; exact h
  | cons o l ih =>
    intro N r h h1 h2
    have := ih (h.one (h1 o (by simp)) (h2 o (by simp))) (fun o ho => h1 o (by simp [ho])) (fun o ho => h2 o (by simp [ho]))
    rw [List.length_cons, Nat.add_comm l.length, ← Nat.add_assoc]
    exact this
theorem ROk.app {N : Nat} {r : List Rw} (h : ROk N r) {l : List Op_} (hs : OSz l) : ROk (N + 128) (rapp r l) := by
  unfold rapp
  split
  · rename_i h0
    obtain ⟨h1, h2⟩ := chk_ok h0
    exact (h.fold h2 hs).mono (by omega)
  · exact h.mono (by omega)

/-! ### one key behind the other -/
def zr : ByteArray := ⟨#[0]⟩
theorem kb_next : ∀ a b : List UInt8, Op.bytesLess b (a ++ [0]) = !(Op.bytesLess a b)
  | [], [] => rfl
  | [], c :: b => by
    have h0 : Op.bytesLess b [] = false := by cases b <;> rfl
    have h1 : ¬ c < 0 := UInt8.not_lt_zero
    simp [Op.bytesLess, h0, h1]
  | x :: a, [] => rfl
  | x :: a, c :: b => by
    have ih := kb_next a b
    simp only [List.cons_append, Op.bytesLess, ih]
    by_cases h1 : c < x
    · have h2 : ¬ x < c := fun h => UInt8.lt_irrefl _ (UInt8.lt_trans h1 h)
      have h3 : x ≠ c := fun e => by subst e; exact UInt8.lt_irrefl _ h1
      simp [h1, h2, h3]
    · by_cases h2 : x < c
      · have h3 : c ≠ x := fun e => by subst e; exact UInt8.lt_irrefl _ h2
        simp [h1, h2, h3]
      · have h3 : c = x := UInt8.le_antisymm (UInt8.not_lt.1 h2) (UInt8.not_lt.1 h1)
        subst h3
        simp [UInt8.lt_irrefl]
theorem ztoList (a : ByteArray) : (a ++ zr).toList = a.toList ++ [0] := by
  rw [Lib.toList_data, Lib.toList_data, ByteArray.data_append, Array.toList_append]
  rfl
theorem kl_next (a b : ByteArray) : kl b (a ++ zr) = !(kl a b) := by
  unfold kl
  rw [ztoList]
  exact kb_next _ _
theorem rpos_eq {r : List Rw} {k : ByteArray} {n : Nat} (hn : n ≤ r.length) (h1 : ∀ i (hi : i < r.length), i < n → kl (r[i]'hi).key k = true) (h2 : ∀ hn : n < r.length, kl (r[n]'hn).key k = false) : rpos r k = n := by
  rw [← kv_pos]
  refine kpos_eq (by rw [kv_len]; exact hn) (fun i hi h => ?_) (fun hn => ?_)
  · have hi2 : i < r.length := by rw [kv_len] at hi; exact hi
    rw [kv_key hi2]; exact h1 i hi2 h
  · have hn2 : n < r.length := by rw [kv_len] at hn; exact hn
    rw [kv_key hn2]; exact h2 hn2
theorem rpos_self {r : List Rw} (hs : RSor r) {i : Nat} (hi : i < r.length) : rpos r (r[i]'hi).key = i :=
  rpos_eq (Nat.le_of_lt hi) (fun j hj h => List.pairwise_iff_getElem.1 hs j i hj hi h) (fun _ => kl_irr _)
theorem rpos_next {r : List Rw} (hs : RSor r) {i : Nat} (hi : i < r.length) : rpos r ((r[i]'hi).key ++ zr) = i + 1 := by
  refine rpos_eq hi (fun j hj h => ?_) (fun hn => ?_)
  · rw [kl_next]
    rcases Nat.lt_or_ge j i with h1 | h1
    · rw [kl_asym (List.pairwise_iff_getElem.1 hs j i hj hi h1)]; rfl
    · obtain rfl : j = i := by omega
      rw [kl_irr]; rfl
  · rw [kl_next, List.pairwise_iff_getElem.1 hs i (i + 1) hi hn (by omega)]; rfl
/-- The next row, rising: from 'at_' on, below 'to_'. -/
def nxU (to_ : ByteArray) (r : List Rw) (at_ : ByteArray) : Option Rw := if rpos r at_ < rend r to_ then r[rpos r at_]? else none
theorem btw_len (r : List Rw) (f t : ByteArray) : (btw r f t).length = rend r t - rpos r f := by
  unfold btw
  have := rend_le r t
  rw [List.length_drop, List.length_take, Nat.min_eq_left this]
theorem btw_get {r : List Rw} {f t : ByteArray} {i : Nat} (h : i < (btw r f t).length) : ∃ h2 : rpos r f + i < r.length, (btw r f t)[i]'h = r[rpos r f + i]'h2 := by
  have := rend_le r t
  have hl := btw_len r f t
  refine ⟨by omega, ?_⟩
  simp only [btw, List.getElem_drop, List.getElem_take]
/-- The way up, at rest. -/
def upAt (r : List Rw) (f t : ByteArray) (n : Nat) : ByteArray := if n = 0 then f else rkey (btw r f t) (n - 1) ++ zr
theorem rkey_eq {r : List Rw} {n : Nat} (h : n < r.length) : rkey r n = (r[n]'h).key := by unfold rkey; rw [List.getElem?_eq_getElem h]; rfl
theorem up_pos {r : List Rw} (hs : RSor r) (f t : ByteArray) {n : Nat} (hn : n ≤ (btw r f t).length) : rpos r (upAt r f t n) = rpos r f + n := by
  unfold upAt
  split
  · subst n; rfl
  · have h : n - 1 < (btw r f t).length := by omega
    obtain ⟨h2, e⟩ := btw_get h
    rw [rkey_eq h, e, rpos_next hs h2]
    omega
theorem up_next {r : List Rw} (hs : RSor r) (f t : ByteArray) {n : Nat} (hn : n ≤ (btw r f t).length) : nxU t r (upAt r f t n) = (btw r f t)[n]? := by
  have hl := btw_len r f t
  have hp := rpos_le r f
  have hr := rend_le r t
  unfold nxU
  rw [up_pos hs f t hn]
  by_cases h : n < (btw r f t).length
  · obtain ⟨h2, e⟩ := btw_get h
    rw [if_pos (by omega), List.getElem?_eq_getElem h, List.getElem?_eq_getElem h2, e]
  · rw [if_neg (by omega), List.getElem?_eq_none (by omega)]
theorem up_step {r : List Rw} {f t : ByteArray} {n : Nat} {x : Rw} (h : (btw r f t)[n]? = some x) : x.key ++ zr = upAt r f t (n + 1) ∧ n < (btw r f t).length := by
  obtain ⟨hn, e⟩ := List.getElem?_eq_some_iff.1 h
  refine ⟨?_, hn⟩
  unfold upAt
  rw [if_neg (by omega), Nat.add_sub_cancel, rkey_eq hn, e]
/-- What First and Last say of the next. -/
theorem nxU_first {r : List Rw} (hs : RSor r) (t at_ : ByteArray) : (∃ x, nxU t r at_ = some x ∧ x ∈ r ∧ rpos r at_ < r.length ∧ rkey r (rpos r at_) = x.key ∧ (t.toList = [] ∨ kl x.key t = true) ∧ rhas r x.key = true ∧ rval r x.key = x.value) ∨
    (nxU t r at_ = none ∧ (¬ rpos r at_ < r.length ∨ (t.toList ≠ [] ∧ rpos r at_ < r.length ∧ kl (rkey r (rpos r at_)) t = false))) := by
  by_cases hp : rpos r at_ < r.length
  · have hk := rkey_eq hp
    have he := rend_iff hs (k := t) hp
    by_cases h : rpos r at_ < rend r t
    · rw [decide_eq_true h] at he
      have hps := rpos_self hs hp
      have hh : rhas r (r[rpos r at_]'hp).key = true := (rhas_iff _ _).2 ⟨by rw [hps]; exact hp, by simp only [hps]⟩
      refine .inl ⟨r[rpos r at_]'hp, ?_, List.getElem_mem hp, hp, hk, ?_, hh, ?_⟩
      · unfold nxU; rw [if_pos h, List.getElem?_eq_getElem hp]
      · rcases Bool.or_eq_true_iff.1 he with h1 | h1
        · exact .inl (of_decide_eq_true h1)
        · exact .inr h1
      · unfold rval
        rw [hh, if_pos rfl, hps, List.getElem?_eq_getElem hp]
        rfl
    · rw [decide_eq_false h, Bool.or_eq_false_iff] at he
      refine .inr ⟨by unfold nxU; rw [if_neg h], .inr ⟨of_decide_eq_false he.1, hp, by rw [hk]; exact he.2⟩⟩
  · refine .inr ⟨?_, .inl hp⟩
    have := rend_le r t
    unfold nxU
    rw [if_neg (by omega)]
end Go.Proofs.YtgccichmdddbpaaGreatDoor
