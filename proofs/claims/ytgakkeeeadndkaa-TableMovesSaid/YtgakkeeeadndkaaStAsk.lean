/-
  Layer 9, the code: New, Get, Steps, Len, First, Last.
-/
import Derived.Test.YtgakkeeeadndkaaStGet
import Derived.LaidEqlPtr
set_option linter.unusedVariables false
namespace Go.Proofs.Ytgakkeeeadndkaa
open Go.RowKit

theorem info_item : ∃ j, Try.prog.info? 76 = some j ∧ j.size ≠ 0 := by
  have h : (Try.prog.info? 76).map (·.size) = some 19 := by kernel_rfl
  cases hq : Try.prog.info? 76 with
  | none => rw [hq] at h; cases h
  | some j =>
    rw [hq] at h
    injection h with h
    exact ⟨j, rfl, fun e => by rw [show j.size = 19 from h] at e; cases e⟩
theorem fnd_cases (z : Value) (L : List Nd) (key : ByteArray) :
    (∃ x, ∃ hp : kpos (kvs L) key < L.length, x = L[kpos (kvs L) key]'hp ∧ x ∈ L ∧ fndP L key = some x.1 ∧ khas (kvs L) key = true ∧ kval z (kvs L) key = x.2.val ∧ ksteps (kvs L) key = x.2.st) ∨
      (fndP L key = none ∧ khas (kvs L) key = false ∧ kval z (kvs L) key = z ∧ ksteps (kvs L) key = 0) := by
  have hl := kvs_len L
  cases hh : khas (kvs L) key with
  | true =>
    obtain ⟨hp, hk⟩ := (khas_iff _ _).1 hh
    have hp2 : kpos (kvs L) key < L.length := by omega
    refine .inl ⟨_, hp2, rfl, List.getElem_mem hp2, ?_, rfl, ?_, ?_⟩
    · unfold fndP
      rw [hh, if_pos rfl, List.getElem?_eq_getElem hp2]
      rfl
    · rw [kval_eq hp hh, kvs_get hp2]
    · unfold ksteps
      rw [hh, if_pos rfl, stAt_eq hp, kvs_get hp2]
  | false =>
    refine .inr ⟨?_, rfl, ?_, ?_⟩
    · unfold fndP; rw [hh]; rfl
    · unfold kval; rw [hh]; rfl
    · unfold ksteps; rw [hh]; rfl
set_option maxRecDepth 100000 in
set_option maxHeartbeats 4000000 in
theorem sk_new (w : World) :
    Calls Try.prog 33 #[] w fun e w' => e = .returned (pt (w.heap.size + 1)) ∧ SkR 78 76 (.string ⟨#[]⟩) w' (w.heap.size + 1) w.heap.size [] (fun _ _ => none) ∧ Below w.heap.size w w' ∧ w'.heap.size = w.heap.size + 2 := by
  have h1 := Blk.new w 76 (nodeC ⟨#[]⟩ (.string ⟨#[]⟩) 0 (fun _ => none))
  have hb1 := nbl w (.cells (nodeC ⟨#[]⟩ (.string ⟨#[]⟩) 0 (fun _ => none)) 76)
  generalize hX : w.alloc (.cells (nodeC ⟨#[]⟩ (.string ⟨#[]⟩) 0 (fun _ => none)) 76) = X at *
  have hs : X.heap.size = w.heap.size + 1 := by rw [← hX]; simp
  have h2 := Blk.new X 78 #[pt w.heap.size, .int .i64 0]
  have hb2 := nbl X (.cells #[pt w.heap.size, .int .i64 0] 78)
  have h3 := h1.below hb2 h1.lt
  rw [hs] at h2
  have hR : SkR 78 76 (.string ⟨#[]⟩) (X.alloc (.cells #[pt w.heap.size, .int .i64 0] 78)) (w.heap.size + 1) w.heap.size [] (fun _ _ => none) :=
    ⟨⟨h2, h3, fun x hx => (nomatch hx), by simp⟩, fun m hm => ⟨fun _ => rfl, trivial⟩, fun x hx => (nomatch hx), List.Pairwise.nil⟩
  have HR := Lib.hid hR
  have HB := Lib.hid (bst hb1 hb2)
  have HS := Lib.hid (show (X.alloc (.cells #[pt w.heap.size, .int .i64 0] 78)).heap.size = w.heap.size + 2 from by simp [hs])
  have HX := Lib.hid hX
  clear hR hb1 hb2 h1 h2 h3 hs hX
  go_enter Try.func33, Try.ntmps33
  go_wp2_with fail
  go_ret
  have e : w.alloc (.cells #[.string ⟨#[]⟩, .string ⟨#[]⟩, .int .i64 0, .pointer none, .pointer none, .pointer none, .pointer none, .pointer none, .pointer none, .pointer none, .pointer none, .pointer none, .pointer none, .pointer none, .pointer none, .pointer none, .pointer none, .pointer none, .pointer none] 76) = X := HX.out
  rw [e]
  exact ⟨rfl, HR.out, HB.out, HS.out⟩
set_option maxRecDepth 100000 in
set_option maxHeartbeats 4000000 in
theorem sk_get (z : Value) (hz : z = .string ⟨#[]⟩) (q h : Nat) (L : List Nd) (g : Nat → Nat → Option Nat) (key : ByteArray) (w : World) (hR : SkR 78 76 z w q h L g) :
    Calls Try.prog 42 #[pt q, .string key] w fun e w' => e = .returned (.tuple #[kval z (kvs L) key, .bool (khas (kvs L) key)]) ∧ Below w.heap.size w w' := by
  have FI := Lib.hid (sk_find z q h L g key w hR)
  rcases fnd_cases z L key with ⟨x, hp, hx, hm, h1, h2, h3, h4⟩ | ⟨h1, h2, h3, h4⟩
  · have hv := hR.mem.val hm
    have hlt := hR.mem.lt (.inr (.inr (List.mem_map.2 ⟨x, hm, rfl⟩)))
    rw [h1, show pp (some x.1) = pt x.1 from rfl] at FI
    rw [h2, h3]
    obtain ⟨⟨b, ⟨k, v, s⟩⟩, rfl⟩ : ∃ y, x = y := ⟨x, rfl⟩
    simp only at hv hlt FI ⊢
    have HV := Lib.hid (fun V (hb : Below w.heap.size w V) => (hb.cell (p := ⟨b, 1, none⟩) hlt).trans hv)
    clear hx h4 hR hm h1 h2 h3 hv hlt hp
    go_enter Try.func42, Try.ntmps42
    go_wp2_with (first
      | (go_at_call 54; refine FI.out.mono ?_; rintro e w2 ⟨rfl, hb⟩; have HB := Lib.hid hb; have HB2 := Lib.hid (brow (bst hb (nbl w2 (.cells zeroW 74))) hb.size (waysC fun m => pt (ahd h L key m))); have c1 := HV.out _ HB2.out)
      | (refine wpList_store_row rfl 74 _ _ rfl w2.heap.size (waysC fun m => pt (ahd h L key m)) rfl rfl 74 zeroW (Blk.new w2 74 zeroW) (by kernel_rfl) rfl (waysC_all (fun _ _ => rfl)) ?_))
    go_ret2
    exact ⟨rfl, HB2.out⟩
  · rw [h1, show pp none = .pointer none from rfl] at FI
    rw [h2, h3, hz]
    clear hR h1 h2 h3 h4
    go_enter Try.func42, Try.ntmps42
    go_wp2_with (first
      | (go_at_call 54; refine FI.out.mono ?_; rintro e w2 ⟨rfl, hb⟩; have HB2 := Lib.hid (brow (bst hb (nbl w2 (.cells zeroW 74))) hb.size (waysC fun m => pt (ahd h L key m))))
      | (refine wpList_store_row rfl 74 _ _ rfl w2.heap.size (waysC fun m => pt (ahd h L key m)) rfl rfl 74 zeroW (Blk.new w2 74 zeroW) (by kernel_rfl) rfl (waysC_all (fun _ _ => rfl)) ?_))
    go_ret2
    exact ⟨rfl, HB2.out⟩
set_option maxRecDepth 100000 in
set_option maxHeartbeats 4000000 in
theorem sk_len (z : Value) (q h : Nat) (L : List Nd) (g : Nat → Nat → Option Nat) (w : World) (hR : SkR 78 76 z w q h L g) :
    Calls Try.prog 41 #[pt q] w fun e w' => e = .returned (.int .i64 ((kvs L).length : Int)) ∧ w' = w := by
  have NO := Lib.hid (sk_isNone z q h L.length L g _ hR.mem)
  have c1 : w.cell? ⟨q, 1, none⟩ = some (.int .i64 (L.length : Int)) := hR.mem.obj.cell 1
  rw [kvs_len]
  clear hR
  go_enter Try.func41, Try.ntmps41
  go_wp2_with (first
    | (go_at_call 53; refine NO.out.mono ?_; rintro e w2 ⟨rfl, rfl⟩))
  go_ret
  exact ⟨rfl, rfl⟩
/-- What First answers. -/
def firstV (l : List Kv) (k : ByteArray) : Value := .tuple #[.string (keyAt l (kpos l k)), .bool (decide (kpos l k < l.length))]
def lastV (l : List Kv) (k : ByteArray) : Value := .tuple #[.string (if kend l k = 0 then ⟨#[]⟩ else keyAt l (kend l k - 1)), .bool (decide (0 < kend l k))]
set_option maxRecDepth 100000 in
set_option maxHeartbeats 4000000 in
theorem sk_first (z : Value) (q h : Nat) (L : List Nd) (g : Nat → Nat → Option Nat) (key : ByteArray) (w : World) (hR : SkR 78 76 z w q h L g) :
    Calls Try.prog 45 #[pt q, .string key] w fun e w' => e = .returned (firstV (kvs L) key) ∧ Below w.heap.size w w' := by
  have NO := Lib.hid (sk_isNone z q h L.length L g _ hR.mem)
  have BE := Lib.hid (sk_below z q h L g key w hR)
  have hn0 := hR.nx0 (kpos (kvs L) key)
  have hm0 := hR.laMem 0 (kpos (kvs L) key)
  have hm3 := hR.mem.next hm0 (show 0 < 16 by omega)
  have halt : la 0 (sh h (L.take (kpos (kvs L) key))) < w.heap.size := hR.mem.lt (hm0.elim (fun e => .inr (.inl e)) (fun e => .inr (.inr e)))
  rw [hn0] at hm3
  have HN := Lib.hid (fun V (hb : Below w.heap.size w V) => (hb.cell (p := ⟨la 0 (sh h (L.take (kpos (kvs L) key))), 3 + 0, none⟩) halt).trans hm3)
  have hl := kvs_len L
  have hcs : (∃ x, (L[kpos (kvs L) key]?) = some x ∧ x ∈ L ∧ firstV (kvs L) key = .tuple #[.string x.2.key, .bool true]) ∨ (L[kpos (kvs L) key]? = none ∧ firstV (kvs L) key = .tuple #[.string ⟨#[]⟩, .bool false]) := by
    unfold firstV
    by_cases hp : kpos (kvs L) key < L.length
    · refine .inl ⟨_, List.getElem?_eq_getElem hp, List.getElem_mem hp, ?_⟩
      rw [keyAt_eq (by rw [hl]; exact hp), kvs_get hp, hl, decide_eq_true hp]
    · refine .inr ⟨List.getElem?_eq_none (by omega), ?_⟩
      unfold keyAt
      rw [List.getElem?_eq_none (by rw [hl]; omega), hl, decide_eq_false hp]
      rfl
  rcases hcs with ⟨x, hx, hxm, hv⟩ | ⟨hx, hv⟩
  · have hxlt : x.1 < w.heap.size := hR.mem.lt (.inr (.inr (List.mem_map.2 ⟨x, hxm, rfl⟩)))
    have HK := Lib.hid (fun V (hb : Below w.heap.size w V) => (hb.cell (p := ⟨x.1, 0, none⟩) hxlt).trans (hR.mem.key hxm))
    rw [hx] at HN
    rw [hv]
    clear hR hn0 hm0 hm3 halt hl hx hxm hv hxlt
    have hi0 : ∀ V : World, (Instr.index 74 (.agg (waysC (fun m => pt (la m (sh h (L.take (kpos (kvs L) key))))))) (.int .i64 0)).run Try.prog V = .ok (pt (la 0 (sh h (L.take (kpos (kvs L) key))))) V := fun V => by kernel_rfl
    generalize waysC (fun m => pt (la m (sh h (L.take (kpos (kvs L) key))))) = W at *
    generalize la 0 (sh h (L.take (kpos (kvs L) key))) = a at *
    obtain ⟨⟨b, ⟨k, v, s⟩⟩, rfl⟩ : ∃ y, x = y := ⟨x, rfl⟩
    simp only at HK ⊢
    go_enter Try.func45, Try.ntmps45
    go_wp2_with (first
      | (go_at_call 53; refine NO.out.mono ?_; rintro e w2 ⟨rfl, rfl⟩)
      | (go_at_call 55; refine BE.out.mono ?_; rintro e w2 ⟨rfl, hb⟩; have HB := Lib.hid hb; have c3 : w2.cell? ⟨a, 3, none⟩ = some (pt b) := HN.out _ hb; have c0 := HK.out _ hb))
    go_ret2
    exact ⟨rfl, HB.out⟩
  · rw [hx] at HN
    rw [hv]
    clear hR hn0 hm0 hm3 halt hl hx hv
    have hi0 : ∀ V : World, (Instr.index 74 (.agg (waysC (fun m => pt (la m (sh h (L.take (kpos (kvs L) key))))))) (.int .i64 0)).run Try.prog V = .ok (pt (la 0 (sh h (L.take (kpos (kvs L) key))))) V := fun V => by kernel_rfl
    generalize waysC (fun m => pt (la m (sh h (L.take (kpos (kvs L) key))))) = W at *
    generalize la 0 (sh h (L.take (kpos (kvs L) key))) = a at *
    go_enter Try.func45, Try.ntmps45
    go_wp2_with (first
      | (go_at_call 53; refine NO.out.mono ?_; rintro e w2 ⟨rfl, rfl⟩)
      | (go_at_call 55; refine BE.out.mono ?_; rintro e w2 ⟨rfl, hb⟩; have HB := Lib.hid hb; have c3 : w2.cell? ⟨a, 3, none⟩ = some (.pointer none) := HN.out _ hb))
    go_ret2
    exact ⟨rfl, HB.out⟩
/-- Where Last looks, with what stands there. -/
theorem sk_lastPos {TL TI : TypeId} {z : Value} {V : World} {q h : Nat} {L : List Nd} {g : Nat → Nat → Option Nat} (hR : SkR TL TI z V q h L g) (key : ByteArray) :
    kend (kvs L) key ≤ L.length ∧ (∀ i (hi : i < L.length), i < kend (kvs L) key → (decide (key.toList = []) || kl (L[i]'hi).2.key key) = true) ∧ (∀ i (hi : i < L.length), kend (kvs L) key ≤ i → (decide (key.toList = []) || kl (L[i]'hi).2.key key) = false) := by
  obtain ⟨p1, p2, p3⟩ := sk_pos hR key
  unfold kend
  by_cases h0 : key.toList = []
  · rw [if_pos h0, kvs_len]
    exact ⟨Nat.le_refl _, fun i hi _ => by rw [decide_eq_true h0]; rfl, fun i hi h2 => by omega⟩
  · rw [if_neg h0]
    exact ⟨p1, fun i hi h2 => by rw [p2 i hi h2, Bool.or_true], fun i hi h2 => by rw [p3 i hi h2, decide_eq_false h0]; rfl⟩
/-- On the step 1 stand all. -/
theorem la0_last {h : Nat} {L : List Nd} (hst : ∀ x ∈ L, 1 ≤ x.2.st) {p : Nat} (hp : p ≤ L.length) : (p = 0 ∧ la 0 (sh h (L.take p)) = h) ∨ (∃ h0 : 0 < p, la 0 (sh h (L.take p)) = (L[p - 1]'(by omega)).1) := by
  rcases Nat.eq_zero_or_pos p with e | e
  · subst e
    refine .inl ⟨rfl, ?_⟩
    rw [List.take_zero]
    exact la_cons_off rfl
  · refine .inr ⟨e, ?_⟩
    have hl := sh_len h L
    have e1 : p - 1 + 1 = p := by omega
    have hj : p < (sh h L).length := by omega
    have hg : (sh h L)[p]'hj = ((L[p - 1]'(by omega)).1, (L[p - 1]'(by omega)).2.st) := by
      have := sh_get h L (i := p - 1) (by omega)
      simp only [e1] at this
      exact this
    rw [← sh_take, la_at (j := p) (p := p) hj (Nat.le_refl _) (by rw [hg]; have := hst _ (List.getElem_mem (show p - 1 < L.length by omega)); show 0 < (L[p - 1]'_).2.st; omega) (fun i hi h1 h2 => absurd h2 (by omega)), hg]
set_option maxRecDepth 100000 in
set_option maxHeartbeats 4000000 in
theorem sk_last (z : Value) (q h : Nat) (L : List Nd) (g : Nat → Nat → Option Nat) (key : ByteArray) (w : World) (hR : SkR 78 76 z w q h L g) :
    Calls Try.prog 48 #[pt q, .string key] w fun e w' => e = .returned (lastV (kvs L) key) ∧ Below w.heap.size w w' := by
  have hb1 := nbl w (.cells #[.string key] 9)
  have hc1 : (w.alloc (.cells #[.string key] 9)).cell? ⟨w.heap.size, 0, none⟩ = some (.string key) := by simp
  have hs1 : (w.alloc (.cells #[.string key] 9)).heap.size = w.heap.size + 1 := by simp
  have hR1 := hR.below hb1
  have NO := Lib.hid (sk_isNone z q h L.length L g _ hR1.mem)
  obtain ⟨p1, p2, p3⟩ := sk_lastPos hR1 key
  have LO := Lib.hid (sk_lastOf z q h L g _ hR1 (kend (kvs L) key) p1 58 (pt w.heap.size) (fun k => decide (key.toList = []) || kl k key) (fun _ _ => rfl)
    (fun k W hW => sk_last1 w.heap.size k key W ((hW.cell (p := ⟨w.heap.size, 0, none⟩) (by show w.heap.size < _; rw [hs1]; omega)).trans hc1)) p2 p3)
  have HQ := Lib.hid (fun V (hb : Below (w.alloc (.cells #[.string key] 9)).heap.size (w.alloc (.cells #[.string key] 9)) V) => (show V.cell? ⟨q, 0, none⟩ = some (pt h) from (hR1.below hb).mem.obj.cell 0))
  obtain ⟨ji, hji, hjs⟩ := info_item
  have HB1 := Lib.hid hb1
  have hla := la0_last (h := h) (fun x hx => (hR.st x hx).1) p1
  have hl := kvs_len L
  have hi0 : ∀ V : World, (Instr.index 74 (.agg (waysC (fun m => pt (la m (sh h (L.take (kend (kvs L) key))))))) (.int .i64 0)).run Try.prog V = .ok (pt (la 0 (sh h (L.take (kend (kvs L) key))))) V := fun V => by kernel_rfl
  rcases hla with ⟨h0, hla⟩ | ⟨h0, hla⟩
  · have hv : lastV (kvs L) key = .tuple #[.string ⟨#[]⟩, .bool false] := by
      unfold lastV
      rw [if_pos h0, h0]
      rfl
    rw [hv]
    rw [hla] at hi0
    have HE := Lib.hid (fun V : World => run_eql_ptr_same (P := Try.prog) V ⟨h, 0, none⟩ Try.underlying72 hji)
    clear hR hR1 p1 p2 p3 hla hl hv h0 hb1 hc1 hs1 hji hjs
    generalize waysC (fun m => pt (la m (sh h (L.take (kend (kvs L) key))))) = W at *
    go_enter Try.func48, Try.ntmps48
    go_wp2_with (first
      | (go_at_call 53; refine NO.out.mono ?_; rintro e w2 ⟨rfl, rfl⟩)
      | (go_at_call 57; refine LO.out.mono ?_; rintro e w2 ⟨rfl, hb⟩; have HB := Lib.hid (bst HB1.out hb); have c0 := HQ.out _ hb; have e0 := HE.out w2))
    go_ret2
    exact ⟨rfl, HB.out⟩
  · obtain ⟨x, hx, hla2, hv⟩ : ∃ x ∈ L, la 0 (sh h (L.take (kend (kvs L) key))) = x.1 ∧ lastV (kvs L) key = .tuple #[.string x.2.key, .bool true] := by
      refine ⟨_, List.getElem_mem (show kend (kvs L) key - 1 < L.length by omega), hla, ?_⟩
      unfold lastV
      rw [if_neg (by omega), keyAt_eq (by omega), kvs_get (by omega), decide_eq_true h0]
    have hne := hR.mem.hL (List.mem_map.2 ⟨_, hx, rfl⟩)
    have HK := Lib.hid (fun V (hb : Below (w.alloc (.cells #[.string key] 9)).heap.size (w.alloc (.cells #[.string key] 9)) V) => (hR1.below hb).mem.key hx)
    have HE := Lib.hid (fun V (hb : Below (w.alloc (.cells #[.string key] 9)).heap.size (w.alloc (.cells #[.string key] 9)) V) => run_eql_ptr_other (P := Try.prog) V (a := ⟨x.1, 0, none⟩) (b := ⟨h, 0, none⟩) Try.underlying72 hji hjs (fun e => hne (by injection e)) ((hR1.below hb).mem.node x hx) (hR1.below hb).mem.head)
    rw [hv]
    rw [hla2] at hi0
    clear hla hla2
    clear hR hR1 p1 p2 p3 hl hv h0 hb1 hc1 hs1 hx hji hjs
    generalize waysC (fun m => pt (la m (sh h (L.take (kend (kvs L) key))))) = W at *
    obtain ⟨⟨b, ⟨k, v, s⟩⟩, rfl⟩ : ∃ y, x = y := ⟨x, rfl⟩
    simp only at HK HE hi0 ⊢
    clear hne
    go_enter Try.func48, Try.ntmps48
    go_wp2_with (first
      | (go_at_call 53; refine NO.out.mono ?_; rintro e w2 ⟨rfl, rfl⟩)
      | (go_at_call 57; refine LO.out.mono ?_; rintro e w2 ⟨rfl, hb⟩; have HB := Lib.hid (bst HB1.out hb); have c0 := HQ.out _ hb; have c1 := HK.out _ hb; have e0 := HE.out w2 hb))
    go_ret2
    exact ⟨rfl, HB.out⟩
end Go.Proofs.Ytgakkeeeadndkaa
