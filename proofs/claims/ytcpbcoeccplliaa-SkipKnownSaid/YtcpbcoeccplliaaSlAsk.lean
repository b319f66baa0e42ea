/-
  Layer 9, the code: New, Get, Steps, Len, First, Last.
-/
import Derived.Test.YtcpbcoeccplliaaSkAsk
import Derived.Test.YtcpbcoeccplliaaSlGet
import Derived.LaidEqlPtr
set_option linter.unusedVariables false
namespace Go.Proofs.Ytcpbcoeccplliaa.SL
open Go.Proofs.Ytcpbcoeccplliaa
open Go.RowKit

theorem info_item : ∃ j, Try.prog.info? 78 = some j ∧ j.size ≠ 0 := by
  have h : (Try.prog.info? 78).map (·.size) = some 19 := by kernel_rfl
  cases hq : Try.prog.info? 78 with
  | none => rw [hq] at h; cases h
  | some j =>
    rw [hq] at h
    injection h with h
    exact ⟨j, rfl, fun e => by rw [show j.size = 19 from h] at e; cases e⟩
set_option maxRecDepth 100000 in
set_option maxHeartbeats 4000000 in
theorem sk_new (w : World) :
    Calls Try.prog 32 #[] w fun e w' => e = .returned (pt (w.heap.size + 1)) ∧ SkR 80 78 (.slice none 0 0) w' (w.heap.size + 1) w.heap.size [] (fun _ _ => none) ∧ Below w.heap.size w w' ∧ w'.heap.size = w.heap.size + 2 := by
  have h1 := Blk.new w 78 (nodeC ⟨#[]⟩ (.slice none 0 0) 0 (fun _ => none))
  have hb1 := nbl w (.cells (nodeC ⟨#[]⟩ (.slice none 0 0) 0 (fun _ => none)) 78)
  generalize hX : w.alloc (.cells (nodeC ⟨#[]⟩ (.slice none 0 0) 0 (fun _ => none)) 78) = X at *
  have hs : X.heap.size = w.heap.size + 1 := by rw [← hX]; simp
  have h2 := Blk.new X 80 #[pt w.heap.size, .int .i64 0]
  have hb2 := nbl X (.cells #[pt w.heap.size, .int .i64 0] 80)
  have h3 := h1.below hb2 h1.lt
  rw [hs] at h2
  have hR : SkR 80 78 (.slice none 0 0) (X.alloc (.cells #[pt w.heap.size, .int .i64 0] 80)) (w.heap.size + 1) w.heap.size [] (fun _ _ => none) :=
    ⟨⟨h2, h3, fun x hx => (nomatch hx), by simp⟩, fun m hm => ⟨fun _ => rfl, trivial⟩, fun x hx => (nomatch hx), List.Pairwise.nil⟩
  have HR := Lib.hid hR
  have HB := Lib.hid (bst hb1 hb2)
  have HS := Lib.hid (show (X.alloc (.cells #[pt w.heap.size, .int .i64 0] 80)).heap.size = w.heap.size + 2 from by simp [hs])
  have HX := Lib.hid hX
  clear hR hb1 hb2 h1 h2 h3 hs hX
  go_enter Try.func32, Try.ntmps32
  go_wp2_with fail
  go_ret
  have e : w.alloc (.cells #[.string ⟨#[]⟩, .slice none 0 0, .int .i64 0, .pointer none, .pointer none, .pointer none, .pointer none, .pointer none, .pointer none, .pointer none, .pointer none, .pointer none, .pointer none, .pointer none, .pointer none, .pointer none, .pointer none, .pointer none, .pointer none] 78) = X := HX.out
  rw [e]
  exact ⟨rfl, HR.out, HB.out, HS.out⟩
set_option maxRecDepth 100000 in
set_option maxHeartbeats 4000000 in
theorem sk_get (z : Value) (hz : z = .slice none 0 0) (q h : Nat) (L : List Nd) (g : Nat → Nat → Option Nat) (key : ByteArray) (w : World) (hR : SkR 80 78 z w q h L g) :
    Calls Try.prog 33 #[pt q, .string key] w fun e w' => e = .returned (.tuple #[kval z (kvs L) key, .bool (khas (kvs L) key)]) ∧ Below w.heap.size w w' := by
  have FI := Lib.hid (sk_find z q h L g key w hR)
  rcases fnd_cases z L key with ⟨x, hp, hx, hm, h1, h2, h3, h4⟩ | ⟨h1, h2, h3, h4⟩
  · have hv := hR.mem.val hm
    have hlt := hR.mem.lt (.inr (.inr (List.mem_map.2 ⟨x, hm, rfl⟩)))
    rw [h1, show pp (some x.1) = pt x.1 from rfl] at FI
    rw [h2, h3]
    obtain ⟨⟨b, ⟨k, v, s⟩⟩, rfl⟩ : ∃ y, x = y := ⟨x, rfl⟩
    simp only at hv hlt FI ⊢
    have HV := Lib.hid (fun V (hb : Below w.heap.size w V) => (hb.cell (p := ⟨b, 1, none⟩) hlt).trans hv)
    clear hx h4 hR hm h1 h2 h3 hv hlt hp
    go_enter Try.func33, Try.ntmps33
    go_wp2_with (first
      | (go_at_call 52; refine FI.out.mono ?_; rintro e w2 ⟨rfl, hb⟩; have HB := Lib.hid hb; have HB2 := Lib.hid (brow (bst hb (nbl w2 (.cells zeroW 76))) hb.size (waysC fun m => pt (ahd h L key m))); have c1 := HV.out _ HB2.out)
      | (refine wpList_store_row rfl 76 _ _ rfl w2.heap.size (waysC fun m => pt (ahd h L key m)) rfl rfl 76 zeroW (Blk.new w2 76 zeroW) (by kernel_rfl) rfl (waysC_all (fun _ _ => rfl)) ?_))
    go_ret2
    exact ⟨rfl, HB2.out⟩
  · rw [h1, show pp none = .pointer none from rfl] at FI
    rw [h2, h3, hz]
    clear hR h1 h2 h3 h4
    go_enter Try.func33, Try.ntmps33
    go_wp2_with (first
      | (go_at_call 52; refine FI.out.mono ?_; rintro e w2 ⟨rfl, hb⟩; have HB2 := Lib.hid (brow (bst hb (nbl w2 (.cells zeroW 76))) hb.size (waysC fun m => pt (ahd h L key m))))
      | (refine wpList_store_row rfl 76 _ _ rfl w2.heap.size (waysC fun m => pt (ahd h L key m)) rfl rfl 76 zeroW (Blk.new w2 76 zeroW) (by kernel_rfl) rfl (waysC_all (fun _ _ => rfl)) ?_))
    go_ret2
    exact ⟨rfl, HB2.out⟩
set_option maxRecDepth 100000 in
set_option maxHeartbeats 4000000 in
theorem sk_len (z : Value) (q h : Nat) (L : List Nd) (g : Nat → Nat → Option Nat) (w : World) (hR : SkR 80 78 z w q h L g) :
    Calls Try.prog 34 #[pt q] w fun e w' => e = .returned (.int .i64 ((kvs L).length : Int)) ∧ w' = w := by
  have NO := Lib.hid (sk_isNone z q h L.length L g _ hR.mem)
  have c1 : w.cell? ⟨q, 1, none⟩ = some (.int .i64 (L.length : Int)) := hR.mem.obj.cell 1
  rw [kvs_len]
  clear hR
  go_enter Try.func34, Try.ntmps34
  go_wp2_with (first
    | (go_at_call 53; refine NO.out.mono ?_; rintro e w2 ⟨rfl, rfl⟩))
  go_ret
  exact ⟨rfl, rfl⟩
set_option maxRecDepth 100000 in
set_option maxHeartbeats 4000000 in
theorem sk_first (z : Value) (q h : Nat) (L : List Nd) (g : Nat → Nat → Option Nat) (key : ByteArray) (w : World) (hR : SkR 80 78 z w q h L g) :
    Calls Try.prog 38 #[pt q, .string key] w fun e w' => e = .returned (firstV (kvs L) key) ∧ Below w.heap.size w w' := by
  have NO := Lib.hid (sk_isNone z q h L.length L g _ hR.mem)
  have BE := Lib.hid (sk_below z q h L g key w hR)
  have hn0 := hR.nx0 (kpos (kvs L) key)
  have hm0 := hR.laMem 0 (kpos (kvs L) key)
  have hm3 := hR.mem.next hm0 (show 0 < 16 by omega)
  have halt : la 0 (sh h (L.take (kpos (kvs L) key))) < w.heap.size := hR.mem.lt (hm0.elim (fun e => .inr (.inl e)) (fun e => .inr (.inr e)))
  rw [hn0] at hm3
  have HN := Lib.hid (fun V (hb : Below w.heap.size w V) => (hb.cell (p := ⟨la 0 (sh h (L.take (kpos (kvs L) key))), 3 + 0, none⟩) halt).trans hm3)
  have hl := kvs_len L
  have hcs : (∃ x, (L[kpos (kvs L) key]?) = some x ∧ x ∈ L ∧ firstV (kvs L) key = .tuple #[.string x.2.key, .bool true]) ∨ (L[kpos (kvs L) key]? = none ∧ firstV (kvs L) key = .tuple #[.string ⟨#[]⟩, .bool false]) := by
    unfold firstV
    by_cases hp : kpos (kvs L) key < L.length
    · refine .inl ⟨_, List.getElem?_eq_getElem hp, List.getElem_mem hp, ?_⟩
      rw [keyAt_eq (by rw [hl]; exact hp), kvs_get hp, hl, decide_eq_true hp]
    · refine .inr ⟨List.getElem?_eq_none (by omega), ?_⟩
      unfold keyAt
      rw [List.getElem?_eq_none (by rw [hl]; omega), hl, decide_eq_false hp]
      rfl
  rcases hcs with ⟨x, hx, hxm, hv⟩ | ⟨hx, hv⟩
  · have hxlt : x.1 < w.heap.size := hR.mem.lt (.inr (.inr (List.mem_map.2 ⟨x, hxm, rfl⟩)))
    have HK := Lib.hid (fun V (hb : Below w.heap.size w V) => (hb.cell (p := ⟨x.1, 0, none⟩) hxlt).trans (hR.mem.key hxm))
    rw [hx] at HN
    rw [hv]
    clear hR hn0 hm0 hm3 halt hl hx hxm hv hxlt
    have hi0 : ∀ V : World, (Instr.index 76 (.agg (waysC (fun m => pt (la m (sh h (L.take (kpos (kvs L) key))))))) (.int .i64 0)).run Try.prog V = .ok (pt (la 0 (sh h (L.take (kpos (kvs L) key))))) V := fun V => by kernel_rfl
    generalize waysC (fun m => pt (la m (sh h (L.take (kpos (kvs L) key))))) = W at *
    generalize la 0 (sh h (L.take (kpos (kvs L) key))) = a at *
    obtain ⟨⟨b, ⟨k, v, s⟩⟩, rfl⟩ : ∃ y, x = y := ⟨x, rfl⟩
    simp only at HK ⊢
    go_enter Try.func38, Try.ntmps38
    go_wp2_with (first
      | (go_at_call 53; refine NO.out.mono ?_; rintro e w2 ⟨rfl, rfl⟩)
      | (go_at_call 54; refine BE.out.mono ?_; rintro e w2 ⟨rfl, hb⟩; have HB := Lib.hid hb; have c3 : w2.cell? ⟨a, 3, none⟩ = some (pt b) := HN.out _ hb; have c0 := HK.out _ hb))
    go_ret2
    exact ⟨rfl, HB.out⟩
  · rw [hx] at HN
    rw [hv]
    clear hR hn0 hm0 hm3 halt hl hx hv
    have hi0 : ∀ V : World, (Instr.index 76 (.agg (waysC (fun m => pt (la m (sh h (L.take (kpos (kvs L) key))))))) (.int .i64 0)).run Try.prog V = .ok (pt (la 0 (sh h (L.take (kpos (kvs L) key))))) V := fun V => by kernel_rfl
    generalize waysC (fun m => pt (la m (sh h (L.take (kpos (kvs L) key))))) = W at *
    generalize la 0 (sh h (L.take (kpos (kvs L) key))) = a at *
    go_enter Try.func38, Try.ntmps38
    go_wp2_with (first
      | (go_at_call 53; refine NO.out.mono ?_; rintro e w2 ⟨rfl, rfl⟩)
      | (go_at_call 54; refine BE.out.mono ?_; rintro e w2 ⟨rfl, hb⟩; have HB := Lib.hid hb; have c3 : w2.cell? ⟨a, 3, none⟩ = some (.pointer none) := HN.out _ hb))
    go_ret2
    exact ⟨rfl, HB.out⟩
set_option maxRecDepth 100000 in
set_option maxHeartbeats 4000000 in
theorem sk_last (z : Value) (q h : Nat) (L : List Nd) (g : Nat → Nat → Option Nat) (key : ByteArray) (w : World) (hR : SkR 80 78 z w q h L g) :
    Calls Try.prog 39 #[pt q, .string key] w fun e w' => e = .returned (lastV (kvs L) key) ∧ Below w.heap.size w w' := by
  have hb1 := nbl w (.cells #[.string key] 9)
  have hc1 : (w.alloc (.cells #[.string key] 9)).cell? ⟨w.heap.size, 0, none⟩ = some (.string key) := by simp
  have hs1 : (w.alloc (.cells #[.string key] 9)).heap.size = w.heap.size + 1 := by simp
  have hR1 := hR.below hb1
  have NO := Lib.hid (sk_isNone z q h L.length L g _ hR1.mem)
  obtain ⟨p1, p2, p3⟩ := sk_lastPos hR1 key
  have LO := Lib.hid (sk_lastOf z q h L g _ hR1 (kend (kvs L) key) p1 56 (pt w.heap.size) (fun k => decide (key.toList = []) || kl k key) (fun _ _ => rfl)
    (fun k W hW => sk_last1 w.heap.size k key W ((hW.cell (p := ⟨w.heap.size, 0, none⟩) (by show w.heap.size < _; rw [hs1]; omega)).trans hc1)) p2 p3)
  have HQ := Lib.hid (fun V (hb : Below (w.alloc (.cells #[.string key] 9)).heap.size (w.alloc (.cells #[.string key] 9)) V) => (show V.cell? ⟨q, 0, none⟩ = some (pt h) from (hR1.below hb).mem.obj.cell 0))
  obtain ⟨ji, hji, hjs⟩ := info_item
  have HB1 := Lib.hid hb1
  have hla := la0_last (h := h) (fun x hx => (hR.st x hx).1) p1
  have hl := kvs_len L
  have hi0 : ∀ V : World, (Instr.index 76 (.agg (waysC (fun m => pt (la m (sh h (L.take (kend (kvs L) key))))))) (.int .i64 0)).run Try.prog V = .ok (pt (la 0 (sh h (L.take (kend (kvs L) key))))) V := fun V => by kernel_rfl
  rcases hla with ⟨h0, hla⟩ | ⟨h0, hla⟩
  · have hv : lastV (kvs L) key = .tuple #[.string ⟨#[]⟩, .bool false] := by
      unfold lastV
      rw [if_pos h0, h0]
      rfl
    rw [hv]
    rw [hla] at hi0
    have HE := Lib.hid (fun V : World => run_eql_ptr_same (P := Try.prog) V ⟨h, 0, none⟩ Try.underlying74 hji)
    clear hR hR1 p1 p2 p3 hla hl hv h0 hb1 hc1 hs1 hji hjs
    generalize waysC (fun m => pt (la m (sh h (L.take (kend (kvs L) key))))) = W at *
    go_enter Try.func39, Try.ntmps39
    go_wp2_with (first
      | (go_at_call 53; refine NO.out.mono ?_; rintro e w2 ⟨rfl, rfl⟩)
      | (go_at_call 55; refine LO.out.mono ?_; rintro e w2 ⟨rfl, hb⟩; have HB := Lib.hid (bst HB1.out hb); have c0 := HQ.out _ hb; have e0 := HE.out w2))
    go_ret2
    exact ⟨rfl, HB.out⟩
  · obtain ⟨x, hx, hla2, hv⟩ : ∃ x ∈ L, la 0 (sh h (L.take (kend (kvs L) key))) = x.1 ∧ lastV (kvs L) key = .tuple #[.string x.2.key, .bool true] := by
      refine ⟨_, List.getElem_mem (show kend (kvs L) key - 1 < L.length by omega), hla, ?_⟩
      unfold lastV
      rw [if_neg (by omega), keyAt_eq (by omega), kvs_get (by omega), decide_eq_true h0]
    have hne := hR.mem.hL (List.mem_map.2 ⟨_, hx, rfl⟩)
    have HK := Lib.hid (fun V (hb : Below (w.alloc (.cells #[.string key] 9)).heap.size (w.alloc (.cells #[.string key] 9)) V) => (hR1.below hb).mem.key hx)
    have HE := Lib.hid (fun V (hb : Below (w.alloc (.cells #[.string key] 9)).heap.size (w.alloc (.cells #[.string key] 9)) V) => run_eql_ptr_other (P := Try.prog) V (a := ⟨x.1, 0, none⟩) (b := ⟨h, 0, none⟩) Try.underlying74 hji hjs (fun e => hne (by injection e)) ((hR1.below hb).mem.node x hx) (hR1.below hb).mem.head)
    rw [hv]
    rw [hla2] at hi0
    clear hla hla2
    clear hR hR1 p1 p2 p3 hl hv h0 hb1 hc1 hs1 hx hji hjs
    generalize waysC (fun m => pt (la m (sh h (L.take (kend (kvs L) key))))) = W at *
    obtain ⟨⟨b, ⟨k, v, s⟩⟩, rfl⟩ : ∃ y, x = y := ⟨x, rfl⟩
    simp only at HK HE hi0 ⊢
    clear hne
    go_enter Try.func39, Try.ntmps39
    go_wp2_with (first
      | (go_at_call 53; refine NO.out.mono ?_; rintro e w2 ⟨rfl, rfl⟩)
      | (go_at_call 55; refine LO.out.mono ?_; rintro e w2 ⟨rfl, hb⟩; have HB := Lib.hid (bst HB1.out hb); have c0 := HQ.out _ hb; have c1 := HK.out _ hb; have e0 := HE.out w2 hb))
    go_ret2
    exact ⟨rfl, HB.out⟩

end Go.Proofs.Ytcpbcoeccplliaa.SL
