/-
  Layer 10: the document's table: how it lies in memory; what it answers (written by wip/gentbref.py).
-/
import Derived.Test.YtgakkeeeadndkaaTbRow
import Derived.Test.YtgakkeeeadndkaaTbBatch
import Derived.BigQuiet
import Derived.Deep.QuietTactic
set_option linter.unusedVariables false
namespace Go.Proofs.Ytgakkeeeadndkaa
open Go.RowKit

structure RtR (V : World) (b : Nat) (v : Value) (r : List Rw) : Prop where
  obj : Blk V b 37 #[v]
  row : RRow V 0 v r.length r
  ne : ∀ k, v.ownBlock = some k → k ≠ b
def rtF (b : Nat) (v : Value) : Nat → Prop := fun k => k = b ∨ v.ownBlock = some k
section
variable {V V' w : World} {b : Nat} {v v' : Value} {r r' : List Rw}
theorem RtR.lt (h : RtR V b v r) {k : Nat} (e : rtF b v k) : k < V.heap.size := by
  rcases e with rfl | e
  · exact h.obj.lt
  · exact (World.ownsRow.lt h.row k e).2
theorem RtR.on (h : RtR V b v r) (hk : ∀ k, rtF b v k → V'.heap[k]? = V.heap[k]?) : RtR V' b v r :=
  ⟨(hk b (.inl rfl)).trans h.obj, ⟨h.row.1, h.row.2.elim .inl (fun ⟨q, cap, cur, e, hq, hh, r⟩ => .inr ⟨q, cap, cur, e, hq, (hk q (.inr (by rw [e]; rfl))).trans hh, r⟩)⟩, h.ne⟩
theorem RtR.below (h : RtR V b v r) (hb : Below V.heap.size V V') : RtR V' b v r := h.on (fun k e => hb.block k (h.lt e))
/-- A new row is put in. -/
theorem RtR.renew (h : RtR w b v r) (hb : Below w.heap.size w V) (hrow : RRow V w.heap.size v' r'.length r') :
    RtR (V.setCell ⟨b, 0, none⟩ v') b v' r' ∧ Grow (rtF b v) w (V.setCell ⟨b, 0, none⟩ v') ∧ ∀ k, rtF b v' k → nF (rtF b v) w (V.setCell ⟨b, 0, none⟩ v') k := by
  have hblt := h.obj.lt
  have hV := (h.below hb).obj
  have hrl := World.ownsRow.lt hrow
  have hne : ∀ k, v'.ownBlock = some k → k ≠ b := fun k e => by have := (hrl k e).1; omega
  refine ⟨⟨hV.set_ 0 v', ?_, hne⟩, (Grow.of_below hb).set (.inl (.inl rfl)) _, fun k e => ?_⟩
  · have h0 := hrow.base (Nat.zero_le _)
    refine World.ownsRow.kept h0 (row := some b) ⟨rfl, rfl, rfl, by simp [World.setCell], fun k hk hne2 => heap_setNe (fun e => hne2 (by rw [show k = b from e])) _⟩ ?_
    cases hv : v'.ownBlock with
    | none => exact .inl rfl
    | some q => exact .inr (fun e => hne q hv (by injection e))
  · rcases e with e | e
    · exact .inl (.inl e)
    · refine .inr ⟨(hrl k e).1, ?_⟩
      simp only [World.setCell, Array.size_modify]
      exact (hrl k e).2
set_option maxRecDepth 100000 in
theorem rt_new (s : Int) (w : World) : Calls Try.prog 13 #[.int .i64 s] w fun e w' => e = .returned (pt w.heap.size) ∧ RtR w' w.heap.size (.slice none 0 0) [] ∧ Below w.heap.size w w' := by
  have h1 := Blk.new w 37 #[.slice none 0 0]
  have hb := nbl w (.cells #[.slice none 0 0] 37)
  go_enter Try.func13, Try.ntmps13
  go_wp2_with fail
  go_ret
  exact ⟨rfl, ⟨h1, World.ownsRow_nil _ _ _ _, (fun k e => nomatch e)⟩, hb⟩
set_option maxRecDepth 100000 in
set_option maxHeartbeats 4000000 in
theorem rt_at (w : World) (b : Nat) (v : Value) (r : List Rw) (key : ByteArray) (h : RtR w b v r) : Calls Try.prog 43 #[pt b, .string key] w fun e w' => e = .returned (.int .i64 ((rpos r key : Nat) : Int)) ∧ w' = w := by
  obtain ⟨A, c, rfl, hat, hnc, hcm⟩ := h.row.form
  have c0 : w.cell? ⟨b, 0, none⟩ = some (.slice A r.length c) := h.obj.cell 0
  have hple := rpos_le r key
  have HL := Lib.hid (fun i (hi : i < rpos r key) => rpos_lt (r := r) (k := key) hi)
  have HN := Lib.hid (fun (hi : rpos r key < r.length) => rpos_at (k := key) hi)
  have HA := Lib.hid hat
  clear h hat
  generalize hp : rpos r key = p at *
  clear hp
  go_enter Try.func43, Try.ntmps43
  go_wp2_with fail
  go_loop [5] (fun i => ∃ k : Nat, k ≤ p ∧ i = .int .i64 k) (fun i => p - (intOf i).toNat)
  case atStart => exact ⟨0, Nat.zero_le _, rfl⟩
  case round =>
    obtain ⟨k, hk, rfl⟩ := hrel
    by_cases hlt : k < r.length
    · obtain ⟨bb, o, rfl, hc⟩ := HA.out.2 (by omega)
      have hc1 := (hc k hlt).1
      by_cases hkp : k < p
      · obtain ⟨_, hkl⟩ := HL.out k hkp
        unfold kl at hkl
        clear hc
        generalize (r[k]'hlt).key = key2 at *
        go_wp2_with fail
        go_round
        case rel => exact ⟨k + 1, by omega, by go_num⟩
        case measure => simp [intOf]; omega
      · obtain rfl : k = p := by omega
        have hkl := HN.out hlt
        unfold kl at hkl
        clear hc
        generalize (r[k]'hlt).key = key2 at *
        go_wp2_with fail
        go_ret
        exact ⟨rfl, rfl⟩
    · obtain rfl : k = p := by omega
      go_wp2_with fail
      go_ret
      exact ⟨rfl, rfl⟩
set_option maxRecDepth 100000 in
theorem rt_len (h : RtR w b v r) : Calls Try.prog 17 #[pt b] w fun e w' => e = .returned (.int .i64 (r.length : Int)) ∧ w' = w := by
  obtain ⟨A, c, rfl, hat, hnc, hcm⟩ := h.row.form
  have c0 : w.cell? ⟨b, 0, none⟩ = some (.slice A r.length c) := h.obj.cell 0
  clear h hat
  go_enter Try.func17, Try.ntmps17
  go_wp2_with fail
  go_ret
  exact ⟨rfl, rfl⟩
set_option maxRecDepth 100000 in
set_option maxHeartbeats 4000000 in
theorem rt_get (h : RtR w b v r) (key : ByteArray) : Calls Try.prog 22 #[pt b, .string key] w fun e w' => e = .returned (.tuple #[.string (rval r key), .bool (rhas r key)]) ∧ Below w.heap.size w w' := by
  obtain ⟨A, c, rfl, hat, hnc, hcm⟩ := h.row.form
  have c0 : w.cell? ⟨b, 0, none⟩ = some (.slice A r.length c) := h.obj.cell 0
  have AT := Lib.hid (rt_at w b _ r key h)
  by_cases hlt : rpos r key < r.length
  · obtain ⟨bb, o, rfl, hc⟩ := hat.2 (by omega)
    obtain ⟨hc1, hc2⟩ := hc _ hlt
    by_cases he : (r[rpos r key]'hlt).key = key
    · have e1 : rhas r key = true := by rw [rhas_at hlt, decide_eq_true he]
      have e2 : rval r key = (r[rpos r key]'hlt).value := by unfold rval; rw [e1, if_pos rfl, List.getElem?_eq_getElem hlt]; rfl
      rw [e1, e2]
      have hk : ((r[rpos r key]'hlt).key.toList == key.toList) = true := by rw [kbeq, decide_eq_true he]
      clear h hc hat he e1 e2
      generalize (r[rpos r key]'hlt).key = key2 at *
      generalize (r[rpos r key]'hlt).value = value2 at *
      generalize rpos r key = p at *
      go_enter Try.func22, Try.ntmps22
      go_wp2_with (first | (go_at_call 43; refine AT.out.mono ?_; rintro e w2 ⟨rfl, hw⟩; obtain rfl : w = w2 := hw.symm))
      go_ret2
      exact ⟨rfl, Below.refl _ _⟩
    · have e1 : rhas r key = false := by rw [rhas_at hlt, decide_eq_false he]
      have e2 : rval r key = ⟨#[]⟩ := by unfold rval; rw [e1]; rfl
      rw [e1, e2]
      have hk : ((r[rpos r key]'hlt).key.toList == key.toList) = false := by rw [kbeq, decide_eq_false he]
      clear h hc hat he e1 e2
      generalize (r[rpos r key]'hlt).key = key2 at *
      generalize (r[rpos r key]'hlt).value = value2 at *
      generalize rpos r key = p at *
      go_enter Try.func22, Try.ntmps22
      go_wp2_with (first | (go_at_call 43; refine AT.out.mono ?_; rintro e w2 ⟨rfl, hw⟩; obtain rfl : w = w2 := hw.symm))
      go_ret2
      exact ⟨rfl, Below.refl _ _⟩
  · have e1 : rhas r key = false := rhas_end (by omega)
    have e2 : rval r key = ⟨#[]⟩ := by unfold rval; rw [e1]; rfl
    rw [e1, e2]
    clear h hat e1 e2
    generalize rpos r key = p at *
    go_enter Try.func22, Try.ntmps22
    go_wp2_with (first | (go_at_call 43; refine AT.out.mono ?_; rintro e w2 ⟨rfl, hw⟩; obtain rfl : w = w2 := hw.symm))
    go_ret2
    exact ⟨rfl, Below.refl _ _⟩

theorem rone_lenE (r : List Rw) (o : Op_) : (rone r o).length = rpos r o.key + (if o.del then 0 else 1) + (r.length - rrest r o.key) := by
  have := rpos_le r o.key
  unfold rone
  rw [List.length_append, List.length_append, List.length_take, List.length_drop, Nat.min_eq_left this]
  split <;> rfl
set_option maxRecDepth 100000 in
set_option maxHeartbeats 8000000 in
theorem rt_one (w : World) (b : Nat) (v : Value) (r : List Rw) (key value : ByteArray) (del : Bool) (h : RtR w b v r) (hL : r.length ≤ 1000000000) :
    Calls Try.prog 39 #[pt b, .agg #[.string key, .string value, .bool del]] w fun e w' => (∃ u, e = .returned u) ∧ ∃ v', RtR w' b v' (rone r ⟨key, value, del⟩) ∧ Grow (rtF b v) w w' ∧ ∀ k, rtF b v' k → nF (rtF b v) w w' k := by
  obtain ⟨W1, hW1⟩ : ∃ W1, W1 = w.alloc (.cells #[.string key, .string value, .bool del] 32) := ⟨_, rfl⟩
  have hb1 : Below w.heap.size w W1 := by rw [hW1]; exact nbl w _
  have AT := Lib.hid (show Calls Try.prog 43 #[pt b, .string key] (w.alloc (.cells #[.string key, .string value, .bool del] 32)) _ from hW1 ▸ rt_at W1 b v r key (h.below hb1))
  have HBK := Lib.hid (show Blk W1 w.heap.size 32 #[.string key, .string value, .bool del] from by rw [hW1]; exact Blk.new _ _ _)
  have HDC := Lib.hid (fun V (hb : Below W1.heap.size W1 V) => (show V.cell? ⟨w.heap.size, 0, none⟩ = some (.string key) ∧ V.cell? ⟨w.heap.size, 1, none⟩ = some (.string value) ∧ V.cell? ⟨w.heap.size, 2, none⟩ = some (.bool del) from ⟨(HBK.out.below hb HBK.out.lt).cell 0, (HBK.out.below hb HBK.out.lt).cell 1, (HBK.out.below hb HBK.out.lt).cell 2⟩))
  have hpl := rpos_le r key
  have hrl : rrest r key ≤ r.length := by
    unfold rrest
    cases hh : rhas r key with
    | true => obtain ⟨h1, _⟩ := (rhas_iff r key).1 hh; rw [if_pos rfl]; omega
    | false => rw [if_neg (by decide)]; omega
  have hrc : (rpos r key < r.length ∧ rhas r key = true ∧ rrest r key = rpos r key + 1) ∨ (rpos r key < r.length ∧ rhas r key = false ∧ rrest r key = rpos r key) ∨ (r.length ≤ rpos r key ∧ rhas r key = false ∧ rrest r key = rpos r key) := by
    unfold rrest
    rcases Nat.lt_or_ge (rpos r key) r.length with h1 | h1
    · cases hh : rhas r key with
      | true => exact .inl ⟨h1, rfl, rfl⟩
      | false => exact .inr (.inl ⟨h1, rfl, rfl⟩)
    · rw [rhas_end h1]
      exact .inr (.inr ⟨by omega, rfl, rfl⟩)
  obtain ⟨A, c, rfl, hat, hnc, hcm⟩ := h.row.form
  have HRN := Lib.hid (fun V v' (hb : Below w.heap.size w V) n (hn : n = (rone r ⟨key, value, del⟩).length) (hrow : RRow V w.heap.size v' n (rone r ⟨key, value, del⟩)) => h.renew hb (hn ▸ hrow))
  have HLEN := Lib.hid (rone_lenE r ⟨key, value, del⟩)
  have HKE := Lib.hid (show rone r ⟨key, value, del⟩ = r.take (rpos r key) ++ (if del then [] else [⟨key, value⟩]) ++ r.drop (rrest r key) from rfl)
  have HP1 := Lib.hid (fun V (hb : Below w.heap.size w V) => (hat.head hpl).below hb)
  have HP3 := Lib.hid (fun V (hb : Below w.heap.size w V) => (hat.tail hrl hnc).below hb)
  have HQ := Lib.hid (fun V (hb : Below w.heap.size w V) => (show V.cell? ⟨b, 0, none⟩ = some (.slice A r.length c) ∧ V.frozen? ⟨b, 0, none⟩ = false from ⟨(h.below hb).obj.cell 0, (h.below hb).obj.frozen 0⟩))
  have HW := Lib.hid hW1
  have HB1 := Lib.hid hb1
  have c0 := (HQ.out W1 hb1).1
  have hkc : ∀ hlt : rpos r key < r.length, ∃ bb o, A = some ⟨bb, o, none⟩ ∧ W1.cell? ⟨bb, o + rpos r key * 2, none⟩ = some (.string (r[rpos r key]'hlt).key) ∧ rhas r key = ((r[rpos r key]'hlt).key.toList == key.toList) := fun hlt => by
    obtain ⟨bb, o, e, hc⟩ := (hat.below hb1).2 (by omega)
    exact ⟨bb, o, e, (hc _ hlt).1, by rw [rhas_at hlt, kbeq]⟩
  obtain ⟨d0, d1, d2⟩ := HDC.out W1 (Below.refl _ _)
  have hL2 : r.length < 1000000001 := by omega
  have hSL1 := fun W : World => by simpa using slr_h A r.length c .i64 (rpos r key : Int) W (by omega) (by omega)
  have hSL2 := fun W : World => slr_l A r.length c .i64 (rrest r key : Int) W (by omega) (by omega)
  rw [show (rrest r key : Int).toNat = rrest r key by omega] at hSL2
  clear h hat hL hb1
  generalize rone r ⟨key, value, del⟩ = R' at *
  rw [hW1] at c0 hkc d0 d1 d2
  clear hW1
  rcases hrc with ⟨hlt, hh, hq⟩ | ⟨hlt, hh, hq⟩ | ⟨hlt, hh, hq⟩
  · obtain ⟨bb, oo, rfl, hc1, hke⟩ := hkc hlt
    rw [hh] at hke
    rw [hq] at HP3 HKE HLEN hSL2 hrl
    clear hkc hq hh
    generalize (r[rpos r key]'hlt).key = key2 at *
    generalize hpp : rpos r key = p at *
    clear hpp
    have hke2 := hke.symm
    clear hke
    have hwp : IntKind.i64.wrap ((p : Int) + 1) = (p : Int) + 1 := IntWalk.i64_in _ (by omega)
    rw [show ((p + 1 : Nat) : Int) = (p : Int) + 1 by omega] at hSL2
    cases del with
    | true =>
      simp only [if_true] at HKE HLEN
      go_enter Try.func39, Try.ntmps39
      go_wp2_with (first | (go_at_call 43; refine AT.out.mono ?_; rintro e w2 ⟨rfl, hw⟩; cases hw))
      go_quiet (fail)
      have HX1 := Lib.hid (show Below W1.heap.size W1 ((w.alloc (.cells #[.string key, .string value, .bool true] 32)).drewN nq) from by rw [HW.out]; exact ⟨rfl, rfl, rfl, Nat.le_refl _, fun _ _ => rfl⟩)
      have HBX := Lib.hid (bst HB1.out HX1.out)
      clear c0 d0 d1 d2
      generalize (w.alloc (.cells #[.string key, .string value, .bool true] 32)).drewN nq = X at *
      obtain ⟨c0, f0⟩ := HQ.out X HBX.out
      obtain ⟨d0, d1, d2⟩ := HDC.out X HX1.out
      go_wp2_with (first
        | (at_builtin; refine wpList_appR rfl _ _ rfl w.heap.size (.slice none 0 0) 0 [] (r.take p) rfl (RRow.nil _ _) (some ⟨bb, oo, none⟩) p c rfl (HP1.out _ HBX.out) (by omega) HBX.out.size ?_; intro v1 w1 hr1 hg1; have HY1 := Lib.hid (HX1.out.grown hg1 HX1.out.size (fun k e => nomatch e)); have HZ1 := Lib.hid (bst HB1.out HY1.out); have HR1 := Lib.hid hr1; have HT1 := Lib.hid (HP3.out _ HZ1.out); obtain ⟨k0, f1⟩ := HQ.out _ HZ1.out; obtain ⟨e0, e1, e2⟩ := HDC.out _ HY1.out; clear hr1 hg1 f1)
        | (at_builtin; refine wpList_appR rfl _ _ rfl w.heap.size v1 (0 + p) ([] ++ r.take p) (r.drop (p + 1)) rfl HR1.out (cutR (some ⟨bb, oo, none⟩) c (p + 1)) (r.length - (p + 1)) (c - (p + 1)) rfl HT1.out (by omega) HZ1.out.size ?_; intro v3 w3 hr3 hg3; obtain ⟨n3, hn3⟩ : ∃ n3, 0 + p + (r.length - (p + 1)) = n3 := ⟨_, rfl⟩; rw [hn3] at hr3; have HN3 := Lib.hid hn3; clear hn3; obtain ⟨A3, cc3, rfl, hat3⟩ := hr3.form; clear hat3; have HB3 := Lib.hid (HZ1.out.grown hg3 HZ1.out.size (fun k e => (World.ownsRow.lt HR1.out k e).1)); have HR3 := Lib.hid hr3; obtain ⟨k1, f2⟩ := HQ.out _ HB3.out; clear hr3 hg3))
      go_end0
      have hr := HR3.out
      have hle := HLEN.out
      obtain ⟨r1, r2, r3⟩ := HRN.out w3 _ HB3.out n3 (by have e3 := HN3.out; omega) (by
        rw [HKE.out]
        rw [List.nil_append] at hr
        rw [List.append_nil]
        exact hr)
      exact ⟨⟨_, rfl⟩, _, r1, r2, r3⟩
    | false =>
      simp only [if_false, Bool.false_eq_true] at HKE HLEN
      go_enter Try.func39, Try.ntmps39
      go_wp2_with (first | (go_at_call 43; refine AT.out.mono ?_; rintro e w2 ⟨rfl, hw⟩; cases hw))
      go_quiet (fail)
      have HX1 := Lib.hid (show Below W1.heap.size W1 ((w.alloc (.cells #[.string key, .string value, .bool false] 32)).drewN nq) from by rw [HW.out]; exact ⟨rfl, rfl, rfl, Nat.le_refl _, fun _ _ => rfl⟩)
      have HBX := Lib.hid (bst HB1.out HX1.out)
      clear c0 d0 d1 d2
      generalize (w.alloc (.cells #[.string key, .string value, .bool false] 32)).drewN nq = X at *
      obtain ⟨c0, f0⟩ := HQ.out X HBX.out
      obtain ⟨d0, d1, d2⟩ := HDC.out X HX1.out
      go_wp2_with (first
        | (at_builtin; refine wpList_appR rfl _ _ rfl w.heap.size (.slice none 0 0) 0 [] (r.take p) rfl (RRow.nil _ _) (some ⟨bb, oo, none⟩) p c rfl (HP1.out _ HBX.out) (by omega) HBX.out.size ?_; intro v1 w1 hr1 hg1; have HY1 := Lib.hid (HX1.out.grown hg1 HX1.out.size (fun k e => nomatch e)); have HZ1 := Lib.hid (bst HB1.out HY1.out); have HR1 := Lib.hid (hr1.keep (nbl w1 (.cells #[.string key, .string value] 39))); have HI1 := Lib.hid (row_one w1 key value); have HY2 := Lib.hid (bsa HY1.out (.cells #[.string key, .string value] 39)); have HZ2 := Lib.hid (bst HB1.out HY2.out); obtain ⟨k0, f1⟩ := HQ.out _ HZ1.out; obtain ⟨e0, e1, e2⟩ := HDC.out _ HY1.out; clear hr1 hg1 f1)
        | (at_builtin; refine wpList_appR rfl _ _ rfl w.heap.size v1 (0 + p) ([] ++ r.take p) [⟨key, value⟩] rfl HR1.out (some ⟨w1.heap.size, 0, none⟩) 1 1 rfl HI1.out (by omega) HZ2.out.size ?_; intro v2 w2 hr2 hg2; have HB2 := Lib.hid (HZ2.out.grown hg2 HZ2.out.size (fun k e => (World.ownsRow.lt HR1.out k e).1)); have HR2 := Lib.hid hr2; have HT2 := Lib.hid (HP3.out _ HB2.out); obtain ⟨k2, f2⟩ := HQ.out _ HB2.out; clear hr2 hg2 f2)
        | (at_builtin; refine wpList_appR rfl _ _ rfl w.heap.size v2 (0 + p + 1) ([] ++ r.take p ++ [⟨key, value⟩]) (r.drop (p + 1)) rfl HR2.out (cutR (some ⟨bb, oo, none⟩) c (p + 1)) (r.length - (p + 1)) (c - (p + 1)) rfl HT2.out (by omega) HB2.out.size ?_; intro v3 w3 hr3 hg3; obtain ⟨n3, hn3⟩ : ∃ n3, 0 + p + 1 + (r.length - (p + 1)) = n3 := ⟨_, rfl⟩; rw [hn3] at hr3; have HN3 := Lib.hid hn3; clear hn3; obtain ⟨A3, cc3, rfl, hat3⟩ := hr3.form; clear hat3; have HB3 := Lib.hid (HB2.out.grown hg3 HB2.out.size (fun k e => (World.ownsRow.lt HR2.out k e).1)); have HR3 := Lib.hid hr3; obtain ⟨k1, f2⟩ := HQ.out _ HB3.out; clear hr3 hg3))
      go_end0
      have hr := HR3.out
      have hle := HLEN.out
      obtain ⟨r1, r2, r3⟩ := HRN.out w3 _ HB3.out n3 (by have e3 := HN3.out; omega) (by
        rw [HKE.out]
        rw [List.nil_append] at hr
        exact hr)
      exact ⟨⟨_, rfl⟩, _, r1, r2, r3⟩
  · obtain ⟨bb, oo, rfl, hc1, hke⟩ := hkc hlt
    rw [hh] at hke
    rw [hq] at HP3 HKE HLEN hSL2 hrl
    clear hkc hq hh
    generalize (r[rpos r key]'hlt).key = key2 at *
    generalize hpp : rpos r key = p at *
    clear hpp
    have hke2 := hke.symm
    clear hke
    cases del with
    | true =>
      simp only [if_true] at HKE HLEN
      go_enter Try.func39, Try.ntmps39
      go_wp2_with (first | (go_at_call 43; refine AT.out.mono ?_; rintro e w2 ⟨rfl, hw⟩; cases hw))
      go_quiet (fail)
      have HX1 := Lib.hid (show Below W1.heap.size W1 ((w.alloc (.cells #[.string key, .string value, .bool true] 32)).drewN nq) from by rw [HW.out]; exact ⟨rfl, rfl, rfl, Nat.le_refl _, fun _ _ => rfl⟩)
      have HBX := Lib.hid (bst HB1.out HX1.out)
      clear c0 d0 d1 d2
      generalize (w.alloc (.cells #[.string key, .string value, .bool true] 32)).drewN nq = X at *
      obtain ⟨c0, f0⟩ := HQ.out X HBX.out
      obtain ⟨d0, d1, d2⟩ := HDC.out X HX1.out
      go_wp2_with (first
        | (at_builtin; refine wpList_appR rfl _ _ rfl w.heap.size (.slice none 0 0) 0 [] (r.take p) rfl (RRow.nil _ _) (some ⟨bb, oo, none⟩) p c rfl (HP1.out _ HBX.out) (by omega) HBX.out.size ?_; intro v1 w1 hr1 hg1; have HY1 := Lib.hid (HX1.out.grown hg1 HX1.out.size (fun k e => nomatch e)); have HZ1 := Lib.hid (bst HB1.out HY1.out); have HR1 := Lib.hid hr1; have HT1 := Lib.hid (HP3.out _ HZ1.out); obtain ⟨k0, f1⟩ := HQ.out _ HZ1.out; obtain ⟨e0, e1, e2⟩ := HDC.out _ HY1.out; clear hr1 hg1 f1)
        | (at_builtin; refine wpList_appR rfl _ _ rfl w.heap.size v1 (0 + p) ([] ++ r.take p) (r.drop p) rfl HR1.out (cutR (some ⟨bb, oo, none⟩) c p) (r.length - p) (c - p) rfl HT1.out (by omega) HZ1.out.size ?_; intro v3 w3 hr3 hg3; obtain ⟨n3, hn3⟩ : ∃ n3, 0 + p + (r.length - p) = n3 := ⟨_, rfl⟩; rw [hn3] at hr3; have HN3 := Lib.hid hn3; clear hn3; obtain ⟨A3, cc3, rfl, hat3⟩ := hr3.form; clear hat3; have HB3 := Lib.hid (HZ1.out.grown hg3 HZ1.out.size (fun k e => (World.ownsRow.lt HR1.out k e).1)); have HR3 := Lib.hid hr3; obtain ⟨k1, f2⟩ := HQ.out _ HB3.out; clear hr3 hg3))
      go_end0
      have hr := HR3.out
      have hle := HLEN.out
      obtain ⟨r1, r2, r3⟩ := HRN.out w3 _ HB3.out n3 (by have e3 := HN3.out; omega) (by
        rw [HKE.out]
        rw [List.nil_append] at hr
        rw [List.append_nil]
        exact hr)
      exact ⟨⟨_, rfl⟩, _, r1, r2, r3⟩
    | false =>
      simp only [if_false, Bool.false_eq_true] at HKE HLEN
      go_enter Try.func39, Try.ntmps39
      go_wp2_with (first | (go_at_call 43; refine AT.out.mono ?_; rintro e w2 ⟨rfl, hw⟩; cases hw))
      go_quiet (fail)
      have HX1 := Lib.hid (show Below W1.heap.size W1 ((w.alloc (.cells #[.string key, .string value, .bool false] 32)).drewN nq) from by rw [HW.out]; exact ⟨rfl, rfl, rfl, Nat.le_refl _, fun _ _ => rfl⟩)
      have HBX := Lib.hid (bst HB1.out HX1.out)
      clear c0 d0 d1 d2
      generalize (w.alloc (.cells #[.string key, .string value, .bool false] 32)).drewN nq = X at *
      obtain ⟨c0, f0⟩ := HQ.out X HBX.out
      obtain ⟨d0, d1, d2⟩ := HDC.out X HX1.out
      go_wp2_with (first
        | (at_builtin; refine wpList_appR rfl _ _ rfl w.heap.size (.slice none 0 0) 0 [] (r.take p) rfl (RRow.nil _ _) (some ⟨bb, oo, none⟩) p c rfl (HP1.out _ HBX.out) (by omega) HBX.out.size ?_; intro v1 w1 hr1 hg1; have HY1 := Lib.hid (HX1.out.grown hg1 HX1.out.size (fun k e => nomatch e)); have HZ1 := Lib.hid (bst HB1.out HY1.out); have HR1 := Lib.hid (hr1.keep (nbl w1 (.cells #[.string key, .string value] 39))); have HI1 := Lib.hid (row_one w1 key value); have HY2 := Lib.hid (bsa HY1.out (.cells #[.string key, .string value] 39)); have HZ2 := Lib.hid (bst HB1.out HY2.out); obtain ⟨k0, f1⟩ := HQ.out _ HZ1.out; obtain ⟨e0, e1, e2⟩ := HDC.out _ HY1.out; clear hr1 hg1 f1)
        | (at_builtin; refine wpList_appR rfl _ _ rfl w.heap.size v1 (0 + p) ([] ++ r.take p) [⟨key, value⟩] rfl HR1.out (some ⟨w1.heap.size, 0, none⟩) 1 1 rfl HI1.out (by omega) HZ2.out.size ?_; intro v2 w2 hr2 hg2; have HB2 := Lib.hid (HZ2.out.grown hg2 HZ2.out.size (fun k e => (World.ownsRow.lt HR1.out k e).1)); have HR2 := Lib.hid hr2; have HT2 := Lib.hid (HP3.out _ HB2.out); obtain ⟨k2, f2⟩ := HQ.out _ HB2.out; clear hr2 hg2 f2)
        | (at_builtin; refine wpList_appR rfl _ _ rfl w.heap.size v2 (0 + p + 1) ([] ++ r.take p ++ [⟨key, value⟩]) (r.drop p) rfl HR2.out (cutR (some ⟨bb, oo, none⟩) c p) (r.length - p) (c - p) rfl HT2.out (by omega) HB2.out.size ?_; intro v3 w3 hr3 hg3; obtain ⟨n3, hn3⟩ : ∃ n3, 0 + p + 1 + (r.length - p) = n3 := ⟨_, rfl⟩; rw [hn3] at hr3; have HN3 := Lib.hid hn3; clear hn3; obtain ⟨A3, cc3, rfl, hat3⟩ := hr3.form; clear hat3; have HB3 := Lib.hid (HB2.out.grown hg3 HB2.out.size (fun k e => (World.ownsRow.lt HR2.out k e).1)); have HR3 := Lib.hid hr3; obtain ⟨k1, f2⟩ := HQ.out _ HB3.out; clear hr3 hg3))
      go_end0
      have hr := HR3.out
      have hle := HLEN.out
      obtain ⟨r1, r2, r3⟩ := HRN.out w3 _ HB3.out n3 (by have e3 := HN3.out; omega) (by
        rw [HKE.out]
        rw [List.nil_append] at hr
        exact hr)
      exact ⟨⟨_, rfl⟩, _, r1, r2, r3⟩
  · rw [hq] at HP3 HKE HLEN hSL2 hrl
    clear hkc hq hh
    generalize hpp : rpos r key = p at *
    clear hpp
    obtain rfl : p = r.length := by omega
    have hng : decide ((r.length : Int) < (r.length : Int)) = false := decide_eq_false (by omega)
    clear hlt hpl
    cases del with
    | true =>
      simp only [if_true] at HKE HLEN
      go_enter Try.func39, Try.ntmps39
      go_wp2_with (first | (go_at_call 43; refine AT.out.mono ?_; rintro e w2 ⟨rfl, hw⟩; cases hw))
      go_quiet (fail)
      have HX1 := Lib.hid (show Below W1.heap.size W1 ((w.alloc (.cells #[.string key, .string value, .bool true] 32)).drewN nq) from by rw [HW.out]; exact ⟨rfl, rfl, rfl, Nat.le_refl _, fun _ _ => rfl⟩)
      have HBX := Lib.hid (bst HB1.out HX1.out)
      clear c0 d0 d1 d2
      generalize (w.alloc (.cells #[.string key, .string value, .bool true] 32)).drewN nq = X at *
      obtain ⟨c0, f0⟩ := HQ.out X HBX.out
      obtain ⟨d0, d1, d2⟩ := HDC.out X HX1.out
      go_wp2_with (first
        | (at_builtin; refine wpList_appR rfl _ _ rfl w.heap.size (.slice none 0 0) 0 [] (r.take r.length) rfl (RRow.nil _ _) A r.length c rfl (HP1.out _ HBX.out) (by omega) HBX.out.size ?_; intro v1 w1 hr1 hg1; have HY1 := Lib.hid (HX1.out.grown hg1 HX1.out.size (fun k e => nomatch e)); have HZ1 := Lib.hid (bst HB1.out HY1.out); have HR1 := Lib.hid hr1; have HT1 := Lib.hid (HP3.out _ HZ1.out); obtain ⟨k0, f1⟩ := HQ.out _ HZ1.out; obtain ⟨e0, e1, e2⟩ := HDC.out _ HY1.out; clear hr1 hg1 f1)
        | (at_builtin; refine wpList_appR rfl _ _ rfl w.heap.size v1 (0 + r.length) ([] ++ r.take r.length) [] rfl HR1.out (cutR A c r.length) 0 (c - r.length) rfl (WAt.nil _ _) (by omega) HZ1.out.size ?_; intro v3 w3 hr3 hg3; obtain ⟨n3, hn3⟩ : ∃ n3, 0 + r.length + 0 = n3 := ⟨_, rfl⟩; rw [hn3] at hr3; have HN3 := Lib.hid hn3; clear hn3; obtain ⟨A3, cc3, rfl, hat3⟩ := hr3.form; clear hat3; have HB3 := Lib.hid (HZ1.out.grown hg3 HZ1.out.size (fun k e => (World.ownsRow.lt HR1.out k e).1)); have HR3 := Lib.hid hr3; obtain ⟨k1, f2⟩ := HQ.out _ HB3.out; clear hr3 hg3))
      go_end0
      have hr := HR3.out
      have hle := HLEN.out
      obtain ⟨r1, r2, r3⟩ := HRN.out w3 _ HB3.out n3 (by have e3 := HN3.out; omega) (by
        rw [HKE.out, List.drop_length]
        rw [List.nil_append] at hr
        rw [List.append_nil]
        exact hr)
      exact ⟨⟨_, rfl⟩, _, r1, r2, r3⟩
    | false =>
      simp only [if_false, Bool.false_eq_true] at HKE HLEN
      go_enter Try.func39, Try.ntmps39
      go_wp2_with (first | (go_at_call 43; refine AT.out.mono ?_; rintro e w2 ⟨rfl, hw⟩; cases hw))
      go_quiet (fail)
      have HX1 := Lib.hid (show Below W1.heap.size W1 ((w.alloc (.cells #[.string key, .string value, .bool false] 32)).drewN nq) from by rw [HW.out]; exact ⟨rfl, rfl, rfl, Nat.le_refl _, fun _ _ => rfl⟩)
      have HBX := Lib.hid (bst HB1.out HX1.out)
      clear c0 d0 d1 d2
      generalize (w.alloc (.cells #[.string key, .string value, .bool false] 32)).drewN nq = X at *
      obtain ⟨c0, f0⟩ := HQ.out X HBX.out
      obtain ⟨d0, d1, d2⟩ := HDC.out X HX1.out
      go_wp2_with (first
        | (at_builtin; refine wpList_appR rfl _ _ rfl w.heap.size (.slice none 0 0) 0 [] (r.take r.length) rfl (RRow.nil _ _) A r.length c rfl (HP1.out _ HBX.out) (by omega) HBX.out.size ?_; intro v1 w1 hr1 hg1; have HY1 := Lib.hid (HX1.out.grown hg1 HX1.out.size (fun k e => nomatch e)); have HZ1 := Lib.hid (bst HB1.out HY1.out); have HR1 := Lib.hid (hr1.keep (nbl w1 (.cells #[.string key, .string value] 39))); have HI1 := Lib.hid (row_one w1 key value); have HY2 := Lib.hid (bsa HY1.out (.cells #[.string key, .string value] 39)); have HZ2 := Lib.hid (bst HB1.out HY2.out); obtain ⟨k0, f1⟩ := HQ.out _ HZ1.out; obtain ⟨e0, e1, e2⟩ := HDC.out _ HY1.out; clear hr1 hg1 f1)
        | (at_builtin; refine wpList_appR rfl _ _ rfl w.heap.size v1 (0 + r.length) ([] ++ r.take r.length) [⟨key, value⟩] rfl HR1.out (some ⟨w1.heap.size, 0, none⟩) 1 1 rfl HI1.out (by omega) HZ2.out.size ?_; intro v2 w2 hr2 hg2; have HB2 := Lib.hid (HZ2.out.grown hg2 HZ2.out.size (fun k e => (World.ownsRow.lt HR1.out k e).1)); have HR2 := Lib.hid hr2; have HT2 := Lib.hid (HP3.out _ HB2.out); obtain ⟨k2, f2⟩ := HQ.out _ HB2.out; clear hr2 hg2 f2)
        | (at_builtin; refine wpList_appR rfl _ _ rfl w.heap.size v2 (0 + r.length + 1) ([] ++ r.take r.length ++ [⟨key, value⟩]) [] rfl HR2.out (cutR A c r.length) 0 (c - r.length) rfl (WAt.nil _ _) (by omega) HB2.out.size ?_; intro v3 w3 hr3 hg3; obtain ⟨n3, hn3⟩ : ∃ n3, 0 + r.length + 1 + 0 = n3 := ⟨_, rfl⟩; rw [hn3] at hr3; have HN3 := Lib.hid hn3; clear hn3; obtain ⟨A3, cc3, rfl, hat3⟩ := hr3.form; clear hat3; have HB3 := Lib.hid (HB2.out.grown hg3 HB2.out.size (fun k e => (World.ownsRow.lt HR2.out k e).1)); have HR3 := Lib.hid hr3; obtain ⟨k1, f2⟩ := HQ.out _ HB3.out; clear hr3 hg3))
      go_end0
      have hr := HR3.out
      have hle := HLEN.out
      obtain ⟨r1, r2, r3⟩ := HRN.out w3 _ HB3.out n3 (by have e3 := HN3.out; omega) (by
        rw [HKE.out, List.drop_length]
        rw [List.nil_append] at hr
        exact hr)
      exact ⟨⟨_, rfl⟩, _, r1, r2, r3⟩
end
end Go.Proofs.Ytgakkeeeadndkaa
