/-
  Layer 10: the document's table: how it lies in memory; what it answers (written by wip/gentbref.py).
  Layer 10: the document's table: Check, Apply, Between; Same.
-/
import Derived.Test.YtgccichmdddbpaaGreatDoorPL12
import Derived.Test.YtgccichmdddbpaaGreatDoorPL10
import Derived.BigQuiet
import Derived.Deep.QuietTactic
set_option linter.unusedVariables false
namespace Go.Proofs.YtgccichmdddbpaaGreatDoor
open Go.RowKit

structure RtR (V : World) (b : Nat) (v : Value) (r : List Rw) : Prop where
  obj : Blk V b 53 #[v]
  row : RRow V 0 v r.length r
  ne : ∀ k, v.ownBlock = some k → k ≠ b
def rtF (b : Nat) (v : Value) : Nat → Prop := fun k => k = b ∨ v.ownBlock = some k
section
variable {V V' w : World} {b : Nat} {v v' : Value} {r r' : List Rw}
theorem RtR.lt (h : RtR V b v r) {k : Nat} (e : rtF b v k) : k < V.heap.size := by
  rcases e with rfl | e
  · exact h.obj.lt
  · exact (World.ownsRow.lt h.row k e).2
theorem RtR.on (h : RtR V b v r) (hk : ∀ k, rtF b v k → V'.heap[k]? = V.heap[k]?) : RtR V' b v r :=
  ⟨(hk b (.inl rfl)).trans h.obj, ⟨h.row.1, h.row.2.elim .inl (fun ⟨q, cap, cur, e, hq, hh, r⟩ => .inr ⟨q, cap, cur, e, hq, (hk q (.inr (by rw [e]; rfl))).trans hh, r⟩)⟩, h.ne⟩
theorem RtR.below (h : RtR V b v r) (hb : Below V.heap.size V V') : RtR V' b v r := h.on (fun k e => hb.block k (h.lt e))
/-- A new row is put in. -/
theorem RtR.renew (h : RtR w b v r) (hb : Below w.heap.size w V) (hrow : RRow V w.heap.size v' r'.length r') :
    RtR (V.setCell ⟨b, 0, none⟩ v') b v' r' ∧ Grow (rtF b v) w (V.setCell ⟨b, 0, none⟩ v') ∧ ∀ k, rtF b v' k → nF (rtF b v) w (V.setCell ⟨b, 0, none⟩ v') k := by
  have hblt := h.obj.lt
  have hV := (h.below hb).obj
  have hrl := World.ownsRow.lt hrow
  have hne : ∀ k, v'.ownBlock = some k → k ≠ b := fun k e => by have := (hrl k e).1; omega
  refine ⟨⟨hV.set_ 0 v', ?_, hne⟩, (Grow.of_below hb).set (.inl (.inl rfl)) _, fun k e => ?_⟩
  · have h0 := hrow.base (Nat.zero_le _)
    refine World.ownsRow.kept h0 (row := some b) ⟨rfl, rfl, rfl, by simp [World.setCell], fun k hk hne2 => heap_setNe (fun e => hne2 (by rw [show k = b from e])) _⟩ ?_
    cases hv : v'.ownBlock with
    | none => exact .inl rfl
    | some q => exact .inr (fun e => hne q hv (by injection e))
  · rcases e with e | e
    · exact .inl (.inl e)
    · refine .inr ⟨(hrl k e).1, ?_⟩
      simp only [World.setCell, Array.size_modify]
      exact (hrl k e).2
set_option maxRecDepth 100000 in
set_option maxHeartbeats 4000000 in
theorem rt_at (w : World) (b : Nat) (v : Value) (r : List Rw) (key : ByteArray) (h : RtR w b v r) : Calls Tryz.prog 111 #[pt b, .string key] w fun e w' => e = .returned (.int .i64 ((rpos r key : Nat) : Int)) ∧ w' = w := by
  obtain ⟨A, c, rfl, hat, hnc, hcm⟩ := h.row.form
  have c0 : w.cell? ⟨b, 0, none⟩ = some (.slice A r.length c) := h.obj.cell 0
  have hple := rpos_le r key
  have HL := Lib.hid (fun i (hi : i < rpos r key) => rpos_lt (r := r) (k := key) hi)
  have HN := Lib.hid (fun (hi : rpos r key < r.length) => rpos_at (k := key) hi)
  have HA := Lib.hid hat
  clear h hat
  generalize hp : rpos r key = p at *
  clear hp
  go_enter Tryz.func111, Tryz.ntmps111
  go_wp2_with fail
  go_loop [5] (fun i => ∃ k : Nat, k ≤ p ∧ i = .int .i64 k) (fun i => p - (intOf i).toNat)
  case atStart => exact ⟨0, Nat.zero_le _, rfl⟩
  case round =>
    obtain ⟨k, hk, rfl⟩ := hrel
    by_cases hlt : k < r.length
    · obtain ⟨bb, o, rfl, hc⟩ := HA.out.2 (by omega)
      have hc1 := (hc k hlt).1
      by_cases hkp : k < p
      · obtain ⟨_, hkl⟩ := HL.out k hkp
        unfold kl at hkl
        clear hc
        generalize (r[k]'hlt).key = key2 at *
        go_wp2_with fail
        go_round
        case rel => exact ⟨k + 1, by omega, by go_num⟩
        case measure => simp [intOf]; omega
      · obtain rfl : k = p := by omega
        have hkl := HN.out hlt
        unfold kl at hkl
        clear hc
        generalize (r[k]'hlt).key = key2 at *
        go_wp2_with fail
        go_ret
        exact ⟨rfl, rfl⟩
    · obtain rfl : k = p := by omega
      go_wp2_with fail
      go_ret
      exact ⟨rfl, rfl⟩
theorem rone_lenE (r : List Rw) (o : Op_) : (rone r o).length = rpos r o.key + (if o.del then 0 else 1) + (r.length - rrest r o.key) := by
  have := rpos_le r o.key
  unfold rone
  rw [List.length_append, List.length_append, List.length_take, List.length_drop, Nat.min_eq_left this]
  split <;> rfl
set_option maxRecDepth 100000 in
set_option maxHeartbeats 8000000 in
theorem rt_one (w : World) (b : Nat) (v : Value) (r : List Rw) (key value : ByteArray) (del : Bool) (h : RtR w b v r) (hL : r.length ≤ 1000000000) :
    Calls Tryz.prog 64 #[pt b, .agg #[.string key, .string value, .bool del]] w fun e w' => (∃ u, e = .returned u) ∧ ∃ v', RtR w' b v' (rone r ⟨key, value, del⟩) ∧ Grow (rtF b v) w w' ∧ ∀ k, rtF b v' k → nF (rtF b v) w w' k := by
  obtain ⟨W1, hW1⟩ : ∃ W1, W1 = w.alloc (.cells #[.string key, .string value, .bool del] 93) := ⟨_, rfl⟩
  have hb1 : Below w.heap.size w W1 := by rw [hW1]; exact nbl w _
  have AT := Lib.hid (show Calls Tryz.prog 111 #[pt b, .string key] (w.alloc (.cells #[.string key, .string value, .bool del] 93)) _ from hW1 ▸ rt_at W1 b v r key (h.below hb1))
  have HBK := Lib.hid (show Blk W1 w.heap.size 93 #[.string key, .string value, .bool del] from by rw [hW1]; exact Blk.new _ _ _)
  have HDC := Lib.hid (fun V (hb : Below W1.heap.size W1 V) => (show V.cell? ⟨w.heap.size, 0, none⟩ = some (.string key) ∧ V.cell? ⟨w.heap.size, 1, none⟩ = some (.string value) ∧ V.cell? ⟨w.heap.size, 2, none⟩ = some (.bool del) from ⟨(HBK.out.below hb HBK.out.lt).cell 0, (HBK.out.below hb HBK.out.lt).cell 1, (HBK.out.below hb HBK.out.lt).cell 2⟩))
  have hpl := rpos_le r key
  have hrl : rrest r key ≤ r.length := by
    unfold rrest
    cases hh : rhas r key with
    | true => obtain ⟨h1, _⟩ := (rhas_iff r key).1 hh; rw [if_pos rfl]; omega
    | false => rw [if_neg (by decide)]; omega
  have hrc : (rpos r key < r.length ∧ rhas r key = true ∧ rrest r key = rpos r key + 1) ∨ (rpos r key < r.length ∧ rhas r key = false ∧ rrest r key = rpos r key) ∨ (r.length ≤ rpos r key ∧ rhas r key = false ∧ rrest r key = rpos r key) := by
    unfold rrest
    rcases Nat.lt_or_ge (rpos r key) r.length with h1 | h1
    · cases hh : rhas r key with
      | true => exact .inl ⟨h1, rfl, rfl⟩
      | false => exact .inr (.inl ⟨h1, rfl, rfl⟩)
    · rw [rhas_end h1]
      exact .inr (.inr ⟨by omega, rfl, rfl⟩)
  obtain ⟨A, c, rfl, hat, hnc, hcm⟩ := h.row.form
  have HRN := Lib.hid (fun V v' (hb : Below w.heap.size w V) n (hn : n = (rone r ⟨key, value, del⟩).length) (hrow : RRow V w.heap.size v' n (rone r ⟨key, value, del⟩)) => h.renew hb (hn ▸ hrow))
  have HLEN := Lib.hid (rone_lenE r ⟨key, value, del⟩)
  have HKE := Lib.hid (show rone r ⟨key, value, del⟩ = r.take (rpos r key) ++ (if del then [] else [⟨key, value⟩]) ++ r.drop (rrest r key) from rfl)
  have HP1 := Lib.hid (fun V (hb : Below w.heap.size w V) => (hat.head hpl).below hb)
  have HP3 := Lib.hid (fun V (hb : Below w.heap.size w V) => (hat.tail hrl hnc).below hb)
  have HQ := Lib.hid (fun V (hb : Below w.heap.size w V) => (show V.cell? ⟨b, 0, none⟩ = some (.slice A r.length c) ∧ V.frozen? ⟨b, 0, none⟩ = false from ⟨(h.below hb).obj.cell 0, (h.below hb).obj.frozen 0⟩))
  have HW := Lib.hid hW1
  have HB1 := Lib.hid hb1
  have c0 := (HQ.out W1 hb1).1
  have hkc : ∀ hlt : rpos r key < r.length, ∃ bb o, A = some ⟨bb, o, none⟩ ∧ W1.cell? ⟨bb, o + rpos r key * 2, none⟩ = some (.string (r[rpos r key]'hlt).key) ∧ rhas r key = ((r[rpos r key]'hlt).key.toList == key.toList) := fun hlt => by
    obtain ⟨bb, o, e, hc⟩ := (hat.below hb1).2 (by omega)
    exact ⟨bb, o, e, (hc _ hlt).1, by rw [rhas_at hlt, kbeq]⟩
  obtain ⟨d0, d1, d2⟩ := HDC.out W1 (Below.refl _ _)
  have hL2 : r.length < 1000000001 := by omega
  have hSL1 := fun W : World => by simpa using slr_h A r.length c .i64 (rpos r key : Int) W (by omega) (by omega)
  have hSL2 := fun W : World => slr_l A r.length c .i64 (rrest r key : Int) W (by omega) (by omega)
  rw [show (rrest r key : Int).toNat = rrest r key by omega] at hSL2
  clear h hat hL hb1
  generalize rone r ⟨key, value, del⟩ = R' at *
  rw [hW1] at c0 hkc d0 d1 d2
  clear hW1
  rcases hrc with ⟨hlt, hh, hq⟩ | ⟨hlt, hh, hq⟩ | ⟨hlt, hh, hq⟩
  · obtain ⟨bb, oo, rfl, hc1, hke⟩ := hkc hlt
    rw [hh] at hke
    rw [hq] at HP3 HKE HLEN hSL2 hrl
    clear hkc hq hh
    generalize (r[rpos r key]'hlt).key = key2 at *
    generalize hpp : rpos r key = p at *
    clear hpp
    have hke2 := hke.symm
    clear hke
    have hwp : IntKind.i64.wrap ((p : Int) + 1) = (p : Int) + 1 := IntWalk.i64_in _ (by omega)
    rw [show ((p + 1 : Nat) : Int) = (p : Int) + 1 by omega] at hSL2
    cases del with
    | true =>
      simp only [if_true] at HKE HLEN
      go_enter Tryz.func64, Tryz.ntmps64
      go_wp2_with (first | (go_at_call 111; refine AT.out.mono ?_; rintro e w2 ⟨rfl, hw⟩; cases hw))
      go_quiet (fail)
      have HX1 := Lib.hid (show Below W1.heap.size W1 ((w.alloc (.cells #[.string key, .string value, .bool true] 93)).drewN nq) from by rw [HW.out]; exact ⟨rfl, rfl, rfl, Nat.le_refl _, fun _ _ => rfl⟩)
      have HBX := Lib.hid (bst HB1.out HX1.out)
      clear c0 d0 d1 d2
      generalize (w.alloc (.cells #[.string key, .string value, .bool true] 93)).drewN nq = X at *
      obtain ⟨c0, f0⟩ := HQ.out X HBX.out
      obtain ⟨d0, d1, d2⟩ := HDC.out X HX1.out
      go_wp2_with (first
        | (at_builtin; refine wpList_appR rfl _ _ rfl w.heap.size (.slice none 0 0) 0 [] (r.take p) rfl (RRow.nil _ _) (some ⟨bb, oo, none⟩) p c rfl (HP1.out _ HBX.out) (by omega) HBX.out.size ?_; intro v1 w1 hr1 hg1; have HY1 := Lib.hid (HX1.out.grown hg1 HX1.out.size (fun k e => nomatch e)); have HZ1 := Lib.hid (bst HB1.out HY1.out); have HR1 := Lib.hid hr1; have HT1 := Lib.hid (HP3.out _ HZ1.out); obtain ⟨k0, f1⟩ := HQ.out _ HZ1.out; obtain ⟨e0, e1, e2⟩ := HDC.out _ HY1.out; clear hr1 hg1 f1)
        | (at_builtin; refine wpList_appR rfl _ _ rfl w.heap.size v1 (0 + p) ([] ++ r.take p) (r.drop (p + 1)) rfl HR1.out (cutR (some ⟨bb, oo, none⟩) c (p + 1)) (r.length - (p + 1)) (c - (p + 1)) rfl HT1.out (by omega) HZ1.out.size ?_; intro v3 w3 hr3 hg3; obtain ⟨n3, hn3⟩ : ∃ n3, 0 + p + (r.length - (p + 1)) = n3 := ⟨_, rfl⟩; rw [hn3] at hr3; have HN3 := Lib.hid hn3; clear hn3; obtain ⟨A3, cc3, rfl, hat3⟩ := hr3.form; clear hat3; have HB3 := Lib.hid (HZ1.out.grown hg3 HZ1.out.size (fun k e => (World.ownsRow.lt HR1.out k e).1)); have HR3 := Lib.hid hr3; obtain ⟨k1, f2⟩ := HQ.out _ HB3.out; clear hr3 hg3))
      go_end0
      have hr := HR3.out
      have hle := HLEN.out
      obtain ⟨r1, r2, r3⟩ := HRN.out w3 _ HB3.out n3 (by have e3 := HN3.out; omega) (by
        rw [HKE.out]
        rw [List.nil_append] at hr
        rw [List.append_nil]
        exact hr)
      exact ⟨⟨_, rfl⟩, _, r1, r2, r3⟩
    | false =>
      simp only [if_false, Bool.false_eq_true] at HKE HLEN
      go_enter Tryz.func64, Tryz.ntmps64
      go_wp2_with (first | (go_at_call 111; refine AT.out.mono ?_; rintro e w2 ⟨rfl, hw⟩; cases hw))
      go_quiet (fail)
      have HX1 := Lib.hid (show Below W1.heap.size W1 ((w.alloc (.cells #[.string key, .string value, .bool false] 93)).drewN nq) from by rw [HW.out]; exact ⟨rfl, rfl, rfl, Nat.le_refl _, fun _ _ => rfl⟩)
      have HBX := Lib.hid (bst HB1.out HX1.out)
      clear c0 d0 d1 d2
      generalize (w.alloc (.cells #[.string key, .string value, .bool false] 93)).drewN nq = X at *
      obtain ⟨c0, f0⟩ := HQ.out X HBX.out
      obtain ⟨d0, d1, d2⟩ := HDC.out X HX1.out
      go_wp2_with (first
        | (at_builtin; refine wpList_appR rfl _ _ rfl w.heap.size (.slice none 0 0) 0 [] (r.take p) rfl (RRow.nil _ _) (some ⟨bb, oo, none⟩) p c rfl (HP1.out _ HBX.out) (by omega) HBX.out.size ?_; intro v1 w1 hr1 hg1; have HY1 := Lib.hid (HX1.out.grown hg1 HX1.out.size (fun k e => nomatch e)); have HZ1 := Lib.hid (bst HB1.out HY1.out); have HR1 := Lib.hid (hr1.keep (nbl w1 (.cells #[.string key, .string value] 70))); have HI1 := Lib.hid (row_one w1 key value); have HY2 := Lib.hid (bsa HY1.out (.cells #[.string key, .string value] 70)); have HZ2 := Lib.hid (bst HB1.out HY2.out); obtain ⟨k0, f1⟩ := HQ.out _ HZ1.out; obtain ⟨e0, e1, e2⟩ := HDC.out _ HY1.out; clear hr1 hg1 f1)
        | (at_builtin; refine wpList_appR rfl _ _ rfl w.heap.size v1 (0 + p) ([] ++ r.take p) [⟨key, value⟩] rfl HR1.out (some ⟨w1.heap.size, 0, none⟩) 1 1 rfl HI1.out (by omega) HZ2.out.size ?_; intro v2 w2 hr2 hg2; have HB2 := Lib.hid (HZ2.out.grown hg2 HZ2.out.size (fun k e => (World.ownsRow.lt HR1.out k e).1)); have HR2 := Lib.hid hr2; have HT2 := Lib.hid (HP3.out _ HB2.out); obtain ⟨k2, f2⟩ := HQ.out _ HB2.out; clear hr2 hg2 f2)
        | (at_builtin; refine wpList_appR rfl _ _ rfl w.heap.size v2 (0 + p + 1) ([] ++ r.take p ++ [⟨key, value⟩]) (r.drop (p + 1)) rfl HR2.out (cutR (some ⟨bb, oo, none⟩) c (p + 1)) (r.length - (p + 1)) (c - (p + 1)) rfl HT2.out (by omega) HB2.out.size ?_; intro v3 w3 hr3 hg3; obtain ⟨n3, hn3⟩ : ∃ n3, 0 + p + 1 + (r.length - (p + 1)) = n3 := ⟨_, rfl⟩; rw [hn3] at hr3; have HN3 := Lib.hid hn3; clear hn3; obtain ⟨A3, cc3, rfl, hat3⟩ := hr3.form; clear hat3; have HB3 := Lib.hid (HB2.out.grown hg3 HB2.out.size (fun k e => (World.ownsRow.lt HR2.out k e).1)); have HR3 := Lib.hid hr3; obtain ⟨k1, f2⟩ := HQ.out _ HB3.out; clear hr3 hg3))
      go_end0
      have hr := HR3.out
      have hle := HLEN.out
      obtain ⟨r1, r2, r3⟩ := HRN.out w3 _ HB3.out n3 (by have e3 := HN3.out; omega) (by
        rw [HKE.out]
        rw [List.nil_append] at hr
        exact hr)
      exact ⟨⟨_, rfl⟩, _, r1, r2, r3⟩
  · obtain ⟨bb, oo, rfl, hc1, hke⟩ := hkc hlt
    rw [hh] at hke
    rw [hq] at HP3 HKE HLEN hSL2 hrl
    clear hkc hq hh
    generalize (r[rpos r key]'hlt).key = key2 at *
    generalize hpp : rpos r key = p at *
    clear hpp
    have hke2 := hke.symm
    clear hke
    cases del with
    | true =>
      simp only [if_true] at HKE HLEN
      go_enter Tryz.func64, Tryz.ntmps64
      go_wp2_with (first | (go_at_call 111; refine AT.out.mono ?_; rintro e w2 ⟨rfl, hw⟩; cases hw))
      go_quiet (fail)
      have HX1 := Lib.hid (show Below W1.heap.size W1 ((w.alloc (.cells #[.string key, .string value, .bool true] 93)).drewN nq) from by rw [HW.out]; exact ⟨rfl, rfl, rfl, Nat.le_refl _, fun _ _ => rfl⟩)
      have HBX := Lib.hid (bst HB1.out HX1.out)
      clear c0 d0 d1 d2
      generalize (w.alloc (.cells #[.string key, .string value, .bool true] 93)).drewN nq = X at *
      obtain ⟨c0, f0⟩ := HQ.out X HBX.out
      obtain ⟨d0, d1, d2⟩ := HDC.out X HX1.out
      go_wp2_with (first
        | (at_builtin; refine wpList_appR rfl _ _ rfl w.heap.size (.slice none 0 0) 0 [] (r.take p) rfl (RRow.nil _ _) (some ⟨bb, oo, none⟩) p c rfl (HP1.out _ HBX.out) (by omega) HBX.out.size ?_; intro v1 w1 hr1 hg1; have HY1 := Lib.hid (HX1.out.grown hg1 HX1.out.size (fun k e => nomatch e)); have HZ1 := Lib.hid (bst HB1.out HY1.out); have HR1 := Lib.hid hr1; have HT1 := Lib.hid (HP3.out _ HZ1.out); obtain ⟨k0, f1⟩ := HQ.out _ HZ1.out; obtain ⟨e0, e1, e2⟩ := HDC.out _ HY1.out; clear hr1 hg1 f1)
        | (at_builtin; refine wpList_appR rfl _ _ rfl w.heap.size v1 (0 + p) ([] ++ r.take p) (r.drop p) rfl HR1.out (cutR (some ⟨bb, oo, none⟩) c p) (r.length - p) (c - p) rfl HT1.out (by omega) HZ1.out.size ?_; intro v3 w3 hr3 hg3; obtain ⟨n3, hn3⟩ : ∃ n3, 0 + p + (r.length - p) = n3 := ⟨_, rfl⟩; rw [hn3] at hr3; have HN3 := Lib.hid hn3; clear hn3; obtain ⟨A3, cc3, rfl, hat3⟩ := hr3.form; clear hat3; have HB3 := Lib.hid (HZ1.out.grown hg3 HZ1.out.size (fun k e => (World.ownsRow.lt HR1.out k e).1)); have HR3 := Lib.hid hr3; obtain ⟨k1, f2⟩ := HQ.out _ HB3.out; clear hr3 hg3))
      go_end0
      have hr := HR3.out
      have hle := HLEN.out
      obtain ⟨r1, r2, r3⟩ := HRN.out w3 _ HB3.out n3 (by have e3 := HN3.out; omega) (by
        rw [HKE.out]
        rw [List.nil_append] at hr
        rw [List.append_nil]
        exact hr)
      exact ⟨⟨_, rfl⟩, _, r1, r2, r3⟩
    | false =>
      simp only [if_false, Bool.false_eq_true] at HKE HLEN
      go_enter Tryz.func64, Tryz.ntmps64
      go_wp2_with (first | (go_at_call 111; refine AT.out.mono ?_; rintro e w2 ⟨rfl, hw⟩; cases hw))
      go_quiet (fail)
      have HX1 := Lib.hid (show Below W1.heap.size W1 ((w.alloc (.cells #[.string key, .string value, .bool false] 93)).drewN nq) from by rw [HW.out]; exact ⟨rfl, rfl, rfl, Nat.le_refl _, fun _ _ => rfl⟩)
      have HBX := Lib.hid (bst HB1.out HX1.out)
      clear c0 d0 d1 d2
      generalize (w.alloc (.cells #[.string key, .string value, .bool false] 93)).drewN nq = X at *
      obtain ⟨c0, f0⟩ := HQ.out X HBX.out
      obtain ⟨d0, d1, d2⟩ := HDC.out X HX1.out
      go_wp2_with (first
        | (at_builtin; refine wpList_appR rfl _ _ rfl w.heap.size (.slice none 0 0) 0 [] (r.take p) rfl (RRow.nil _ _) (some ⟨bb, oo, none⟩) p c rfl (HP1.out _ HBX.out) (by omega) HBX.out.size ?_; intro v1 w1 hr1 hg1; have HY1 := Lib.hid (HX1.out.grown hg1 HX1.out.size (fun k e => nomatch e)); have HZ1 := Lib.hid (bst HB1.out HY1.out); have HR1 := Lib.hid (hr1.keep (nbl w1 (.cells #[.string key, .string value] 70))); have HI1 := Lib.hid (row_one w1 key value); have HY2 := Lib.hid (bsa HY1.out (.cells #[.string key, .string value] 70)); have HZ2 := Lib.hid (bst HB1.out HY2.out); obtain ⟨k0, f1⟩ := HQ.out _ HZ1.out; obtain ⟨e0, e1, e2⟩ := HDC.out _ HY1.out; clear hr1 hg1 f1)
        | (at_builtin; refine wpList_appR rfl _ _ rfl w.heap.size v1 (0 + p) ([] ++ r.take p) [⟨key, value⟩] rfl HR1.out (some ⟨w1.heap.size, 0, none⟩) 1 1 rfl HI1.out (by omega) HZ2.out.size ?_; intro v2 w2 hr2 hg2; have HB2 := Lib.hid (HZ2.out.grown hg2 HZ2.out.size (fun k e => (World.ownsRow.lt HR1.out k e).1)); have HR2 := Lib.hid hr2; have HT2 := Lib.hid (HP3.out _ HB2.out); obtain ⟨k2, f2⟩ := HQ.out _ HB2.out; clear hr2 hg2 f2)
        | (at_builtin; refine wpList_appR rfl _ _ rfl w.heap.size v2 (0 + p + 1) ([] ++ r.take p ++ [⟨key, value⟩]) (r.drop p) rfl HR2.out (cutR (some ⟨bb, oo, none⟩) c p) (r.length - p) (c - p) rfl HT2.out (by omega) HB2.out.size ?_; intro v3 w3 hr3 hg3; obtain ⟨n3, hn3⟩ : ∃ n3, 0 + p + 1 + (r.length - p) = n3 := ⟨_, rfl⟩; rw [hn3] at hr3; have HN3 := Lib.hid hn3; clear hn3; obtain ⟨A3, cc3, rfl, hat3⟩ := hr3.form; clear hat3; have HB3 := Lib.hid (HB2.out.grown hg3 HB2.out.size (fun k e => (World.ownsRow.lt HR2.out k e).1)); have HR3 := Lib.hid hr3; obtain ⟨k1, f2⟩ := HQ.out _ HB3.out; clear hr3 hg3))
      go_end0
      have hr := HR3.out
      have hle := HLEN.out
      obtain ⟨r1, r2, r3⟩ := HRN.out w3 _ HB3.out n3 (by have e3 := HN3.out; omega) (by
        rw [HKE.out]
        rw [List.nil_append] at hr
        exact hr)
      exact ⟨⟨_, rfl⟩, _, r1, r2, r3⟩
  · rw [hq] at HP3 HKE HLEN hSL2 hrl
    clear hkc hq hh
    generalize hpp : rpos r key = p at *
    clear hpp
    obtain rfl : p = r.length := by omega
    have hng : decide ((r.length : Int) < (r.length : Int)) = false := decide_eq_false (by omega)
    clear hlt hpl
    cases del with
    | true =>
      simp only [if_true] at HKE HLEN
      go_enter Tryz.func64, Tryz.ntmps64
      go_wp2_with (first | (go_at_call 111; refine AT.out.mono ?_; rintro e w2 ⟨rfl, hw⟩; cases hw))
      go_quiet (fail)
      have HX1 := Lib.hid (show Below W1.heap.size W1 ((w.alloc (.cells #[.string key, .string value, .bool true] 93)).drewN nq) from by rw [HW.out]; exact ⟨rfl, rfl, rfl, Nat.le_refl _, fun _ _ => rfl⟩)
      have HBX := Lib.hid (bst HB1.out HX1.out)
      clear c0 d0 d1 d2
      generalize (w.alloc (.cells #[.string key, .string value, .bool true] 93)).drewN nq = X at *
      obtain ⟨c0, f0⟩ := HQ.out X HBX.out
      obtain ⟨d0, d1, d2⟩ := HDC.out X HX1.out
      go_wp2_with (first
        | (at_builtin; refine wpList_appR rfl _ _ rfl w.heap.size (.slice none 0 0) 0 [] (r.take r.length) rfl (RRow.nil _ _) A r.length c rfl (HP1.out _ HBX.out) (by omega) HBX.out.size ?_; intro v1 w1 hr1 hg1; have HY1 := Lib.hid (HX1.out.grown hg1 HX1.out.size (fun k e => nomatch e)); have HZ1 := Lib.hid (bst HB1.out HY1.out); have HR1 := Lib.hid hr1; have HT1 := Lib.hid (HP3.out _ HZ1.out); obtain ⟨k0, f1⟩ := HQ.out _ HZ1.out; obtain ⟨e0, e1, e2⟩ := HDC.out _ HY1.out; clear hr1 hg1 f1)
        | (at_builtin; refine wpList_appR rfl _ _ rfl w.heap.size v1 (0 + r.length) ([] ++ r.take r.length) [] rfl HR1.out (cutR A c r.length) 0 (c - r.length) rfl (WAt.nil _ _) (by omega) HZ1.out.size ?_; intro v3 w3 hr3 hg3; obtain ⟨n3, hn3⟩ : ∃ n3, 0 + r.length + 0 = n3 := ⟨_, rfl⟩; rw [hn3] at hr3; have HN3 := Lib.hid hn3; clear hn3; obtain ⟨A3, cc3, rfl, hat3⟩ := hr3.form; clear hat3; have HB3 := Lib.hid (HZ1.out.grown hg3 HZ1.out.size (fun k e => (World.ownsRow.lt HR1.out k e).1)); have HR3 := Lib.hid hr3; obtain ⟨k1, f2⟩ := HQ.out _ HB3.out; clear hr3 hg3))
      go_end0
      have hr := HR3.out
      have hle := HLEN.out
      obtain ⟨r1, r2, r3⟩ := HRN.out w3 _ HB3.out n3 (by have e3 := HN3.out; omega) (by
        rw [HKE.out, List.drop_length]
        rw [List.nil_append] at hr
        rw [List.append_nil]
        exact hr)
      exact ⟨⟨_, rfl⟩, _, r1, r2, r3⟩
    | false =>
      simp only [if_false, Bool.false_eq_true] at HKE HLEN
      go_enter Tryz.func64, Tryz.ntmps64
      go_wp2_with (first | (go_at_call 111; refine AT.out.mono ?_; rintro e w2 ⟨rfl, hw⟩; cases hw))
      go_quiet (fail)
      have HX1 := Lib.hid (show Below W1.heap.size W1 ((w.alloc (.cells #[.string key, .string value, .bool false] 93)).drewN nq) from by rw [HW.out]; exact ⟨rfl, rfl, rfl, Nat.le_refl _, fun _ _ => rfl⟩)
      have HBX := Lib.hid (bst HB1.out HX1.out)
      clear c0 d0 d1 d2
      generalize (w.alloc (.cells #[.string key, .string value, .bool false] 93)).drewN nq = X at *
      obtain ⟨c0, f0⟩ := HQ.out X HBX.out
      obtain ⟨d0, d1, d2⟩ := HDC.out X HX1.out
      go_wp2_with (first
        | (at_builtin; refine wpList_appR rfl _ _ rfl w.heap.size (.slice none 0 0) 0 [] (r.take r.length) rfl (RRow.nil _ _) A r.length c rfl (HP1.out _ HBX.out) (by omega) HBX.out.size ?_; intro v1 w1 hr1 hg1; have HY1 := Lib.hid (HX1.out.grown hg1 HX1.out.size (fun k e => nomatch e)); have HZ1 := Lib.hid (bst HB1.out HY1.out); have HR1 := Lib.hid (hr1.keep (nbl w1 (.cells #[.string key, .string value] 70))); have HI1 := Lib.hid (row_one w1 key value); have HY2 := Lib.hid (bsa HY1.out (.cells #[.string key, .string value] 70)); have HZ2 := Lib.hid (bst HB1.out HY2.out); obtain ⟨k0, f1⟩ := HQ.out _ HZ1.out; obtain ⟨e0, e1, e2⟩ := HDC.out _ HY1.out; clear hr1 hg1 f1)
        | (at_builtin; refine wpList_appR rfl _ _ rfl w.heap.size v1 (0 + r.length) ([] ++ r.take r.length) [⟨key, value⟩] rfl HR1.out (some ⟨w1.heap.size, 0, none⟩) 1 1 rfl HI1.out (by omega) HZ2.out.size ?_; intro v2 w2 hr2 hg2; have HB2 := Lib.hid (HZ2.out.grown hg2 HZ2.out.size (fun k e => (World.ownsRow.lt HR1.out k e).1)); have HR2 := Lib.hid hr2; have HT2 := Lib.hid (HP3.out _ HB2.out); obtain ⟨k2, f2⟩ := HQ.out _ HB2.out; clear hr2 hg2 f2)
        | (at_builtin; refine wpList_appR rfl _ _ rfl w.heap.size v2 (0 + r.length + 1) ([] ++ r.take r.length ++ [⟨key, value⟩]) [] rfl HR2.out (cutR A c r.length) 0 (c - r.length) rfl (WAt.nil _ _) (by omega) HB2.out.size ?_; intro v3 w3 hr3 hg3; obtain ⟨n3, hn3⟩ : ∃ n3, 0 + r.length + 1 + 0 = n3 := ⟨_, rfl⟩; rw [hn3] at hr3; have HN3 := Lib.hid hn3; clear hn3; obtain ⟨A3, cc3, rfl, hat3⟩ := hr3.form; clear hat3; have HB3 := Lib.hid (HB2.out.grown hg3 HB2.out.size (fun k e => (World.ownsRow.lt HR2.out k e).1)); have HR3 := Lib.hid hr3; obtain ⟨k1, f2⟩ := HQ.out _ HB3.out; clear hr3 hg3))
      go_end0
      have hr := HR3.out
      have hle := HLEN.out
      obtain ⟨r1, r2, r3⟩ := HRN.out w3 _ HB3.out n3 (by have e3 := HN3.out; omega) (by
        rw [HKE.out, List.drop_length]
        rw [List.nil_append] at hr
        exact hr)
      exact ⟨⟨_, rfl⟩, _, r1, r2, r3⟩
end
end Go.Proofs.YtgccichmdddbpaaGreatDoor
set_option linter.unusedVariables false
namespace Go.Proofs.YtgccichmdddbpaaGreatDoor
open Go.RowKit

instance decOp : DecidableEq Op_ := fun a b => by
  cases a; cases b
  simp only [Op_.mk.injEq]
  infer_instance
instance decRw : DecidableEq Rw := fun a b => by
  cases a; cases b
  simp only [Rw.mk.injEq]
  infer_instance
set_option maxRecDepth 100000 in
set_option maxHeartbeats 4000000 in
theorem rt_check (A : Option Addr) (n c : Nat) (l : List Op_) (w : World) (hx : OAt w A n l) (hn : n ≤ 9223372036854775807) :
    Calls Tryz.prog 63 #[.slice A n c] w fun e w' => e = .returned (.int .i64 (chk l)) ∧ Below w.heap.size w w' := by
  have hl := hx.1
  have HX := Lib.hid hx
  clear hx
  by_cases hbig : 128 < n
  · have he : chk l = 5 := by unfold chk; rw [if_pos (by omega)]
    rw [he]
    go_enter Tryz.func63, Tryz.ntmps63
    go_wp2
    go_ret
    exact ⟨rfl, Below.refl _ _⟩
  · go_enter Tryz.func63, Tryz.ntmps63
    go_wp2
    go_loopw [3] (fun i wr => ∃ k : Nat, k ≤ n ∧ i = .int .i64 k ∧ Hid ((l.take k).any opBad = false) ∧ Hid (Below w.heap.size w wr)) (fun i _ => n - (intOf i).toNat)
    case atStart => exact ⟨0, Nat.zero_le _, rfl, Lib.hid rfl, Lib.hid (Below.refl _ _)⟩
    case round =>
      obtain ⟨j, hj, rfl, HM, HB⟩ := hrel
      by_cases hlt : j < n
      · obtain ⟨b, o, rfl, hc⟩ := (HX.out.below HB.out).2 (by omega)
        obtain ⟨c0, c1, c2⟩ := hc j (by omega)
        have hs := any_take_succ opBad l j (by omega) HM.out
        have ha := any_of_get opBad l j (by omega)
        obtain ⟨⟨key, value, del⟩, hg⟩ : ∃ q, l[j]'(by omega) = q := ⟨_, rfl⟩
        rw [hg] at c0 c1 c2 hs ha
        clear hc
        have hb : opBad ⟨key, value, del⟩ = (key.toList.isEmpty || (del && !value.toList.isEmpty)) := rfl
        rw [hb] at hs ha
        have BAD := Lib.hid (fun (h : (key.toList.isEmpty || (del && !value.toList.isEmpty)) = true) => chk_any (by omega) (ha h))
        have HS := Lib.hid hs
        clear hb hs ha
        have YES := Lib.hid (fun (V : World) (h : Below wr.heap.size wr V) => (show Below w.heap.size w V from HB.out.trans (h.mono HB.out.size)))
        cases hk : key.toList.isEmpty with
        | true =>
          have hk' : key.toList = [] := by simpa using hk
          have he := BAD.out (by rw [hk]; rfl)
          have HE := Lib.hid he
          clear BAD HS he
          go_wp2
          go_ret
          exact ⟨by rw [HE.out]; rfl, YES.out _ (Below.refl _ _)⟩
        | false =>
          have hk' : ¬ key.toList = [] := fun e => by rw [e] at hk; cases hk
          cases del with
          | false =>
            have hs := HS.out
            rw [hk] at hs
            have HS2 := Lib.hid hs
            clear BAD HS hs
            go_wp2
            go_roundw
            case rel => exact ⟨j + 1, by omega, by go_num, HS2, Lib.hid (YES.out _ (Below.refl _ _))⟩
            case measure => simp [intOf]; omega
          | true =>
            cases hv : value.toList.isEmpty with
            | true =>
              have hv' : value.toList = [] := by simpa using hv
              have hs := HS.out
              rw [hk, hv] at hs
              have HS2 := Lib.hid hs
              clear BAD HS hs
              go_wp2
              go_roundw
              case rel => exact ⟨j + 1, by omega, by go_num, HS2, Lib.hid (YES.out _ (Below.refl _ _))⟩
              case measure => simp [intOf]; omega
            | false =>
              have hv' : ¬ value.toList = [] := fun e => by rw [e] at hv; cases hv
              have he := BAD.out (by rw [hk, hv]; rfl)
              have HE := Lib.hid he
              clear BAD HS he
              go_wp2
              go_ret
              exact ⟨by rw [HE.out]; rfl, YES.out _ (Below.refl _ _)⟩
      · obtain rfl : j = n := by omega
        have hm := HM.out
        rw [List.take_of_length_le (by omega)] at hm
        have he : chk l = 0 := by
          unfold chk
          rw [if_neg (by omega), if_neg (by rw [hm]; decide)]
        have HE := Lib.hid he
        clear he hm
        go_wp2
        go_ret
        exact ⟨by rw [HE.out]; rfl, HB.out⟩

/-- The document's table, as rows. -/
def rtA (b : Nat) (r : List Rw) : As where
  p V F := ∃ v, RtR V b v r ∧ ∀ k, F k ↔ rtF b v k
  on {V V' F} h hs hk := by
    obtain ⟨v, hR, hF⟩ := h
    exact ⟨v, hR.on (fun k e2 => hk k ((hF k).2 e2)), hF⟩
  lt {V F} h k e := by
    obtain ⟨v, hR, hF⟩ := h
    exact hR.lt ((hF k).1 e)
/-- What a call makes of a thing. -/
def AsTurn (A' : As) (F : Nat → Prop) (V w' : World) : Prop := ∃ F', A'.p w' F' ∧ Grow F V w' ∧ ∀ k, F' k → nF F V w' k
theorem AsTurn.trans {A1 A2 : As} {F : Nat → Prop} {V V1 V2 : World} (h : AsTurn A1 F V V1) (h2 : ∀ F1, A1.p V1 F1 → AsTurn A2 F1 V1 V2) : AsTurn A2 F V V2 := by
  obtain ⟨F1, a1, g1, n1⟩ := h
  obtain ⟨F2, a2, g2, n2⟩ := h2 F1 a1
  refine ⟨F2, a2, g1.trans (g2.mono n1), fun k e => ?_⟩
  rw [← nF_trans g1.size g2.size]
  exact (n2 k e).imp (n1 k) id
theorem AsTurn.below {A : As} {F : Nat → Prop} {V V' : World} (h : A.p V F) (hb : Below V.heap.size V V') : AsTurn A F V V' :=
  ⟨F, A.on h hb.size (fun k e => hb.block k (A.lt h k e)), Grow.of_below hb, fun k e => .inl e⟩
section
variable {V V' w : World} {b : Nat} {v v' : Value} {r r' : List Rw} {F : Nat → Prop}
theorem rt_oneA (h : (rtA b r).p V F) (o : Op_) (hl : r.length ≤ 1000000000) :
    Calls Tryz.prog 64 #[pt b, .agg #[.string o.key, .string o.value, .bool o.del]] V fun e w' => (∃ u, e = .returned u) ∧ AsTurn (rtA b (rone r o)) F V w' := by
  obtain ⟨v, hR, hF⟩ := h
  refine (rt_one V b v r o.key o.value o.del hR hl).mono ?_
  rintro e w' ⟨hu, v', a, g, n⟩
  exact ⟨hu, rtF b v', ⟨v', a, fun k => Iff.rfl⟩, g.mono (fun k e => (hF k).2 e), fun k e => (n k e).imp (fun e => (hF k).2 e) id⟩
set_option maxRecDepth 100000 in
set_option maxHeartbeats 4000000 in
theorem rt_apply (h : (rtA b r).p V F) (A : Option Addr) (n c : Nat) (l : List Op_) (hop : ∀ W, Grow F V W → OAt W A n l) (hn : n ≤ 9223372036854775807) (hr : r.length ≤ 999999000) :
    Calls Tryz.prog 20 #[pt b, .slice A n c] V fun e w' => e = .returned (.int .i64 (chk l)) ∧ AsTurn (rtA b (rapp r l)) F V w' := by
  have CH := Lib.hid (rt_check A n c l V (hop V (Grow.refl _ _)) hn)
  have hln := (hop V (Grow.refl _ _)).1
  have H := Lib.hid h
  have HOP := Lib.hid hop
  clear h hop
  by_cases hc : chk l = 0
  · obtain ⟨h128, hbad⟩ := chk_ok hc
    rw [hc] at CH
    have e0 : rapp r l = l.foldl rone r := by unfold rapp; rw [if_pos hc]
    rw [hc, e0]
    have HST := Lib.hid (fun (k : Nat) (hk : k < l.length) => (show ((l.take k).foldl rone r).length ≤ 1000000000 from by
      have hg : ∀ (l : List Op_) (r : List Rw), (l.foldl rone r).length ≤ r.length + l.length := by
        intro l
        induction l with
        | nil => intro r; simp
        | cons o l ih => intro r; have h1 := ih (rone r o); have h2 := rone_len r o; rw [List.foldl_cons, List.length_cons]; omega
      have := hg (l.take k) r
      rw [List.length_take] at this
      omega))
    have HLN := Lib.hid hln
    clear hr hbad hc e0
    go_enter Tryz.func20, Tryz.ntmps20
    go_wp2_with (first
      | (go_at_call 63; refine CH.out.mono ?_; rintro e w3 ⟨rfl, hb3⟩))
    have T0 := Lib.hid (show AsTurn (rtA b ((l.take 0).foldl rone r)) F V w3 from AsTurn.below H.out hb3)
    clear hb3 CH
    go_loopw [6] (fun i wr => ∃ k : Nat, k ≤ n ∧ i = .int .i64 k ∧ Hid (AsTurn (rtA b ((l.take k).foldl rone r)) F V wr)) (fun i _ => n - (intOf i).toNat)
    case atStart => exact ⟨0, Nat.zero_le _, rfl, T0⟩
    case round =>
      obtain ⟨k, hk, rfl, HT⟩ := hrel
      by_cases hlt : k < n
      · obtain ⟨F', hA, hG, hN2⟩ := HT.out
        have hlt2 : k < l.length := by omega
        obtain ⟨bb, o, rfl, hcc⟩ := (HOP.out wr hG).2 (by omega)
        obtain ⟨c0, c1, c2⟩ := hcc k hlt2
        have CHG := Lib.hid (rt_oneA hA (l[k]'hlt2) (HST.out k hlt2))
        have HSC := Lib.hid (rfold_succ r l hlt2)
        have HX := Lib.hid (fun (w5 : World) (ht : AsTurn (rtA b (rone ((l.take k).foldl rone r) (l[k]'hlt2))) F' wr w5) => (show AsTurn (rtA b ((l.take (k + 1)).foldl rone r)) F V w5 from by
          rw [HSC.out]
          obtain ⟨F5, a5, g5, n5⟩ := ht
          refine ⟨F5, a5, hG.trans (g5.mono hN2), fun k e => ?_⟩
          rw [← nF_trans hG.size g5.size]
          exact (n5 k e).imp (hN2 k) id))
        clear hcc hA hG hN2 HSC
        generalize (l[k]'hlt2) = op at *
        obtain ⟨key, value, del⟩ := op
        simp only at c0 c1 c2 CHG HX
        go_wp2_with (first
          | (go_at_call 64; refine CHG.out.mono ?_; rintro e w5 ⟨⟨u5, rfl⟩, hT5⟩))
        go_roundw
        case rel => exact ⟨k + 1, by omega, by go_num, Lib.hid (HX.out _ hT5)⟩
        case measure => simp [intOf]; omega
      · obtain rfl : k = n := by omega
        have ht := HT.out
        rw [List.take_of_length_le (by have := HLN.out; omega)] at ht
        have HT1 := Lib.hid ht
        clear ht
        go_wp2_with fail
        go_ret
        exact ⟨rfl, HT1.out⟩
  · have e0 : rapp r l = r := by unfold rapp; rw [if_neg hc]
    rw [e0]
    have hne : (((chk l : Nat) : Int) != 0) = true := by simpa using hc
    clear hr
    generalize chk l = e at *
    go_enter Tryz.func20, Tryz.ntmps20
    go_wp2_with (first
      | (go_at_call 63; refine CH.out.mono ?_; rintro e w3 ⟨rfl, hb3⟩))
    go_ret
    exact ⟨rfl, AsTurn.below H.out hb3⟩
end
end Go.Proofs.YtgccichmdddbpaaGreatDoor
