/-
  Layer 9: the document's list: Step, Put, Drop.
-/
import Derived.Test.YtcpbcoeccplliaaSkRefAsk
set_option linter.unusedVariables false
namespace Go.Proofs.Ytcpbcoeccplliaa
open Go.RowKit

theorem kstep_take {l : List Kv} {i : Nat} (n : Nat) (hi : i < l.length) : kstep (l.take (i + 1)) n = kstep (l.take i) n ++ if n ≤ (l[i]'hi).st then [(l[i]'hi).key] else [] := by
  unfold kstep
  rw [List.take_succ_eq_append_getElem hi, List.filter_append, List.map_append, List.filter_cons]
  by_cases h : n ≤ (l[i]'hi).st
  · rw [if_pos (decide_eq_true h), if_pos h]; rfl
  · rw [if_neg (by rw [decide_eq_false h]; decide), if_neg h]; rfl
theorem kstep_len (l : List Kv) (n : Nat) : (kstep l n).length ≤ l.length := by unfold kstep; rw [List.length_map]; exact List.length_filter_le _ _
set_option maxRecDepth 100000 in
set_option maxHeartbeats 4000000 in
theorem rf_step (w : World) (b : Nat) (v : Value) (l : List Kv) (n : Int) (h : RfR w b v l) (hL : l.length ≤ 1000000000) (hn1 : -9223372036854775808 ≤ n) (hn2 : n ≤ 9223372036854775807) :
    Calls Try.prog 26 #[pt b, .int .i64 n] w fun e w' => ∃ v, e = .returned v ∧ w'.ownsRow w.heap.size 9 1 v (if 1 ≤ n then kstep l n.toNat else []).length ((if 1 ≤ n then kstep l n.toNat else []).map Value.string) ∧ Below w.heap.size w w' := by
  obtain ⟨A, c, rfl, hat, hnc, hcm⟩ := h.row.form
  have HQ := Lib.hid (fun V (hb : Below w.heap.size w V) => (show V.cell? ⟨b, 0, none⟩ = some (.slice A l.length c) from (h.below hb).obj.cell 0))
  have HA := Lib.hid (fun V (hb : Below w.heap.size w V) => hat.below hb)
  have c0 := HQ.out w (Below.refl _ _)
  have HL := Lib.hid hL
  have HLT := Lib.hid (show b < w.heap.size from h.obj.lt)
  obtain ⟨i0, hi0, hz, hsz, hby⟩ := info_parts info9s
  by_cases hn : 1 ≤ n
  · rw [if_pos hn]
    obtain ⟨m, rfl⟩ : ∃ m : Nat, n = (m : Int) := ⟨n.toNat, by omega⟩
    rw [show ((m : Int)).toNat = m from by omega]
    clear h hat hL
    go_enter Try.func26, Try.ntmps26
    go_wp2_with fail
    clear c0
    go_loopw [5, 6] (fun ov iv wr => ∃ i : Nat, i ≤ l.length ∧ iv = .int .i64 i ∧ Hid (wr.ownsRow w.heap.size 9 1 ov (kstep (l.take i) m).length ((kstep (l.take i) m).map Value.string)) ∧ Hid (Below w.heap.size w wr)) (fun _ iv _ => l.length - (intOf iv).toNat)
    case atStart => exact ⟨0, Nat.zero_le _, rfl, Lib.hid (World.ownsRow_nil _ _ _ _), Lib.hid (Below.refl _ _)⟩
    case round =>
      obtain ⟨i, hi, rfl, HW, HB⟩ := hrel
      have c0 := HQ.out wr HB.out
      by_cases hlt : i < l.length
      · obtain ⟨bb, o, rfl, hc⟩ := (HA.out wr HB.out).2 (by omega)
        obtain ⟨c1, c2, c3⟩ := hc i hlt
        have hk := kstep_take m hlt
        have hkl := kstep_len (l.take i) m
        rw [List.length_take] at hkl
        obtain ⟨⟨key, val, st⟩, hg⟩ : ∃ x, l[i]'hlt = x := ⟨_, rfl⟩
        rw [hg] at c1 c3 hk
        simp only at c1 c3 hk
        by_cases hge : m ≤ st
        · rw [if_pos hge] at hk
          have HX := Lib.hid hk
          have hbd : ((kstep (l.take i) m).length + 1) * 16 ≤ 140737488355328 := by have := HL.out; omega
          have HBD := Lib.hid hbd
          have HB9 := Lib.hid (HB.out.alloc HB.out.size (.cells #[.string key] 9))
          have HO2 := Lib.hid (HW.out.alloc (.cells #[.string key] 9))
          have hge2 : (m : Int) ≤ (st : Int) := by omega
          clear hbd hk hc c2 hg HW hkl
          go_wp2_with (at_builtin; refine wpList_append_own _ rfl _ _ 36 rfl w.heap.size 9 i0 _ 1 16 Try.underlying36 hi0 hz hsz hby rfl (by decide) u5 _ _ rfl HO2.out ⟨wr.heap.size, 0, none⟩ 1 1 [.string key] rfl rfl (row_one wr key) (by simp [Value.oneCell']) (by unfold maxLen; have := HBD.out; omega) HBD.out HB9.out.size ?_; intro v' w1 hown1 hgrow _; have HO1 := Lib.hid hown1; have HB1 := Lib.hid (HB9.out.grown hgrow HB9.out.size (fun k e => (HO2.out.lt k e).1)); clear hown1 hgrow)
          go_roundw
          case rel => exact ⟨i + 1, by omega, by go_num, by rw [HX.out, List.length_append, List.map_append]; exact HO1, HB1⟩
          case measure => simp [intOf]; omega
        · rw [if_neg hge, List.append_nil] at hk
          have HX := Lib.hid hk
          have hge2 : ¬ (m : Int) ≤ (st : Int) := by omega
          clear hk hc c2 hg hkl
          go_wp2_with fail
          go_roundw
          case rel => exact ⟨i + 1, by omega, by go_num, by rw [HX.out]; exact HW, HB⟩
          case measure => simp [intOf]; omega
      · obtain rfl : i = l.length := by omega
        rw [List.take_of_length_le (Nat.le_refl _)] at HW
        go_wp2_with fail
        go_ret
        exact ⟨_, rfl, HW.out, HB.out⟩
  · rw [if_neg hn]
    clear h hat hL
    have hn0 : ¬ (0 < n) := by omega
    go_enter Try.func26, Try.ntmps26
    go_wp2_with fail
    go_loopw [5, 6] (fun ov iv wr => iv = .int .i64 0 ∧ ov = .slice none 0 0 ∧ wr = w) (fun _ iv _ => 0)
    case atStart => exact ⟨rfl, rfl, rfl⟩
    case round =>
      obtain ⟨rfl, rfl, hwr⟩ := hrel
      obtain rfl : w = wr := hwr.symm
      by_cases hl : 0 < l.length
      · go_wp2_with fail
        go_ret
        exact ⟨_, rfl, World.ownsRow_nil _ _ _ _, Below.refl _ _⟩
      · go_wp2_with fail
        go_ret
        exact ⟨_, rfl, World.ownsRow_nil _ _ _ _, Below.refl _ _⟩
theorem Nums.put {l : List Kv} (h : Nums l) (k : ByteArray) (n : Int) (s : Nat) : Nums (kput l k (.int .i64 n) s) := by
  unfold kput
  intro x hx
  split at hx
  · rcases List.mem_or_eq_of_mem_set hx with h1 | h1
    · exact h x h1
    · subst h1; exact ⟨n, rfl⟩
  · rcases List.mem_append.1 hx with h1 | h1
    · exact h x (List.mem_of_mem_take h1)
    · rcases List.mem_cons.1 h1 with h1 | h1
      · subst h1; exact ⟨n, rfl⟩
      · exact h x (List.mem_of_mem_drop h1)
theorem Nums.drop {l : List Kv} (h : Nums l) (k : ByteArray) : Nums (kdrop l k) := by
  unfold kdrop
  intro x hx
  split at hx
  · rcases List.mem_append.1 hx with h1 | h1
    · exact h x (List.mem_of_mem_take h1)
    · exact h x (List.mem_of_mem_drop h1)
  · exact h x hx
/-- Where 'l[k:]' begins. -/
def cutK (A : Option Addr) (m l : Nat) : Option Addr := if m = l then A else A.map (·.add (l * 3))
theorem LAt.head {w : World} {A : Option Addr} {n : Nat} {l : List Kv} (h : LAt w A n l) {p : Nat} (hp : p ≤ n) : LAt w A p (l.take p) := by
  refine ⟨by rw [List.length_take, h.1]; omega, fun h0 => ?_⟩
  obtain ⟨b, o, e, hc⟩ := h.2 (by omega)
  refine ⟨b, o, e, fun i hi => ?_⟩
  rw [List.length_take] at hi
  rw [List.getElem_take]
  exact hc i (by omega)
theorem LAt.tail {w : World} {A : Option Addr} {n : Nat} {l : List Kv} (h : LAt w A n l) {p c : Nat} (hp : p ≤ n) (hc : n ≤ c) : LAt w (cutK A c p) (n - p) (l.drop p) := by
  refine ⟨by rw [List.length_drop, h.1], fun h0 => ?_⟩
  obtain ⟨b, o, rfl, hcc⟩ := h.2 (by omega)
  refine ⟨b, o + p * 3, ?_, fun i hi => ?_⟩
  · unfold cutK
    rw [if_neg (by omega)]
    simp only [Option.map_some]
    rw [Go.WideShapes.add_plain]
  · rw [List.length_drop] at hi
    rw [List.getElem_drop]
    obtain ⟨c1, c2, c3⟩ := hcc (p + i) (by omega)
    rw [show o + p * 3 + i * 3 = o + (p + i) * 3 by omega]
    exact ⟨c1, c2, c3⟩
theorem slk_size (w : World) : (sizeOf 69).run Try.prog w = .ok 3 w := by kernel_rfl
theorem slk_elem : Try.prog.elem 62 = 69 := by kernel_rfl
theorem slk_under : Try.prog.underlying 62 = some (.slice (Try.prog.elem 62)) := by rw [slk_elem]; exact Try.underlying62
theorem slk_l (A : Option Addr) (n c : Nat) (kl : IntKind) (l : Int) (w : World) (h0 : 0 ≤ l) (h1 : l ≤ n) :
    (Instr.slice 62 (.slice A n c) (some (.int kl l)) none none).run Try.prog w = .ok (.slice (cutK A c l.toNat) (n - l.toNat) (c - l.toNat)) w := by
  rw [run_slice_l w 62 A n c slk_under kl l h0 h1, slk_elem, slk_size]
  rfl
theorem slk_h (A : Option Addr) (n c : Nat) (kh : IntKind) (h : Int) (w : World) (h0 : 0 ≤ h) (h2 : h ≤ c) :
    (Instr.slice 62 (.slice A n c) none (some (.int kh h)) none).run Try.prog w = .ok (.slice A h.toNat c) w := by
  rw [run_slice_h w 62 A n c slk_under kh h h0 h2, slk_elem, slk_size]
  simp only [Result.andThen, sliced, Nat.sub_zero, Nat.zero_mul]
  congr 2
  split
  · rfl
  · cases A with
    | none => rfl
    | some a => simp [Addr.add]
theorem kfl_set : ∀ (l : List Kv) (p : Nat) (hp : p < l.length) (v : Value), (kfl l).set (p * 3 + 1) v = kfl (l.set p ⟨(l[p]'hp).key, v, (l[p]'hp).st⟩)
  | x :: l, 0, _, v => by rw [kfl_cons, List.set_cons_zero, kfl_cons]; rfl
  | x :: l, p + 1, hp, v => by
    have ih := kfl_set l p (by simpa using hp) v
    rw [kfl_cons, show (p + 1) * 3 + 1 = p * 3 + 1 + 1 + 1 + 1 by omega, List.set_cons_succ, List.set_cons_succ, List.set_cons_succ, ih, List.set_cons_succ, kfl_cons]
    rfl
theorem item_one (w : World) (k : ByteArray) (n : Int) (s : Nat) : LAt (w.alloc (.cells #[.string k, .int .i64 n, .int .i64 (s : Int)] 69)) (some ⟨w.heap.size, 0, none⟩) 1 [⟨k, .int .i64 n, s⟩] := by
  have hx := heap_alloc_new w (.cells #[.string k, .int .i64 n, .int .i64 (s : Int)] 69)
  refine ⟨rfl, fun _ => ⟨_, 0, rfl, fun i hi => ?_⟩⟩
  obtain rfl : i = 0 := by simp at hi; omega
  exact ⟨cell_of_row _ _ 0 _ _ (0, 0) hx, cell_of_row _ _ 1 _ _ (0, 0) hx, cell_of_row _ _ 2 _ _ (0, 0) hx⟩
theorem KRow.base {w : World} {B B' n : Nat} {v : Value} {xs : List Kv} (h : KRow w B v n xs) (hB : B' ≤ B) : KRow w B' v n xs := by
  refine ⟨h.1, ?_⟩
  rcases h.2 with hn | ⟨g, cap, cur, hv, hb, rest⟩
  · exact .inl hn
  · exact .inr ⟨g, cap, cur, hv, by omega, rest⟩
/-- A new row is put in. -/
theorem RfR.renew {w V : World} {b : Nat} {v v' : Value} {l l' : List Kv} (h : RfR w b v l) (hb : Below w.heap.size w V) (hrow : KRow V w.heap.size v' l'.length l') (hn : Nums l') (hs : Sor l') :
    RfR (V.setCell ⟨b, 0, none⟩ v') b v' l' ∧ Grow (rfF b v) w (V.setCell ⟨b, 0, none⟩ v') ∧ ∀ k, rfF b v' k → nF (rfF b v) w (V.setCell ⟨b, 0, none⟩ v') k := by
  have hblt := h.obj.lt
  have hV := (h.below hb).obj
  have hrl := World.ownsRow.lt hrow
  have hne : ∀ k, v'.ownBlock = some k → k ≠ b := fun k e => by have := (hrl k e).1; omega
  refine ⟨⟨hV.set_ 0 v', ?_, hne, hn, hs⟩, (Grow.of_below hb).set (.inl (.inl rfl)) _, fun k e => ?_⟩
  · have h0 := hrow.base (Nat.zero_le _)
    refine World.ownsRow.kept h0 (row := some b) ⟨rfl, rfl, rfl, by simp [World.setCell], fun k hk hne2 => heap_setNe (fun e => hne2 (by rw [show k = b from e])) _⟩ ?_
    cases hv : v'.ownBlock with
    | none => exact .inl rfl
    | some q => exact .inr (fun e => hne q hv (by injection e))
  · rcases e with e | e
    · exact .inl (.inl e)
    · refine .inr ⟨(hrl k e).1, ?_⟩
      simp only [World.setCell, Array.size_modify]
      exact (hrl k e).2
/-- A value is set. -/
theorem RfR.setVal {w : World} {b q c : Nat} {l : List Kv} (h : RfR w b (.slice (some ⟨q, 0, none⟩) l.length c) l) {p : Nat} (hp : p < l.length) (n : Int) (hs : Sor (l.set p ⟨(l[p]'hp).key, .int .i64 n, (l[p]'hp).st⟩)) :
    RfR (w.setCell ⟨q, p * 3 + 1, none⟩ (.int .i64 n)) b (.slice (some ⟨q, 0, none⟩) l.length c) (l.set p ⟨(l[p]'hp).key, .int .i64 n, (l[p]'hp).st⟩) ∧ Grow (rfF b (.slice (some ⟨q, 0, none⟩) l.length c)) w (w.setCell ⟨q, p * 3 + 1, none⟩ (.int .i64 n)) := by
  have hqb := h.ne q rfl
  refine ⟨⟨(heap_setNe (Ne.symm hqb) _).trans h.obj, ?_, h.ne, fun x hx => ?_, hs⟩, (Grow.refl _ _).set (.inl (.inr rfl)) _⟩
  · have := (World.ownsRow.stored h.row (p * 3 + 1) (.int .i64 n)).1
    rw [kfl_set l p hp] at this
    rw [List.length_set]
    exact this
  · rcases List.mem_or_eq_of_mem_set hx with h1 | h1
    · exact h.nums x h1
    · subst h1; exact ⟨n, rfl⟩
set_option maxRecDepth 100000 in
set_option maxHeartbeats 8000000 in
theorem rf_put (w : World) (b : Nat) (v : Value) (l : List Kv) (key : ByteArray) (vn s : Int) (h : RfR w b v l) (hL : l.length ≤ 1000000000) (hs1 : -9223372036854775808 ≤ s) (hs2 : s ≤ 9223372036854775807) :
    Calls Try.prog 42 #[pt b, .string key, .int .i64 vn, .int .i64 s] w fun e w' => e = .returned (.bool (decide (1 ≤ s ∧ s ≤ 16))) ∧ ∃ v', RfR w' b v' (if 1 ≤ s ∧ s ≤ 16 then kput l key (.int .i64 vn) s.toNat else l) ∧ Grow (rfF b v) w w' ∧ ∀ k, rfF b v' k → nF (rfF b v) w w' k := by
  have AT := Lib.hid (rf_at w b v l key h)
  have HA := Lib.hid (rf_has w b v l key h)
  by_cases hs : 1 ≤ s ∧ s ≤ 16
  · rw [decide_eq_true hs, if_pos hs]
    obtain ⟨sn, rfl⟩ : ∃ n : Nat, s = (n : Int) := ⟨s.toNat, by omega⟩
    rw [show ((sn : Int)).toNat = sn from by omega]
    obtain ⟨hsa, hsb⟩ := hs
    have hpl := kpos_le l key
    have hsor := Sor.put h.sor key (.int .i64 vn) sn
    have hnum := h.nums.put key vn sn
    cases hh : khas l key with
    | true =>
      obtain ⟨hp, hk⟩ := (khas_iff _ _).1 hh
      have hke : kput l key (.int .i64 vn) sn = l.set (kpos l key) ⟨(l[kpos l key]'hp).key, .int .i64 vn, (l[kpos l key]'hp).st⟩ := by
        unfold kput
        rw [hh, if_pos rfl, stAt_eq hp, hk]
      rw [hke] at hsor ⊢
      rw [hh] at HA
      obtain ⟨q, c, rfl⟩ : ∃ q c, v = .slice (some ⟨q, 0, none⟩) l.length c := by
        rcases h.row.2 with ⟨rfl, h0⟩ | ⟨g, cap, cur, rfl, _⟩
        · omega
        · exact ⟨g, cap, rfl⟩
      obtain ⟨r1, r2⟩ := h.setVal hp vn hsor
      have HR1 := Lib.hid r1
      have HR2 := Lib.hid r2
      have c0 : w.cell? ⟨b, 0, none⟩ = some (.slice (some ⟨q, 0, none⟩) l.length c) := h.obj.cell 0
      have c1 : w.cell? ⟨q, kpos l key * 3 + 1, none⟩ = some (l[kpos l key]'hp).val := by
        have e := World.ownsRow.cellAt h.row (kpos l key * 3 + 1) (by omega)
        rw [e]
        exact (kfl_get l _ hp).2.1
      have f1 := World.ownsRow.frozenAt h.row (kpos l key * 3 + 1)
      have hnc : l.length ≤ c ∧ c ≤ 9223372036854775807 := by
        obtain ⟨_, _, hvv, _, hnc, hcm⟩ := h.row.form
        injection hvv with e1 e2 e3
        rw [e3]
        exact ⟨hnc, hcm⟩
      obtain ⟨hnc, hcm⟩ := hnc
      clear h r1 r2 hk hke hsor hnum hh
      generalize (l[kpos l key]'hp).val = vv at *
      generalize hpp : kpos l key = p at *
      go_enter Try.func42, Try.ntmps42
      go_wp2_with (first
        | (go_at_call 45; refine AT.out.mono ?_; rintro e w2 ⟨rfl, hw⟩; obtain rfl : w = w2 := hw.symm)
        | (go_at_call 46; refine HA.out.mono ?_; rintro e w2 ⟨rfl, hw⟩; obtain rfl : w = w2 := hw.symm))
      go_ret
      exact ⟨rfl, _, HR1.out, HR2.out, fun k e => .inl e⟩
    | false =>
      rw [hh] at HA
      have hke : kput l key (.int .i64 vn) sn = l.take (kpos l key) ++ ⟨key, .int .i64 vn, sn⟩ :: l.drop (kpos l key) := by
        unfold kput
        rw [hh, if_neg (by decide)]
      obtain ⟨A, c, rfl, hat, hnc, hcm⟩ := h.row.form
      have c0 : w.cell? ⟨b, 0, none⟩ = some (.slice A l.length c) := h.obj.cell 0
      have hblt := h.obj.lt
      have HRN := Lib.hid (fun V v' (hb : Below w.heap.size w V) (hrow : KRow V w.heap.size v' (kput l key (.int .i64 vn) sn).length (kput l key (.int .i64 vn) sn)) => h.renew hb hrow hnum hsor)
      have HKE := Lib.hid hke
      have HLEN := Lib.hid (show (kput l key (.int .i64 vn) sn).length = kpos l key + 1 + (l.length - kpos l key) from by
        rw [hke, List.length_append, List.length_cons, List.length_take, List.length_drop]; omega)
      have HN1 := Lib.hid (show Nums (l.take (kpos l key)) from fun x hx => h.nums x (List.mem_of_mem_take hx))
      have HN2 := Lib.hid (show Nums (l.drop (kpos l key)) from fun x hx => h.nums x (List.mem_of_mem_drop hx))
      have hp1 := Lib.hid (hat.head hpl)
      have hp3 := Lib.hid (hat.tail hpl hnc)
      have HQ := Lib.hid (fun V (hb : Below w.heap.size w V) => (show V.cell? ⟨b, 0, none⟩ = some (.slice A l.length c) ∧ V.frozen? ⟨b, 0, none⟩ = false from ⟨(h.below hb).obj.cell 0, (h.below hb).obj.frozen 0⟩))
      have hL2 : l.length < 1000000001 := by omega
      clear h hat hh hke hsor hnum hL
      generalize kput l key (.int .i64 vn) sn = L' at *
      generalize hpp : kpos l key = p at *
      clear hpp
      have hSL1 := fun W : World => by simpa using slk_h A l.length c .i64 (p : Int) W (by omega) (by omega)
      have hSL2 := fun W : World => slk_l A l.length c .i64 (p : Int) W (by omega) (by omega)
      rw [show (p : Int).toNat = p by omega] at hSL2
      have hn1 := Lib.hid (World.ownsRow_nil w w.heap.size 69 3)
      go_enter Try.func42, Try.ntmps42
      go_wp2_with (first
        | (go_at_call 45; refine AT.out.mono ?_; rintro e w2 ⟨rfl, hw⟩; obtain rfl : w = w2 := hw.symm)
        | (go_at_call 46; refine HA.out.mono ?_; rintro e w2 ⟨rfl, hw⟩; obtain rfl : w = w2 := hw.symm)
        | (at_builtin; refine wpList_appK rfl _ _ rfl w.heap.size (.slice none 0 0) 0 [] (l.take p) rfl hn1.out A p c rfl hp1.out HN1.out (by omega) (Nat.le_refl _) ?_; intro v1 w1 hr1 hg1; have HB1 := Lib.hid ((Below.refl w.heap.size w).grown hg1 (Nat.le_refl _) (fun k e => nomatch e)); have HR1 := Lib.hid (hr1.keep (nbl w1 (.cells #[.string key, .int .i64 vn, .int .i64 (sn : Int)] 69))); have HI1 := Lib.hid (item_one w1 key vn sn); have HB1a := Lib.hid (bsa HB1.out (.cells #[.string key, .int .i64 vn, .int .i64 (sn : Int)] 69)); clear hr1 hg1 hn1)
        | (at_builtin; refine wpList_appK rfl _ _ rfl w.heap.size v1 (0 + p) ([] ++ l.take p) [⟨key, .int .i64 vn, sn⟩] rfl HR1.out (some ⟨w1.heap.size, 0, none⟩) 1 1 rfl HI1.out (fun x hx => ⟨vn, by rw [List.mem_singleton.1 hx]⟩) (by omega) HB1a.out.size ?_; intro v2 w2 hr2 hg2; have HB2 := Lib.hid (HB1a.out.grown hg2 HB1a.out.size (fun k e => (World.ownsRow.lt HR1.out k e).1)); have HR2 := Lib.hid hr2; have HT2 := Lib.hid (hp3.out.below HB2.out); obtain ⟨k0, f0⟩ := HQ.out _ HB2.out; clear hr2 hg2 f0)
        | (at_builtin; refine wpList_appK rfl _ _ rfl w.heap.size v2 (0 + p + 1) ([] ++ l.take p ++ [⟨key, .int .i64 vn, sn⟩]) (l.drop p) rfl HR2.out (cutK A c p) (l.length - p) (c - p) rfl HT2.out HN2.out (by omega) HB2.out.size ?_; intro v3 w3 hr3 hg3; obtain ⟨A3, cc3, rfl, hat3⟩ := hr3.form; clear hat3; have HB3 := Lib.hid (HB2.out.grown hg3 HB2.out.size (fun k e => (World.ownsRow.lt HR2.out k e).1)); have HR3 := Lib.hid hr3; obtain ⟨k1, f1⟩ := HQ.out _ HB3.out; clear hr3 hg3))
      go_ret
      have hr := HR3.out
      have hle := HLEN.out
      obtain ⟨r1, r2, r3⟩ := HRN.out w3 _ HB3.out (by
        rw [hle, HKE.out]
        rw [List.nil_append, List.append_assoc, List.singleton_append, show 0 + p + 1 + (l.length - p) = p + 1 + (l.length - p) by omega] at hr
        exact hr)
      exact ⟨rfl, _, r1, r2, r3⟩
  · rw [decide_eq_false hs, if_neg hs]
    have HR := Lib.hid h
    clear h
    by_cases h1 : s < 1
    · go_enter Try.func42, Try.ntmps42
      go_wp2_with fail
      go_ret
      exact ⟨rfl, v, HR.out, Grow.refl _ _, fun k e => .inl e⟩
    · have h2 : 16 < s := by omega
      go_enter Try.func42, Try.ntmps42
      go_wp2_with fail
      go_ret
      exact ⟨rfl, v, HR.out, Grow.refl _ _, fun k e => .inl e⟩
set_option maxRecDepth 100000 in
set_option maxHeartbeats 8000000 in
theorem rf_drop (w : World) (b : Nat) (v : Value) (l : List Kv) (key : ByteArray) (h : RfR w b v l) (hL : l.length ≤ 1000000000) :
    Calls Try.prog 41 #[pt b, .string key] w fun e w' => e = .returned (.bool (khas l key)) ∧ ∃ v', RfR w' b v' (kdrop l key) ∧ Grow (rfF b v) w w' ∧ ∀ k, rfF b v' k → nF (rfF b v) w w' k := by
  have AT := Lib.hid (rf_at w b v l key h)
  have HA := Lib.hid (rf_has w b v l key h)
  cases hh : khas l key with
  | true =>
    obtain ⟨hp, hk⟩ := (khas_iff _ _).1 hh
    rw [hh] at HA
    have hke : kdrop l key = l.take (kpos l key) ++ l.drop (kpos l key + 1) := by
      unfold kdrop
      rw [hh, if_pos rfl]
    have hsor := Sor.dropk h.sor key
    have hnum := h.nums.drop key
    obtain ⟨A, c, rfl, hat, hnc, hcm⟩ := h.row.form
    have c0 : w.cell? ⟨b, 0, none⟩ = some (.slice A l.length c) := h.obj.cell 0
    have HRN := Lib.hid (fun V v' (hb : Below w.heap.size w V) (hrow : KRow V w.heap.size v' (kdrop l key).length (kdrop l key)) => h.renew hb hrow hnum hsor)
    have HKE := Lib.hid hke
    have HLEN := Lib.hid (show (kdrop l key).length = kpos l key + (l.length - (kpos l key + 1)) from by
      rw [hke, List.length_append, List.length_take, List.length_drop]; omega)
    have HN1 := Lib.hid (show Nums (l.take (kpos l key)) from fun x hx => h.nums x (List.mem_of_mem_take hx))
    have HN2 := Lib.hid (show Nums (l.drop (kpos l key + 1)) from fun x hx => h.nums x (List.mem_of_mem_drop hx))
    have hp1 := Lib.hid (hat.head (Nat.le_of_lt hp))
    have hp3 := Lib.hid (hat.tail (p := kpos l key + 1) hp hnc)
    have HQ := Lib.hid (fun V (hb : Below w.heap.size w V) => (show V.cell? ⟨b, 0, none⟩ = some (.slice A l.length c) ∧ V.frozen? ⟨b, 0, none⟩ = false from ⟨(h.below hb).obj.cell 0, (h.below hb).obj.frozen 0⟩))
    have hL2 : l.length < 1000000001 := by omega
    clear h hat hh hke hsor hnum hL hk
    generalize kdrop l key = L' at *
    generalize hpp : kpos l key = p at *
    clear hpp
    have hwp : IntKind.i64.wrap ((p : Int) + 1) = (p : Int) + 1 := IntWalk.i64_in _ (by omega)
    have hSL1 := fun W : World => by simpa using slk_h A l.length c .i64 (p : Int) W (by omega) (by omega)
    have hSL2 := fun W : World => slk_l A l.length c .i64 ((p : Int) + 1) W (by omega) (by omega)
    rw [show ((p : Int) + 1).toNat = p + 1 by omega] at hSL2
    have hn1 := Lib.hid (World.ownsRow_nil w w.heap.size 69 3)
    go_enter Try.func41, Try.ntmps41
    go_wp2_with (first
      | (go_at_call 45; refine AT.out.mono ?_; rintro e w2 ⟨rfl, hw⟩; obtain rfl : w = w2 := hw.symm)
      | (go_at_call 46; refine HA.out.mono ?_; rintro e w2 ⟨rfl, hw⟩; obtain rfl : w = w2 := hw.symm)
      | (at_builtin; refine wpList_appK rfl _ _ rfl w.heap.size (.slice none 0 0) 0 [] (l.take p) rfl hn1.out A p c rfl hp1.out HN1.out (by omega) (Nat.le_refl _) ?_; intro v1 w1 hr1 hg1; have HB1 := Lib.hid ((Below.refl w.heap.size w).grown hg1 (Nat.le_refl _) (fun k e => nomatch e)); have HR1 := Lib.hid hr1; have HT1 := Lib.hid (hp3.out.below HB1.out); obtain ⟨k0, f0⟩ := HQ.out _ HB1.out; clear hr1 hg1 hn1 f0)
      | (at_builtin; refine wpList_appK rfl _ _ rfl w.heap.size v1 (0 + p) ([] ++ l.take p) (l.drop (p + 1)) rfl HR1.out (cutK A c (p + 1)) (l.length - (p + 1)) (c - (p + 1)) rfl HT1.out HN2.out (by omega) HB1.out.size ?_; intro v3 w3 hr3 hg3; obtain ⟨A3, cc3, rfl, hat3⟩ := hr3.form; clear hat3; have HB3 := Lib.hid (HB1.out.grown hg3 HB1.out.size (fun k e => (World.ownsRow.lt HR1.out k e).1)); have HR3 := Lib.hid hr3; obtain ⟨k1, f1⟩ := HQ.out _ HB3.out; clear hr3 hg3))
    go_ret
    have hr := HR3.out
    have hle := HLEN.out
    obtain ⟨r1, r2, r3⟩ := HRN.out w3 _ HB3.out (by
      rw [hle, HKE.out]
      rw [List.nil_append, show 0 + p + (l.length - (p + 1)) = p + (l.length - (p + 1)) by omega] at hr
      exact hr)
    exact ⟨rfl, _, r1, r2, r3⟩
  | false =>
    rw [hh] at HA
    have hke : kdrop l key = l := by unfold kdrop; rw [hh]; rfl
    rw [hke]
    have HR := Lib.hid h
    have hpl := kpos_le l key
    clear h hh hke
    generalize kpos l key = p at *
    go_enter Try.func41, Try.ntmps41
    go_wp2_with (first
      | (go_at_call 45; refine AT.out.mono ?_; rintro e w2 ⟨rfl, hw⟩; obtain rfl : w = w2 := hw.symm)
      | (go_at_call 46; refine HA.out.mono ?_; rintro e w2 ⟨rfl, hw⟩; obtain rfl : w = w2 := hw.symm))
    go_ret
    exact ⟨rfl, v, HR.out, Grow.refl _ _, fun k e => .inl e⟩
end Go.Proofs.Ytcpbcoeccplliaa
