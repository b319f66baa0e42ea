/-
  Layer 9, the code: Step.
-/
import Derived.Test.YtcpbcoeccplliaaSkAsk
import Derived.Laws.AppendOwn
set_option linter.unusedVariables false
namespace Go.Proofs.Ytcpbcoeccplliaa
open Go.RowKit

theorem info9s : (Try.prog.info? 9).map (fun i => (i.zero, i.size, i.bytes)) = some (some (.string ByteArray.empty), 1, 16) := by kernel_rfl
def coll (m : Nat) (L : List Nd) : List ByteArray := (L.filter (fun x => decide (m < x.2.st))).map (·.2.key)
theorem coll_kstep (m : Nat) (L : List Nd) : kstep (kvs L) (m + 1) = coll m L := by
  unfold kstep coll kvs
  induction L with
  | nil => rfl
  | cons x L ih =>
    rw [List.map_cons, List.filter_cons, List.filter_cons]
    by_cases h : m < x.2.st
    · rw [if_pos (decide_eq_true (show m + 1 ≤ x.2.st from h)), if_pos (decide_eq_true h), List.map_cons, List.map_cons, ih]
    · rw [if_neg (by rw [decide_eq_false (show ¬ m + 1 ≤ x.2.st from h)]; decide), if_neg (by rw [decide_eq_false h]; decide), ih]
theorem coll_app (m : Nat) (A B : List Nd) : coll m (A ++ B) = coll m A ++ coll m B := by simp [coll]
theorem coll_off {m : Nat} {L : List Nd} (h : on m (L.map (fun x => (x.1, x.2.st))) = false) : coll m L = [] := by
  unfold coll
  rw [List.filter_eq_nil_iff.2 (fun x hx e => ?_)]
  · rfl
  · unfold on at h
    rw [List.any_eq_false] at h
    exact h (x.1, x.2.st) (List.mem_map.2 ⟨x, hx, rfl⟩) e
theorem coll_len (m : Nat) (L : List Nd) : (coll m L).length ≤ L.length := by unfold coll; rw [List.length_map]; exact List.length_filter_le _ _
/-- The next one on the step, behind the first j. -/
theorem nx_step {m j : Nat} {L : List Nd} (h : ∃ a, nx m ((L.drop j).map (fun x => (x.1, x.2.st))) = some a) :
    ∃ i, ∃ hi : i < L.length, j ≤ i ∧ nx m ((L.drop j).map (fun x => (x.1, x.2.st))) = some (L[i]'hi).1 ∧ m < (L[i]'hi).2.st ∧ coll m (L.take (i + 1)) = coll m (L.take j) ++ [(L[i]'hi).2.key] := by
  obtain ⟨a, ha⟩ := h
  obtain ⟨i, hi, e1, e2, e3⟩ := nx_some ha
  rw [List.length_map, List.length_drop] at hi
  have hi2 : j + i < L.length := by omega
  have ei : ((L.drop j).map (fun x => (x.1, x.2.st)))[i]'(by rw [List.length_map, List.length_drop]; omega) = ((L[j + i]'hi2).1, (L[j + i]'hi2).2.st) := by simp
  rw [ei] at e1 e2
  refine ⟨j + i, hi2, by omega, by rw [ha, ← e1], e2, ?_⟩
  have hsp : L.take (j + i + 1) = L.take j ++ ((L.drop j).take i ++ [L[j + i]'hi2]) := by
    rw [List.take_succ_eq_append_getElem hi2, List.take_add, List.append_assoc]
  rw [hsp, coll_app, coll_app]
  have h0 : coll m ((L.drop j).take i) = [] := by
    refine coll_off ?_
    rw [List.map_take]
    exact on_take (fun k hk hki => e3 k hk hki)
  rw [h0]
  unfold coll
  rw [List.filter_cons_of_pos (by simpa using e2)]
  rfl
theorem row_one (w : World) (s : ByteArray) : ∀ j u, [Value.string s][j]? = some u → (w.alloc (.cells #[.string s] 9)).cell? ((⟨w.heap.size, 0, none⟩ : Addr).add j) = some u := by
  intro j u hu
  rw [Go.WideShapes.add_plain, Nat.zero_add, cell_of_row _ _ j _ _ (0, 0) (heap_alloc_new w _)]
  simpa using hu
set_option maxRecDepth 100000 in
set_option maxHeartbeats 4000000 in
theorem sk_step (z : Value) (q h : Nat) (L : List Nd) (g : Nat → Nat → Option Nat) (n : Int) (w : World) (hR : SkR 57 61 z w q h L g) (hL : L.length ≤ 1000000000) (hn1 : -9223372036854775808 ≤ n) (hn2 : n ≤ 9223372036854775807) :
    Calls Try.prog 24 #[pt q, .int .i64 n] w fun e w' => ∃ v, e = .returned v ∧ w'.ownsRow w.heap.size 9 1 v (if 1 ≤ n then kstep (kvs L) n.toNat else []).length ((if 1 ≤ n then kstep (kvs L) n.toNat else []).map Value.string) ∧ Below w.heap.size w w' := by
  have NO := Lib.hid (sk_isNone z q h L.length L g _ hR.mem)
  have IS := Lib.hid (sk_isStep n w hn1 hn2)
  by_cases hn : 1 ≤ n ∧ n ≤ 16
  · obtain ⟨m, hm⟩ : ∃ m : Nat, n = (m : Int) + 1 := ⟨(n - 1).toNat, by omega⟩
    subst hm
    have hm16 : m < 16 := by omega
    rw [if_pos (by omega), show ((m : Int) + 1).toNat = m + 1 from by omega, coll_kstep]
    rw [decide_eq_true hn] at IS
    have c0 : w.cell? ⟨q, 0, none⟩ = some (pt h) := hR.mem.obj.cell 0
    have HL := Lib.hid hL
    have hck : Ck m (sh h L) (g m) := hR.ck m hm16
    have c3 := hR.mem.next (.inl rfl) hm16
    have hg0 : g m h = nx m ((L.drop 0).map (fun x => (x.1, x.2.st))) := hck.1 (by omega)
    rw [hg0] at c3
    have HG := Lib.hid (fun i (hi : i < L.length) (hmi : m < (L[i]'hi).2.st) => (show g m (L[i]'hi).1 = nx m ((L.drop (i + 1)).map (fun x => (x.1, x.2.st))) from by
      have := ck_get hck (j := i + 1) (by rw [sh_len]; omega) (by rw [sh_get h L hi]; exact hmi)
      rw [sh_get h L hi, sh_drop] at this
      exact this))
    have HR := Lib.hid hR
    obtain ⟨i0, hi0, hz, hsz, hby⟩ := info_parts info9s
    clear hR hck hg0 hn hL
    go_enter Try.func24, Try.ntmps24
    go_wp2_with (first
      | (go_at_call 43; refine NO.out.mono ?_; rintro e w2 ⟨rfl, hw2⟩; obtain rfl : w = w2 := hw2.symm)
      | (go_at_call 50; refine IS.out.mono ?_; rintro e w2 ⟨rfl, hw2⟩; obtain rfl : w = w2 := hw2.symm))
    go_loopg [5, 6] L.length (fun r kv at_ wr => ∃ j : Nat, j + r = L.length ∧ at_ = pp (nx m ((L.drop j).map (fun x => (x.1, x.2.st)))) ∧ Hid (wr.ownsRow w.heap.size 9 1 kv (coll m (L.take j)).length ((coll m (L.take j)).map Value.string)) ∧ Hid (Below w.heap.size w wr))
    case atStart => exact ⟨0, by omega, rfl, Lib.hid (World.ownsRow_nil _ _ _ _), Lib.hid (Below.refl _ _)⟩
    case round =>
      obtain ⟨j, hjr, rfl, HW, HB⟩ := hrel
      cases hx : nx m ((L.drop j).map (fun x => (x.1, x.2.st))) with
      | none =>
        have hoff := coll_off (nx_none hx)
        have he : coll m L = coll m (L.take j) := by
          have := coll_app m (L.take j) (L.drop j)
          rw [List.take_append_drop, hoff, List.append_nil] at this
          exact this
        have HE := Lib.hid he
        rw [show pp none = .pointer none from rfl]
        clear hx hoff he
        go_wp2_with fail
        go_ret
        exact ⟨_, rfl, by rw [HE.out]; exact HW.out, HB.out⟩
      | some a =>
        obtain ⟨i, hi, hji, h1, h2, h3⟩ := nx_step ⟨a, hx⟩
        rw [hx] at h1
        injection h1 with h1
        have hRr := HR.out.below HB.out
        have hxm := List.getElem_mem hi
        have k0 := hRr.mem.key hxm
        have k3 := hRr.mem.next (.inr (List.mem_map.2 ⟨_, hxm, rfl⟩)) hm16
        rw [HG.out i hi h2] at k3
        rw [← h1] at k0 k3
        have HC := Lib.hid h3
        have hcl := coll_len m (L.take j)
        rw [List.length_take] at hcl
        have hbd : ((coll m (L.take j)).length + 1) * 16 ≤ 140737488355328 := by have := HL.out; omega
        generalize (L[i]'hi).2.key = key at *
        rw [show pp (some a) = pt a from rfl]
        have hB9 := (HB.out.alloc HB.out.size (.cells #[.string key] 9))
        have HB9 := Lib.hid hB9
        have HR9 := Lib.hid (fun (v' : Value) (w' : World) (hg : (wr.alloc (.cells #[.string key] 9)).grownBy w' v'.ownBlock) => hg)
        have j3 := (World.cell?_alloc_lt wr (.cells #[.string key] 9) _ (World.block_lt_of_cell? wr _ k3)).trans k3
        have hown2 := HW.out.alloc (.cells #[.string key] 9)
        have halt : a < w.heap.size := by rw [h1]; exact HR.out.mem.lt (.inr (.inr (List.mem_map.2 ⟨_, hxm, rfl⟩)))
        have HNE := Lib.hid (fun k (e : u5.ownBlock = some k) => (show a ≠ k from by have := (hown2.lt k e).1; omega))
        have HO2 := Lib.hid hown2
        have HBD := Lib.hid hbd
        clear hbd
        have HX := Lib.hid (show coll m (L.take (i + 1)) = coll m (L.take j) ++ [key] from h3)
        clear hown2 hRr hx h1 h2 h3 hcl hxm hB9 HR9 HW HC halt
        go_wp2_with (at_builtin; refine wpList_append_own _ rfl _ _ 36 rfl w.heap.size 9 i0 _ 1 16 Try.underlying36 hi0 hz hsz hby rfl (by decide) u5 _ _ rfl HO2.out ⟨wr.heap.size, 0, none⟩ 1 1 [.string key] rfl rfl (row_one wr key) (by simp [Value.oneCell']) (by unfold maxLen; have := HBD.out; omega) HBD.out HB9.out.size ?_; intro v' w1 hown1 hgrow _; have HO1 := Lib.hid hown1; have HB1 := Lib.hid (HB9.out.grown hgrow HB9.out.size (fun k e => (HO2.out.lt k e).1)); have k4 := hgrow.cell j3 (fun e => HNE.out a e.symm rfl); clear hown1 hgrow)
        go_roundg (L.length - (i + 1))
        case measure => omega
        case rel => exact ⟨i + 1, by omega, by rw [List.map_drop], by rw [HX.out, List.length_append, List.map_append]; exact HO1, HB1⟩
  · have hz0 : (if 1 ≤ n then kstep (kvs L) n.toNat else []) = [] := by
      by_cases h1 : 1 ≤ n
      · rw [if_pos h1]
        unfold kstep
        rw [List.filter_eq_nil_iff.2 (fun x hx e => ?_)]
        · rfl
        · obtain ⟨y, hy, rfl⟩ := List.mem_map.1 hx
          have := (hR.st y hy).2
          have := of_decide_eq_true e
          omega
      · rw [if_neg h1]
    rw [hz0]
    rw [decide_eq_false hn] at IS
    clear hR hn hz0
    go_enter Try.func24, Try.ntmps24
    go_wp2_with (first
      | (go_at_call 43; refine NO.out.mono ?_; rintro e w2 ⟨rfl, hw2⟩; obtain rfl : w = w2 := hw2.symm)
      | (go_at_call 50; refine IS.out.mono ?_; rintro e w2 ⟨rfl, hw2⟩; obtain rfl : w = w2 := hw2.symm))
    go_ret
    exact ⟨_, rfl, World.ownsRow_nil _ _ _ _, Below.refl _ _⟩
end Go.Proofs.Ytcpbcoeccplliaa
