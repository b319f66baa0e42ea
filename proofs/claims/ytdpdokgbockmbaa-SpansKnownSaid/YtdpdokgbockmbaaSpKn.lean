/-
  SpansKnown: what is refused; 'make', a row that is written, append onto a row that is full; plain: what a long list has.
-/
import Derived.Test.YtdpdokgbockmbaaSpWorks
import Derived.Test.YtdpdokgbockmbaaSpMt
import Derived.Laws.MakeOwn
set_option linter.unusedVariables false
set_option linter.unusedSimpArgs false
set_option maxRecDepth 100000
namespace Go.Proofs.Ytdpdokgbockmbaa
open Go.RowKit

theorem spReckE (g : Nat) (A B : Option Addr) (n m c d : Nat) (a b : List Sn) (w : World) (ha : SnAt w A n a) (hb : SnAt w B m b) (hn : n ≤ 9223372036854775807) (hm : m ≤ 9223372036854775807) (x : Int) (hx : chkL a b = x) (h0 : x ≠ 0) :
    Calls Try.prog 23 #[.slice A n c, .slice B m d, .func (.func g) #[] #[]] w fun e w' => e = .returned (.tuple #[.slice none 0 0, .int .i64 x]) ∧ Below w.heap.size w w' := by
  have HCK := Lib.hid (spChk A B n m c d a b w ha hb hn hm)
  rw [hx] at HCK
  have hxb : (x != 0) = true := by simpa using h0
  clear ha hb hx
  go_enter Try.func23, Try.ntmps23
  go_wp2_with (go_at_call 36; refine HCK.out.mono ?_; rintro e w1 ⟨rfl, hb1⟩; have HB1 := Lib.hid hb1; clear hb1)
  go_ret2
  exact ⟨rfl, HB1.out⟩
/-- What is refused. -/
def AnsE (x : Int) (w : World) (e : Ending) (w' : World) : Prop := e = .returned (.tuple #[.slice none 0 0, .int .i64 x]) ∧ Below w.heap.size w w'
section
variable {A B : Option Addr} {n m c d : Nat} {a b : List Sn} {w : World} {x : Int}
theorem spJoinE (ha : SnAt w A n a) (hn : n ≤ 9223372036854775807) (hx : chkL a [] = x) (h0 : x ≠ 0) : Calls Try.prog 10 #[.slice A n c] w (AnsE x w) := by
  have HR := Lib.hid (spReckE 24 A none n 0 c 0 a [] w ha (SnAt.nil _ _) hn (by omega) x hx h0)
  clear ha hx
  unfold AnsE
  go_enter Try.func10, Try.ntmps10
  go_wp2_with (go_at_call 23; refine HR.out.mono ?_; rintro e w1 ⟨rfl, h3⟩)
  go_ret2
  exact ⟨rfl, h3⟩
theorem spBothE (ha : SnAt w A n a) (hb : SnAt w B m b) (hn : n ≤ 9223372036854775807) (hm : m ≤ 9223372036854775807) (hx : chkL a b = x) (h0 : x ≠ 0) : Calls Try.prog 11 #[.slice A n c, .slice B m d] w (AnsE x w) := by
  have HR := Lib.hid (spReckE 25 A B n m c d a b w ha hb hn hm x hx h0)
  clear ha hb hx
  unfold AnsE
  go_enter Try.func11, Try.ntmps11
  go_wp2_with (go_at_call 23; refine HR.out.mono ?_; rintro e w1 ⟨rfl, h3⟩)
  go_ret2
  exact ⟨rfl, h3⟩
theorem spLessE (ha : SnAt w A n a) (hb : SnAt w B m b) (hn : n ≤ 9223372036854775807) (hm : m ≤ 9223372036854775807) (hx : chkL a b = x) (h0 : x ≠ 0) : Calls Try.prog 12 #[.slice A n c, .slice B m d] w (AnsE x w) := by
  have HR := Lib.hid (spReckE 26 A B n m c d a b w ha hb hn hm x hx h0)
  clear ha hb hx
  unfold AnsE
  go_enter Try.func12, Try.ntmps12
  go_wp2_with (go_at_call 23; refine HR.out.mono ?_; rintro e w1 ⟨rfl, h3⟩)
  go_ret2
  exact ⟨rfl, h3⟩
end
theorem spOfE (k : ByteArray) (w : World) (hk : 32 < k.size) : Calls Try.prog 17 #[.string k] w fun e w' => e = .returned (.tuple #[.agg #[.string ⟨#[]⟩, .string ⟨#[]⟩], .int .i64 5]) ∧ Below w.heap.size w w' := by
  have hki : (32 : Int) < (k.size : Int) := by omega
  have HB := Lib.hid (nbl w (.cells #[.string ⟨#[]⟩, .string ⟨#[]⟩] 30))
  have HZ := Lib.hid (Blk.new w 30 #[.string ⟨#[]⟩, .string ⟨#[]⟩])
  have hzb : ∀ V : World, (Instr.build 30 #[]).run Try.prog V = .ok (.agg #[.string ⟨#[]⟩, .string ⟨#[]⟩]) V := fun V => by kernel_rfl
  go_enter Try.func17, Try.ntmps17
  go_wp2
  exact ret_sn2 rfl rfl HZ.out rfl rfl ⟨rfl, HB.out⟩

/-! ### 'make', a row that is written -/
abbrev sZ : Sn := ⟨⟨#[]⟩, ⟨#[]⟩⟩
theorem made_spans (n : Nat) : madeCells #[.string ⟨#[]⟩, .string ⟨#[]⟩] (n * 2) = (sfl2 (List.replicate n sZ)).toArray := by
  apply Array.ext_getElem?
  intro j
  by_cases hj : j < n * 2
  · have e : (sfl2 (List.replicate n sZ)).toArray[j]? = some (#[Value.string ⟨#[]⟩, .string ⟨#[]⟩][j % 2]!) := by
      rw [List.getElem?_toArray]
      obtain ⟨g1, g2⟩ := sfl2_get (List.replicate n sZ) (j / 2) (by rw [List.length_replicate]; omega)
      rw [List.getElem_replicate] at g1 g2
      rcases (show j % 2 = 0 ∨ j % 2 = 1 from by omega) with h0 | h0
      · rw [show j / 2 * 2 = j by omega] at g1; rw [h0]; exact g1
      · rw [show j / 2 * 2 + 1 = j by omega] at g2; rw [h0]; exact g2
    rw [e]
    unfold madeCells
    rw [Array.getElem?_map, Array.getElem?_range, if_pos hj]
    rfl
  · rw [Array.getElem?_eq_none (by rw [size_madeCells]; omega), Array.getElem?_eq_none (by rw [List.size_toArray, sfl2_len, List.length_replicate]; omega)]
theorem make_spans (n : Nat) (h : n ≤ 100000) (W : World) : (Instr.makeSlice 22 (.int .i64 (n : Int)) (.int .i64 (n : Int))).run Try.prog W = .ok (.slice (some ⟨W.heap.size, 0, none⟩) n n) (W.alloc (.cells (sfl2 (List.replicate n sZ)).toArray 30)) := by
  obtain ⟨i0, hi, hz0, hz1, hz2⟩ := info_parts infoSn
  have h := run_make (P := Try.prog) W 22 30 i0 _ Try.underlying22 hi hz0 .i64 .i64 (n : Int) (n : Int) (by omega) (by omega) (by rw [hz2]; omega) (by omega)
  rw [hz1] at h
  have e : ((n : Nat) : Int).toNat = n := by omega
  rw [e] at h
  rw [← made_spans]
  exact h
theorem sfl2_set : ∀ (l : List Sn) (k : Nat) (s : Sn), k < l.length → ((sfl2 l).set (k * 2) (.string s.f)).set (k * 2 + 1) (.string s.t) = sfl2 (l.set k s)
  | x :: l, 0, s, _ => by rw [sfl2_cons]; rfl
  | x :: l, k + 1, s, h => by
    have ih := sfl2_set l k s (by simpa using h)
    rw [sfl2_cons, List.set_cons_succ, sfl2_cons, ← ih, show (k + 1) * 2 = k * 2 + 1 + 1 by omega]
    rfl
theorem SnRow.put {w : World} {B g n c : Nat} {l : List Sn} (h : SnRow w B (.slice (some ⟨g, 0, none⟩) n c) n l) (k : Nat) (hk : k < n) (s : Sn) :
    SnRow ((w.setCell ⟨g, k * 2, none⟩ (.string s.f)).setCell ⟨g, k * 2 + 1, none⟩ (.string s.t)) B (.slice (some ⟨g, 0, none⟩) n c) n (l.set k s) := by
  have h1 := ((World.ownsRow.stored h (k * 2) (.string s.f)).1.stored (k * 2 + 1) (.string s.t)).1
  unfold SnRow
  rw [← sfl2_set l k s (by rw [h.len]; exact hk)]
  exact h1
theorem rep_set {α : Type} (s z : α) : ∀ (n k : Nat), k < n → (List.replicate k s ++ List.replicate (n - k) z).set k s = List.replicate (k + 1) s ++ List.replicate (n - (k + 1)) z
  | n, 0, h => by
    obtain ⟨m, rfl⟩ : ∃ m, n = m + 1 := ⟨n - 1, by omega⟩
    rfl
  | n, k + 1, h => by
    obtain ⟨m, rfl⟩ : ∃ m, n = m + 1 := ⟨n - 1, by omega⟩
    have ih := rep_set s z m k (by omega)
    rw [List.replicate_succ, List.cons_append, List.set_cons_succ, show m + 1 - (k + 1) = m - k by omega, ih, List.replicate_succ (n := k + 1), List.cons_append, show m + 1 - (k + 1 + 1) = m - (k + 1) by omega]
set_option maxRecDepth 100000 in
/-- 'append(v, l...)', where v is full: what v had stays. -/
theorem wpList_appFull {w : World} {ops : Array Oper} {rest : List Oper} {o : Oper} {a : Act} {Q : Exit → Act → World → Prop} (hgd : o.guard = none) (s x : Operand)
    (ho : o.op = .call { callee := .builtin .append, args := #[s, x], argTypes := #[22, 22] })
    (A : Option Addr) (k : Nat) (xs l : List Sn) (hs : a.eval s = .slice A k k) (hv : SnAt w A k xs) (hk0 : 0 < k) (hk : k ≤ 100000)
    (D : Option Addr) (n c : Nat) (hx : a.eval x = .slice D n c) (hr : SnAt w D n l) (hn : 0 < n) (hn2 : n ≤ 100000) (H K1 : Nat) (hH : w.heap.size = H) (hK1 : k + n = K1)
    (h : ∀ c' w', SnAt w' (some ⟨H, 0, none⟩) K1 (xs ++ l) → Below w.heap.size w w' → wpList Try.prog ops Q rest (a.put o.dst (.slice (some ⟨H, 0, none⟩) K1 c')) w') :
    wpList Try.prog ops Q (o :: rest) a w := by
  subst hH hK1
  obtain ⟨i, hi, hz, hsz, hby⟩ := info_parts infoSn
  obtain ⟨b, o1, rfl, _⟩ := hv.2 hk0
  obtain ⟨b2, o2, rfl, _⟩ := hr.2 hn
  have hrun := run_append_grow (P := Try.prog) w 22 o.type 30 i _ Try.underlying22 hi hz ⟨b, o1, none⟩ k k (sfl2 xs) (by rw [sfl2_len, hv.1, hsz]) hv.news ⟨b2, o2, none⟩ n c (sfl2 l) (by rw [sfl2_len, hr.1, hsz]) hr.news (by omega) (by omega) (by
    have := cap_le (need := k + n) (old := k) (by omega)
    rw [hby]
    omega)
  refine wpList_plain hgd fun K hK => ?_
  unfold Oper.wp execOp
  simp only [ho, resolve, invoke, builtin, Sem.run_bind, Sem.run_pure, Result.andThen_ok, List.map_toArray, List.map_cons, List.map_nil, hs, hx, hrun]
  refine hK _ _ (h _ _ ?_ ?_)
  · refine ⟨by rw [List.length_append, hv.1, hr.1], fun _ => ⟨w.heap.size, 0, rfl, fun j hj => ?_⟩⟩
    have hg := heap_alloc_new w.drew (.cells ((sfl2 xs).toArray ++ (sfl2 l).toArray ++ Builtin.zeroCells (Value.agg #[.string ByteArray.empty, .string ByteArray.empty]).cells (grownCap w (k + n) k 30 - (k + n))) 30)
    obtain ⟨g1, g2⟩ := sfl2_get (xs ++ l) j hj
    have hlen := sfl2_len (xs ++ l)
    rw [sfl2_app] at g1 g2 hlen
    rw [List.length_append] at hlen hj
    have pick : ∀ (q : Nat) (v : Value), (sfl2 xs ++ sfl2 l)[q]? = some v → ((sfl2 xs).toArray ++ (sfl2 l).toArray ++ Builtin.zeroCells (Value.agg #[.string ByteArray.empty, .string ByteArray.empty]).cells (grownCap w (k + n) k 30 - (k + n)))[q]? = some v := fun q v hq => by
      have hq2 : q < (sfl2 xs ++ sfl2 l).length := by
        rcases Nat.lt_or_ge q (sfl2 xs ++ sfl2 l).length with h0 | h0
        · exact h0
        · rw [List.getElem?_eq_none h0] at hq
          cases hq
      rw [Array.getElem?_append_left (by simp at hq2 ⊢; omega), ← Array.getElem?_toList]
      simpa using hq
    exact ⟨by rw [cell_of_row _ w.heap.size _ _ _ _ hg, Nat.zero_add]; exact pick _ _ g1, by rw [cell_of_row _ w.heap.size _ _ _ _ hg, Nat.zero_add]; exact pick _ _ g2⟩
  · exact (Below.refl w.heap.size w).drew.alloc (Nat.le_refl _) _
end Go.Proofs.Ytdpdokgbockmbaa
