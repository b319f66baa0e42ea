/-
  Layer 7: the landed disk: Append's closure, of a file that is there.
-/
import Derived.Test.YtkhalpajomammaaGRen
import Derived.Deep.RegionLaw
set_option linter.unusedVariables false
namespace Go.Proofs.Ytkhalpajomammaa
open Go.RowKit Go.Maps

theorem step_app {P : Program} {ops : Array Oper} {w : World} {o : Oper} {a : Act} {K : Act → World → Prop} {Q : Exit → Act → World → Prop} {E : Prop} (hg : o.guard = none) (s x : Operand) (t : TypeId)
    (ho : o.op = .call { callee := .builtin .append, args := #[s, x], argTypes := #[t, t] })
    (base : Nat) (e : TypeId) (ht : P.underlying t = some (.slice e)) (hinfo : (P.info? e).map (fun i => (i.zero, i.size, i.bytes)) = some (some (.int .u8 0), 1, 1))
    (v : Value) (n : Nat) (xs ys : List UInt8) (hs : a.eval s = v) (hown : w.ownsRow base e 1 v n (xs.map bv))
    (A : Option Addr) (m c : Nat) (hx : a.eval x = .slice A m c) (hr : At w A m ys) (hbytes : n + m ≤ 225000000000000) (hbase : base ≤ w.heap.size)
    (h : ∀ v' w', w'.ownsRow base e 1 v' (n + m) ((xs ++ ys).map bv) → w.grownBy w' v.ownBlock → (v'.ownBlock = v.ownBlock ∨ v'.ownBlock = some w.heap.size) → K (a.put o.dst v') w') :
    if Region.wanted o (yielded ops a.tmps) = true then Oper.wp P o a w K Q else E := by
  have hw : Region.wanted o (yielded ops a.tmps) = true := by simp [Region.wanted, hg]
  rw [if_pos hw]
  exact wp_app s x t ho base e ht hinfo v n xs ys hs hown A m c hx hr hbytes hbase h
/-- What the closure leaves: bytes in their own row, the file's first cell. -/
def Apd (w : World) (q : Nat) (v : Value) (bt : List UInt8) (w' : World) : Prop :=
  ∃ V v' n, w' = (V.setCell ⟨q, 0, none⟩ v').drewN n ∧ Own V 0 v' bt ∧ w.grownBy V v.ownBlock ∧ (v'.ownBlock = v.ownBlock ∨ v'.ownBlock = some w.heap.size)
theorem Apd.mk {w V : World} {q n : Nat} {v v' : Value} {bt : List UInt8} (h1 : V.ownsRow 0 5 1 v' n (bt.map bv)) (hl : bt.length = n) (h2 : w.grownBy V v.ownBlock) (h3 : v'.ownBlock = v.ownBlock ∨ v'.ownBlock = some w.heap.size) : Apd w q v bt (V.setCell ⟨q, 0, none⟩ v') :=
  ⟨V, v', 0, rfl, by unfold Own; rw [hl]; exact h1, h2, h3⟩
set_option maxRecDepth 100000 in
set_option maxHeartbeats 8000000 in
theorem gApp_old (w : World) (bo bf bd bn bb q : Nat) (A : Option Addr) (L cap : Nat) (bs : List UInt8) (XA : Option Addr) (xn xc : Nat) (xs : List UInt8) (ho : w.cell? ⟨bo, 0, none⟩ = some (.bool true)) (hf : w.cell? ⟨bf, 0, none⟩ = some (pt q)) (hb : w.cell? ⟨bb, 0, none⟩ = some (.slice XA xn xc))
    (c0 : w.cell? ⟨q, 0, none⟩ = some (.slice A L cap)) (z : w.frozen? ⟨q, 0, none⟩ = false) (hown : Own w 0 (.slice A L cap) bs) (hq : (Value.slice A L cap).ownBlock ≠ some q) (hqf : (Value.slice A L cap).ownBlock ≠ some bf) (hx : At w XA xn xs) (hL : L ≤ 4194304) (hX : xn ≤ 4194304) :
    Calls Try.prog 52 #[pt bo, pt bf, pt bd, pt bn, pt bb] w fun e w' => e = .returned (.tuple #[]) ∧ Apd w q (.slice A L cap) (bs ++ xs) w' := by
  have hrow : w.ownsRow 0 5 1 (.slice A L cap) L (bs.map bv) := ownLen hown hown.len
  have hq1 : q < w.heap.size := World.block_lt_of_cell? w _ c0
  have HR := Lib.hid hrow
  have HX := Lib.hid hx
  have HZ := Lib.hid (fun V (h : w.grownBy V (Value.slice A L cap).ownBlock) => (show V.cell? ⟨q, 0, none⟩ = some (.slice A L cap) ∧ V.frozen? ⟨q, 0, none⟩ = false ∧ V.cell? ⟨bf, 0, none⟩ = some (pt q) from by
    have hh := h.block q hq1 (fun e => hq e.symm)
    exact ⟨(World.cell?_of_block (a := ⟨q, 0, none⟩) hh).trans c0, by rw [← z]; simp [World.frozen?, hh], (World.cell?_of_block (a := ⟨bf, 0, none⟩) (h.block bf (World.block_lt_of_cell? w _ hf) (fun e => hqf e.symm))).trans hf⟩))
  have HLL := Lib.hid (lenApp hown.len hx.1)
  clear hrow hown hx
  go_enter Try.func52, Try.ntmps52
  go_wp2_with fail
  go_region_law (refine step_app rfl (.tmp 19) (.tmp 20) 27 rfl 0 5 Try.underlying27 info5 (.slice A L cap) L bs xs rfl HR.out XA xn xc rfl HX.out (by omega) (Nat.zero_le _) ?_; intro v' w1 h1 h2 h3; obtain ⟨A1, c1, rfl⟩ := rowSlice h1; obtain ⟨y1, y2, y3⟩ := HZ.out w1 ⟨h2.os, h2.tape, h2.output, h2.size, h2.block⟩; have HH := Lib.hid (And.intro h1 (And.intro h2 h3)); clear h1 h2 h3)
  all_goals
    go_wp2_with fail
    first | go_end0 | (refine bodyPost_ret (results_none rfl _ _ _) rfl ?_)
    exact ⟨rfl, Apd.mk HH.out.1 HLL.out (grown_undrew HH.out.2.1) HH.out.2.2⟩

set_option maxRecDepth 100000 in
set_option maxHeartbeats 8000000 in
theorem gApp_new (w : World) (bo bf bd bn bb g : Nat) (nm : ByteArray) (mb : Nat) (es : List (Lit × DataW Empty)) (XA : Option Addr) (xn xc : Nat) (xs : List UInt8) (ho : w.cell? ⟨bo, 0, none⟩ = some (.bool false)) (hf : w.heap[bf]? = some (.cells #[.pointer none] 71 (0, 0))) (hd : w.cell? ⟨bd, 0, none⟩ = some (pt g)) (hn : w.cell? ⟨bn, 0, none⟩ = some (.string nm)) (hb : w.cell? ⟨bb, 0, none⟩ = some (.slice XA xn xc))
    (hfd : bf ≠ bd ∧ bf ≠ bn ∧ bf ≠ bb ∧ bf ≠ g ∧ bf ≠ mb) (c0 : w.cell? ⟨g, 0, none⟩ = some (.map (some mb))) (hown : w.ownsMap Try.prog 9 fE mb 20 (.map es)) (hkey : keyOf Try.prog 9 (.string nm) = some (sk nm)) (hx : At w XA xn xs) (hX : xn ≤ 4194304) :
    Calls Try.prog 52 #[pt bo, pt bf, pt bd, pt bn, pt bb] w fun e w' => e = .returned (.tuple #[]) ∧ ∃ V, V.ownsMap Try.prog 9 fE mb 21 ((DataW.map es).put (sk nm) (.lit (.int .i64 (w.heap.size : Int)))) ∧ Grow (fun k => k = bf ∨ k = mb) w V ∧ V.heap.size = w.heap.size + 1 ∧ V.heap[w.heap.size]? = some (.cells #[.slice none 0 0, .int .i64 0] 76 (0, 0)) ∧ Apd V w.heap.size (.slice none 0 0) xs w' := by
  have hmb := hown.lt
  obtain ⟨n1, n2, n3, n4, n5⟩ := hfd
  have hbl : bf < w.heap.size := (Array.getElem?_eq_some_iff.1 hf).1
  obtain ⟨wb, hwb⟩ : ∃ V, (w.setCell ⟨bf, 0, none⟩ (.pointer (some ⟨w.heap.size, 0, none⟩))).alloc (.cells #[.slice none 0 0, .int .i64 0] 76) = V := ⟨_, rfl⟩
  have hws : (w.setCell ⟨bf, 0, none⟩ (.pointer (some ⟨w.heap.size, 0, none⟩))).heap.size = w.heap.size := set_size _ _ _
  have hkb : ∀ k, k < w.heap.size → k ≠ bf → wb.heap[k]? = w.heap[k]? := fun k hk hne => by rw [← hwb]; exact (((Below.refl _ (w.setCell ⟨bf, 0, none⟩ (.pointer (some ⟨w.heap.size, 0, none⟩)))).alloc (Nat.le_refl _) _).block k (by rw [hws]; exact hk)).trans (set_blk _ _ _ _ hne)
  have hfa := hf
  have hcb : ∀ k u, w.cell? ⟨k, 0, none⟩ = some u → bf ≠ k → wb.cell? ⟨k, 0, none⟩ = some u := fun k u h hne => (World.cell?_of_block (a := ⟨k, 0, none⟩) (hkb k (World.block_lt_of_cell? w _ h) (Ne.symm hne))).trans h
  have d1 := hcb _ _ hd n1
  have d2 := hcb _ _ hn n2
  have d3 := hcb _ _ hb n3
  have d4 := hcb _ _ c0 n4
  have hfb : wb.heap[bf]? = some (.cells #[.pointer (some ⟨w.heap.size, 0, none⟩)] 71 (0, 0)) := by rw [← hwb]; exact old_at _ _ (by simp [World.setCell, Array.getElem?_modify, hfa])
  have d5 := box_cell hfb
  have hnew : wb.heap[w.heap.size]? = some (.cells #[.slice none 0 0, .int .i64 0] 76 (0, 0)) := by rw [← hwb]; exact new_at _ _ hws
  have hszb : wb.heap.size = w.heap.size + 1 := by rw [← hwb]; simp [hws]
  have hGb : Grow (fun k => k = bf ∨ k = mb) w wb := by rw [← hwb]; exact ((Grow.refl _ w).set (p := ⟨bf, 0, none⟩) (.inl (.inl rfl)) _).trans (Grow.of_below ((Below.refl _ _).alloc (Nat.le_refl _) _))
  have hob := ownsMap_onS hown (hkb mb hmb (Ne.symm n5))
  obtain ⟨w2, hrun2, ho2, ht2⟩ := (hob.drew).store lawK Try.underlying65 (by unfold maxLen; omega) hkey (fE_pt w.heap.size)
  have hg2 := grown_undrew ht2.grown
  have hs2 : w2.heap.size = w.heap.size + 1 := by rw [← hszb]; obtain ⟨_, _, _, _, _, rfl⟩ := ht2; simp [ChangeMaps.setBlock]
  obtain ⟨em, cm, hmm⟩ := ownsMap_blk hob
  have hk2 : ∀ k, k < wb.heap.size → k ≠ mb → w2.heap[k]? = wb.heap[k]? := fun k hk hne => hg2.block k hk (fun e => hne (by injection e))
  have e0 : w2.heap[w.heap.size]? = some (.cells #[.slice none 0 0, .int .i64 0] 76 (0, 0)) := (hk2 _ (by omega) (by omega)).trans hnew
  have e1 : w2.cell? ⟨w.heap.size, 0, none⟩ = some (.slice none 0 0) := cell_of_row w2 _ 0 _ _ (0, 0) e0
  have e2 : w2.frozen? ⟨w.heap.size, 0, none⟩ = false := by simp [World.frozen?, e0]
  have e3 : w2.cell? ⟨bf, 0, none⟩ = some (.pointer (some ⟨w.heap.size, 0, none⟩)) := box_cell ((hk2 _ (by omega) n5).trans hfb)
  have hbm : bb ≠ mb := fun e => by
    subst e
    have h2 := d3
    simp [World.cell?, hmm] at h2
  have e4 : w2.cell? ⟨bb, 0, none⟩ = some (.slice XA xn xc) := (World.cell?_of_block (a := ⟨bb, 0, none⟩) (hk2 _ (by have := World.block_lt_of_cell? w _ hb; omega) hbm)).trans d3
  have HX := Lib.hid (show At w2 XA xn xs by
    refine ⟨hx.1, fun h0 => ?_⟩
    obtain ⟨b, o, e, hc⟩ := hx.2 h0
    refine ⟨b, o, e, fun i hi => ?_⟩
    have h1 := hc i hi
    have hbl2 : b < w.heap.size := World.block_lt_of_cell? w _ h1
    have hne1 : b ≠ bf := fun e => by
      rw [e, cell_of_row w bf (o + i) #[.pointer none] _ (0, 0) hf] at h1
      generalize o + i = k at h1
      cases k with
      | zero => simp at h1
      | succ k => simp at h1
    have hne2 : b ≠ mb := fun e => by
      obtain ⟨em, cm, hm⟩ := ownsMap_blk hown
      rw [e] at h1
      simp [World.cell?, hm] at h1
    exact (World.cell?_of_block (a := ⟨b, o + i, none⟩) ((hk2 b (by omega) hne2).trans (hkb b hbl2 hne1))).trans h1)
  have HO2 := Lib.hid (And.intro ho2 (And.intro (hGb.trans (Grow.by_ hg2 (fun k e => by injection e with e; exact .inl (.inr e.symm)))) (And.intro hs2 e0)))
  have HZ := Lib.hid (fun V (h : w2.grownBy V (Value.slice none 0 0).ownBlock) => (show V.cell? ⟨w.heap.size, 0, none⟩ = some (.slice none 0 0) ∧ V.frozen? ⟨w.heap.size, 0, none⟩ = false ∧ V.cell? ⟨bf, 0, none⟩ = some (.pointer (some ⟨w.heap.size, 0, none⟩)) from by
    have hh := h.block w.heap.size (by omega) (by simp [Value.ownBlock])
    exact ⟨(World.cell?_of_block (a := ⟨w.heap.size, 0, none⟩) hh).trans e1, by rw [← e2]; simp [World.frozen?, hh], (World.cell?_of_block (a := ⟨bf, 0, none⟩) (h.block bf (by omega) (by simp [Value.ownBlock]))).trans e3⟩))
  have HLL := Lib.hid hx.1
  have HWB := Lib.hid hwb
  have HNIL := Lib.hid (show ∀ V : World, V.ownsRow 0 5 1 (.slice none 0 0) 0 (([] : List UInt8).map bv) from fun V => World.ownsRow_nil V 0 5 1)
  have hf1 := box_cell hf
  have hf2 : w.frozen? ⟨bf, 0, none⟩ = false := by simp [World.frozen?, hf]
  clear hws hfa hkb hcb hfb hnew hszb hGb hob ho2 ht2 hg2 hs2 hmm hk2 e0 hx hown hkey hwb hd hn hb c0 hf hmb
  go_enter Try.func52, Try.ntmps52
  go_wp2_with fail
  rw [HWB.out]
  go_cut [] from 5 to 40 (fun wx => wx = w2)
  case first =>
    go_region_with (fail)
    all_goals (try go_wp2_with fail)
    all_goals go_meet
    all_goals rfl
  case rest =>
    subst hcut
    clear d1 d2 d3 d4 d5 hrun2 hf1 hf2 HWB ho
    go_wp2_with fail
    go_region_law (refine step_app rfl (.tmp 19) (.tmp 20) 27 rfl 0 5 Try.underlying27 info5 (.slice none 0 0) 0 [] xs rfl (HNIL.out _) XA xn xc rfl HX.out (by omega) (Nat.zero_le _) ?_; intro v' w1 h1 h2 h3; obtain ⟨A1, c1, rfl⟩ := rowSlice h1; obtain ⟨y1, y2, y3⟩ := HZ.out w1 ⟨h2.os, h2.tape, h2.output, h2.size, h2.block⟩; have HH := Lib.hid (And.intro h1 (And.intro h2 h3)); clear h1 h2 h3)
    all_goals
      go_wp2_with fail
      first | go_end0 | (refine bodyPost_ret (results_none rfl _ _ _) rfl ?_)
      have hh := HH.out.1
      rw [Nat.zero_add, List.nil_append] at hh
      exact ⟨rfl, wc, HO2.out.1, HO2.out.2.1, HO2.out.2.2.1, HO2.out.2.2.2, Apd.mk hh HLL.out (grown_undrew HH.out.2.1) (by have h3 := HH.out.2.2; rw [Nat.zero_add] at h3; exact h3)⟩
end Go.Proofs.Ytkhalpajomammaa
