/-
  Layer 7: the landed disk: Append's closure, of a file that is there.
  Layer 7: the landed disk: Append's walk, in the three ways of its question. (Written by wip/tools/gapp.py.)
  Layer 7: the landed disk: Append's walk, where there are twenty files. (Written by wip/tools/gapp.py.)
  Layer 7: the landed disk: Append's walk, of a new file. (Written by wip/tools/gapp.py.)
  Layer 7: the landed disk: Append.
-/
import Derived.Test.YtamglegdgcehaaaGreatZ32
import Derived.Deep.RegionLaw
set_option linter.unusedVariables false
namespace Go.Proofs.YtamglegdgcehaaaGreat
open Go.RowKit Go.Maps

theorem step_app {P : Program} {ops : Array Oper} {w : World} {o : Oper} {a : Act} {K : Act → World → Prop} {Q : Exit → Act → World → Prop} {E : Prop} (hg : o.guard = none) (s x : Operand) (t : TypeId)
    (ho : o.op = .call { callee := .builtin .append, args := #[s, x], argTypes := #[t, t] })
    (base : Nat) (e : TypeId) (ht : P.underlying t = some (.slice e)) (hinfo : (P.info? e).map (fun i => (i.zero, i.size, i.bytes)) = some (some (.int .u8 0), 1, 1))
    (v : Value) (n : Nat) (xs ys : List UInt8) (hs : a.eval s = v) (hown : w.ownsRow base e 1 v n (xs.map bv))
    (A : Option Addr) (m c : Nat) (hx : a.eval x = .slice A m c) (hr : At w A m ys) (hbytes : n + m ≤ 225000000000000) (hbase : base ≤ w.heap.size)
    (h : ∀ v' w', w'.ownsRow base e 1 v' (n + m) ((xs ++ ys).map bv) → w.grownBy w' v.ownBlock → (v'.ownBlock = v.ownBlock ∨ v'.ownBlock = some w.heap.size) → K (a.put o.dst v') w') :
    if Region.wanted o (yielded ops a.tmps) = true then Oper.wp P o a w K Q else E := by
  have hw : Region.wanted o (yielded ops a.tmps) = true := by simp [Region.wanted, hg]
  rw [if_pos hw]
  exact wp_app s x t ho base e ht hinfo v n xs ys hs hown A m c hx hr hbytes hbase h
/-- What the closure leaves: bytes in their own row, the file's first cell. -/
def Apd (w : World) (q : Nat) (v : Value) (bt : List UInt8) (w' : World) : Prop :=
  ∃ V v' n, w' = (V.setCell ⟨q, 0, none⟩ v').drewN n ∧ Own V 0 v' bt ∧ w.grownBy V v.ownBlock ∧ (v'.ownBlock = v.ownBlock ∨ v'.ownBlock = some w.heap.size)
theorem Apd.mk {w V : World} {q n : Nat} {v v' : Value} {bt : List UInt8} (h1 : V.ownsRow 0 5 1 v' n (bt.map bv)) (hl : bt.length = n) (h2 : w.grownBy V v.ownBlock) (h3 : v'.ownBlock = v.ownBlock ∨ v'.ownBlock = some w.heap.size) : Apd w q v bt (V.setCell ⟨q, 0, none⟩ v') :=
  ⟨V, v', 0, rfl, by unfold Own; rw [hl]; exact h1, h2, h3⟩
set_option maxRecDepth 100000 in
set_option maxHeartbeats 8000000 in
theorem gApp_old (w : World) (bo bf bd bn bb q : Nat) (A : Option Addr) (L cap : Nat) (bs : List UInt8) (XA : Option Addr) (xn xc : Nat) (xs : List UInt8) (ho : w.cell? ⟨bo, 0, none⟩ = some (.bool true)) (hf : w.cell? ⟨bf, 0, none⟩ = some (pt q)) (hb : w.cell? ⟨bb, 0, none⟩ = some (.slice XA xn xc))
    (c0 : w.cell? ⟨q, 0, none⟩ = some (.slice A L cap)) (z : w.frozen? ⟨q, 0, none⟩ = false) (hown : Own w 0 (.slice A L cap) bs) (hq : (Value.slice A L cap).ownBlock ≠ some q) (hqf : (Value.slice A L cap).ownBlock ≠ some bf) (hx : At w XA xn xs) (hL : L ≤ 4194304) (hX : xn ≤ 4194304) :
    Calls Tryz.prog 55 #[pt bo, pt bf, pt bd, pt bn, pt bb] w fun e w' => e = .returned (.tuple #[]) ∧ Apd w q (.slice A L cap) (bs ++ xs) w' := by
  have hrow : w.ownsRow 0 5 1 (.slice A L cap) L (bs.map bv) := ownLen hown hown.len
  have hq1 : q < w.heap.size := World.block_lt_of_cell? w _ c0
  have HR := Lib.hid hrow
  have HX := Lib.hid hx
  have HZ := Lib.hid (fun V (h : w.grownBy V (Value.slice A L cap).ownBlock) => (show V.cell? ⟨q, 0, none⟩ = some (.slice A L cap) ∧ V.frozen? ⟨q, 0, none⟩ = false ∧ V.cell? ⟨bf, 0, none⟩ = some (pt q) from by
    have hh := h.block q hq1 (fun e => hq e.symm)
    exact ⟨(World.cell?_of_block (a := ⟨q, 0, none⟩) hh).trans c0, by rw [← z]; simp [World.frozen?, hh], (World.cell?_of_block (a := ⟨bf, 0, none⟩) (h.block bf (World.block_lt_of_cell? w _ hf) (fun e => hqf e.symm))).trans hf⟩))
  have HLL := Lib.hid (lenApp hown.len hx.1)
  clear hrow hown hx
  go_enter Tryz.func55, Tryz.ntmps55
  go_wp2_with fail
  go_region_law (refine step_app rfl (.tmp 19) (.tmp 20) 40 rfl 0 5 Tryz.underlying40 info5 (.slice A L cap) L bs xs rfl HR.out XA xn xc rfl HX.out (by omega) (Nat.zero_le _) ?_; intro v' w1 h1 h2 h3; obtain ⟨A1, c1, rfl⟩ := rowSlice h1; obtain ⟨y1, y2, y3⟩ := HZ.out w1 ⟨h2.os, h2.tape, h2.output, h2.size, h2.block⟩; have HH := Lib.hid (And.intro h1 (And.intro h2 h3)); clear h1 h2 h3)
  all_goals
    go_wp2_with fail
    first | go_end0 | (refine bodyPost_ret (results_none rfl _ _ _) rfl ?_)
    exact ⟨rfl, Apd.mk HH.out.1 HLL.out (grown_undrew HH.out.2.1) HH.out.2.2⟩

set_option maxRecDepth 100000 in
set_option maxHeartbeats 8000000 in
theorem gApp_new (w : World) (bo bf bd bn bb g : Nat) (nm : ByteArray) (mb : Nat) (es : List (Lit × DataW Empty)) (XA : Option Addr) (xn xc : Nat) (xs : List UInt8) (ho : w.cell? ⟨bo, 0, none⟩ = some (.bool false)) (hf : w.heap[bf]? = some (.cells #[.pointer none] 96 (0, 0))) (hd : w.cell? ⟨bd, 0, none⟩ = some (pt g)) (hn : w.cell? ⟨bn, 0, none⟩ = some (.string nm)) (hb : w.cell? ⟨bb, 0, none⟩ = some (.slice XA xn xc))
    (hfd : bf ≠ bd ∧ bf ≠ bn ∧ bf ≠ bb ∧ bf ≠ g ∧ bf ≠ mb) (c0 : w.cell? ⟨g, 0, none⟩ = some (.map (some mb))) (hown : w.ownsMap Tryz.prog 9 fE mb 20 (.map es)) (hkey : keyOf Tryz.prog 9 (.string nm) = some (sk nm)) (hx : At w XA xn xs) (hX : xn ≤ 4194304) :
    Calls Tryz.prog 55 #[pt bo, pt bf, pt bd, pt bn, pt bb] w fun e w' => e = .returned (.tuple #[]) ∧ ∃ V, V.ownsMap Tryz.prog 9 fE mb 21 ((DataW.map es).put (sk nm) (.lit (.int .i64 (w.heap.size : Int)))) ∧ Grow (fun k => k = bf ∨ k = mb) w V ∧ V.heap.size = w.heap.size + 1 ∧ V.heap[w.heap.size]? = some (.cells #[.slice none 0 0, .int .i64 0] 100 (0, 0)) ∧ Apd V w.heap.size (.slice none 0 0) xs w' := by
  have hmb := hown.lt
  obtain ⟨n1, n2, n3, n4, n5⟩ := hfd
  have hbl : bf < w.heap.size := (Array.getElem?_eq_some_iff.1 hf).1
  obtain ⟨wb, hwb⟩ : ∃ V, (w.setCell ⟨bf, 0, none⟩ (.pointer (some ⟨w.heap.size, 0, none⟩))).alloc (.cells #[.slice none 0 0, .int .i64 0] 100) = V := ⟨_, rfl⟩
  have hws : (w.setCell ⟨bf, 0, none⟩ (.pointer (some ⟨w.heap.size, 0, none⟩))).heap.size = w.heap.size := set_size _ _ _
  have hkb : ∀ k, k < w.heap.size → k ≠ bf → wb.heap[k]? = w.heap[k]? := fun k hk hne => by rw [← hwb]; exact (((Below.refl _ (w.setCell ⟨bf, 0, none⟩ (.pointer (some ⟨w.heap.size, 0, none⟩)))).alloc (Nat.le_refl _) _).block k (by rw [hws]; exact hk)).trans (set_blk _ _ _ _ hne)
  have hfa := hf
  have hcb : ∀ k u, w.cell? ⟨k, 0, none⟩ = some u → bf ≠ k → wb.cell? ⟨k, 0, none⟩ = some u := fun k u h hne => (World.cell?_of_block (a := ⟨k, 0, none⟩) (hkb k (World.block_lt_of_cell? w _ h) (Ne.symm hne))).trans h
  have d1 := hcb _ _ hd n1
  have d2 := hcb _ _ hn n2
  have d3 := hcb _ _ hb n3
  have d4 := hcb _ _ c0 n4
  have hfb : wb.heap[bf]? = some (.cells #[.pointer (some ⟨w.heap.size, 0, none⟩)] 96 (0, 0)) := by rw [← hwb]; exact old_at _ _ (by simp [World.setCell, Array.getElem?_modify, hfa])
  have d5 := box_cell hfb
  have hnew : wb.heap[w.heap.size]? = some (.cells #[.slice none 0 0, .int .i64 0] 100 (0, 0)) := by rw [← hwb]; exact new_at _ _ hws
  have hszb : wb.heap.size = w.heap.size + 1 := by rw [← hwb]; simp [hws]
  have hGb : Grow (fun k => k = bf ∨ k = mb) w wb := by rw [← hwb]; exact ((Grow.refl _ w).set (p := ⟨bf, 0, none⟩) (.inl (.inl rfl)) _).trans (Grow.of_below ((Below.refl _ _).alloc (Nat.le_refl _) _))
  have hob := ownsMap_onS hown (hkb mb hmb (Ne.symm n5))
  obtain ⟨w2, hrun2, ho2, ht2⟩ := (hob.drew).store lawK Tryz.underlying79 (by unfold maxLen; omega) hkey (fE_pt w.heap.size)
  have hg2 := grown_undrew ht2.grown
  have hs2 : w2.heap.size = w.heap.size + 1 := by rw [← hszb]; obtain ⟨_, _, _, _, _, rfl⟩ := ht2; simp [ChangeMaps.setBlock]
  obtain ⟨em, cm, hmm⟩ := ownsMap_blk hob
  have hk2 : ∀ k, k < wb.heap.size → k ≠ mb → w2.heap[k]? = wb.heap[k]? := fun k hk hne => hg2.block k hk (fun e => hne (by injection e))
  have e0 : w2.heap[w.heap.size]? = some (.cells #[.slice none 0 0, .int .i64 0] 100 (0, 0)) := (hk2 _ (by omega) (by omega)).trans hnew
  have e1 : w2.cell? ⟨w.heap.size, 0, none⟩ = some (.slice none 0 0) := cell_of_row w2 _ 0 _ _ (0, 0) e0
  have e2 : w2.frozen? ⟨w.heap.size, 0, none⟩ = false := by simp [World.frozen?, e0]
  have e3 : w2.cell? ⟨bf, 0, none⟩ = some (.pointer (some ⟨w.heap.size, 0, none⟩)) := box_cell ((hk2 _ (by omega) n5).trans hfb)
  have hbm : bb ≠ mb := fun e => by
    subst e
    have h2 := d3
    simp [World.cell?, hmm] at h2
  have e4 : w2.cell? ⟨bb, 0, none⟩ = some (.slice XA xn xc) := (World.cell?_of_block (a := ⟨bb, 0, none⟩) (hk2 _ (by have := World.block_lt_of_cell? w _ hb; omega) hbm)).trans d3
  have HX := Lib.hid (show At w2 XA xn xs by
    refine ⟨hx.1, fun h0 => ?_⟩
    obtain ⟨b, o, e, hc⟩ := hx.2 h0
    refine ⟨b, o, e, fun i hi => ?_⟩
    have h1 := hc i hi
    have hbl2 : b < w.heap.size := World.block_lt_of_cell? w _ h1
    have hne1 : b ≠ bf := fun e => by
      rw [e, cell_of_row w bf (o + i) #[.pointer none] _ (0, 0) hf] at h1
      generalize o + i = k at h1
      cases k with
      | zero => simp at h1
      | succ k => simp at h1
    have hne2 : b ≠ mb := fun e => by
      obtain ⟨em, cm, hm⟩ := ownsMap_blk hown
      rw [e] at h1
      simp [World.cell?, hm] at h1
    exact (World.cell?_of_block (a := ⟨b, o + i, none⟩) ((hk2 b (by omega) hne2).trans (hkb b hbl2 hne1))).trans h1)
  have HO2 := Lib.hid (And.intro ho2 (And.intro (hGb.trans (Grow.by_ hg2 (fun k e => by injection e with e; exact .inl (.inr e.symm)))) (And.intro hs2 e0)))
  have HZ := Lib.hid (fun V (h : w2.grownBy V (Value.slice none 0 0).ownBlock) => (show V.cell? ⟨w.heap.size, 0, none⟩ = some (.slice none 0 0) ∧ V.frozen? ⟨w.heap.size, 0, none⟩ = false ∧ V.cell? ⟨bf, 0, none⟩ = some (.pointer (some ⟨w.heap.size, 0, none⟩)) from by
    have hh := h.block w.heap.size (by omega) (by simp [Value.ownBlock])
    exact ⟨(World.cell?_of_block (a := ⟨w.heap.size, 0, none⟩) hh).trans e1, by rw [← e2]; simp [World.frozen?, hh], (World.cell?_of_block (a := ⟨bf, 0, none⟩) (h.block bf (by omega) (by simp [Value.ownBlock]))).trans e3⟩))
  have HLL := Lib.hid hx.1
  have HWB := Lib.hid hwb
  have HNIL := Lib.hid (show ∀ V : World, V.ownsRow 0 5 1 (.slice none 0 0) 0 (([] : List UInt8).map bv) from fun V => World.ownsRow_nil V 0 5 1)
  have hf1 := box_cell hf
  have hf2 : w.frozen? ⟨bf, 0, none⟩ = false := by simp [World.frozen?, hf]
  clear hws hfa hkb hcb hfb hnew hszb hGb hob ho2 ht2 hg2 hs2 hmm hk2 e0 hx hown hkey hwb hd hn hb c0 hf hmb
  go_enter Tryz.func55, Tryz.ntmps55
  go_wp2_with fail
  rw [HWB.out]
  go_cut [] from 5 to 40 (fun wx => wx = w2)
  case first =>
    go_region_with (fail)
    all_goals (try go_wp2_with fail)
    all_goals go_meet
    all_goals rfl
  case rest =>
    subst hcut
    clear d1 d2 d3 d4 d5 hrun2 hf1 hf2 HWB ho
    go_wp2_with fail
    go_region_law (refine step_app rfl (.tmp 19) (.tmp 20) 40 rfl 0 5 Tryz.underlying40 info5 (.slice none 0 0) 0 [] xs rfl (HNIL.out _) XA xn xc rfl HX.out (by omega) (Nat.zero_le _) ?_; intro v' w1 h1 h2 h3; obtain ⟨A1, c1, rfl⟩ := rowSlice h1; obtain ⟨y1, y2, y3⟩ := HZ.out w1 ⟨h2.os, h2.tape, h2.output, h2.size, h2.block⟩; have HH := Lib.hid (And.intro h1 (And.intro h2 h3)); clear h1 h2 h3)
    all_goals
      go_wp2_with fail
      first | go_end0 | (refine bodyPost_ret (results_none rfl _ _ _) rfl ?_)
      have hh := HH.out.1
      rw [Nat.zero_add, List.nil_append] at hh
      exact ⟨rfl, wc, HO2.out.1, HO2.out.2.1, HO2.out.2.2.1, HO2.out.2.2.2, Apd.mk hh HLL.out (grown_undrew HH.out.2.1) (by have h3 := HH.out.2.2; rw [Nat.zero_add] at h3; exact h3)⟩
end Go.Proofs.YtamglegdgcehaaaGreat
set_option linter.unusedVariables false
namespace Go.Proofs.YtamglegdgcehaaaGreat
open Go.RowKit Go.Maps

theorem three_bel (w : World) (a b c : Obj) : Below w.heap.size w (((w.alloc a).alloc b).alloc c) := ((two_bel w a b).alloc (by simp; omega) c)
theorem three_get (w : World) (a b c : Obj) : (((w.alloc a).alloc b).alloc c).heap[w.heap.size]? = some a ∧ (((w.alloc a).alloc b).alloc c).heap[w.heap.size + 1]? = some b ∧ (((w.alloc a).alloc b).alloc c).heap[w.heap.size + 1 + 1]? = some c :=
  ⟨old_at _ _ (old_at _ _ (new_at _ _ rfl)), old_at _ _ (new_at _ _ (by simp)), new_at _ _ (by simp)⟩
theorem five_bel (w : World) (a b c d e : Obj) : Below w.heap.size w (((((w.alloc a).alloc b).alloc c).alloc d).alloc e) := (four_bel w a b c d).alloc (by simp; omega) e
theorem five_get (w : World) (a b c d e : Obj) : (((((w.alloc a).alloc b).alloc c).alloc d).alloc e).heap[w.heap.size]? = some a ∧ (((((w.alloc a).alloc b).alloc c).alloc d).alloc e).heap[w.heap.size + 1]? = some b ∧ (((((w.alloc a).alloc b).alloc c).alloc d).alloc e).heap[w.heap.size + 1 + 1]? = some c ∧ (((((w.alloc a).alloc b).alloc c).alloc d).alloc e).heap[w.heap.size + 1 + 1 + 1]? = some d ∧ (((((w.alloc a).alloc b).alloc c).alloc d).alloc e).heap[w.heap.size + 1 + 1 + 1 + 1]? = some e :=
  ⟨old_at _ _ (four_get w a b c d).1, old_at _ _ (four_get w a b c d).2.1, old_at _ _ (four_get w a b c d).2.2.1, old_at _ _ (four_get w a b c d).2.2.2, new_at _ _ (by simp)⟩
/-- The five boxes. -/
structure AB (w : World) (g : Nat) (nm : ByteArray) (XA : Option Addr) (xn xc : Nat) (fv : Value) (fo : Bool) (b8 b9 : Nat) (V : World) : Prop where
  bel : Below w.heap.size w V
  h0 : V.heap[w.heap.size]? = some (.cells #[pt g] 24 (0, 0))
  h1 : V.heap[w.heap.size + 1]? = some (.cells #[.string nm] 9 (0, 0))
  h2 : V.heap[w.heap.size + 1 + 1]? = some (.cells #[.slice XA xn xc] 40 (0, 0))
  h8 : V.heap[b8]? = some (.cells #[fv] 96 (0, 0))
  h9 : V.heap[b9]? = some (.cells #[.bool fo] 4 (0, 0))
  l8 : w.heap.size ≤ b8
  l9 : w.heap.size ≤ b9
theorem AB.mk1 (w : World) (g : Nat) (nm : ByteArray) (XA : Option Addr) (xn xc : Nat) (fv : Value) (fo : Bool) :
    AB w g nm XA xn xc fv fo (w.heap.size + 1 + 1 + 1) (w.heap.size + 1 + 1 + 1 + 1) (((((w.alloc (.cells #[pt g] 24)).alloc (.cells #[.string nm] 9)).alloc (.cells #[.slice XA xn xc] 40)).alloc (.cells #[fv] 96)).alloc (.cells #[.bool fo] 4)).drew := by
  obtain ⟨h0, h1, h2, h3, h4⟩ := five_get w (.cells #[pt g] 24) (.cells #[.string nm] 9) (.cells #[.slice XA xn xc] 40) (.cells #[fv] 96) (.cells #[.bool fo] 4)
  exact ⟨(five_bel w _ _ _ _ _).drew, h0, h1, h2, h3, h4, by omega, by omega⟩
theorem AB.mk2 (w : World) (g : Nat) (nm : ByteArray) (XA : Option Addr) (xn xc : Nat) (fv : Value) (fo : Bool) :
    AB w g nm XA xn xc fv fo (w.heap.size + 1 + 1 + 1 + 1) (w.heap.size + 1 + 1 + 1) (((((w.alloc (.cells #[pt g] 24)).alloc (.cells #[.string nm] 9)).alloc (.cells #[.slice XA xn xc] 40)).alloc (.cells #[.bool fo] 4)).alloc (.cells #[fv] 96)).drew := by
  obtain ⟨h0, h1, h2, h3, h4⟩ := five_get w (.cells #[pt g] 24) (.cells #[.string nm] 9) (.cells #[.slice XA xn xc] 40) (.cells #[.bool fo] 4) (.cells #[fv] 96)
  exact ⟨(five_bel w _ _ _ _ _).drew, h0, h1, h2, h4, h3, by omega, by omega⟩
/-- What the look-up's region reads. -/
@[reducible] def SA (w : World) (g mb : Nat) (nm : ByteArray) (fv : Value) (fo : Bool) (V : World) : Prop :=
  V.cell? ⟨w.heap.size, 0, none⟩ = some (pt g) ∧ V.cell? ⟨w.heap.size + 1, 0, none⟩ = some (.string nm) ∧ V.cell? ⟨g, 0, none⟩ = some (.map (some mb)) ∧ (Instr.lookup 79 (.map (some mb)) (.string nm) true).run Tryz.prog V = .ok (.tuple #[fv, .bool fo]) V
/-- What the question's region reads. -/
@[reducible] def SB (w : World) (g mb : Nat) (XA : Option Addr) (xn xc : Nat) (fo : Bool) (b9 : Nat) (V : World) : Prop :=
  V.cell? ⟨w.heap.size, 0, none⟩ = some (pt g) ∧ V.cell? ⟨w.heap.size + 1 + 1, 0, none⟩ = some (.slice XA xn xc) ∧ V.cell? ⟨b9, 0, none⟩ = some (.bool fo) ∧ V.cell? ⟨g, 0, none⟩ = some (.map (some mb))
theorem AB.below {w V V' : World} {g : Nat} {nm : ByteArray} {XA : Option Addr} {xn xc : Nat} {fv : Value} {fo : Bool} {b8 b9 : Nat} (h : AB w g nm XA xn xc fv fo b8 b9 V) (hb : Below V.heap.size V V') : AB w g nm XA xn xc fv fo b8 b9 V' :=
  ⟨h.bel.trans (hb.mono h.bel.size), (hb.block _ (Array.getElem?_eq_some_iff.1 h.h0).1).trans h.h0, (hb.block _ (Array.getElem?_eq_some_iff.1 h.h1).1).trans h.h1, (hb.block _ (Array.getElem?_eq_some_iff.1 h.h2).1).trans h.h2, (hb.block _ (Array.getElem?_eq_some_iff.1 h.h8).1).trans h.h8, (hb.block _ (Array.getElem?_eq_some_iff.1 h.h9).1).trans h.h9, h.l8, h.l9⟩
theorem AB.sb {w V : World} {g : Nat} {nm : ByteArray} {XA : Option Addr} {xn xc : Nat} {fv : Value} {fo : Bool} {b8 b9 : Nat} (h : AB w g nm XA xn xc fv fo b8 b9 V) {D : Dk} {F : Nat → Prop} {mb : Nat} {fp : Option Addr} {es : List (Lit × DataW Empty)} {qs : List Cf} (hR : RC w g D F mb fp es qs) : SB w g mb XA xn xc fo b9 V :=
  ⟨box_cell h.h0, box_cell h.h2, box_cell h.h9, (hR.below h.bel).c0⟩
theorem step_lenM {P : Program} {ops : Array Oper} {o : Oper} {a : Act} {w : World} {K : Act → World → Prop} {Q : Exit → Act → World → Prop} {E : Prop} (m : Operand) (t : TypeId) (hop : o.op = Op.call { callee := Callee.builtin Builtin.len, args := #[m], argTypes := #[t] })
    (hw : Region.wanted o (yielded ops a.tmps) = true) (b : Nat) (v : Value) (hm : a.eval m = .map (some b)) (hrun : (Builtin.len_ #[t] o.type #[.map (some b)]).run P w = .ok v w) (hK : K (a.put o.dst v) w) : if Region.wanted o (yielded ops a.tmps) = true then Oper.wp P o a w K Q else E := by
  rw [if_pos hw]
  unfold Oper.wp
  simp [execOp, hop, resolve, invoke, builtin, hm, hrun, Result.andThen]
  exact hK
theorem RC.size_eq {w : World} {g : Nat} {D : Dk} {F : Nat → Prop} {mb : Nat} {fp : Option Addr} {es : List (Lit × DataW Empty)} {qs : List Cf} (h : RC w g D F mb fp es qs) : Maps.size (DataW.map es) = D.l.length := by
  have h1 := h.perm.length_eq
  rw [List.length_map, h.len] at h1
  exact h1
set_option maxRecDepth 100000 in
set_option maxHeartbeats 8000000 in
theorem gApp_there (w : World) (g : Nat) (D : Dk) (F : Nat → Prop) (mb : Nat) (fp : Option Addr) (es : List (Lit × DataW Empty)) (qs : List Cf) (nm : ByteArray) (XA : Option Addr) (xn xc : Nat) (h : RC w g D F mb fp es qs) (hx : xn ≤ 140000000000000) (hd : D.dead = false) (hmy : mayN nm = true) (fv : Value) (hf : ∃ q, fv = pt q)
    (hlk : ∀ V, RC V g D F mb fp es qs → (Instr.lookup 79 (.map (some mb)) (.string nm) true).run Tryz.prog V = .ok (.tuple #[fv, .bool true]) V) (E : Int) (D' : Dk) (full : Bool) (hfull : decide (4194304 < (sum D.l : Int) + (xn : Int)) = full)
    (hE : full = true → E = 7 ∧ D' = D) (hW : full = false → ∀ b8 b9 V, AB w g nm XA xn xc fv true b8 b9 V → Calls Tryz.prog 54 #[pt g, .func (.func 55) #[] #[pt b9, pt b8, pt w.heap.size, pt (w.heap.size + 1), pt (w.heap.size + 1 + 1)]] V fun e w' => e = .returned (.int .i64 E) ∧ Turns RCk w g F D' w') :
    Calls Tryz.prog 15 #[pt g, .string nm, .slice XA xn xc] w fun e w' => e = .returned (.int .i64 E) ∧ Turns RCk w g F D' w' := by
  have H := Lib.hid h
  have CK := Lib.hid (fun V (hb : Below w.heap.size w V) => gCheck V g D F mb fp es qs (H.out.below hb))
  have MY := Lib.hid (fun V => gMay V nm)
  rw [hd] at CK
  rw [hmy] at MY
  have hb3 := three_bel w (.cells #[pt g] 24) (.cells #[.string nm] 9) (.cells #[.slice XA xn xc] 40)
  have HS : ∀ V, Below (((w.alloc (.cells #[pt g] 24)).alloc (.cells #[.string nm] 9)).alloc (.cells #[.slice XA xn xc] 40)).heap.size (((w.alloc (.cells #[pt g] 24)).alloc (.cells #[.string nm] 9)).alloc (.cells #[.slice XA xn xc] 40)) V → SA w g mb nm fv true V := fun V hb => by
    have hR := (h.below hb3).below hb
    have hg := three_get w (.cells #[pt g] 24) (.cells #[.string nm] 9) (.cells #[.slice XA xn xc] 40)
    exact ⟨box_cell ((hb.block _ (Array.getElem?_eq_some_iff.1 hg.1).1).trans hg.1), box_cell ((hb.block _ (Array.getElem?_eq_some_iff.1 hg.2.1).1).trans hg.2.1), hR.c0, hlk V hR⟩
  have HSd := HS _ ((Below.refl _ _).drew)
  obtain ⟨S, hS⟩ : ∃ S, sum D.l = S := ⟨_, rfl⟩
  have HE := Lib.hid hE
  have HW := Lib.hid hW
  clear h hlk hE hW
  obtain ⟨q, rfl⟩ := hf
  all_goals
   go_enter Tryz.func15, Tryz.ntmps15
   go_wp2_with (first
     | (go_at_call 51; refine (CK.out _ hb3).mono ?_; rintro e w1 ⟨rfl, rfl⟩)
     | (go_at_call 52; refine (MY.out _).mono ?_; rintro e w1 ⟨rfl, rfl⟩))
   go_cut [8, 9] from 18 to 26 (fun u v wx => ∃ b8 b9, u = .pointer (some ⟨b8, 0, none⟩) ∧ v = .pointer (some ⟨b9, 0, none⟩) ∧ Hid (AB w g nm XA xn xc (pt q) true b8 b9 wx))
   case first =>
     go_region_held3 (fun V => SA w g mb nm (pt q) true V)
       (first | with_reducible assumption | (with_reducible refine HS _ ?_; repeat (first | exact Below.refl _ _ | refine Below.drew ?_ | refine Below.alloc ?_ (by simp) _ | refine Below.setCell ?_ (by simp) _))) (fail)
     all_goals (try go_wp2_with fail)
     all_goals go_meet
     all_goals first
       | exact ⟨_, _, rfl, rfl, Lib.hid (AB.mk1 _ _ _ _ _ _ _ _)⟩
       | exact ⟨_, _, rfl, rfl, Lib.hid (AB.mk2 _ _ _ _ _ _ _ _)⟩
   case rest =>
     obtain ⟨b8, b9, rfl, rfl, HA⟩ := hcut
     obtain ⟨x0, x2, x9, c0⟩ := (HA.out.below (Below.refl _ _).drew).sb H.out
     have HSB := Lib.hid (fun V (hb : Below wc.heap.size wc V) => (HA.out.below hb).sb H.out)
     have ST := Lib.hid (fun V (hb : Below wc.heap.size wc V) => gStored V g D F mb fp es qs (H.out.below (HA.out.below hb).bel))
     have hw1 : IntKind.i64.wrap ((S : Int) + (xn : Int)) = (S : Int) + (xn : Int) := IntWalk.i64_in _ (by have := H.out.ok.sum; omega)
     rw [hS] at ST hfull
     clear HS HSd CK MY
     go_wp2_with fail
     go_cut [44] from 18 to 47 (fun v wx => v = .bool full ∧ Hid (AB w g nm XA xn xc (pt q) true b8 b9 wx))
     case first =>
       go_region_with
         (first | (go_at_call 53; refine (ST.out _ (Below.refl _ _).drew).mono ?_; rintro e w6 ⟨rfl, hb6⟩; have hb6' := (Below.refl wc.heap.size wc).drew.trans hb6; obtain ⟨z0, z2, z9, d0⟩ := HSB.out _ hb6'; have HB6 := Lib.hid hb6'; clear hb6 hb6'))
       all_goals (try go_wp2_with fail)
       all_goals go_meet
       all_goals first
         | exact ⟨rfl, Lib.hid (HA.out.below HB6.out)⟩
         | exact ⟨by rw [hfull], Lib.hid (HA.out.below (Below.refl _ _).drew)⟩
     case rest =>
       obtain ⟨rfl, HA2⟩ := hcut
       have y0 := box_cell HA2.out.h0
       have hfb : Below w.heap.size w wc := HA2.out.bel
       cases full with
       | true =>
         obtain ⟨rfl, rfl⟩ := HE.out rfl
         go_wp2_with fail
         go_ret
         exact ⟨rfl, RCk.turn H.out hfb⟩
       | false =>
         have WK := Lib.hid (HW.out rfl b8 b9 wc HA2.out)
         go_wp2_with (first
           | (go_at_call 54; refine WK.out.mono ?_; rintro e w7 ⟨rfl, ht⟩))
         go_ret
         exact ⟨rfl, ht⟩
end Go.Proofs.YtamglegdgcehaaaGreat
set_option linter.unusedVariables false
namespace Go.Proofs.YtamglegdgcehaaaGreat
open Go.RowKit Go.Maps

set_option maxRecDepth 100000 in
set_option maxHeartbeats 8000000 in
theorem gApp_many (w : World) (g : Nat) (D : Dk) (F : Nat → Prop) (mb : Nat) (fp : Option Addr) (es : List (Lit × DataW Empty)) (qs : List Cf) (nm : ByteArray) (XA : Option Addr) (xn xc : Nat) (h : RC w g D F mb fp es qs) (hx : xn ≤ 140000000000000) (hd : D.dead = false) (hmy : mayN nm = true) (fv : Value) (hf : fv = .pointer none)
    (hlk : ∀ V, RC V g D F mb fp es qs → (Instr.lookup 79 (.map (some mb)) (.string nm) true).run Tryz.prog V = .ok (.tuple #[fv, .bool false]) V) (h20 : D.l.length = 20) (E : Int) (D' : Dk) (full : Bool) (hfull : full = true)
    (hE : full = true → E = 7 ∧ D' = D) (hW : full = false → ∀ b8 b9 V, AB w g nm XA xn xc fv false b8 b9 V → Calls Tryz.prog 54 #[pt g, .func (.func 55) #[] #[pt b9, pt b8, pt w.heap.size, pt (w.heap.size + 1), pt (w.heap.size + 1 + 1)]] V fun e w' => e = .returned (.int .i64 E) ∧ Turns RCk w g F D' w') :
    Calls Tryz.prog 15 #[pt g, .string nm, .slice XA xn xc] w fun e w' => e = .returned (.int .i64 E) ∧ Turns RCk w g F D' w' := by
  have H := Lib.hid h
  have CK := Lib.hid (fun V (hb : Below w.heap.size w V) => gCheck V g D F mb fp es qs (H.out.below hb))
  have MY := Lib.hid (fun V => gMay V nm)
  rw [hd] at CK
  rw [hmy] at MY
  have hb3 := three_bel w (.cells #[pt g] 24) (.cells #[.string nm] 9) (.cells #[.slice XA xn xc] 40)
  have HS : ∀ V, Below (((w.alloc (.cells #[pt g] 24)).alloc (.cells #[.string nm] 9)).alloc (.cells #[.slice XA xn xc] 40)).heap.size (((w.alloc (.cells #[pt g] 24)).alloc (.cells #[.string nm] 9)).alloc (.cells #[.slice XA xn xc] 40)) V → SA w g mb nm fv false V := fun V hb => by
    have hR := (h.below hb3).below hb
    have hg := three_get w (.cells #[pt g] 24) (.cells #[.string nm] 9) (.cells #[.slice XA xn xc] 40)
    exact ⟨box_cell ((hb.block _ (Array.getElem?_eq_some_iff.1 hg.1).1).trans hg.1), box_cell ((hb.block _ (Array.getElem?_eq_some_iff.1 hg.2.1).1).trans hg.2.1), hR.c0, hlk V hR⟩
  have HSd := HS _ ((Below.refl _ _).drew)
  obtain ⟨S, hS⟩ : ∃ S, sum D.l = S := ⟨_, rfl⟩
  have HE := Lib.hid hE
  have HW := Lib.hid hW
  clear h hlk hE hW
  subst hf
  all_goals
   go_enter Tryz.func15, Tryz.ntmps15
   go_wp2_with (first
     | (go_at_call 51; refine (CK.out _ hb3).mono ?_; rintro e w1 ⟨rfl, rfl⟩)
     | (go_at_call 52; refine (MY.out _).mono ?_; rintro e w1 ⟨rfl, rfl⟩))
   go_cut [8, 9] from 18 to 26 (fun u v wx => ∃ b8 b9, u = .pointer (some ⟨b8, 0, none⟩) ∧ v = .pointer (some ⟨b9, 0, none⟩) ∧ Hid (AB w g nm XA xn xc (.pointer none) false b8 b9 wx))
   case first =>
     go_region_held3 (fun V => SA w g mb nm (.pointer none) false V)
       (first | with_reducible assumption | (with_reducible refine HS _ ?_; repeat (first | exact Below.refl _ _ | refine Below.drew ?_ | refine Below.alloc ?_ (by simp) _ | refine Below.setCell ?_ (by simp) _))) (fail)
     all_goals (try go_wp2_with fail)
     all_goals go_meet
     all_goals first
       | exact ⟨_, _, rfl, rfl, Lib.hid (AB.mk1 _ _ _ _ _ _ _ _)⟩
       | exact ⟨_, _, rfl, rfl, Lib.hid (AB.mk2 _ _ _ _ _ _ _ _)⟩
   case rest =>
     obtain ⟨b8, b9, rfl, rfl, HA⟩ := hcut
     obtain ⟨x0, x2, x9, c0⟩ := (HA.out.below (Below.refl _ _).drew).sb H.out
     have HSB := Lib.hid (fun V (hb : Below wc.heap.size wc V) => (HA.out.below hb).sb H.out)
     have ST := Lib.hid (fun V (hb : Below wc.heap.size wc V) => gStored V g D F mb fp es qs (H.out.below (HA.out.below hb).bel))
     have hw1 : IntKind.i64.wrap ((S : Int) + (xn : Int)) = (S : Int) + (xn : Int) := IntWalk.i64_in _ (by have := H.out.ok.sum; omega)
     rw [hS] at ST
     have hln : (Builtin.len_ #[79] 3 #[.map (some mb)]).run Tryz.prog wc.drew = .ok (.int .i64 (D.l.length : Nat)) wc.drew := by
       have h1 := (H.out.below (HA.out.below (Below.refl _ _).drew).bel).map.len Tryz.underlying79 3
       rw [H.out.size_eq] at h1
       exact h1
     rw [h20] at hln
     have HLN := Lib.hid hln
     clear hln
     clear HS HSd CK MY
     go_wp2_with fail
     go_cut [44] from 18 to 47 (fun v wx => v = .bool full ∧ Hid (AB w g nm XA xn xc (.pointer none) false b8 b9 wx))
     case first =>
       go_region_law
         (first | (refine step_lenM (.tmp 33) 79 rfl (by rfl) mb _ rfl HLN.out ?_) | (go_at_call 53; refine (ST.out _ (Below.refl _ _).drew).mono ?_; rintro e w6 ⟨rfl, hb6⟩; have hb6' := (Below.refl wc.heap.size wc).drew.trans hb6; obtain ⟨z0, z2, z9, d0⟩ := HSB.out _ hb6'; have HB6 := Lib.hid hb6'; clear hb6 hb6'))
       all_goals (try go_wp2_with fail)
       all_goals go_meet
       all_goals first
         | exact ⟨rfl, Lib.hid (HA.out.below HB6.out)⟩
         | exact ⟨by rw [hfull], Lib.hid (HA.out.below (Below.refl _ _).drew)⟩
     case rest =>
       obtain ⟨rfl, HA2⟩ := hcut
       have y0 := box_cell HA2.out.h0
       have hfb : Below w.heap.size w wc := HA2.out.bel
       cases full with
       | true =>
         obtain ⟨rfl, rfl⟩ := HE.out rfl
         go_wp2_with fail
         go_ret
         exact ⟨rfl, RCk.turn H.out hfb⟩
       | false =>
         exact absurd hfull (by decide)
end Go.Proofs.YtamglegdgcehaaaGreat

namespace Go.Proofs.YtamglegdgcehaaaGreat
open Go.RowKit Go.Maps

set_option maxRecDepth 100000 in
set_option maxHeartbeats 8000000 in
theorem gApp_few (w : World) (g : Nat) (D : Dk) (F : Nat → Prop) (mb : Nat) (fp : Option Addr) (es : List (Lit × DataW Empty)) (qs : List Cf) (nm : ByteArray) (XA : Option Addr) (xn xc : Nat) (h : RC w g D F mb fp es qs) (hx : xn ≤ 140000000000000) (hd : D.dead = false) (hmy : mayN nm = true) (fv : Value) (hf : fv = .pointer none)
    (hlk : ∀ V, RC V g D F mb fp es qs → (Instr.lookup 79 (.map (some mb)) (.string nm) true).run Tryz.prog V = .ok (.tuple #[fv, .bool false]) V) (h20 : D.l.length < 20) (E : Int) (D' : Dk) (full : Bool) (hfull : decide (4194304 < (sum D.l : Int) + (xn : Int)) = full)
    (hE : full = true → E = 7 ∧ D' = D) (hW : full = false → ∀ b8 b9 V, AB w g nm XA xn xc fv false b8 b9 V → Calls Tryz.prog 54 #[pt g, .func (.func 55) #[] #[pt b9, pt b8, pt w.heap.size, pt (w.heap.size + 1), pt (w.heap.size + 1 + 1)]] V fun e w' => e = .returned (.int .i64 E) ∧ Turns RCk w g F D' w') :
    Calls Tryz.prog 15 #[pt g, .string nm, .slice XA xn xc] w fun e w' => e = .returned (.int .i64 E) ∧ Turns RCk w g F D' w' := by
  have H := Lib.hid h
  have CK := Lib.hid (fun V (hb : Below w.heap.size w V) => gCheck V g D F mb fp es qs (H.out.below hb))
  have MY := Lib.hid (fun V => gMay V nm)
  rw [hd] at CK
  rw [hmy] at MY
  have hb3 := three_bel w (.cells #[pt g] 24) (.cells #[.string nm] 9) (.cells #[.slice XA xn xc] 40)
  have HS : ∀ V, Below (((w.alloc (.cells #[pt g] 24)).alloc (.cells #[.string nm] 9)).alloc (.cells #[.slice XA xn xc] 40)).heap.size (((w.alloc (.cells #[pt g] 24)).alloc (.cells #[.string nm] 9)).alloc (.cells #[.slice XA xn xc] 40)) V → SA w g mb nm fv false V := fun V hb => by
    have hR := (h.below hb3).below hb
    have hg := three_get w (.cells #[pt g] 24) (.cells #[.string nm] 9) (.cells #[.slice XA xn xc] 40)
    exact ⟨box_cell ((hb.block _ (Array.getElem?_eq_some_iff.1 hg.1).1).trans hg.1), box_cell ((hb.block _ (Array.getElem?_eq_some_iff.1 hg.2.1).1).trans hg.2.1), hR.c0, hlk V hR⟩
  have HSd := HS _ ((Below.refl _ _).drew)
  obtain ⟨S, hS⟩ : ∃ S, sum D.l = S := ⟨_, rfl⟩
  have HE := Lib.hid hE
  have HW := Lib.hid hW
  clear h hlk hE hW
  subst hf
  all_goals
   go_enter Tryz.func15, Tryz.ntmps15
   go_wp2_with (first
     | (go_at_call 51; refine (CK.out _ hb3).mono ?_; rintro e w1 ⟨rfl, rfl⟩)
     | (go_at_call 52; refine (MY.out _).mono ?_; rintro e w1 ⟨rfl, rfl⟩))
   go_cut [8, 9] from 18 to 26 (fun u v wx => ∃ b8 b9, u = .pointer (some ⟨b8, 0, none⟩) ∧ v = .pointer (some ⟨b9, 0, none⟩) ∧ Hid (AB w g nm XA xn xc (.pointer none) false b8 b9 wx))
   case first =>
     go_region_held3 (fun V => SA w g mb nm (.pointer none) false V)
       (first | with_reducible assumption | (with_reducible refine HS _ ?_; repeat (first | exact Below.refl _ _ | refine Below.drew ?_ | refine Below.alloc ?_ (by simp) _ | refine Below.setCell ?_ (by simp) _))) (fail)
     all_goals (try go_wp2_with fail)
     all_goals go_meet
     all_goals first
       | exact ⟨_, _, rfl, rfl, Lib.hid (AB.mk1 _ _ _ _ _ _ _ _)⟩
       | exact ⟨_, _, rfl, rfl, Lib.hid (AB.mk2 _ _ _ _ _ _ _ _)⟩
   case rest =>
     obtain ⟨b8, b9, rfl, rfl, HA⟩ := hcut
     obtain ⟨x0, x2, x9, c0⟩ := (HA.out.below (Below.refl _ _).drew).sb H.out
     have HSB := Lib.hid (fun V (hb : Below wc.heap.size wc V) => (HA.out.below hb).sb H.out)
     have ST := Lib.hid (fun V (hb : Below wc.heap.size wc V) => gStored V g D F mb fp es qs (H.out.below (HA.out.below hb).bel))
     have hw1 : IntKind.i64.wrap ((S : Int) + (xn : Int)) = (S : Int) + (xn : Int) := IntWalk.i64_in _ (by have := H.out.ok.sum; omega)
     rw [hS] at ST hfull
     have hln : (Builtin.len_ #[79] 3 #[.map (some mb)]).run Tryz.prog wc.drew = .ok (.int .i64 (D.l.length : Nat)) wc.drew := by
       have h1 := (H.out.below (HA.out.below (Below.refl _ _).drew).bel).map.len Tryz.underlying79 3
       rw [H.out.size_eq] at h1
       exact h1
     obtain ⟨N, hN⟩ : ∃ N, D.l.length = N := ⟨_, rfl⟩
     rw [hN] at hln h20
     have hg : ((N : Int) == 20) = false := by simpa using (by omega : ¬ (N : Int) = 20)
     have HLN := Lib.hid hln
     clear hln
     clear HS HSd CK MY
     go_wp2_with fail
     go_cut [44] from 18 to 47 (fun v wx => v = .bool full ∧ Hid (AB w g nm XA xn xc (.pointer none) false b8 b9 wx))
     case first =>
       go_region_law
         (first | (refine step_lenM (.tmp 33) 79 rfl (by rfl) mb _ rfl HLN.out ?_) | (go_simp; go_at_call 53; refine (ST.out _ (Below.refl _ _).drew).mono ?_; rintro e w6 ⟨rfl, hb6⟩; have hb6' := (Below.refl wc.heap.size wc).drew.trans hb6; obtain ⟨z0, z2, z9, d0⟩ := HSB.out _ hb6'; have HB6 := Lib.hid hb6'; clear hb6 hb6'))
       all_goals (try go_wp2_with fail)
       all_goals go_meet
       all_goals first
         | exact ⟨rfl, Lib.hid (HA.out.below HB6.out)⟩
         | exact ⟨by rw [hfull], Lib.hid (HA.out.below (Below.refl _ _).drew)⟩
     case rest =>
       obtain ⟨rfl, HA2⟩ := hcut
       have y0 := box_cell HA2.out.h0
       have hfb : Below w.heap.size w wc := HA2.out.bel
       cases full with
       | true =>
         obtain ⟨rfl, rfl⟩ := HE.out rfl
         go_wp2_with fail
         go_ret
         exact ⟨rfl, RCk.turn H.out hfb⟩
       | false =>
         have WK := Lib.hid (HW.out rfl b8 b9 wc HA2.out)
         go_wp2_with (first
           | (go_at_call 54; refine WK.out.mono ?_; rintro e w7 ⟨rfl, ht⟩))
         go_ret
         exact ⟨rfl, ht⟩
end Go.Proofs.YtamglegdgcehaaaGreat

namespace Go.Proofs.YtamglegdgcehaaaGreat
open Go.RowKit Go.Maps

theorem RC.own_ne {V : World} {g : Nat} {D : Dk} {F : Nat → Prop} {mb : Nat} {fp : Option Addr} {es : List (Lit × DataW Empty)} {qs : List Cf} (h : RC V g D F mb fp es qs) {j : Nat} (hj : j < qs.length) {k : Nat} (hk : qs[j].v.ownBlock = some k) {cs : Array Value} {t : TypeId} (ho : V.heap[k]? = some (.cells cs t (0, 0))) : t = 5 := by
  rcases (h.cf hj).own.2 with ⟨e, _⟩ | ⟨q, cap, cur, e, _, hh, _⟩
  · rw [e] at hk
    cases hk
  · rw [e] at hk
    have e' : some q = some k := hk
    injection e' with e'
    subst e'
    rw [hh] at ho
    injection ho with ho
    injection ho with _ ho _
    exact ho.symm
/-- Bytes have come behind a file's. -/
theorem RC.grown_ {V V' : World} {g : Nat} {D : Dk} {F : Nat → Prop} {mb : Nat} {fp : Option Addr} {es : List (Lit × DataW Empty)} {qs : List Cf} (h : RC V g D F mb fp es qs) (hd : D.dead = false) {p : Nat} (hp : p < qs.length) {xs : List UInt8} (ha : Apd V qs[p].q qs[p].v (qs[p].f.bs ++ xs) V') (hs : sum D.l + xs.length ≤ 4194304) :
    RC V' g { D with l := D.l.set p ⟨qs[p].f.name, qs[p].f.bs ++ xs, qs[p].f.mark⟩ } (nF F V V') mb fp es (qs.set p ⟨⟨qs[p].f.name, qs[p].f.bs ++ xs, qs[p].f.mark⟩, qs[p].q, V'.cell? ⟨qs[p].q, 0, none⟩ |>.getD undef⟩) ∧ Grow F V V' := by
  obtain ⟨V1, v', n, rfl, hown, hg, hob⟩ := ha
  have hr := h.cf hp
  have hql := h.lt _ (hr.sub _ (.inl rfl))
  have hvq : qs[p].v.ownBlock ≠ some qs[p].q := fun e => absurd (h.own_ne hp e hr.obj) (by decide)
  have hvq' : v'.ownBlock ≠ some qs[p].q := fun e => by
    rcases hob with e2 | e2
    · exact hvq (e2 ▸ e)
    · rw [e2] at e
      injection e with e
      omega
  have h1o : V1.heap[qs[p].q]? = some (.cells #[qs[p].v, .int .i64 (qs[p].f.mark : Int)] 100 (0, 0)) := (hg.block _ hql (fun e => hvq e.symm)).trans hr.obj
  have hobj : ((V1.setCell ⟨qs[p].q, 0, none⟩ v').drewN n).heap[qs[p].q]? = some (.cells #[v', .int .i64 (qs[p].f.mark : Int)] 100 (0, 0)) := by
    show (V1.setCell ⟨qs[p].q, 0, none⟩ v').heap[qs[p].q]? = _
    simp [World.setCell, Array.getElem?_modify, h1o]
  have hk : ∀ x, x < V.heap.size → x ≠ qs[p].q → qs[p].v.ownBlock ≠ some x → ((V1.setCell ⟨qs[p].q, 0, none⟩ v').drewN n).heap[x]? = V.heap[x]? := fun x hx h1 h2 => (set_blk V1 _ _ _ h1).trans (hg.block x hx (fun e => h2 e.symm))
  have hsz : V.heap.size ≤ ((V1.setCell ⟨qs[p].q, 0, none⟩ v').drewN n).heap.size := by
    show V.heap.size ≤ (V1.setCell ⟨qs[p].q, 0, none⟩ v').heap.size
    rw [set_size]
    exact hg.size
  have hvl : ∀ k, v'.ownBlock = some k → k < V1.heap.size := fun k e => (World.ownsRow.lt hown k e).2
  have hG : Grow F V ((V1.setCell ⟨qs[p].q, 0, none⟩ v').drewN n) := by
    refine (Grow.set (Grow.by_ hg (fun k e => hr.sub k (.inr e))) (p := ⟨qs[p].q, 0, none⟩) (.inl (hr.sub _ (.inl rfl))) v').drewN n
  have ec : (((V1.setCell ⟨qs[p].q, 0, none⟩ v').drewN n).cell? ⟨qs[p].q, 0, none⟩).getD undef = v' := by
    rw [cell_of_row _ _ 0 _ _ (0, 0) hobj]
    rfl
  have hpl : p < D.l.length := by rw [← h.len]; exact hp
  have hsm := h.small hp
  rw [ec]
  refine ⟨h.put (c := ⟨⟨qs[p].f.name, qs[p].f.bs ++ xs, qs[p].f.mark⟩, qs[p].q, v'⟩) hp rfl rfl (fun _ e => .inl e) (fun k e => ?_) (fun k hF hB => hk k (h.lt k hF) (fun e => hB (.inl e)) (fun e => hB (.inr e))) ⟨hobj, ?_, fun k e => ?_⟩ (fun k e => ?_) (fun e => by rw [hd] at e; cases e) (ok_set h.ok hpl (by rw [h.get hp]) (by show qs[p].f.mark ≤ (qs[p].f.bs ++ xs).length; rw [List.length_append]; omega) (by rw [h.get hp]; show sum D.l + (qs[p].f.bs ++ xs).length ≤ 4194304 + qs[p].f.bs.length; rw [List.length_append]; omega)), hG⟩
  · rcases e with e | e
    · exact Nat.lt_of_lt_of_le (h.lt k e) hsz
    · exact e.2
  · exact hown.onS (fun k e => set_blk V1 _ _ _ (fun e2 => hvq' (e2 ▸ e)))
  · rcases e with e | e
    · exact .inl (hr.sub _ (.inl e))
    · have e' : v'.ownBlock = some k := e
      rcases hob with e2 | e2
      · exact .inl (hr.sub _ (.inr (e2 ▸ e')))
      · rw [e2] at e'
        injection e' with e'
        refine .inr ⟨by omega, ?_⟩
        show k < (V1.setCell ⟨qs[p].q, 0, none⟩ v').heap.size
        rw [set_size]
        exact hvl k (by rw [e2, e'])
  · have e' : v'.ownBlock = some k := e
    rcases hob with e2 | e2
    · exact .inl (e2 ▸ e')
    · rw [e2] at e'
      injection e' with e'
      refine .inr (fun hF => ?_)
      have := h.lt k hF
      omega

theorem withF_set {l : List Fl} {f : Fl} {p : Nat} (hp : pos l f.name = p) (hi : isAt l f.name = true) : withF l f = l.set p f := by
  have hl := isAt_lt hi
  rw [hp] at hl
  unfold withF
  rw [hi, if_pos rfl, hp, List.set_eq_take_append_cons_drop, if_pos hl]
/-- A new file has come. -/
theorem RC.came {V V3 V' : World} {g : Nat} {D : Dk} {F : Nat → Prop} {mb : Nat} {fp : Option Addr} {es : List (Lit × DataW Empty)} {qs : List Cf} (h : RC V g D F mb fp es qs) (hd : D.dead = false) {nm : ByteArray} (hi : isAt D.l nm = false) (h20 : D.l.length < 20) {xs : List UInt8} (hs : sum D.l + xs.length ≤ 4194304) {bf : Nat} (hbf : ¬ F bf)
    (hm : V3.ownsMap Tryz.prog 9 fE mb 21 ((DataW.map es).put (sk nm) (.lit (.int .i64 (V.heap.size : Int))))) (hG : Grow (fun k => k = bf ∨ k = mb) V V3) (hsz : V3.heap.size = V.heap.size + 1) (hob : V3.heap[V.heap.size]? = some (.cells #[.slice none 0 0, .int .i64 0] 100 (0, 0))) (ha : Apd V3 V.heap.size (.slice none 0 0) xs V') :
    (∃ es' qs', RC V' g { D with l := withF D.l ⟨nm, xs, 0⟩ } (nF F V V') mb fp es' qs') ∧ Grow (fun k => k = bf ∨ F k) V V' := by
  obtain ⟨V4, v', n, rfl, hown, hg, hvb⟩ := ha
  have h4 : ∀ x, x < V3.heap.size → V4.heap[x]? = V3.heap[x]? := fun x hx => hg.block x hx (by simp [Value.ownBlock])
  have hs4 : V.heap.size + 1 ≤ V4.heap.size := by rw [← hsz]; exact hg.size
  have hmb := h.lt mb h.fm
  have hk : ∀ x, x < V.heap.size → x ≠ bf → x ≠ mb → ((V4.setCell ⟨V.heap.size, 0, none⟩ v').drewN n).heap[x]? = V.heap[x]? := fun x hx h1 h2 => (set_blk V4 _ _ _ (by omega)).trans ((h4 x (by omega)).trans (hG.block x hx (fun e => e.elim h1 h2)))
  have hobj : ((V4.setCell ⟨V.heap.size, 0, none⟩ v').drewN n).heap[V.heap.size]? = some (.cells #[v', .int .i64 0] 100 (0, 0)) := by
    have e := (h4 V.heap.size (by omega)).trans hob
    show (V4.setCell ⟨V.heap.size, 0, none⟩ v').heap[V.heap.size]? = _
    simp [World.setCell, Array.getElem?_modify, e]
  have hss : ((V4.setCell ⟨V.heap.size, 0, none⟩ v').drewN n).heap.size = V4.heap.size := set_size V4 _ _
  have hvl : ∀ k, v'.ownBlock = some k → V.heap.size < k ∧ k < V4.heap.size := fun k e => by
    refine ⟨?_, (World.ownsRow.lt hown k e).2⟩
    rcases hvb with e2 | e2
    · rw [e2] at e
      cases e
    · rw [e2] at e
      injection e with e
      omega
  have hmap : ((V4.setCell ⟨V.heap.size, 0, none⟩ v').drewN n).ownsMap Tryz.prog 9 fE mb 21 ((DataW.map es).put (sk nm) (.lit (.int .i64 (V.heap.size : Int)))) := ownsMap_onS hm ((set_blk V4 _ _ _ (by omega)).trans (h4 mb (by omega)))
  have hGr : Grow (fun k => k = bf ∨ F k) V ((V4.setCell ⟨V.heap.size, 0, none⟩ v').drewN n) := by
    have g1 : Grow (fun k => k = bf ∨ F k) V V3 := hG.mono (fun k e => e.elim .inl (fun e => .inr (e ▸ h.fm)))
    have g2 : Grow (fun k => k = bf ∨ F k) V V4 := g1.trans (Grow.by_ hg (fun k e => (by simp [Value.ownBlock] at e)))
    exact (g2.set (p := ⟨V.heap.size, 0, none⟩) (.inr (Nat.le_refl _)) v').drewN n
  refine ⟨?_, hGr⟩
  refine h.stored (V' := (V4.setCell ⟨V.heap.size, 0, none⟩ v').drewN n) (G := nF F V ((V4.setCell ⟨V.heap.size, 0, none⟩ v').drewN n)) hd (c := ⟨⟨nm, xs, 0⟩, V.heap.size, v'⟩) rfl hmap (fun k hF hne => hk k (h.lt k hF) (fun e => hbf (e ▸ hF)) hne) (fun _ e => .inl e) (fun k e => ?_) ⟨hobj, ?_, fun k e => ?_⟩ (fun c' hc' k e e2 => ?_)
    (ok_with (f := ⟨nm, xs, 0⟩) h.ok (Nat.zero_le _) (.inr h20) (by rw [if_neg (by show ¬ isAt D.l nm = true; rw [hi]; decide)]; show sum D.l + xs.length ≤ 4194304 + 0; omega))
  · rcases e with e | e
    · rw [hss]
      have := h.lt k e
      omega
    · exact e.2
  · exact hown.onS (fun k e => set_blk V4 _ _ _ (by have := (hvl k e).1; omega))
  · rcases e with e | e
    · have e' : k = V.heap.size := e
      exact .inr ⟨by omega, by rw [hss]; omega⟩
    · have := hvl k e
      exact .inr ⟨by omega, by rw [hss]; omega⟩
  · have hl := h.lt k ((h.each c' hc').sub k e2)
    rcases e with e | e
    · have e' : k = V.heap.size := e
      omega
    · have := (hvl k e).1
      omega
theorem At.on2 {w V V2 : World} {F : Nat → Prop} {A : Option Addr} {n : Nat} {xs : List UInt8} (h : At w A n xs) (hF : 0 < n → InF (fun k => ¬ F k) A) (hb : Below w.heap.size w V) (hG : Grow F V V2) : At V2 A n xs := by
  rcases Nat.eq_zero_or_pos n with h0 | h0
  · exact ⟨h.1, fun h1 => by omega⟩
  · exact h.moved (hF h0) hb hG
theorem RCk.ends2 {w V V2 : World} {g : Nat} {D : Dk} {F : Nat → Prop} {mb : Nat} {fp : Option Addr} {es : List (Lit × DataW Empty)} {qs : List Cf} {bf : Nat} (h : RC V2 g D (nF F V V2) mb fp es qs) (hl : ∀ k, F k → k < w.heap.size) (hb : w.heap.size ≤ bf) (hG0 : Grow F w V) (hG : Grow (fun k => k = bf ∨ F k) V V2) : Turns RCk w g F D V2 := by
  refine h.ends (fun k e => ?_) ⟨hG.os.trans hG0.os, hG.tape.trans hG0.tape, hG.output.trans hG0.output, Nat.le_trans hG0.size hG.size, fun k hk hn => (hG.block k (Nat.lt_of_lt_of_le hk hG0.size) (fun e => e.elim (fun e => by omega) hn)).trans (hG0.block k hk hn)⟩ hl
  rcases e with e | e
  · exact .inl e
  · exact .inr ⟨Nat.le_trans hG0.size e.1, e.2⟩
set_option maxRecDepth 100000 in
set_option maxHeartbeats 4000000 in
theorem gAppend (w : World) (g : Nat) (D : Dk) (F : Nat → Prop) (nm : ByteArray) (XA : Option Addr) (xn xc : Nat) (xs : List UInt8) (h : RCk w g D F) (hX : At w XA xn xs) (hXF : 0 < xn → InF (fun k => ¬ F k) XA) (hx : xn ≤ 140000000000000) :
    Calls Tryz.prog 15 #[pt g, .string nm, .slice XA xn xc] w fun e w' => e = .returned (.int .i64 (appE D nm xs.length)) ∧ Turns RCk w g F (app D nm xs) w' := by
  obtain ⟨mb, fp, es, qs, h⟩ := h
  have H := Lib.hid h
  have hxl := hX.1
  have CK := Lib.hid (fun V (hb : Below w.heap.size w V) => gCheck V g D F mb fp es qs (H.out.below hb))
  have hb3 := three_bel w (.cells #[pt g] 24) (.cells #[.string nm] 9) (.cells #[.slice XA xn xc] 40)
  cases hd : D.dead with
  | true =>
    have hE : appE D nm xs.length = 71 := by unfold appE; rw [hd]; rfl
    have hC : app D nm xs = D := by unfold app; rw [hd]; rfl
    rw [hE, hC]
    rw [hd] at CK
    clear h hX hE hC
    go_enter Tryz.func15, Tryz.ntmps15
    go_wp2_with (first
      | (go_at_call 51; refine (CK.out _ hb3).mono ?_; rintro e w1 ⟨rfl, rfl⟩))
    go_ret
    exact ⟨rfl, RCk.turn H.out hb3⟩
  | false =>
    have hdf : ¬ D.dead = true := by rw [hd]; decide
    cases hmy : mayN nm with
    | false =>
      have hE : appE D nm xs.length = 70 := by unfold appE; rw [if_neg hdf, hmy]; rfl
      have hC : app D nm xs = D := by unfold app; rw [if_neg hdf, hmy]; rfl
      rw [hE, hC]
      rw [hd] at CK
      have MY := Lib.hid (fun V => gMay V nm)
      rw [hmy] at MY
      clear h hX hE hC
      go_enter Tryz.func15, Tryz.ntmps15
      go_wp2_with (first
        | (go_at_call 51; refine (CK.out _ hb3).mono ?_; rintro e w1 ⟨rfl, rfl⟩)
        | (go_at_call 52; refine (MY.out _).mono ?_; rintro e w1 ⟨rfl, rfl⟩))
      go_ret
      exact ⟨rfl, RCk.turn H.out hb3⟩
    | true =>
      have hmf : ¬ mayN nm = false := by rw [hmy]; decide
      have hkey : keyOf Tryz.prog 9 (.string nm) = some (sk nm) := WideMaps.keyOf_string_mk Tryz.underlying9 (by unfold mayN at hmy; have := of_decide_eq_true hmy; unfold maxLen; omega)
      clear CK
      have hAE : appE D nm xs.length = if (isAt D.l nm = false ∧ 20 ≤ D.l.length) ∨ 4194304 < sum D.l + xn then 7 else workE D := by unfold appE; rw [if_neg hdf, if_neg hmf, hxl]
      have hAC : app D nm xs = if (isAt D.l nm = false ∧ 20 ≤ D.l.length) ∨ 4194304 < sum D.l + xn then D else work D (fun l => withF l ⟨nm, (fileAt l nm).bs ++ xs, (fileAt l nm).mark⟩) := by unfold app; rw [if_neg hdf, if_neg hmf, hxl]
      rw [hAE, hAC]
      cases hi : isAt D.l nm with
      | true =>
        obtain ⟨p, hp⟩ : ∃ p, pos D.l nm = p := ⟨_, rfl⟩
        obtain ⟨hq, hqn, hfa, hdl, hde⟩ := h.at_ hp hi
        have hcond : ∀ b : Prop, ((true = false ∧ 20 ≤ D.l.length) ∨ b) ↔ b := fun b => ⟨fun e => e.elim (fun e => by cases e.1) id, .inr⟩
        simp only [hcond]
        refine gApp_there w g D F mb fp es qs nm XA xn xc h hx hd hmy (pt qs[p].q) ⟨_, rfl⟩ (fun V hR => by have h1 := hR.look_yes hp hi true hq; simpa using h1) _ _ _ rfl (fun e => ?_) (fun e b8 b9 V hAB => ?_)
        · have e' := of_decide_eq_true e
          rw [if_pos (by omega), if_pos (by omega)]
          exact ⟨rfl, rfl⟩
        · have e' := of_decide_eq_false e
          rw [if_neg (by omega), if_neg (by omega)]
          by_cases hl : D.left = 0
          · have e1 : workE D = 71 := by unfold workE; rw [if_pos hl]
            rw [e1, work_yes hl]
            refine (gWork_yes V g D F mb fp es qs (h.below hAB.bel) hd hl _).mono ?_
            rintro e w' ⟨rfl, ht⟩
            exact ⟨rfl, Turns.new_ h.lt hAB.bel ht⟩
          · have e1 : workE D = 0 := by unfold workE; rw [if_neg hl]
            have e2 : work D (fun l => withF l ⟨nm, (fileAt l nm).bs ++ xs, (fileAt l nm).mark⟩) = { less D with l := (less D).l.set p ⟨qs[p].f.name, qs[p].f.bs ++ xs, qs[p].f.mark⟩ } := by
              rw [work_no hl, hfa, hqn, withF_set (f := ⟨nm, qs[p].f.bs ++ xs, qs[p].f.mark⟩) hp hi]
              rfl
            rw [e1, e2]
            refine gWork_Append V g D F mb fp es qs (h.below hAB.bel) hd hl _ _ (fun V2 hR hs2 hG => ?_)
            obtain ⟨A, cap, hv, d0, d1, hat, _⟩ := hR.file hq
            have k8 := box_kept h.lt hG hAB.l8 hAB.h8
            have k9 := box_kept h.lt hG hAB.l9 hAB.h9
            have k2 := box_kept h.lt hG (by omega) hAB.h2
            have hown := (hR.cf hq).own
            rw [hv] at hown
            have hne8 : (Value.slice A qs[p].f.bs.length cap).ownBlock ≠ some b8 := fun e => absurd (hR.own_ne hq (hv ▸ e) k8) (by decide)
            have hneq : (Value.slice A qs[p].f.bs.length cap).ownBlock ≠ some qs[p].q := fun e => absurd (hR.own_ne hq (hv ▸ e) (hR.cf hq).obj) (by decide)
            refine (gApp_old V2 b9 b8 _ _ _ qs[p].q A _ cap qs[p].f.bs XA xn xc xs (box_cell k9) (box_cell k8) (box_cell k2) d0 (hR.fzq hq 0) hown hneq hne8 (hX.on2 hXF hAB.bel hG) (by have := (h.small hq).2; omega) (by omega)).mono ?_
            rintro e w' ⟨rfl, ha⟩
            rw [← hv] at ha
            obtain ⟨h1, h2⟩ := hR.grown_ hd hq ha (by show sum D.l + xs.length ≤ _; omega)
            have hG0 : Grow F w V2 := Grow.of_new hAB.bel hG
            exact ⟨rfl, RCk.ends2 (bf := w.heap.size) h1 h.lt (Nat.le_refl _) hG0 (h2.mono (fun k e => .inr e))⟩
      | false =>
        have hlk : ∀ V, RC V g D F mb fp es qs → (Instr.lookup 79 (.map (some mb)) (.string nm) true).run Tryz.prog V = .ok (.tuple #[.pointer none, .bool false]) V := fun V hR => by have h1 := hR.look_no hi true; simpa using h1
        by_cases h20 : D.l.length = 20
        · have hcond : (((false : Bool) = false ∧ 20 ≤ D.l.length) ∨ 4194304 < sum D.l + xn) := .inl ⟨rfl, by omega⟩
          rw [if_pos hcond, if_pos hcond]
          exact gApp_many w g D F mb fp es qs nm XA xn xc h hx hd hmy (.pointer none) rfl hlk h20 _ _ true rfl (fun _ => ⟨rfl, rfl⟩) (fun e => by cases e)
        · have hlt : D.l.length < 20 := by have := h.ok.few; omega
          have hcond : ∀ b : Prop, (((false : Bool) = false ∧ 20 ≤ D.l.length) ∨ b) ↔ b := fun b => ⟨fun e => e.elim (fun e => by omega) id, .inr⟩
          refine gApp_few w g D F mb fp es qs nm XA xn xc h hx hd hmy (.pointer none) rfl hlk hlt _ _ _ rfl (fun e => ?_) (fun e b8 b9 V hAB => ?_)
          · have e' := of_decide_eq_true e
            rw [if_pos (.inr (by omega)), if_pos (.inr (by omega))]
            exact ⟨rfl, rfl⟩
          · have e' := of_decide_eq_false e
            rw [if_neg (fun e => absurd ((hcond _).1 e) (by omega)), if_neg (fun e => absurd ((hcond _).1 e) (by omega))]
            by_cases hl : D.left = 0
            · have e1 : workE D = 71 := by unfold workE; rw [if_pos hl]
              rw [e1, work_yes hl]
              refine (gWork_yes V g D F mb fp es qs (h.below hAB.bel) hd hl _).mono ?_
              rintro e w' ⟨rfl, ht⟩
              exact ⟨rfl, Turns.new_ h.lt hAB.bel ht⟩
            · have e1 : workE D = 0 := by unfold workE; rw [if_neg hl]
              have hfa : fileAt D.l nm = ⟨nm, [], 0⟩ := by unfold fileAt; rw [if_neg (by rw [hi]; decide)]
              have e2 : work D (fun l => withF l ⟨nm, (fileAt l nm).bs ++ xs, (fileAt l nm).mark⟩) = { less D with l := withF (less D).l ⟨nm, xs, 0⟩ } := by
                rw [work_no hl, hfa]
                rfl
              rw [e1, e2]
              refine gWork_Append V g D F mb fp es qs (h.below hAB.bel) hd hl _ _ (fun V2 hR hs2 hG => ?_)
              have k8 := box_kept h.lt hG hAB.l8 hAB.h8
              have k9 := box_kept h.lt hG hAB.l9 hAB.h9
              have k0 := box_kept h.lt hG (Nat.le_refl _) hAB.h0
              have k1 := box_kept h.lt hG (by omega) hAB.h1
              have k2 := box_kept h.lt hG (by omega) hAB.h2
              have hgl := h.lt g h.fg
              have hml := h.lt mb h.fm
              have h8l := hAB.l8
              have hn0 : b8 ≠ w.heap.size := fun e => by rw [e, k0] at k8; injection k8 with k8; injection k8 with _ k8 _; exact absurd k8 (by decide)
              have hn1 : b8 ≠ w.heap.size + 1 := fun e => by rw [e, k1] at k8; injection k8 with k8; injection k8 with _ k8 _; exact absurd k8 (by decide)
              have hn2 : b8 ≠ w.heap.size + 1 + 1 := fun e => by rw [e, k2] at k8; injection k8 with k8; injection k8 with _ k8 _; exact absurd k8 (by decide)
              refine (gApp_new V2 b9 b8 _ _ _ g nm mb es XA xn xc xs (box_cell k9) k8 (box_cell k0) (box_cell k1) (box_cell k2) ⟨hn0, hn1, hn2, by omega, by omega⟩ hR.c0 hR.map hkey (hX.on2 hXF hAB.bel hG) (by omega)).mono ?_
              rintro e w' ⟨rfl, V3, hm, hG3, hs3, hob, ha⟩
              obtain ⟨⟨es', qs', h1⟩, h2⟩ := hR.came hd hi hlt (by show sum D.l + xs.length ≤ _; omega) (bf := b8) (fun e => by have := h.lt b8 e; omega) hm hG3 hs3 hob ha
              exact ⟨rfl, RCk.ends2 (bf := b8) h1 h.lt h8l (Grow.of_new hAB.bel hG) h2⟩
end Go.Proofs.YtamglegdgcehaaaGreat
