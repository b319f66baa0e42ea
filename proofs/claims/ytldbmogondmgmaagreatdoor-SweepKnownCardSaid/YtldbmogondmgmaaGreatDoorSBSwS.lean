/-
  Layer 15, the code: Sweep (written by wip/gensw.py).
-/
import Derived.Test.YtldbmogondmgmaaGreatDoorSB28
import Derived.Test.YtldbmogondmgmaaGreatDoorSB29
import Derived.Test.YtldbmogondmgmaaGreatDoorSB30
import Derived.Test.YtldbmogondmgmaaGreatDoorSB18
import Derived.Deep.AppendLies
import Derived.Laws.EntriesVeiled
set_option linter.unusedVariables false
set_option linter.unusedSimpArgs false
set_option maxRecDepth 100000
namespace Go.Proofs.YtldbmogondmgmaaGreatDoor
open Go.RowKit Go.Shelf
attribute [local go_sem] Oper.semAt_some

theorem step_appOps {w V : World} {T : List As} {ops : Array Oper} {o : Oper} {a : Act} {K : Act → World → Prop} {Q : Exit → Act → World → Prop} {E : Prop} (hgd : o.guard = none) (s x : Operand)
    (ho : o.op = .call { callee := .builtin .append, args := #[s, x], argTypes := #[36, 36] })
    (v : Value) (L : List Op_) (hs : a.eval s = v) (hh : Has w (opA v L :: T) V)
    (g c : Nat) (y : Op_) (hx : a.eval x = .slice (some ⟨g, 0, none⟩) 1 c) (hb : Blk V g 98 #[.string y.key, .string y.value, .bool y.del]) (hl : (L.length + 1) * 40 ≤ 140737488355328)
    (h : ∀ A m c w', Has w (opA (.slice A m c) (L ++ [y]) :: T) w' → (∀ n, KeepsFrom n V w') → K (a.put o.dst (.slice A m c)) w') :
    if Region.wanted o (yielded ops a.tmps) = true then Oper.wp Tryz.prog o a V K Q else E := by
  obtain ⟨i0, hi0, hz0, hz1, hz2⟩ := info_parts infoOp
  refine step_append_lies (w := V) hgd s x 36 ho 0 98 i0 _ 3 40 Tryz.underlying36 hi0 hz0 hz1 hz2 rfl (by decide) v L.length (ofl L) hs hh.rowOf ⟨g, 0, none⟩ 1 c (ofl [y]) hx (by rfl)
    (fun j u hj => ?_) (ofl_one [y]) (by omega) (by unfold maxLen; omega) hl (Nat.zero_le _) _ rfl (fun g' cap w' hr hg hob _ => ?_)
  · rw [Go.WideShapes.add_plain, Nat.zero_add, cell_of_row V g j _ _ _ hb]; simpa [ofl] using hj
  · have e : L.length + 1 = (L ++ [y]).length := by simp
    obtain ⟨F, hF, _⟩ := hh.get
    have hr2 : w'.ownsRow 0 98 3 (.slice (some ⟨g', 0, none⟩) (L.length + 1) cap) (L ++ [y]).length (ofl (L ++ [y])) := by rw [ofl_app]; simpa using hr
    exact h _ _ _ w' (hh.rowTurn hr2 hg (hob.elim (fun e => .inl e.symm) (fun e => .inr (by rw [e]; rfl)))) (fun n => keeps_grow (Grow.by_ (F := F) hg fun k e => (hF.2 k).2 e) (cel_row _ _ _ _ _ V F hF))
theorem wp_region_held_normal {P : Program} {ops : Array Oper} {Q : Exit → Act → World → Prop} {S : World → Prop} {id : Nat} {a : Act} {w : World} (hm : P.follows .mixedOrders = true) (hS : S w.drew)
    (h : S w.drew → wpAnyH P .any ops (NormalOnly Q) S ops.size (Array.replicate ops.size false) a w.drew) : (Code.region id ops true).wp P Q a w :=
  Go.wp_mono (wp_region_held_drew hm hS h) (fun e a w hq => by
    cases e with
    | normal => exact hq
    | _ => exact hq.elim)
theorem go_len {to_ : Int × Int} (l : List Rw) (a0 : ByteArray) : (go to_ a0 l).length ≤ l.length := by
  have := (gk_sub (to_ := to_) l a0).length_le
  unfold gk at this
  simpa using this
theorem swL_len (to_ : Int × Int) (l : List Rw) : (swL to_ l).2.length ≤ l.length := by
  rw [go_all]
  exact go_len l _
theorem sw_perm (r a b c f g l : As) : [r, a, b, c, f, g, l].Perm [a, b, c, l, f, g, r] := (List.perm_middle (l₁ := [a, b, c, f, g, l]) (a := r) (l₂ := [])).symm.trans (List.Perm.cons a (List.Perm.cons b (List.Perm.cons c (List.perm_middle (l₁ := [f, g]) (a := l) (l₂ := [r])))))
def SwI (V : World) (p g1 g2 g3 gL gA gF : Nat) (ff tt : ByteArray) (st : ByteArray × List Op_) (W : World) : Prop :=
  ∃ v, Has V [blkA g1 32 #[pt p], blkA g2 9 #[.string ff], blkA g3 9 #[.string tt], blkA gL 36 #[v], blkA gF 125 #[(.func (.func 146) #[] #[pt gA])], blkA gA 9 #[.string st.1], opA v st.2] W
theorem SwI.firm {V X Y : World} {p g1 g2 g3 gL gA gF n : Nat} {ff tt : ByteArray} {st : ByteArray × List Op_} (h : SwI V p g1 g2 g3 gL gA gF ff tt st X) (hf : Firm n X Y) (hn : V.heap.size ≤ n) : SwI V p g1 g2 g3 gL gA gF ff tt st Y := by
  obtain ⟨v, hh⟩ := h
  refine ⟨v, hh.firm hf hn (fun A hA => ?_)⟩
  simp only [List.mem_cons, List.not_mem_nil, or_false] at hA
  rcases hA with rfl | rfl | rfl | rfl | rfl | rfl | rfl
  · exact cel_blk _ _ _
  · exact cel_blk _ _ _
  · exact cel_blk _ _ _
  · exact cel_blk _ _ _
  · exact cel_blk _ _ _
  · exact cel_blk _ _ _
  · exact cel_row _ _ _ _ _
set_option maxHeartbeats 4000000 in
theorem swSweep_no {w V : World} {T : List As} {p N : Nat} {r : List Rw} (h : Has w (tbA p r :: T) V) (hr : ROk N r) (hN : N ≤ 999999000) (hM : MaxL w) (F X : ByteArray) (hFs : F.size ≤ 9223372036854775807) (hXs : X.size ≤ 9223372036854775807) (a b : Int) (k : Int) (hk : ¬ k = 0) (he : swE F X (a, b) = k) :
    Calls Tryz.prog 24 #[pt p, .agg #[.string F, .string X], sv a b] V fun e w' => ∃ v, e = .returned (.tuple #[v, .int .i64 (swE F X (a, b))]) ∧ Has w (opA v (swC r F X (a, b)) :: tbA p r :: T) w' := by
  have HCW := Lib.hid (show swC r F X (a, b) = [] by unfold swC; rw [he, if_neg hk])
  rw [HCW.out]
  have hz1 : (V.alloc (.cells #[.string F, .string X] 66)).heap.size = V.heap.size + 1 := World.size_alloc _ _
  have h1 := (h.newBlk 66 #[.string F, .string X]).newBlk 26 #[.int .i64 a, .int .i64 b]
  rw [hz1] at h1
  have h2 := h1.perm (List.perm_middle (l₁ := [_, _]))
  have HC := Lib.hid (swCheck h2 hr hN F X a b)
  have k1 := h2.blkAt (g := V.heap.size) (t := 66) (cs := #[.string F, .string X]) (by simp)
  have k2 := h2.blkAt (g := V.heap.size + 1) (t := 26) (cs := #[.int .i64 a, .int .i64 b]) (by simp)
  have cs0 := k1.cell 0
  have cs1 := k1.cell 1
  simp at cs0 cs1
  have ct0 := k2.cell 0
  have ct1 := k2.cell 1
  simp at ct0 ct1
  clear h h1 h2 hz1 k1 k2
  rw [he] at HC ⊢
  have hkb : (k != 0) = true := by simpa using hk
  clear he hk hr hN hM
  go_enter Tryz.func24, Tryz.ntmps24
  go_wp2_with (go_at_call 80; refine HC.out.mono ?_; rintro e w1 ⟨rfl, h3⟩; have H3 := Lib.hid h3; clear h3)
  go_ret2
  exact ⟨_, rfl, ((H3.out.perm (List.perm_middle (l₁ := [_, _])).symm).tail.tail).rowNil 98 3⟩
set_option maxHeartbeats 16000000 in
theorem swSweep_ok {w V : World} {T : List As} {p N : Nat} {r : List Rw} (h : Has w (tbA p r :: T) V) (hr : ROk N r) (hN : N ≤ 999999000) (hM : MaxL w) (F X : ByteArray) (hFs : F.size ≤ 9223372036854775807) (hXs : X.size ≤ 9223372036854775807) (a b : Int) (he : swE F X (a, b) = 0) :
    Calls Tryz.prog 24 #[pt p, .agg #[.string F, .string X], sv a b] V fun e w' => ∃ v, e = .returned (.tuple #[v, .int .i64 (swE F X (a, b))]) ∧ Has w (opA v (swC r F X (a, b)) :: tbA p r :: T) w' := by
  have HCW := Lib.hid (show swC r F X (a, b) = (swL (a, b) (btw r (vfr F) (vfr X))).2 by unfold swC; rw [he, if_pos rfl])
  rw [HCW.out]
  have hmix : Tryz.prog.follows .mixedOrders = true := by kernel_rfl
  have hz1 : (V.alloc (.cells #[.string F, .string X] 66)).heap.size = V.heap.size + 1 := World.size_alloc _ _
  have h1 := (h.newBlk 66 #[.string F, .string X]).newBlk 26 #[.int .i64 a, .int .i64 b]
  rw [hz1] at h1
  have h2 := h1.perm (List.perm_middle (l₁ := [_, _]))
  have HC := Lib.hid (swCheck h2 hr hN F X a b)
  have k1 := h2.blkAt (g := V.heap.size) (t := 66) (cs := #[.string F, .string X]) (by simp)
  have k2 := h2.blkAt (g := V.heap.size + 1) (t := 26) (cs := #[.int .i64 a, .int .i64 b]) (by simp)
  have cs0 := k1.cell 0
  have cs1 := k1.cell 1
  simp at cs0 cs1
  have ct0 := k2.cell 0
  have ct1 := k2.cell 1
  simp at ct0 ct1
  clear h h1 h2 hz1 k1 k2
  rw [he] at HC ⊢
  have hrl := hr.len
  have HZ := Lib.hid hr.szs
  have HS := Lib.hid hr.sor
  have HF1 := Lib.hid (fun W W1 (hW : Has w (tbA p r :: blkA (V.heap.size + 1) 26 #[.int .i64 a, .int .i64 b] :: blkA V.heap.size 66 #[.string F, .string X] :: T) W) (hb : Below W.heap.size W W1) => swFrom F W1 (hM.below (bst hW.bel hb)) hFs)
  have HF2 := Lib.hid (fun W W1 (hW : Has w (tbA p r :: blkA (V.heap.size + 1) 26 #[.int .i64 a, .int .i64 b] :: blkA V.heap.size 66 #[.string F, .string X] :: T) W) (hb : Below W.heap.size W W1) => swFrom X W1 (hM.below (bst hW.bel hb)) hXs)
  clear he hr hM HCW
  generalize vfr F = ff at *
  generalize vfr X = tt at *
  obtain ⟨tot, htot⟩ : ∃ tot, (swL (a, b) (btw r ff tt)).2 = tot := ⟨_, rfl⟩
  rw [htot]
  have HTOT := Lib.hid htot
  clear htot
  refine (callsIn_wide (n := 3)).1 (callsIn_of_wp_marks Tryz.func24 rfl trivial (wpIn_wide.2 ?_) rfl)
  simp only [Tryz.ntmps24, List.size_toArray, List.length_cons, List.length_nil, Nat.reduceAdd, Nat.reduceSub, Array.replicate_succ, Array.replicate_zero, List.push_toArray, List.append_toArray, List.nil_append, List.cons_append]
  go_wp2_with (first
    | (go_at_call 80; refine HC.out.mono ?_; rintro e w1 ⟨rfl, h3⟩
       have H3 := Lib.hid h3
       have H4 := Lib.hid ((Has.nil (Below.refl w1.heap.size w1)).newBlk 36 #[.slice none 0 0])
       clear h3)
    | (go_at_call 81; refine H4.out.swFirsts.mono ?_; rintro e w2 ⟨gA, rfl, h5, -⟩
       have H5 := Lib.hid (h5.newBlk 125 #[(.func (.func 146) #[] #[pt gA])])
       clear h5 H4))
  clear HC cs0 cs1 ct0 ct1
  have HSP := Lib.hid (H3.out.blkAt (g := V.heap.size) (t := 66) (cs := #[.string F, .string X]) (by simp))
  have HTO := Lib.hid (H3.out.blkAt (g := V.heap.size + 1) (t := 26) (cs := #[.int .i64 a, .int .i64 b]) (by simp))
  generalize w2.heap.size = gF at *
  have HL0 := H5
  refine wp_region_held_normal (S := Has w1 ([blkA gF 125 #[(.func (.func 146) #[] #[pt gA])], blkA gA 9 #[.string ⟨#[]⟩], blkA w1.heap.size 36 #[.slice none 0 0]])) hmix (HL0.out.drew) (fun hS => ?_)
  simp only [List.size_toArray, List.length_cons, List.length_nil, Nat.reduceAdd, Array.replicate_succ, Array.replicate_zero]
  refine wpAnyH_take (i := 0) (oi := { dst := some 27, op := Op.move (Operand.tmp 0), type := 32, pos := "sweep.go:29", after := #[], guard := none }) (v := ?v0y) rfl (by kernel_rfl) (by kernel_rfl) (by kernel_rfl) (fun _ _ _ h => h) (Or.inl ⟨by rfl, ?hy0y⟩) (by assumption) ?rest0y
  case hy0y => (intro V2 hSw; (try dsimp only at hSw); go_simp; all_goals (with_reducible rfl))
  try simp only [Act.put, List.setIfInBounds_toArray, List.set_cons_zero, List.set_cons_succ]
  refine wpAnyH_take (i := 1) (oi := { dst := some 28, op := Op.fieldAddr 66 (Operand.tmp 4) 0, type := 0, pos := "sweep.go:29", after := #[], guard := none }) (v := ?v1y) rfl (by kernel_rfl) (by kernel_rfl) (by kernel_rfl) (fun _ _ _ h => h) (Or.inl ⟨by rfl, ?hy1y⟩) (by assumption) ?rest1y
  case hy1y => (intro V2 hSw; (try dsimp only at hSw); go_simp; all_goals (with_reducible rfl))
  try simp only [Act.put, List.setIfInBounds_toArray, List.set_cons_zero, List.set_cons_succ]
  refine wpAnyH_take (i := 2) (oi := { dst := some 29, op := Op.load 9 (Operand.tmp 28), type := 9, pos := "sweep.go:29", after := #[{ on := 1, ground := Ground.data }], guard := none }) (v := ?v2y) rfl (by kernel_rfl) (by kernel_rfl) (by kernel_rfl) (fun _ _ _ h => h) (Or.inl ⟨by rfl, ?hy2y⟩) (by assumption) ?rest2y
  case hy2y => (intro V2 hSw; (try dsimp only at hSw); have zk := HSP.out.below hSw.bel HSP.out.lt; have ck0 := zk.cell 0; have ck1 := zk.cell 1; simp at ck0 ck1; go_simp; all_goals (with_reducible rfl))
  try simp only [Act.put, List.setIfInBounds_toArray, List.set_cons_zero, List.set_cons_succ]
  refine wpAnyH_take (i := 4) (oi := { dst := some 31, op := Op.fieldAddr 66 (Operand.tmp 4) 1, type := 0, pos := "sweep.go:29", after := #[], guard := none }) (v := ?v4y) rfl (by kernel_rfl) (by kernel_rfl) (by kernel_rfl) (fun _ _ _ h => h) (Or.inl ⟨by rfl, ?hy4y⟩) (by assumption) ?rest4y
  case hy4y => (intro V2 hSw; (try dsimp only at hSw); go_simp; all_goals (with_reducible rfl))
  try simp only [Act.put, List.setIfInBounds_toArray, List.set_cons_zero, List.set_cons_succ]
  refine wpAnyH_take (i := 5) (oi := { dst := some 32, op := Op.load 9 (Operand.tmp 31), type := 9, pos := "sweep.go:29", after := #[{ on := 4, ground := Ground.data }], guard := none }) (v := ?v5y) rfl (by kernel_rfl) (by kernel_rfl) (by kernel_rfl) (fun _ _ _ h => h) (Or.inl ⟨by rfl, ?hy5y⟩) (by assumption) ?rest5y
  case hy5y => (intro V2 hSw; (try dsimp only at hSw); have zk := HSP.out.below hSw.bel HSP.out.lt; have ck0 := zk.cell 0; have ck1 := zk.cell 1; simp at ck0 ck1; go_simp; all_goals (with_reducible rfl))
  try simp only [Act.put, List.setIfInBounds_toArray, List.set_cons_zero, List.set_cons_succ]
  refine wpAnyH_ready (rs := [3]) (by kernel_rfl) (by simp) ?_
  refine AllReadyH.cons (o := { dst := some 30, op := Op.call { callee := Callee.value (Operand.func 82), args := #[Operand.tmp 29], argTypes := #[9] }, type := 9, pos := "sweep.go:29", after := #[{ on := 2, ground := Ground.data }], guard := none }) rfl (fun K hK => ?_) AllReadyH.nil
  go_simp
  refine (HF1.out _ _ H3.out hS.bel).mono ?_
  rintro e u0 ⟨rfl, hbu⟩
  have hX := hS.keep hbu
  refine hK.out _ _ (hX) (fun hS => ?_)
  clear hK K
  try simp only [Act.put, List.setIfInBounds_toArray, List.set_cons_zero, List.set_cons_succ]
  clear hX hbu
  refine wpAnyH_ready (rs := [6]) (by kernel_rfl) (by simp) ?_
  refine AllReadyH.cons (o := { dst := some 33, op := Op.call { callee := Callee.value (Operand.func 82), args := #[Operand.tmp 32], argTypes := #[9] }, type := 9, pos := "sweep.go:29", after := #[{ on := 5, ground := Ground.data }, { on := 3, ground := Ground.chain }], guard := none }) rfl (fun K hK => ?_) AllReadyH.nil
  go_simp
  refine (HF2.out _ _ H3.out hS.bel).mono ?_
  rintro e u1 ⟨rfl, hbu⟩
  have hX := hS.keep hbu
  refine hK.out _ _ (hX) (fun hS => ?_)
  clear hK K
  try simp only [Act.put, List.setIfInBounds_toArray, List.set_cons_zero, List.set_cons_succ]
  clear hX hbu
  refine wpAnyH_ready (rs := [7]) (by kernel_rfl) (by simp) ?_
  refine AllReadyH.cons (o := { dst := some 34, op := Op.call { callee := Callee.value (Operand.func 55), args := #[Operand.tmp 27, Operand.tmp 30, Operand.tmp 33], argTypes := #[32, 9, 9] }, type := 121, pos := "sweep.go:29", after := #[{ on := 0, ground := Ground.data }, { on := 3, ground := Ground.data }, { on := 6, ground := Ground.data }, { on := 6, ground := Ground.chain }], guard := none }) rfl (fun K hK => ?_) AllReadyH.nil
  go_simp
  refine (Has.tbAll hS p ff tt).mono ?_
  rintro e W0 ⟨g1, g2, g3, rfl, h4⟩
  refine hK.out _ _ (h4.tail.tail.tail) (fun hS => ?_)
  clear hK K
  try simp only [Act.put, List.setIfInBounds_toArray, List.set_cons_zero, List.set_cons_succ]
  have H4 := Lib.hid h4
  clear h4
  refine wpAnyH_done (by kernel_rfl) ?_ _
  unfold NormalOnly
  dsimp only
  go_wp2_with fail
  clear HL0 H5 HF1 HF2 HSP
  obtain ⟨F1, hA1, -⟩ := H3.out.get
  have hs0 := H4.out.size
  have HA1 := Lib.hid hA1
  have hI0 : SwI w1 p g1 g2 g3 w1.heap.size gA gF ff tt (⟨#[]⟩, []) W0 := ⟨_, (H4.out.rowNil 98 3).perm (sw_perm _ _ _ _ _ _ _)⟩
  have hTR := Lib.hid (fun st W (hh : SwI w1 p g1 g2 g3 w1.heap.size gA gF ff tt st W) => (show TRD p g1 g2 g3 ff tt r W from by
    obtain ⟨v, hh⟩ := hh
    exact ⟨⟨F1, tbA_below HA1.out hh.bel⟩, HZ.out, hh.blkAt (by simp), hh.blkAt (by simp), hh.blkAt (by simp)⟩))
  clear hA1 H4
  have hbl : (btw r ff tt).length ≤ r.length := by have := btw_len r ff tt; have := rend_le r tt; omega
  refine wp_tours (P := Tryz.prog) rfl (fun _ _ => rfl) (tb_all_tours p g1 g2 g3 ff tt) rfl (btw r ff tt).length
    (fun bb r' n W => r' = r ∧ bb = upAt r ff tt n ∧ n ≤ (btw r ff tt).length ∧ SwI w1 p g1 g2 g3 w1.heap.size gA gF ff tt (swL (a, b) ((btw r ff tt).take n)) W)
    (fun _ _ => False)
    (fun bb r' n Y Z h hX hf => ⟨h.1, h.2.1, h.2.2.1, h.2.2.2.firm hf hs0⟩)
    (fun _ _ _ h _ _ => h)
    (fun bb r' n Y h => ⟨by rw [h.1]; exact hTR.out _ Y h.2.2.2, h.2.2.1⟩)
    r ⟨rfl, rfl, Nat.zero_le _, hI0⟩ ?a1 ?assign ?body ?done ?stop
  case assign =>
    intro l x W K hK
    gi_wp2
    exact hK
  case body =>
    rintro l b' r' n xr W hsW ⟨rfl, rfl, hn, hfs⟩ hx
    rw [up_next HS.out _ _ hn] at hx
    obtain ⟨hst, hlt⟩ := up_step hx
    obtain ⟨hnl, hxr⟩ := List.getElem?_eq_some_iff.1 hx
    have hsu := swL_succ (a, b) (btw r' ff tt) n hnl
    rw [hxr] at hsu
    have hxm : xr ∈ r' := List.mem_of_mem_take (List.mem_of_mem_drop (List.mem_of_getElem? hx))
    have hxs := HZ.out xr hxm
    have hRV := fun W => readV_c xr.key W (by have := hxs.2.1; omega)
    have hTV := fun W => takeV_c xr.value W (by have := hxs.2.2; omega)
    have hll := swL_len (a, b) ((btw r' ff tt).take n)
    rw [List.length_take, Nat.min_eq_left hn] at hll
    have hll2 : ((swL (a, b) ((btw r' ff tt).take n)).2.length + 1) * 40 ≤ 140737488355328 := by omega
    have HKS := Lib.hid (show xr.key.size ≤ 281474976710656 by have := hxs.2.1; omega)
    have HST := Lib.hid hst
    have HLT := Lib.hid hlt
    have HNX0 := Lib.hid (show ∀ (st : ByteArray × List Op_) (W' : World), swSt (a, b) (swL (a, b) ((btw r' ff tt).take n)) xr = st → SwI w1 p g1 g2 g3 w1.heap.size gA gF ff tt st W' → SwI w1 p g1 g2 g3 w1.heap.size gA gF ff tt (swL (a, b) ((btw r' ff tt).take (n + 1))) W' from fun st W' e h => by rw [hsu, e]; exact h)
    clear hx hst hn hlt hnl hxr hsu hxm hxs hll
    generalize swL (a, b) ((btw r' ff tt).take n) = st0 at *
    obtain ⟨a0, L⟩ := st0
    obtain ⟨v, hh⟩ := hfs
    have HLL := Lib.hid hll2
    clear hll2
    obtain ⟨xk, xv⟩ := xr
    simp only at hRV hTV HLL HKS HST HLT HNX0 hh
    cases hv1 : rdVK (sb xk) with
    | none =>
      rw [hv1] at hRV
      have HVR := Lib.hid (show swSt (a, b) (a0, L) ⟨xk, xv⟩ = (a0, L) by unfold swSt vrd; simp only [hv1])
      obtain ⟨v, i, nn, hvf⟩ := ansV_form (tkV (sb xv))
      rw [hvf] at hTV
      have HRV := Lib.hid (show ∀ W, Calls Tryz.prog 28 #[.string xk] W fun e w' => e = .returned (.tuple #[.string ⟨#[]⟩, sv 0 0, .int .i64 4]) ∧ Below W.heap.size W w' from hRV)
      have HTV := Lib.hid hTV
      clear hv1 hvf hRV hTV
      gi_wp2_with (first
        | (refine ⟨trivial, ?_⟩; gi_at_call 28; refine ((callsIn_wide.2 (HRV.out _)).inRound l).mono ?_; rintro e w5 ⟨rfl, hb5⟩
           have h5 := hh.keep hb5
           have H6 := Lib.hid (h5.keep (nbl w5 (.cells #[.int .i64 0, .int .i64 0] 26)))
           have KF6 := Lib.hid (bsa hb5 (.cells #[.int .i64 0, .int .i64 0] 26))
           have b6 := Lib.hid (Blk.new w5 26 #[.int .i64 0, .int .i64 0])
           clear hb5 h5)
        | (refine ⟨trivial, ?_⟩; gi_at_call 29; refine ((callsIn_wide.2 (HTV.out _)).inRound l).mono ?_; rintro e w7 ⟨rfl, hb7⟩
           have h7 := H6.out.keep hb7
           have KF7 := Lib.hid (bst KF6.out hb7)
           have b7 := b6.out.below hb7 b6.out.lt
           have cq0 := b7.cell 0
           have cq1 := b7.cell 1
           simp at cq0 cq1
           have uaa := h7.blkAt (g := gF) (t := 125) (cs := #[(.func (.func 146) #[] #[pt gA])]) (by simp)
           have cg0 := uaa.cell 0
           simp at cg0
           have uta := HTO.out.below h7.bel HTO.out.lt
           have ct0 := uta.cell 0
           have ct1 := uta.cell 1
           simp at ct0 ct1
           clear uaa uta
           have H7 := Lib.hid h7
           clear hb7 b7 h7)
        | fail)
      refine ⟨trivial, ?_⟩
      gi_wp2_with fail
      exact ⟨keeps_below KF7.out, HST.out, HLT.out, HNX0.out _ _ HVR.out ⟨_, H7.out⟩⟩
    | some q =>
      obtain ⟨s2, a2, b2⟩ := q
      rw [hv1] at hRV
      have HRV := Lib.hid (show ∀ W, Calls Tryz.prog 28 #[.string xk] W fun e w' => e = .returned (.tuple #[.string (bs s2), sv a2 b2, .int .i64 0]) ∧ Below W.heap.size W w' from hRV)
      cases hv2 : tkV (sb xv) with
      | none =>
        rw [hv2] at hTV
        have HVR := Lib.hid (show swSt (a, b) (a0, L) ⟨xk, xv⟩ = (a0, L) by unfold swSt vrd; simp only [hv1, hv2])
        have HTV := Lib.hid (show ∀ W, Calls Tryz.prog 29 #[.string xv] W fun e w' => e = .returned (.tuple #[.string ⟨#[]⟩, .bool false, .int .i64 4]) ∧ Below W.heap.size W w' from hTV)
        clear hv1 hv2 hRV hTV
        gi_wp2_with (first
          | (refine ⟨trivial, ?_⟩; gi_at_call 28; refine ((callsIn_wide.2 (HRV.out _)).inRound l).mono ?_; rintro e w5 ⟨rfl, hb5⟩
             have h5 := hh.keep hb5
             have H6 := Lib.hid (h5.keep (nbl w5 (.cells #[.int .i64 a2, .int .i64 b2] 26)))
             have KF6 := Lib.hid (bsa hb5 (.cells #[.int .i64 a2, .int .i64 b2] 26))
             have b6 := Lib.hid (Blk.new w5 26 #[.int .i64 a2, .int .i64 b2])
             clear hb5 h5)
          | (refine ⟨trivial, ?_⟩; gi_at_call 29; refine ((callsIn_wide.2 (HTV.out _)).inRound l).mono ?_; rintro e w7 ⟨rfl, hb7⟩
             have h7 := H6.out.keep hb7
             have KF7 := Lib.hid (bst KF6.out hb7)
             have b7 := b6.out.below hb7 b6.out.lt
             have cq0 := b7.cell 0
             have cq1 := b7.cell 1
             simp at cq0 cq1
             have uaa := h7.blkAt (g := gF) (t := 125) (cs := #[(.func (.func 146) #[] #[pt gA])]) (by simp)
             have cg0 := uaa.cell 0
             simp at cg0
             have uta := HTO.out.below h7.bel HTO.out.lt
             have ct0 := uta.cell 0
             have ct1 := uta.cell 1
             simp at ct0 ct1
             clear uaa uta
             have H7 := Lib.hid h7
             clear hb7 b7 h7)
          | fail)
        refine ⟨trivial, ?_⟩
        gi_wp2_with fail
        exact ⟨keeps_below KF7.out, HST.out, HLT.out, HNX0.out _ _ HVR.out ⟨_, H7.out⟩⟩
      | some q2 =>
        obtain ⟨u, i⟩ := q2
        rw [hv2] at hTV
        have HTV := Lib.hid (show ∀ W, Calls Tryz.prog 29 #[.string xv] W fun e w' => e = .returned (.tuple #[.string u, .bool i, .int .i64 0]) ∧ Below W.heap.size W w' from hTV)
        have hvr : vrd ⟨xk, xv⟩ = some (bs s2, a2, b2, u, i) := by unfold vrd; simp only [hv1, hv2]
        have HLS := Lib.hid (fun W => less_c a b a2 b2 W)
        generalize bs s2 = s at *
        clear hv1 hv2 hRV hTV
        cases hl : lt (a, b) (a2, b2) with
        | true =>
          rw [hl] at HLS
          have HVR := Lib.hid (show swSt (a, b) (a0, L) ⟨xk, xv⟩ = (a0, L) by unfold swSt; simp only [hvr, hl, if_true])
          clear hvr hl
          gi_wp2_with (first
            | (refine ⟨trivial, ?_⟩; gi_at_call 28; refine ((callsIn_wide.2 (HRV.out _)).inRound l).mono ?_; rintro e w5 ⟨rfl, hb5⟩
               have h5 := hh.keep hb5
               have H6 := Lib.hid (h5.keep (nbl w5 (.cells #[.int .i64 a2, .int .i64 b2] 26)))
               have KF6 := Lib.hid (bsa hb5 (.cells #[.int .i64 a2, .int .i64 b2] 26))
               have b6 := Lib.hid (Blk.new w5 26 #[.int .i64 a2, .int .i64 b2])
               clear hb5 h5)
            | (refine ⟨trivial, ?_⟩; gi_at_call 29; refine ((callsIn_wide.2 (HTV.out _)).inRound l).mono ?_; rintro e w7 ⟨rfl, hb7⟩
               have h7 := H6.out.keep hb7
               have KF7 := Lib.hid (bst KF6.out hb7)
               have b7 := b6.out.below hb7 b6.out.lt
               have cq0 := b7.cell 0
               have cq1 := b7.cell 1
               simp at cq0 cq1
               have uaa := h7.blkAt (g := gF) (t := 125) (cs := #[(.func (.func 146) #[] #[pt gA])]) (by simp)
               have cg0 := uaa.cell 0
               simp at cg0
               have uta := HTO.out.below h7.bel HTO.out.lt
               have ct0 := uta.cell 0
               have ct1 := uta.cell 1
               simp at ct0 ct1
               clear uaa uta
               have H7 := Lib.hid h7
               clear hb7 b7 h7)
            | ((first | refine ⟨trivial, ?_⟩ | refine ⟨fun _ _ => trivial, ?_⟩); gi_at_call 12; refine ((callsIn_wide.2 (HLS.out _)).inRound l).mono ?_; rintro e w8 ⟨rfl, hb8⟩
               have h8 := H7.out.keep hb8
               have KF8 := Lib.hid (bst KF7.out hb8)
               have uab := h8.blkAt (g := gF) (t := 125) (cs := #[(.func (.func 146) #[] #[pt gA])]) (by simp)
               have cg0 := uab.cell 0
               simp at cg0
               have utb := HTO.out.below h8.bel HTO.out.lt
               have ct0 := utb.cell 0
               have ct1 := utb.cell 1
               simp at ct0 ct1
               clear uab utb
               have H8 := Lib.hid h8
               clear hb8 h8)
            | fail)
          exact ⟨keeps_below KF8.out, HST.out, HLT.out, HNX0.out _ _ HVR.out ⟨_, H8.out⟩⟩
        | false =>
          rw [hl] at HLS
          obtain ⟨fb, hfb⟩ : ∃ fb, decide (s ≠ a0) = fb := ⟨_, rfl⟩
          have HFB := Lib.hid hfb
          have hvs : swSt (a, b) (a0, L) ⟨xk, xv⟩ = if (fb && i) = true then (s, L) else (s, L ++ [⟨xk, ⟨#[]⟩, true⟩]) := by unfold swSt; simp only [hvr, hl, Bool.false_eq_true, if_false, hfb]; rfl
          clear hvr hl hfb
          cases i with
          | true =>
            cases fb with
            | true =>
              have HVR := Lib.hid (show swSt (a, b) (a0, L) ⟨xk, xv⟩ = (s, L) from hvs)
              clear hvs
              gi_wp2_with (first
                | (refine ⟨trivial, ?_⟩; gi_at_call 28; refine ((callsIn_wide.2 (HRV.out _)).inRound l).mono ?_; rintro e w5 ⟨rfl, hb5⟩
                   have h5 := hh.keep hb5
                   have H6 := Lib.hid (h5.keep (nbl w5 (.cells #[.int .i64 a2, .int .i64 b2] 26)))
                   have KF6 := Lib.hid (bsa hb5 (.cells #[.int .i64 a2, .int .i64 b2] 26))
                   have b6 := Lib.hid (Blk.new w5 26 #[.int .i64 a2, .int .i64 b2])
                   clear hb5 h5)
                | (refine ⟨trivial, ?_⟩; gi_at_call 29; refine ((callsIn_wide.2 (HTV.out _)).inRound l).mono ?_; rintro e w7 ⟨rfl, hb7⟩
                   have h7 := H6.out.keep hb7
                   have KF7 := Lib.hid (bst KF6.out hb7)
                   have b7 := b6.out.below hb7 b6.out.lt
                   have cq0 := b7.cell 0
                   have cq1 := b7.cell 1
                   simp at cq0 cq1
                   have uaa := h7.blkAt (g := gF) (t := 125) (cs := #[(.func (.func 146) #[] #[pt gA])]) (by simp)
                   have cg0 := uaa.cell 0
                   simp at cg0
                   have uta := HTO.out.below h7.bel HTO.out.lt
                   have ct0 := uta.cell 0
                   have ct1 := uta.cell 1
                   simp at ct0 ct1
                   clear uaa uta
                   have H7 := Lib.hid h7
                   clear hb7 b7 h7)
                | ((first | refine ⟨trivial, ?_⟩ | refine ⟨fun _ _ => trivial, ?_⟩); gi_at_call 12; refine ((callsIn_wide.2 (HLS.out _)).inRound l).mono ?_; rintro e w8 ⟨rfl, hb8⟩
                   have h8 := H7.out.keep hb8
                   have KF8 := Lib.hid (bst KF7.out hb8)
                   have uab := h8.blkAt (g := gF) (t := 125) (cs := #[(.func (.func 146) #[] #[pt gA])]) (by simp)
                   have cg0 := uab.cell 0
                   simp at cg0
                   have utb := HTO.out.below h8.bel HTO.out.lt
                   have ct0 := utb.cell 0
                   have ct1 := utb.cell 1
                   simp at ct0 ct1
                   clear uab utb
                   have H8 := Lib.hid h8
                   clear hb8 h8)
                | ((first | refine ⟨trivial, ?_⟩ | refine ⟨fun _ _ => trivial, ?_⟩); gi_at_call 146; refine ((callsIn_wide.2 (Has.swFirst (H8.out.perm (List.perm_middle (l₁ := [_, _, _, _, _]))) s)).inRound l).mono ?_; rintro e w9 ⟨rfl, h9, hk9⟩
                   rw [HFB.out]
                   have H9 := Lib.hid (h9.perm (List.perm_middle (l₁ := [_, _, _, _, _])).symm)
                   have KF9 := Lib.hid ((keeps_below (n := W0.heap.size) KF8.out).trans (hk9 _))
                   clear h9 hk9)
                | fail)
              exact ⟨KF9.out, HST.out, HLT.out, HNX0.out _ _ HVR.out ⟨_, H9.out⟩⟩
            | false =>
              have HVR := Lib.hid (show swSt (a, b) (a0, L) ⟨xk, xv⟩ = (s, L ++ [⟨xk, ⟨#[]⟩, true⟩]) from hvs)
              clear hvs
              gi_wp2_with (first
                | (refine ⟨trivial, ?_⟩; gi_at_call 28; refine ((callsIn_wide.2 (HRV.out _)).inRound l).mono ?_; rintro e w5 ⟨rfl, hb5⟩
                   have h5 := hh.keep hb5
                   have H6 := Lib.hid (h5.keep (nbl w5 (.cells #[.int .i64 a2, .int .i64 b2] 26)))
                   have KF6 := Lib.hid (bsa hb5 (.cells #[.int .i64 a2, .int .i64 b2] 26))
                   have b6 := Lib.hid (Blk.new w5 26 #[.int .i64 a2, .int .i64 b2])
                   clear hb5 h5)
                | (refine ⟨trivial, ?_⟩; gi_at_call 29; refine ((callsIn_wide.2 (HTV.out _)).inRound l).mono ?_; rintro e w7 ⟨rfl, hb7⟩
                   have h7 := H6.out.keep hb7
                   have KF7 := Lib.hid (bst KF6.out hb7)
                   have b7 := b6.out.below hb7 b6.out.lt
                   have cq0 := b7.cell 0
                   have cq1 := b7.cell 1
                   simp at cq0 cq1
                   have uaa := h7.blkAt (g := gF) (t := 125) (cs := #[(.func (.func 146) #[] #[pt gA])]) (by simp)
                   have cg0 := uaa.cell 0
                   simp at cg0
                   have uta := HTO.out.below h7.bel HTO.out.lt
                   have ct0 := uta.cell 0
                   have ct1 := uta.cell 1
                   simp at ct0 ct1
                   clear uaa uta
                   have H7 := Lib.hid h7
                   clear hb7 b7 h7)
                | ((first | refine ⟨trivial, ?_⟩ | refine ⟨fun _ _ => trivial, ?_⟩); gi_at_call 12; refine ((callsIn_wide.2 (HLS.out _)).inRound l).mono ?_; rintro e w8 ⟨rfl, hb8⟩
                   have h8 := H7.out.keep hb8
                   have KF8 := Lib.hid (bst KF7.out hb8)
                   have uab := h8.blkAt (g := gF) (t := 125) (cs := #[(.func (.func 146) #[] #[pt gA])]) (by simp)
                   have cg0 := uab.cell 0
                   simp at cg0
                   have utb := HTO.out.below h8.bel HTO.out.lt
                   have ct0 := utb.cell 0
                   have ct1 := utb.cell 1
                   simp at ct0 ct1
                   clear uab utb
                   have H8 := Lib.hid h8
                   clear hb8 h8)
                | ((first | refine ⟨trivial, ?_⟩ | refine ⟨fun _ _ => trivial, ?_⟩); gi_at_call 146; refine ((callsIn_wide.2 (Has.swFirst (H8.out.perm (List.perm_middle (l₁ := [_, _, _, _, _]))) s)).inRound l).mono ?_; rintro e w9 ⟨rfl, h9, hk9⟩
                   rw [HFB.out]
                   have H9 := Lib.hid (h9.perm (List.perm_middle (l₁ := [_, _, _, _, _])).symm)
                   have KF9 := Lib.hid ((keeps_below (n := W0.heap.size) KF8.out).trans (hk9 _))
                   clear h9 hk9)
                | fail)
              have HX0 := Lib.hid H9.out.drew
              have KX0 := Lib.hid (KF9.out.trans (keeps_below (below_drew w9)))
              refine wpIn_round_held (S := fun _ => True) hmix (by kernel_rfl) trivial (fun hS => ?_)
              simp only [List.size_toArray, List.length_cons, List.length_nil, Nat.reduceAdd, Array.replicate_succ, Array.replicate_zero]
              refine wpAnyH_take (i := 1) (oi := { dst := some 67, op := Op.move (Operand.tmp 11), type := 9, pos := "sweep.go:40", after := #[], guard := none }) (v := ?v1q1) rfl (by kernel_rfl) (by kernel_rfl) (by kernel_rfl) (fun _ _ _ h => h) (Or.inl ⟨by rfl, ?hy1q1⟩) (by assumption) ?rest1q1
              case hy1q1 => (intro V2 hSw; (try dsimp only at hSw); go_simp; all_goals (with_reducible rfl))
              try simp only [Act.put, List.setIfInBounds_toArray, List.set_cons_zero, List.set_cons_succ]
              refine wpAnyH_ready (rs := [0, 2]) (by kernel_rfl) (by simp) ?_
              refine AllReadyH.cons (o := { dst := some 66, op := Op.load 36 (Operand.tmp 9), type := 36, pos := "sweep.go:40", after := #[], guard := none }) rfl (fun K hK => ?_) ?_
              · have zk := HX0.out.blkAt (g := w1.heap.size) (t := 36) (cs := #[v]) (by simp)
                have ck0 := zk.cell 0
                have cf0 := zk.frozen 0
                simp at ck0
                go_simp
                refine hK.out _ _ (trivial) (fun hS => ?_)
                clear hK K
                try simp only [Act.put, List.setIfInBounds_toArray, List.set_cons_zero, List.set_cons_succ]
                clear zk ck0 cf0
                refine wpAnyH_ready (rs := [2]) (by kernel_rfl) (by simp) ?_
                refine AllReadyH.cons (o := { dst := some 68, op := Op.call { callee := Callee.value (Operand.func 60), args := #[Operand.tmp 67], argTypes := #[9] }, type := 9, pos := "sweep.go:40", after := #[{ on := 1, ground := Ground.data }], guard := none }) rfl (fun K hK => ?_) AllReadyH.nil
                go_simp
                refine (clone xk _ HKS.out).mono ?_
                rintro e u1 ⟨rfl, hbu⟩
                have hX := HX0.out.keep hbu
                refine hK.out _ _ (trivial) (fun hS => ?_)
                clear hK K
                try simp only [Act.put, List.setIfInBounds_toArray, List.set_cons_zero, List.set_cons_succ]
                have HX1 := Lib.hid hX
                have KX1 := Lib.hid (KX0.out.trans (keeps_below hbu))
                clear hX hbu
                refine wpAnyH_take (i := 3) (oi := { dst := some 69, op := Op.build 98 #[(0, Operand.tmp 68), (2, Operand.const (Value.bool true))], type := 98, pos := "sweep.go:40", after := #[{ on := 2, ground := Ground.data }], guard := none }) (v := ?v3q1a) rfl (by kernel_rfl) (by kernel_rfl) (by kernel_rfl) (fun _ _ _ h => h) (Or.inl ⟨by rfl, ?hy3q1a⟩) (by assumption) ?rest3q1a
                case hy3q1a => (intro V2 hSw; (try dsimp only at hSw); go_simp; all_goals (with_reducible rfl))
                try simp only [Act.put, List.setIfInBounds_toArray, List.set_cons_zero, List.set_cons_succ]
                refine wpAnyH_ready (rs := [4]) (by kernel_rfl) (by simp) ?_
                refine AllReadyH.cons (o := { dst := some 70, op := Op.buildSlice 36 1 #[(0, Operand.tmp 69)], type := 36, pos := "sweep.go:40", after := #[{ on := 3, ground := Ground.data }], guard := none }) rfl (fun K hK => ?_) AllReadyH.nil
                go_simp
                have hX := HX1.out.newBlk 98 #[.string xk, .string ⟨#[]⟩, .bool true]
                have hk := KX1.out.trans (keeps_below (nbl _ (.cells #[.string xk, .string ⟨#[]⟩, .bool true] 98)))
                refine hK.out _ _ (trivial) (fun hS => ?_)
                clear hK K
                try simp only [Act.put, List.setIfInBounds_toArray, List.set_cons_zero, List.set_cons_succ]
                have HX2 := Lib.hid hX
                have KX2 := Lib.hid hk
                clear hX hk
                refine wpAnyH_ready (rs := [5]) (by kernel_rfl) (by simp) ?_
                refine AllReadyH.cons (o := { dst := some 71, op := Op.call { callee := Callee.builtin Builtin.append, args := #[Operand.tmp 66, Operand.tmp 70], argTypes := #[36, 36] }, type := 36, pos := "sweep.go:40", after := #[{ on := 0, ground := Ground.data }, { on := 4, ground := Ground.data }, { on := 2, ground := Ground.chain }], guard := none }) rfl (fun K hK => ?_) AllReadyH.nil
                refine step_appOps rfl _ _ rfl v L (by first | rfl | assumption) (HX2.out.perm (List.perm_middle (l₁ := [_, _, _, _, _, _, _]))) _ 1 ⟨xk, ⟨#[]⟩, true⟩ (by first | rfl | (simp; rfl)) HX2.out.blk.1 HLL.out ?_
                intro A5 m5 c5 w7 hh5 hk5
                have hX := hh5.perm (List.perm_middle (l₁ := [_, _, _, _, _, _, _])).symm
                refine hK.out _ _ (trivial) (fun hS => ?_)
                clear hK K
                try simp only [Act.put, List.setIfInBounds_toArray, List.set_cons_zero, List.set_cons_succ]
                have HX3 := Lib.hid hX
                have KX3 := Lib.hid (KX2.out.trans (hk5 _))
                clear hX hh5 hk5
                refine wpAnyH_ready (rs := [6]) (by kernel_rfl) (by simp) ?_
                refine AllReadyH.cons (o := { dst := none, op := Op.store 36 (Operand.tmp 9) (Operand.tmp 71), type := 0, pos := "sweep.go:40", after := #[{ on := 5, ground := Ground.data }, { on := 5, ground := Ground.chain }, { on := 0, ground := Ground.phase }, { on := 1, ground := Ground.phase }, { on := 2, ground := Ground.phase }, { on := 3, ground := Ground.phase }, { on := 4, ground := Ground.phase }, { on := 5, ground := Ground.phase }], guard := none }) rfl (fun K hK => ?_) AllReadyH.nil
                have hq := HX3.out.perm (List.perm_middle (l₁ := [_, _, _, _]))
                have hb := hq.blk.1
                have ck0 := hb.cell 0
                have cf0 := hb.frozen 0
                simp at ck0
                go_simp
                refine hK.out _ _ (trivial) (fun hS => ?_)
                clear hK K
                try simp only [Act.put, List.setIfInBounds_toArray, List.set_cons_zero, List.set_cons_succ]
                have HX4 := Lib.hid (((hq.setBlk 0 (.slice A5 m5 c5)).perm (List.perm_middle (l₁ := [_, _, _, _])).symm).tail)
                have KX4 := Lib.hid (KX3.out.trans (pk_from_put (i := 0) (u := .slice A5 m5 c5) hb))
                clear hq hb ck0 cf0
                refine wpAnyH_done (by kernel_rfl) ?_ _
                first | exact And.intro KX4.out ⟨_, rfl, HST.out, HLT.out, HNX0.out _ _ HVR.out ⟨_, HX4.out⟩⟩ | exact And.intro KX4.out ⟨HST.out, HLT.out, HNX0.out _ _ HVR.out ⟨_, HX4.out⟩⟩
              refine AllReadyH.cons (o := { dst := some 68, op := Op.call { callee := Callee.value (Operand.func 60), args := #[Operand.tmp 67], argTypes := #[9] }, type := 9, pos := "sweep.go:40", after := #[{ on := 1, ground := Ground.data }], guard := none }) rfl (fun K hK => ?_) AllReadyH.nil
              go_simp
              refine (clone xk _ HKS.out).mono ?_
              rintro e u1 ⟨rfl, hbu⟩
              have hX := HX0.out.keep hbu
              refine hK.out _ _ (trivial) (fun hS => ?_)
              clear hK K
              try simp only [Act.put, List.setIfInBounds_toArray, List.set_cons_zero, List.set_cons_succ]
              have HX1 := Lib.hid hX
              have KX1 := Lib.hid (KX0.out.trans (keeps_below hbu))
              clear hX hbu
              refine wpAnyH_take (i := 3) (oi := { dst := some 69, op := Op.build 98 #[(0, Operand.tmp 68), (2, Operand.const (Value.bool true))], type := 98, pos := "sweep.go:40", after := #[{ on := 2, ground := Ground.data }], guard := none }) (v := ?v3q1b) rfl (by kernel_rfl) (by kernel_rfl) (by kernel_rfl) (fun _ _ _ h => h) (Or.inl ⟨by rfl, ?hy3q1b⟩) (by assumption) ?rest3q1b
              case hy3q1b => (intro V2 hSw; (try dsimp only at hSw); go_simp; all_goals (with_reducible rfl))
              try simp only [Act.put, List.setIfInBounds_toArray, List.set_cons_zero, List.set_cons_succ]
              refine wpAnyH_ready (rs := [0, 4]) (by kernel_rfl) (by simp) ?_
              refine AllReadyH.cons (o := { dst := some 66, op := Op.load 36 (Operand.tmp 9), type := 36, pos := "sweep.go:40", after := #[], guard := none }) rfl (fun K hK => ?_) ?_
              · have zk := HX1.out.blkAt (g := w1.heap.size) (t := 36) (cs := #[v]) (by simp)
                have ck0 := zk.cell 0
                have cf0 := zk.frozen 0
                simp at ck0
                go_simp
                refine hK.out _ _ (trivial) (fun hS => ?_)
                clear hK K
                try simp only [Act.put, List.setIfInBounds_toArray, List.set_cons_zero, List.set_cons_succ]
                clear zk ck0 cf0
                refine wpAnyH_ready (rs := [4]) (by kernel_rfl) (by simp) ?_
                refine AllReadyH.cons (o := { dst := some 70, op := Op.buildSlice 36 1 #[(0, Operand.tmp 69)], type := 36, pos := "sweep.go:40", after := #[{ on := 3, ground := Ground.data }], guard := none }) rfl (fun K hK => ?_) AllReadyH.nil
                go_simp
                have hX := HX1.out.newBlk 98 #[.string xk, .string ⟨#[]⟩, .bool true]
                have hk := KX1.out.trans (keeps_below (nbl _ (.cells #[.string xk, .string ⟨#[]⟩, .bool true] 98)))
                refine hK.out _ _ (trivial) (fun hS => ?_)
                clear hK K
                try simp only [Act.put, List.setIfInBounds_toArray, List.set_cons_zero, List.set_cons_succ]
                have HX2 := Lib.hid hX
                have KX2 := Lib.hid hk
                clear hX hk
                refine wpAnyH_ready (rs := [5]) (by kernel_rfl) (by simp) ?_
                refine AllReadyH.cons (o := { dst := some 71, op := Op.call { callee := Callee.builtin Builtin.append, args := #[Operand.tmp 66, Operand.tmp 70], argTypes := #[36, 36] }, type := 36, pos := "sweep.go:40", after := #[{ on := 0, ground := Ground.data }, { on := 4, ground := Ground.data }, { on := 2, ground := Ground.chain }], guard := none }) rfl (fun K hK => ?_) AllReadyH.nil
                refine step_appOps rfl _ _ rfl v L (by first | rfl | assumption) (HX2.out.perm (List.perm_middle (l₁ := [_, _, _, _, _, _, _]))) _ 1 ⟨xk, ⟨#[]⟩, true⟩ (by first | rfl | (simp; rfl)) HX2.out.blk.1 HLL.out ?_
                intro A5 m5 c5 w7 hh5 hk5
                have hX := hh5.perm (List.perm_middle (l₁ := [_, _, _, _, _, _, _])).symm
                refine hK.out _ _ (trivial) (fun hS => ?_)
                clear hK K
                try simp only [Act.put, List.setIfInBounds_toArray, List.set_cons_zero, List.set_cons_succ]
                have HX3 := Lib.hid hX
                have KX3 := Lib.hid (KX2.out.trans (hk5 _))
                clear hX hh5 hk5
                refine wpAnyH_ready (rs := [6]) (by kernel_rfl) (by simp) ?_
                refine AllReadyH.cons (o := { dst := none, op := Op.store 36 (Operand.tmp 9) (Operand.tmp 71), type := 0, pos := "sweep.go:40", after := #[{ on := 5, ground := Ground.data }, { on := 5, ground := Ground.chain }, { on := 0, ground := Ground.phase }, { on := 1, ground := Ground.phase }, { on := 2, ground := Ground.phase }, { on := 3, ground := Ground.phase }, { on := 4, ground := Ground.phase }, { on := 5, ground := Ground.phase }], guard := none }) rfl (fun K hK => ?_) AllReadyH.nil
                have hq := HX3.out.perm (List.perm_middle (l₁ := [_, _, _, _]))
                have hb := hq.blk.1
                have ck0 := hb.cell 0
                have cf0 := hb.frozen 0
                simp at ck0
                go_simp
                refine hK.out _ _ (trivial) (fun hS => ?_)
                clear hK K
                try simp only [Act.put, List.setIfInBounds_toArray, List.set_cons_zero, List.set_cons_succ]
                have HX4 := Lib.hid (((hq.setBlk 0 (.slice A5 m5 c5)).perm (List.perm_middle (l₁ := [_, _, _, _])).symm).tail)
                have KX4 := Lib.hid (KX3.out.trans (pk_from_put (i := 0) (u := .slice A5 m5 c5) hb))
                clear hq hb ck0 cf0
                refine wpAnyH_done (by kernel_rfl) ?_ _
                first | exact And.intro KX4.out ⟨_, rfl, HST.out, HLT.out, HNX0.out _ _ HVR.out ⟨_, HX4.out⟩⟩ | exact And.intro KX4.out ⟨HST.out, HLT.out, HNX0.out _ _ HVR.out ⟨_, HX4.out⟩⟩
              refine AllReadyH.cons (o := { dst := some 70, op := Op.buildSlice 36 1 #[(0, Operand.tmp 69)], type := 36, pos := "sweep.go:40", after := #[{ on := 3, ground := Ground.data }], guard := none }) rfl (fun K hK => ?_) AllReadyH.nil
              go_simp
              have hX := HX1.out.newBlk 98 #[.string xk, .string ⟨#[]⟩, .bool true]
              have hk := KX1.out.trans (keeps_below (nbl _ (.cells #[.string xk, .string ⟨#[]⟩, .bool true] 98)))
              refine hK.out _ _ (trivial) (fun hS => ?_)
              clear hK K
              try simp only [Act.put, List.setIfInBounds_toArray, List.set_cons_zero, List.set_cons_succ]
              have HX2 := Lib.hid hX
              have KX2 := Lib.hid hk
              clear hX hk
              refine wpAnyH_ready (rs := [0]) (by kernel_rfl) (by simp) ?_
              refine AllReadyH.cons (o := { dst := some 66, op := Op.load 36 (Operand.tmp 9), type := 36, pos := "sweep.go:40", after := #[], guard := none }) rfl (fun K hK => ?_) AllReadyH.nil
              have zk := HX2.out.blkAt (g := w1.heap.size) (t := 36) (cs := #[v]) (by simp)
              have ck0 := zk.cell 0
              have cf0 := zk.frozen 0
              simp at ck0
              go_simp
              refine hK.out _ _ (trivial) (fun hS => ?_)
              clear hK K
              try simp only [Act.put, List.setIfInBounds_toArray, List.set_cons_zero, List.set_cons_succ]
              clear zk ck0 cf0
              refine wpAnyH_ready (rs := [5]) (by kernel_rfl) (by simp) ?_
              refine AllReadyH.cons (o := { dst := some 71, op := Op.call { callee := Callee.builtin Builtin.append, args := #[Operand.tmp 66, Operand.tmp 70], argTypes := #[36, 36] }, type := 36, pos := "sweep.go:40", after := #[{ on := 0, ground := Ground.data }, { on := 4, ground := Ground.data }, { on := 2, ground := Ground.chain }], guard := none }) rfl (fun K hK => ?_) AllReadyH.nil
              refine step_appOps rfl _ _ rfl v L (by first | rfl | assumption) (HX2.out.perm (List.perm_middle (l₁ := [_, _, _, _, _, _, _]))) _ 1 ⟨xk, ⟨#[]⟩, true⟩ (by first | rfl | (simp; rfl)) HX2.out.blk.1 HLL.out ?_
              intro A5 m5 c5 w7 hh5 hk5
              have hX := hh5.perm (List.perm_middle (l₁ := [_, _, _, _, _, _, _])).symm
              refine hK.out _ _ (trivial) (fun hS => ?_)
              clear hK K
              try simp only [Act.put, List.setIfInBounds_toArray, List.set_cons_zero, List.set_cons_succ]
              have HX3 := Lib.hid hX
              have KX3 := Lib.hid (KX2.out.trans (hk5 _))
              clear hX hh5 hk5
              refine wpAnyH_ready (rs := [6]) (by kernel_rfl) (by simp) ?_
              refine AllReadyH.cons (o := { dst := none, op := Op.store 36 (Operand.tmp 9) (Operand.tmp 71), type := 0, pos := "sweep.go:40", after := #[{ on := 5, ground := Ground.data }, { on := 5, ground := Ground.chain }, { on := 0, ground := Ground.phase }, { on := 1, ground := Ground.phase }, { on := 2, ground := Ground.phase }, { on := 3, ground := Ground.phase }, { on := 4, ground := Ground.phase }, { on := 5, ground := Ground.phase }], guard := none }) rfl (fun K hK => ?_) AllReadyH.nil
              have hq := HX3.out.perm (List.perm_middle (l₁ := [_, _, _, _]))
              have hb := hq.blk.1
              have ck0 := hb.cell 0
              have cf0 := hb.frozen 0
              simp at ck0
              go_simp
              refine hK.out _ _ (trivial) (fun hS => ?_)
              clear hK K
              try simp only [Act.put, List.setIfInBounds_toArray, List.set_cons_zero, List.set_cons_succ]
              have HX4 := Lib.hid (((hq.setBlk 0 (.slice A5 m5 c5)).perm (List.perm_middle (l₁ := [_, _, _, _])).symm).tail)
              have KX4 := Lib.hid (KX3.out.trans (pk_from_put (i := 0) (u := .slice A5 m5 c5) hb))
              clear hq hb ck0 cf0
              refine wpAnyH_done (by kernel_rfl) ?_ _
              first | exact And.intro KX4.out ⟨_, rfl, HST.out, HLT.out, HNX0.out _ _ HVR.out ⟨_, HX4.out⟩⟩ | exact And.intro KX4.out ⟨HST.out, HLT.out, HNX0.out _ _ HVR.out ⟨_, HX4.out⟩⟩

          | false =>
            have HVR := Lib.hid (show swSt (a, b) (a0, L) ⟨xk, xv⟩ = (s, L ++ [⟨xk, ⟨#[]⟩, true⟩]) by rw [hvs, Bool.and_false]; rfl)
            clear hvs
            cases fb with
            | true =>
              gi_wp2_with (first
                | (refine ⟨trivial, ?_⟩; gi_at_call 28; refine ((callsIn_wide.2 (HRV.out _)).inRound l).mono ?_; rintro e w5 ⟨rfl, hb5⟩
                   have h5 := hh.keep hb5
                   have H6 := Lib.hid (h5.keep (nbl w5 (.cells #[.int .i64 a2, .int .i64 b2] 26)))
                   have KF6 := Lib.hid (bsa hb5 (.cells #[.int .i64 a2, .int .i64 b2] 26))
                   have b6 := Lib.hid (Blk.new w5 26 #[.int .i64 a2, .int .i64 b2])
                   clear hb5 h5)
                | (refine ⟨trivial, ?_⟩; gi_at_call 29; refine ((callsIn_wide.2 (HTV.out _)).inRound l).mono ?_; rintro e w7 ⟨rfl, hb7⟩
                   have h7 := H6.out.keep hb7
                   have KF7 := Lib.hid (bst KF6.out hb7)
                   have b7 := b6.out.below hb7 b6.out.lt
                   have cq0 := b7.cell 0
                   have cq1 := b7.cell 1
                   simp at cq0 cq1
                   have uaa := h7.blkAt (g := gF) (t := 125) (cs := #[(.func (.func 146) #[] #[pt gA])]) (by simp)
                   have cg0 := uaa.cell 0
                   simp at cg0
                   have uta := HTO.out.below h7.bel HTO.out.lt
                   have ct0 := uta.cell 0
                   have ct1 := uta.cell 1
                   simp at ct0 ct1
                   clear uaa uta
                   have H7 := Lib.hid h7
                   clear hb7 b7 h7)
                | ((first | refine ⟨trivial, ?_⟩ | refine ⟨fun _ _ => trivial, ?_⟩); gi_at_call 12; refine ((callsIn_wide.2 (HLS.out _)).inRound l).mono ?_; rintro e w8 ⟨rfl, hb8⟩
                   have h8 := H7.out.keep hb8
                   have KF8 := Lib.hid (bst KF7.out hb8)
                   have uab := h8.blkAt (g := gF) (t := 125) (cs := #[(.func (.func 146) #[] #[pt gA])]) (by simp)
                   have cg0 := uab.cell 0
                   simp at cg0
                   have utb := HTO.out.below h8.bel HTO.out.lt
                   have ct0 := utb.cell 0
                   have ct1 := utb.cell 1
                   simp at ct0 ct1
                   clear uab utb
                   have H8 := Lib.hid h8
                   clear hb8 h8)
                | ((first | refine ⟨trivial, ?_⟩ | refine ⟨fun _ _ => trivial, ?_⟩); gi_at_call 146; refine ((callsIn_wide.2 (Has.swFirst (H8.out.perm (List.perm_middle (l₁ := [_, _, _, _, _]))) s)).inRound l).mono ?_; rintro e w9 ⟨rfl, h9, hk9⟩
                   rw [HFB.out]
                   have H9 := Lib.hid (h9.perm (List.perm_middle (l₁ := [_, _, _, _, _])).symm)
                   have KF9 := Lib.hid ((keeps_below (n := W0.heap.size) KF8.out).trans (hk9 _))
                   clear h9 hk9)
                | fail)
              have HX0 := Lib.hid H9.out.drew
              have KX0 := Lib.hid (KF9.out.trans (keeps_below (below_drew w9)))
              refine wpIn_round_held (S := fun _ => True) hmix (by kernel_rfl) trivial (fun hS => ?_)
              simp only [List.size_toArray, List.length_cons, List.length_nil, Nat.reduceAdd, Array.replicate_succ, Array.replicate_zero]
              refine wpAnyH_take (i := 1) (oi := { dst := some 67, op := Op.move (Operand.tmp 11), type := 9, pos := "sweep.go:40", after := #[], guard := none }) (v := ?v1q2) rfl (by kernel_rfl) (by kernel_rfl) (by kernel_rfl) (fun _ _ _ h => h) (Or.inl ⟨by rfl, ?hy1q2⟩) (by assumption) ?rest1q2
              case hy1q2 => (intro V2 hSw; (try dsimp only at hSw); go_simp; all_goals (with_reducible rfl))
              try simp only [Act.put, List.setIfInBounds_toArray, List.set_cons_zero, List.set_cons_succ]
              refine wpAnyH_ready (rs := [0, 2]) (by kernel_rfl) (by simp) ?_
              refine AllReadyH.cons (o := { dst := some 66, op := Op.load 36 (Operand.tmp 9), type := 36, pos := "sweep.go:40", after := #[], guard := none }) rfl (fun K hK => ?_) ?_
              · have zk := HX0.out.blkAt (g := w1.heap.size) (t := 36) (cs := #[v]) (by simp)
                have ck0 := zk.cell 0
                have cf0 := zk.frozen 0
                simp at ck0
                go_simp
                refine hK.out _ _ (trivial) (fun hS => ?_)
                clear hK K
                try simp only [Act.put, List.setIfInBounds_toArray, List.set_cons_zero, List.set_cons_succ]
                clear zk ck0 cf0
                refine wpAnyH_ready (rs := [2]) (by kernel_rfl) (by simp) ?_
                refine AllReadyH.cons (o := { dst := some 68, op := Op.call { callee := Callee.value (Operand.func 60), args := #[Operand.tmp 67], argTypes := #[9] }, type := 9, pos := "sweep.go:40", after := #[{ on := 1, ground := Ground.data }], guard := none }) rfl (fun K hK => ?_) AllReadyH.nil
                go_simp
                refine (clone xk _ HKS.out).mono ?_
                rintro e u1 ⟨rfl, hbu⟩
                have hX := HX0.out.keep hbu
                refine hK.out _ _ (trivial) (fun hS => ?_)
                clear hK K
                try simp only [Act.put, List.setIfInBounds_toArray, List.set_cons_zero, List.set_cons_succ]
                have HX1 := Lib.hid hX
                have KX1 := Lib.hid (KX0.out.trans (keeps_below hbu))
                clear hX hbu
                refine wpAnyH_take (i := 3) (oi := { dst := some 69, op := Op.build 98 #[(0, Operand.tmp 68), (2, Operand.const (Value.bool true))], type := 98, pos := "sweep.go:40", after := #[{ on := 2, ground := Ground.data }], guard := none }) (v := ?v3q2a) rfl (by kernel_rfl) (by kernel_rfl) (by kernel_rfl) (fun _ _ _ h => h) (Or.inl ⟨by rfl, ?hy3q2a⟩) (by assumption) ?rest3q2a
                case hy3q2a => (intro V2 hSw; (try dsimp only at hSw); go_simp; all_goals (with_reducible rfl))
                try simp only [Act.put, List.setIfInBounds_toArray, List.set_cons_zero, List.set_cons_succ]
                refine wpAnyH_ready (rs := [4]) (by kernel_rfl) (by simp) ?_
                refine AllReadyH.cons (o := { dst := some 70, op := Op.buildSlice 36 1 #[(0, Operand.tmp 69)], type := 36, pos := "sweep.go:40", after := #[{ on := 3, ground := Ground.data }], guard := none }) rfl (fun K hK => ?_) AllReadyH.nil
                go_simp
                have hX := HX1.out.newBlk 98 #[.string xk, .string ⟨#[]⟩, .bool true]
                have hk := KX1.out.trans (keeps_below (nbl _ (.cells #[.string xk, .string ⟨#[]⟩, .bool true] 98)))
                refine hK.out _ _ (trivial) (fun hS => ?_)
                clear hK K
                try simp only [Act.put, List.setIfInBounds_toArray, List.set_cons_zero, List.set_cons_succ]
                have HX2 := Lib.hid hX
                have KX2 := Lib.hid hk
                clear hX hk
                refine wpAnyH_ready (rs := [5]) (by kernel_rfl) (by simp) ?_
                refine AllReadyH.cons (o := { dst := some 71, op := Op.call { callee := Callee.builtin Builtin.append, args := #[Operand.tmp 66, Operand.tmp 70], argTypes := #[36, 36] }, type := 36, pos := "sweep.go:40", after := #[{ on := 0, ground := Ground.data }, { on := 4, ground := Ground.data }, { on := 2, ground := Ground.chain }], guard := none }) rfl (fun K hK => ?_) AllReadyH.nil
                refine step_appOps rfl _ _ rfl v L (by first | rfl | assumption) (HX2.out.perm (List.perm_middle (l₁ := [_, _, _, _, _, _, _]))) _ 1 ⟨xk, ⟨#[]⟩, true⟩ (by first | rfl | (simp; rfl)) HX2.out.blk.1 HLL.out ?_
                intro A5 m5 c5 w7 hh5 hk5
                have hX := hh5.perm (List.perm_middle (l₁ := [_, _, _, _, _, _, _])).symm
                refine hK.out _ _ (trivial) (fun hS => ?_)
                clear hK K
                try simp only [Act.put, List.setIfInBounds_toArray, List.set_cons_zero, List.set_cons_succ]
                have HX3 := Lib.hid hX
                have KX3 := Lib.hid (KX2.out.trans (hk5 _))
                clear hX hh5 hk5
                refine wpAnyH_ready (rs := [6]) (by kernel_rfl) (by simp) ?_
                refine AllReadyH.cons (o := { dst := none, op := Op.store 36 (Operand.tmp 9) (Operand.tmp 71), type := 0, pos := "sweep.go:40", after := #[{ on := 5, ground := Ground.data }, { on := 5, ground := Ground.chain }, { on := 0, ground := Ground.phase }, { on := 1, ground := Ground.phase }, { on := 2, ground := Ground.phase }, { on := 3, ground := Ground.phase }, { on := 4, ground := Ground.phase }, { on := 5, ground := Ground.phase }], guard := none }) rfl (fun K hK => ?_) AllReadyH.nil
                have hq := HX3.out.perm (List.perm_middle (l₁ := [_, _, _, _]))
                have hb := hq.blk.1
                have ck0 := hb.cell 0
                have cf0 := hb.frozen 0
                simp at ck0
                go_simp
                refine hK.out _ _ (trivial) (fun hS => ?_)
                clear hK K
                try simp only [Act.put, List.setIfInBounds_toArray, List.set_cons_zero, List.set_cons_succ]
                have HX4 := Lib.hid (((hq.setBlk 0 (.slice A5 m5 c5)).perm (List.perm_middle (l₁ := [_, _, _, _])).symm).tail)
                have KX4 := Lib.hid (KX3.out.trans (pk_from_put (i := 0) (u := .slice A5 m5 c5) hb))
                clear hq hb ck0 cf0
                refine wpAnyH_done (by kernel_rfl) ?_ _
                first | exact And.intro KX4.out ⟨_, rfl, HST.out, HLT.out, HNX0.out _ _ HVR.out ⟨_, HX4.out⟩⟩ | exact And.intro KX4.out ⟨HST.out, HLT.out, HNX0.out _ _ HVR.out ⟨_, HX4.out⟩⟩
              refine AllReadyH.cons (o := { dst := some 68, op := Op.call { callee := Callee.value (Operand.func 60), args := #[Operand.tmp 67], argTypes := #[9] }, type := 9, pos := "sweep.go:40", after := #[{ on := 1, ground := Ground.data }], guard := none }) rfl (fun K hK => ?_) AllReadyH.nil
              go_simp
              refine (clone xk _ HKS.out).mono ?_
              rintro e u1 ⟨rfl, hbu⟩
              have hX := HX0.out.keep hbu
              refine hK.out _ _ (trivial) (fun hS => ?_)
              clear hK K
              try simp only [Act.put, List.setIfInBounds_toArray, List.set_cons_zero, List.set_cons_succ]
              have HX1 := Lib.hid hX
              have KX1 := Lib.hid (KX0.out.trans (keeps_below hbu))
              clear hX hbu
              refine wpAnyH_take (i := 3) (oi := { dst := some 69, op := Op.build 98 #[(0, Operand.tmp 68), (2, Operand.const (Value.bool true))], type := 98, pos := "sweep.go:40", after := #[{ on := 2, ground := Ground.data }], guard := none }) (v := ?v3q2b) rfl (by kernel_rfl) (by kernel_rfl) (by kernel_rfl) (fun _ _ _ h => h) (Or.inl ⟨by rfl, ?hy3q2b⟩) (by assumption) ?rest3q2b
              case hy3q2b => (intro V2 hSw; (try dsimp only at hSw); go_simp; all_goals (with_reducible rfl))
              try simp only [Act.put, List.setIfInBounds_toArray, List.set_cons_zero, List.set_cons_succ]
              refine wpAnyH_ready (rs := [0, 4]) (by kernel_rfl) (by simp) ?_
              refine AllReadyH.cons (o := { dst := some 66, op := Op.load 36 (Operand.tmp 9), type := 36, pos := "sweep.go:40", after := #[], guard := none }) rfl (fun K hK => ?_) ?_
              · have zk := HX1.out.blkAt (g := w1.heap.size) (t := 36) (cs := #[v]) (by simp)
                have ck0 := zk.cell 0
                have cf0 := zk.frozen 0
                simp at ck0
                go_simp
                refine hK.out _ _ (trivial) (fun hS => ?_)
                clear hK K
                try simp only [Act.put, List.setIfInBounds_toArray, List.set_cons_zero, List.set_cons_succ]
                clear zk ck0 cf0
                refine wpAnyH_ready (rs := [4]) (by kernel_rfl) (by simp) ?_
                refine AllReadyH.cons (o := { dst := some 70, op := Op.buildSlice 36 1 #[(0, Operand.tmp 69)], type := 36, pos := "sweep.go:40", after := #[{ on := 3, ground := Ground.data }], guard := none }) rfl (fun K hK => ?_) AllReadyH.nil
                go_simp
                have hX := HX1.out.newBlk 98 #[.string xk, .string ⟨#[]⟩, .bool true]
                have hk := KX1.out.trans (keeps_below (nbl _ (.cells #[.string xk, .string ⟨#[]⟩, .bool true] 98)))
                refine hK.out _ _ (trivial) (fun hS => ?_)
                clear hK K
                try simp only [Act.put, List.setIfInBounds_toArray, List.set_cons_zero, List.set_cons_succ]
                have HX2 := Lib.hid hX
                have KX2 := Lib.hid hk
                clear hX hk
                refine wpAnyH_ready (rs := [5]) (by kernel_rfl) (by simp) ?_
                refine AllReadyH.cons (o := { dst := some 71, op := Op.call { callee := Callee.builtin Builtin.append, args := #[Operand.tmp 66, Operand.tmp 70], argTypes := #[36, 36] }, type := 36, pos := "sweep.go:40", after := #[{ on := 0, ground := Ground.data }, { on := 4, ground := Ground.data }, { on := 2, ground := Ground.chain }], guard := none }) rfl (fun K hK => ?_) AllReadyH.nil
                refine step_appOps rfl _ _ rfl v L (by first | rfl | assumption) (HX2.out.perm (List.perm_middle (l₁ := [_, _, _, _, _, _, _]))) _ 1 ⟨xk, ⟨#[]⟩, true⟩ (by first | rfl | (simp; rfl)) HX2.out.blk.1 HLL.out ?_
                intro A5 m5 c5 w7 hh5 hk5
                have hX := hh5.perm (List.perm_middle (l₁ := [_, _, _, _, _, _, _])).symm
                refine hK.out _ _ (trivial) (fun hS => ?_)
                clear hK K
                try simp only [Act.put, List.setIfInBounds_toArray, List.set_cons_zero, List.set_cons_succ]
                have HX3 := Lib.hid hX
                have KX3 := Lib.hid (KX2.out.trans (hk5 _))
                clear hX hh5 hk5
                refine wpAnyH_ready (rs := [6]) (by kernel_rfl) (by simp) ?_
                refine AllReadyH.cons (o := { dst := none, op := Op.store 36 (Operand.tmp 9) (Operand.tmp 71), type := 0, pos := "sweep.go:40", after := #[{ on := 5, ground := Ground.data }, { on := 5, ground := Ground.chain }, { on := 0, ground := Ground.phase }, { on := 1, ground := Ground.phase }, { on := 2, ground := Ground.phase }, { on := 3, ground := Ground.phase }, { on := 4, ground := Ground.phase }, { on := 5, ground := Ground.phase }], guard := none }) rfl (fun K hK => ?_) AllReadyH.nil
                have hq := HX3.out.perm (List.perm_middle (l₁ := [_, _, _, _]))
                have hb := hq.blk.1
                have ck0 := hb.cell 0
                have cf0 := hb.frozen 0
                simp at ck0
                go_simp
                refine hK.out _ _ (trivial) (fun hS => ?_)
                clear hK K
                try simp only [Act.put, List.setIfInBounds_toArray, List.set_cons_zero, List.set_cons_succ]
                have HX4 := Lib.hid (((hq.setBlk 0 (.slice A5 m5 c5)).perm (List.perm_middle (l₁ := [_, _, _, _])).symm).tail)
                have KX4 := Lib.hid (KX3.out.trans (pk_from_put (i := 0) (u := .slice A5 m5 c5) hb))
                clear hq hb ck0 cf0
                refine wpAnyH_done (by kernel_rfl) ?_ _
                first | exact And.intro KX4.out ⟨_, rfl, HST.out, HLT.out, HNX0.out _ _ HVR.out ⟨_, HX4.out⟩⟩ | exact And.intro KX4.out ⟨HST.out, HLT.out, HNX0.out _ _ HVR.out ⟨_, HX4.out⟩⟩
              refine AllReadyH.cons (o := { dst := some 70, op := Op.buildSlice 36 1 #[(0, Operand.tmp 69)], type := 36, pos := "sweep.go:40", after := #[{ on := 3, ground := Ground.data }], guard := none }) rfl (fun K hK => ?_) AllReadyH.nil
              go_simp
              have hX := HX1.out.newBlk 98 #[.string xk, .string ⟨#[]⟩, .bool true]
              have hk := KX1.out.trans (keeps_below (nbl _ (.cells #[.string xk, .string ⟨#[]⟩, .bool true] 98)))
              refine hK.out _ _ (trivial) (fun hS => ?_)
              clear hK K
              try simp only [Act.put, List.setIfInBounds_toArray, List.set_cons_zero, List.set_cons_succ]
              have HX2 := Lib.hid hX
              have KX2 := Lib.hid hk
              clear hX hk
              refine wpAnyH_ready (rs := [0]) (by kernel_rfl) (by simp) ?_
              refine AllReadyH.cons (o := { dst := some 66, op := Op.load 36 (Operand.tmp 9), type := 36, pos := "sweep.go:40", after := #[], guard := none }) rfl (fun K hK => ?_) AllReadyH.nil
              have zk := HX2.out.blkAt (g := w1.heap.size) (t := 36) (cs := #[v]) (by simp)
              have ck0 := zk.cell 0
              have cf0 := zk.frozen 0
              simp at ck0
              go_simp
              refine hK.out _ _ (trivial) (fun hS => ?_)
              clear hK K
              try simp only [Act.put, List.setIfInBounds_toArray, List.set_cons_zero, List.set_cons_succ]
              clear zk ck0 cf0
              refine wpAnyH_ready (rs := [5]) (by kernel_rfl) (by simp) ?_
              refine AllReadyH.cons (o := { dst := some 71, op := Op.call { callee := Callee.builtin Builtin.append, args := #[Operand.tmp 66, Operand.tmp 70], argTypes := #[36, 36] }, type := 36, pos := "sweep.go:40", after := #[{ on := 0, ground := Ground.data }, { on := 4, ground := Ground.data }, { on := 2, ground := Ground.chain }], guard := none }) rfl (fun K hK => ?_) AllReadyH.nil
              refine step_appOps rfl _ _ rfl v L (by first | rfl | assumption) (HX2.out.perm (List.perm_middle (l₁ := [_, _, _, _, _, _, _]))) _ 1 ⟨xk, ⟨#[]⟩, true⟩ (by first | rfl | (simp; rfl)) HX2.out.blk.1 HLL.out ?_
              intro A5 m5 c5 w7 hh5 hk5
              have hX := hh5.perm (List.perm_middle (l₁ := [_, _, _, _, _, _, _])).symm
              refine hK.out _ _ (trivial) (fun hS => ?_)
              clear hK K
              try simp only [Act.put, List.setIfInBounds_toArray, List.set_cons_zero, List.set_cons_succ]
              have HX3 := Lib.hid hX
              have KX3 := Lib.hid (KX2.out.trans (hk5 _))
              clear hX hh5 hk5
              refine wpAnyH_ready (rs := [6]) (by kernel_rfl) (by simp) ?_
              refine AllReadyH.cons (o := { dst := none, op := Op.store 36 (Operand.tmp 9) (Operand.tmp 71), type := 0, pos := "sweep.go:40", after := #[{ on := 5, ground := Ground.data }, { on := 5, ground := Ground.chain }, { on := 0, ground := Ground.phase }, { on := 1, ground := Ground.phase }, { on := 2, ground := Ground.phase }, { on := 3, ground := Ground.phase }, { on := 4, ground := Ground.phase }, { on := 5, ground := Ground.phase }], guard := none }) rfl (fun K hK => ?_) AllReadyH.nil
              have hq := HX3.out.perm (List.perm_middle (l₁ := [_, _, _, _]))
              have hb := hq.blk.1
              have ck0 := hb.cell 0
              have cf0 := hb.frozen 0
              simp at ck0
              go_simp
              refine hK.out _ _ (trivial) (fun hS => ?_)
              clear hK K
              try simp only [Act.put, List.setIfInBounds_toArray, List.set_cons_zero, List.set_cons_succ]
              have HX4 := Lib.hid (((hq.setBlk 0 (.slice A5 m5 c5)).perm (List.perm_middle (l₁ := [_, _, _, _])).symm).tail)
              have KX4 := Lib.hid (KX3.out.trans (pk_from_put (i := 0) (u := .slice A5 m5 c5) hb))
              clear hq hb ck0 cf0
              refine wpAnyH_done (by kernel_rfl) ?_ _
              first | exact And.intro KX4.out ⟨_, rfl, HST.out, HLT.out, HNX0.out _ _ HVR.out ⟨_, HX4.out⟩⟩ | exact And.intro KX4.out ⟨HST.out, HLT.out, HNX0.out _ _ HVR.out ⟨_, HX4.out⟩⟩

            | false =>
              gi_wp2_with (first
                | (refine ⟨trivial, ?_⟩; gi_at_call 28; refine ((callsIn_wide.2 (HRV.out _)).inRound l).mono ?_; rintro e w5 ⟨rfl, hb5⟩
                   have h5 := hh.keep hb5
                   have H6 := Lib.hid (h5.keep (nbl w5 (.cells #[.int .i64 a2, .int .i64 b2] 26)))
                   have KF6 := Lib.hid (bsa hb5 (.cells #[.int .i64 a2, .int .i64 b2] 26))
                   have b6 := Lib.hid (Blk.new w5 26 #[.int .i64 a2, .int .i64 b2])
                   clear hb5 h5)
                | (refine ⟨trivial, ?_⟩; gi_at_call 29; refine ((callsIn_wide.2 (HTV.out _)).inRound l).mono ?_; rintro e w7 ⟨rfl, hb7⟩
                   have h7 := H6.out.keep hb7
                   have KF7 := Lib.hid (bst KF6.out hb7)
                   have b7 := b6.out.below hb7 b6.out.lt
                   have cq0 := b7.cell 0
                   have cq1 := b7.cell 1
                   simp at cq0 cq1
                   have uaa := h7.blkAt (g := gF) (t := 125) (cs := #[(.func (.func 146) #[] #[pt gA])]) (by simp)
                   have cg0 := uaa.cell 0
                   simp at cg0
                   have uta := HTO.out.below h7.bel HTO.out.lt
                   have ct0 := uta.cell 0
                   have ct1 := uta.cell 1
                   simp at ct0 ct1
                   clear uaa uta
                   have H7 := Lib.hid h7
                   clear hb7 b7 h7)
                | ((first | refine ⟨trivial, ?_⟩ | refine ⟨fun _ _ => trivial, ?_⟩); gi_at_call 12; refine ((callsIn_wide.2 (HLS.out _)).inRound l).mono ?_; rintro e w8 ⟨rfl, hb8⟩
                   have h8 := H7.out.keep hb8
                   have KF8 := Lib.hid (bst KF7.out hb8)
                   have uab := h8.blkAt (g := gF) (t := 125) (cs := #[(.func (.func 146) #[] #[pt gA])]) (by simp)
                   have cg0 := uab.cell 0
                   simp at cg0
                   have utb := HTO.out.below h8.bel HTO.out.lt
                   have ct0 := utb.cell 0
                   have ct1 := utb.cell 1
                   simp at ct0 ct1
                   clear uab utb
                   have H8 := Lib.hid h8
                   clear hb8 h8)
                | ((first | refine ⟨trivial, ?_⟩ | refine ⟨fun _ _ => trivial, ?_⟩); gi_at_call 146; refine ((callsIn_wide.2 (Has.swFirst (H8.out.perm (List.perm_middle (l₁ := [_, _, _, _, _]))) s)).inRound l).mono ?_; rintro e w9 ⟨rfl, h9, hk9⟩
                   rw [HFB.out]
                   have H9 := Lib.hid (h9.perm (List.perm_middle (l₁ := [_, _, _, _, _])).symm)
                   have KF9 := Lib.hid ((keeps_below (n := W0.heap.size) KF8.out).trans (hk9 _))
                   clear h9 hk9)
                | fail)
              have HX0 := Lib.hid H9.out.drew
              have KX0 := Lib.hid (KF9.out.trans (keeps_below (below_drew w9)))
              refine wpIn_round_held (S := fun _ => True) hmix (by kernel_rfl) trivial (fun hS => ?_)
              simp only [List.size_toArray, List.length_cons, List.length_nil, Nat.reduceAdd, Array.replicate_succ, Array.replicate_zero]
              refine wpAnyH_take (i := 1) (oi := { dst := some 67, op := Op.move (Operand.tmp 11), type := 9, pos := "sweep.go:40", after := #[], guard := none }) (v := ?v1q3) rfl (by kernel_rfl) (by kernel_rfl) (by kernel_rfl) (fun _ _ _ h => h) (Or.inl ⟨by rfl, ?hy1q3⟩) (by assumption) ?rest1q3
              case hy1q3 => (intro V2 hSw; (try dsimp only at hSw); go_simp; all_goals (with_reducible rfl))
              try simp only [Act.put, List.setIfInBounds_toArray, List.set_cons_zero, List.set_cons_succ]
              refine wpAnyH_ready (rs := [0, 2]) (by kernel_rfl) (by simp) ?_
              refine AllReadyH.cons (o := { dst := some 66, op := Op.load 36 (Operand.tmp 9), type := 36, pos := "sweep.go:40", after := #[], guard := none }) rfl (fun K hK => ?_) ?_
              · have zk := HX0.out.blkAt (g := w1.heap.size) (t := 36) (cs := #[v]) (by simp)
                have ck0 := zk.cell 0
                have cf0 := zk.frozen 0
                simp at ck0
                go_simp
                refine hK.out _ _ (trivial) (fun hS => ?_)
                clear hK K
                try simp only [Act.put, List.setIfInBounds_toArray, List.set_cons_zero, List.set_cons_succ]
                clear zk ck0 cf0
                refine wpAnyH_ready (rs := [2]) (by kernel_rfl) (by simp) ?_
                refine AllReadyH.cons (o := { dst := some 68, op := Op.call { callee := Callee.value (Operand.func 60), args := #[Operand.tmp 67], argTypes := #[9] }, type := 9, pos := "sweep.go:40", after := #[{ on := 1, ground := Ground.data }], guard := none }) rfl (fun K hK => ?_) AllReadyH.nil
                go_simp
                refine (clone xk _ HKS.out).mono ?_
                rintro e u1 ⟨rfl, hbu⟩
                have hX := HX0.out.keep hbu
                refine hK.out _ _ (trivial) (fun hS => ?_)
                clear hK K
                try simp only [Act.put, List.setIfInBounds_toArray, List.set_cons_zero, List.set_cons_succ]
                have HX1 := Lib.hid hX
                have KX1 := Lib.hid (KX0.out.trans (keeps_below hbu))
                clear hX hbu
                refine wpAnyH_take (i := 3) (oi := { dst := some 69, op := Op.build 98 #[(0, Operand.tmp 68), (2, Operand.const (Value.bool true))], type := 98, pos := "sweep.go:40", after := #[{ on := 2, ground := Ground.data }], guard := none }) (v := ?v3q3a) rfl (by kernel_rfl) (by kernel_rfl) (by kernel_rfl) (fun _ _ _ h => h) (Or.inl ⟨by rfl, ?hy3q3a⟩) (by assumption) ?rest3q3a
                case hy3q3a => (intro V2 hSw; (try dsimp only at hSw); go_simp; all_goals (with_reducible rfl))
                try simp only [Act.put, List.setIfInBounds_toArray, List.set_cons_zero, List.set_cons_succ]
                refine wpAnyH_ready (rs := [4]) (by kernel_rfl) (by simp) ?_
                refine AllReadyH.cons (o := { dst := some 70, op := Op.buildSlice 36 1 #[(0, Operand.tmp 69)], type := 36, pos := "sweep.go:40", after := #[{ on := 3, ground := Ground.data }], guard := none }) rfl (fun K hK => ?_) AllReadyH.nil
                go_simp
                have hX := HX1.out.newBlk 98 #[.string xk, .string ⟨#[]⟩, .bool true]
                have hk := KX1.out.trans (keeps_below (nbl _ (.cells #[.string xk, .string ⟨#[]⟩, .bool true] 98)))
                refine hK.out _ _ (trivial) (fun hS => ?_)
                clear hK K
                try simp only [Act.put, List.setIfInBounds_toArray, List.set_cons_zero, List.set_cons_succ]
                have HX2 := Lib.hid hX
                have KX2 := Lib.hid hk
                clear hX hk
                refine wpAnyH_ready (rs := [5]) (by kernel_rfl) (by simp) ?_
                refine AllReadyH.cons (o := { dst := some 71, op := Op.call { callee := Callee.builtin Builtin.append, args := #[Operand.tmp 66, Operand.tmp 70], argTypes := #[36, 36] }, type := 36, pos := "sweep.go:40", after := #[{ on := 0, ground := Ground.data }, { on := 4, ground := Ground.data }, { on := 2, ground := Ground.chain }], guard := none }) rfl (fun K hK => ?_) AllReadyH.nil
                refine step_appOps rfl _ _ rfl v L (by first | rfl | assumption) (HX2.out.perm (List.perm_middle (l₁ := [_, _, _, _, _, _, _]))) _ 1 ⟨xk, ⟨#[]⟩, true⟩ (by first | rfl | (simp; rfl)) HX2.out.blk.1 HLL.out ?_
                intro A5 m5 c5 w7 hh5 hk5
                have hX := hh5.perm (List.perm_middle (l₁ := [_, _, _, _, _, _, _])).symm
                refine hK.out _ _ (trivial) (fun hS => ?_)
                clear hK K
                try simp only [Act.put, List.setIfInBounds_toArray, List.set_cons_zero, List.set_cons_succ]
                have HX3 := Lib.hid hX
                have KX3 := Lib.hid (KX2.out.trans (hk5 _))
                clear hX hh5 hk5
                refine wpAnyH_ready (rs := [6]) (by kernel_rfl) (by simp) ?_
                refine AllReadyH.cons (o := { dst := none, op := Op.store 36 (Operand.tmp 9) (Operand.tmp 71), type := 0, pos := "sweep.go:40", after := #[{ on := 5, ground := Ground.data }, { on := 5, ground := Ground.chain }, { on := 0, ground := Ground.phase }, { on := 1, ground := Ground.phase }, { on := 2, ground := Ground.phase }, { on := 3, ground := Ground.phase }, { on := 4, ground := Ground.phase }, { on := 5, ground := Ground.phase }], guard := none }) rfl (fun K hK => ?_) AllReadyH.nil
                have hq := HX3.out.perm (List.perm_middle (l₁ := [_, _, _, _]))
                have hb := hq.blk.1
                have ck0 := hb.cell 0
                have cf0 := hb.frozen 0
                simp at ck0
                go_simp
                refine hK.out _ _ (trivial) (fun hS => ?_)
                clear hK K
                try simp only [Act.put, List.setIfInBounds_toArray, List.set_cons_zero, List.set_cons_succ]
                have HX4 := Lib.hid (((hq.setBlk 0 (.slice A5 m5 c5)).perm (List.perm_middle (l₁ := [_, _, _, _])).symm).tail)
                have KX4 := Lib.hid (KX3.out.trans (pk_from_put (i := 0) (u := .slice A5 m5 c5) hb))
                clear hq hb ck0 cf0
                refine wpAnyH_done (by kernel_rfl) ?_ _
                first | exact And.intro KX4.out ⟨_, rfl, HST.out, HLT.out, HNX0.out _ _ HVR.out ⟨_, HX4.out⟩⟩ | exact And.intro KX4.out ⟨HST.out, HLT.out, HNX0.out _ _ HVR.out ⟨_, HX4.out⟩⟩
              refine AllReadyH.cons (o := { dst := some 68, op := Op.call { callee := Callee.value (Operand.func 60), args := #[Operand.tmp 67], argTypes := #[9] }, type := 9, pos := "sweep.go:40", after := #[{ on := 1, ground := Ground.data }], guard := none }) rfl (fun K hK => ?_) AllReadyH.nil
              go_simp
              refine (clone xk _ HKS.out).mono ?_
              rintro e u1 ⟨rfl, hbu⟩
              have hX := HX0.out.keep hbu
              refine hK.out _ _ (trivial) (fun hS => ?_)
              clear hK K
              try simp only [Act.put, List.setIfInBounds_toArray, List.set_cons_zero, List.set_cons_succ]
              have HX1 := Lib.hid hX
              have KX1 := Lib.hid (KX0.out.trans (keeps_below hbu))
              clear hX hbu
              refine wpAnyH_take (i := 3) (oi := { dst := some 69, op := Op.build 98 #[(0, Operand.tmp 68), (2, Operand.const (Value.bool true))], type := 98, pos := "sweep.go:40", after := #[{ on := 2, ground := Ground.data }], guard := none }) (v := ?v3q3b) rfl (by kernel_rfl) (by kernel_rfl) (by kernel_rfl) (fun _ _ _ h => h) (Or.inl ⟨by rfl, ?hy3q3b⟩) (by assumption) ?rest3q3b
              case hy3q3b => (intro V2 hSw; (try dsimp only at hSw); go_simp; all_goals (with_reducible rfl))
              try simp only [Act.put, List.setIfInBounds_toArray, List.set_cons_zero, List.set_cons_succ]
              refine wpAnyH_ready (rs := [0, 4]) (by kernel_rfl) (by simp) ?_
              refine AllReadyH.cons (o := { dst := some 66, op := Op.load 36 (Operand.tmp 9), type := 36, pos := "sweep.go:40", after := #[], guard := none }) rfl (fun K hK => ?_) ?_
              · have zk := HX1.out.blkAt (g := w1.heap.size) (t := 36) (cs := #[v]) (by simp)
                have ck0 := zk.cell 0
                have cf0 := zk.frozen 0
                simp at ck0
                go_simp
                refine hK.out _ _ (trivial) (fun hS => ?_)
                clear hK K
                try simp only [Act.put, List.setIfInBounds_toArray, List.set_cons_zero, List.set_cons_succ]
                clear zk ck0 cf0
                refine wpAnyH_ready (rs := [4]) (by kernel_rfl) (by simp) ?_
                refine AllReadyH.cons (o := { dst := some 70, op := Op.buildSlice 36 1 #[(0, Operand.tmp 69)], type := 36, pos := "sweep.go:40", after := #[{ on := 3, ground := Ground.data }], guard := none }) rfl (fun K hK => ?_) AllReadyH.nil
                go_simp
                have hX := HX1.out.newBlk 98 #[.string xk, .string ⟨#[]⟩, .bool true]
                have hk := KX1.out.trans (keeps_below (nbl _ (.cells #[.string xk, .string ⟨#[]⟩, .bool true] 98)))
                refine hK.out _ _ (trivial) (fun hS => ?_)
                clear hK K
                try simp only [Act.put, List.setIfInBounds_toArray, List.set_cons_zero, List.set_cons_succ]
                have HX2 := Lib.hid hX
                have KX2 := Lib.hid hk
                clear hX hk
                refine wpAnyH_ready (rs := [5]) (by kernel_rfl) (by simp) ?_
                refine AllReadyH.cons (o := { dst := some 71, op := Op.call { callee := Callee.builtin Builtin.append, args := #[Operand.tmp 66, Operand.tmp 70], argTypes := #[36, 36] }, type := 36, pos := "sweep.go:40", after := #[{ on := 0, ground := Ground.data }, { on := 4, ground := Ground.data }, { on := 2, ground := Ground.chain }], guard := none }) rfl (fun K hK => ?_) AllReadyH.nil
                refine step_appOps rfl _ _ rfl v L (by first | rfl | assumption) (HX2.out.perm (List.perm_middle (l₁ := [_, _, _, _, _, _, _]))) _ 1 ⟨xk, ⟨#[]⟩, true⟩ (by first | rfl | (simp; rfl)) HX2.out.blk.1 HLL.out ?_
                intro A5 m5 c5 w7 hh5 hk5
                have hX := hh5.perm (List.perm_middle (l₁ := [_, _, _, _, _, _, _])).symm
                refine hK.out _ _ (trivial) (fun hS => ?_)
                clear hK K
                try simp only [Act.put, List.setIfInBounds_toArray, List.set_cons_zero, List.set_cons_succ]
                have HX3 := Lib.hid hX
                have KX3 := Lib.hid (KX2.out.trans (hk5 _))
                clear hX hh5 hk5
                refine wpAnyH_ready (rs := [6]) (by kernel_rfl) (by simp) ?_
                refine AllReadyH.cons (o := { dst := none, op := Op.store 36 (Operand.tmp 9) (Operand.tmp 71), type := 0, pos := "sweep.go:40", after := #[{ on := 5, ground := Ground.data }, { on := 5, ground := Ground.chain }, { on := 0, ground := Ground.phase }, { on := 1, ground := Ground.phase }, { on := 2, ground := Ground.phase }, { on := 3, ground := Ground.phase }, { on := 4, ground := Ground.phase }, { on := 5, ground := Ground.phase }], guard := none }) rfl (fun K hK => ?_) AllReadyH.nil
                have hq := HX3.out.perm (List.perm_middle (l₁ := [_, _, _, _]))
                have hb := hq.blk.1
                have ck0 := hb.cell 0
                have cf0 := hb.frozen 0
                simp at ck0
                go_simp
                refine hK.out _ _ (trivial) (fun hS => ?_)
                clear hK K
                try simp only [Act.put, List.setIfInBounds_toArray, List.set_cons_zero, List.set_cons_succ]
                have HX4 := Lib.hid (((hq.setBlk 0 (.slice A5 m5 c5)).perm (List.perm_middle (l₁ := [_, _, _, _])).symm).tail)
                have KX4 := Lib.hid (KX3.out.trans (pk_from_put (i := 0) (u := .slice A5 m5 c5) hb))
                clear hq hb ck0 cf0
                refine wpAnyH_done (by kernel_rfl) ?_ _
                first | exact And.intro KX4.out ⟨_, rfl, HST.out, HLT.out, HNX0.out _ _ HVR.out ⟨_, HX4.out⟩⟩ | exact And.intro KX4.out ⟨HST.out, HLT.out, HNX0.out _ _ HVR.out ⟨_, HX4.out⟩⟩
              refine AllReadyH.cons (o := { dst := some 70, op := Op.buildSlice 36 1 #[(0, Operand.tmp 69)], type := 36, pos := "sweep.go:40", after := #[{ on := 3, ground := Ground.data }], guard := none }) rfl (fun K hK => ?_) AllReadyH.nil
              go_simp
              have hX := HX1.out.newBlk 98 #[.string xk, .string ⟨#[]⟩, .bool true]
              have hk := KX1.out.trans (keeps_below (nbl _ (.cells #[.string xk, .string ⟨#[]⟩, .bool true] 98)))
              refine hK.out _ _ (trivial) (fun hS => ?_)
              clear hK K
              try simp only [Act.put, List.setIfInBounds_toArray, List.set_cons_zero, List.set_cons_succ]
              have HX2 := Lib.hid hX
              have KX2 := Lib.hid hk
              clear hX hk
              refine wpAnyH_ready (rs := [0]) (by kernel_rfl) (by simp) ?_
              refine AllReadyH.cons (o := { dst := some 66, op := Op.load 36 (Operand.tmp 9), type := 36, pos := "sweep.go:40", after := #[], guard := none }) rfl (fun K hK => ?_) AllReadyH.nil
              have zk := HX2.out.blkAt (g := w1.heap.size) (t := 36) (cs := #[v]) (by simp)
              have ck0 := zk.cell 0
              have cf0 := zk.frozen 0
              simp at ck0
              go_simp
              refine hK.out _ _ (trivial) (fun hS => ?_)
              clear hK K
              try simp only [Act.put, List.setIfInBounds_toArray, List.set_cons_zero, List.set_cons_succ]
              clear zk ck0 cf0
              refine wpAnyH_ready (rs := [5]) (by kernel_rfl) (by simp) ?_
              refine AllReadyH.cons (o := { dst := some 71, op := Op.call { callee := Callee.builtin Builtin.append, args := #[Operand.tmp 66, Operand.tmp 70], argTypes := #[36, 36] }, type := 36, pos := "sweep.go:40", after := #[{ on := 0, ground := Ground.data }, { on := 4, ground := Ground.data }, { on := 2, ground := Ground.chain }], guard := none }) rfl (fun K hK => ?_) AllReadyH.nil
              refine step_appOps rfl _ _ rfl v L (by first | rfl | assumption) (HX2.out.perm (List.perm_middle (l₁ := [_, _, _, _, _, _, _]))) _ 1 ⟨xk, ⟨#[]⟩, true⟩ (by first | rfl | (simp; rfl)) HX2.out.blk.1 HLL.out ?_
              intro A5 m5 c5 w7 hh5 hk5
              have hX := hh5.perm (List.perm_middle (l₁ := [_, _, _, _, _, _, _])).symm
              refine hK.out _ _ (trivial) (fun hS => ?_)
              clear hK K
              try simp only [Act.put, List.setIfInBounds_toArray, List.set_cons_zero, List.set_cons_succ]
              have HX3 := Lib.hid hX
              have KX3 := Lib.hid (KX2.out.trans (hk5 _))
              clear hX hh5 hk5
              refine wpAnyH_ready (rs := [6]) (by kernel_rfl) (by simp) ?_
              refine AllReadyH.cons (o := { dst := none, op := Op.store 36 (Operand.tmp 9) (Operand.tmp 71), type := 0, pos := "sweep.go:40", after := #[{ on := 5, ground := Ground.data }, { on := 5, ground := Ground.chain }, { on := 0, ground := Ground.phase }, { on := 1, ground := Ground.phase }, { on := 2, ground := Ground.phase }, { on := 3, ground := Ground.phase }, { on := 4, ground := Ground.phase }, { on := 5, ground := Ground.phase }], guard := none }) rfl (fun K hK => ?_) AllReadyH.nil
              have hq := HX3.out.perm (List.perm_middle (l₁ := [_, _, _, _]))
              have hb := hq.blk.1
              have ck0 := hb.cell 0
              have cf0 := hb.frozen 0
              simp at ck0
              go_simp
              refine hK.out _ _ (trivial) (fun hS => ?_)
              clear hK K
              try simp only [Act.put, List.setIfInBounds_toArray, List.set_cons_zero, List.set_cons_succ]
              have HX4 := Lib.hid (((hq.setBlk 0 (.slice A5 m5 c5)).perm (List.perm_middle (l₁ := [_, _, _, _])).symm).tail)
              have KX4 := Lib.hid (KX3.out.trans (pk_from_put (i := 0) (u := .slice A5 m5 c5) hb))
              clear hq hb ck0 cf0
              refine wpAnyH_done (by kernel_rfl) ?_ _
              first | exact And.intro KX4.out ⟨_, rfl, HST.out, HLT.out, HNX0.out _ _ HVR.out ⟨_, HX4.out⟩⟩ | exact And.intro KX4.out ⟨HST.out, HLT.out, HNX0.out _ _ HVR.out ⟨_, HX4.out⟩⟩

  case done =>
    rintro D b' r' n W hD hsW hno ⟨rfl, rfl, hn, v, hh⟩ hK
    rw [up_next HS.out _ _ hn, List.getElem?_eq_none_iff] at hno
    rw [List.take_of_length_le hno] at hh
    have zk := hh.blkAt (g := w1.heap.size) (t := 36) (cs := #[v]) (by simp)
    have ck0 := zk.cell 0
    simp at ck0
    have HH := Lib.hid hh
    have HTOT2 := Lib.hid (show (swL (a, b) (btw r' ff tt)).2 = tot from HTOT.out)
    clear hh zk hno
    go_wp2_with fail
    refine ⟨by simp, .inl ⟨_, _, rfl, run_takeDeferred hK, ?_⟩⟩
    have hf : Firm w1.heap.size W (W.putObj D (.deferred none)) := .put D _ (by omega) hK rfl
    have hfin := HH.out.firm hf (Nat.le_refl _) (fun A hA => by
      simp only [List.mem_cons, List.not_mem_nil, or_false] at hA
      rcases hA with rfl | rfl | rfl | rfl | rfl | rfl | rfl
      · exact cel_blk _ _ _
      · exact cel_blk _ _ _
      · exact cel_blk _ _ _
      · exact cel_blk _ _ _
      · exact cel_blk _ _ _
      · exact cel_blk _ _ _
      · exact cel_row _ _ _ _ _)
    have hj := ((H3.out.join (hfin.perm (List.perm_middle (l₁ := [_, _, _, _, _, _])))).swap.tail.swap.tail.swap.tail.swap.tail.swap.tail.swap.tail.rot3.tail.rot3.tail)
    rw [HTOT2.out] at hj
    exact ⟨_, results_tmp2 rfl _ _ _, v, rfl, hj⟩
  case stop =>
    intro D c W _ _ h _
    exact h.elim
end Go.Proofs.YtldbmogondmgmaaGreatDoor
