/-
  Layer 13, the code: add (written by wip/genpoadd.py).
-/
import Derived.Test.YtgccichmdddbpaaGreatDoorPA34
import Derived.Test.YtgccichmdddbpaaGreatDoorPAClDkI
import Derived.Test.YtgccichmdddbpaaGreatDoorPA29
set_option linter.unusedVariables false
set_option linter.unusedSimpArgs false
set_option maxRecDepth 100000
namespace Go.Proofs.YtgccichmdddbpaaGreatDoor
open Go.RowKit

abbrev dnc (d : Dn) (u v : Value) : Array Value := #[u, .int .i64 d.a, .int .i64 d.b, .int .i64 d.way.id, .int .i64 d.way.ep, .int .i64 d.way.pr, .string d.way.an, .int .i64 d.way.sw, .int .i64 d.way.sl, .int .i64 d.way.bw, .int .i64 d.way.bl, v]
abbrev dnv (d : Dn) (u v : Value) : Value := .agg (dnc d u v)
def AnsD (key : ByteArray) (o : Dn × Int) (w : World) (L : List As) (e : Ending) (w' : World) : Prop :=
  ∃ AL nL cL A n c, e = .returned (.tuple #[dnv o.1 (.slice AL nL cL) (.slice A n c), .int .i64 o.2]) ∧ nL = (opsD key o.1).length ∧ Has w (opA (.slice AL nL cL) (opsD key o.1) :: L) w' ∧ ChAt w' A n o.1.way.l ∧ n ≤ 9223372036854775807
theorem AnsD.of {key : ByteArray} {o : Dn × Int} {w : World} {L : List As} {e : Ending} {w' : World} {AL A : Option Addr} {nL cL n c : Nat} (he : e = .returned (.tuple #[dnv o.1 (.slice AL nL cL) (.slice A n c), .int .i64 o.2])) (h0 : nL = (opsD key o.1).length) (h1 : Has w (opA (.slice AL nL cL) (opsD key o.1) :: L) w') (h2 : ChAt w' A n o.1.way.l) (h3 : n ≤ 9223372036854775807) : AnsD key o w L e w' := ⟨AL, nL, cL, A, n, c, he, h0, h1, h2, h3⟩
theorem blk_opA {V : World} {F : Nat → Prop} {g : Nat} {k v : ByteArray} {d : Bool} (h : (blkA g 93 #[.string k, .string v, .bool d]).p V F) : (opA (.slice (some ⟨g, 0, none⟩) 1 1) [⟨k, v, d⟩]).p V F := by
  obtain ⟨h1, h2⟩ := h
  refine ⟨⟨rfl, .inr ⟨g, 1, _, rfl, Nat.zero_le _, h1, Nat.le_refl _, by decide, rfl, rfl⟩⟩, fun k => (h2 k).trans ⟨fun e => by rw [e]; rfl, fun e => by injection e with e; exact e.symm⟩⟩
theorem ret_dn2 {fn : Func} {Q : Ending → World → Prop} {a : Act} {w : World} {p u : Tmp} {g : Nat} {cs : Array Value} (hr : fn.results = #[.cell p 40, .tmp u]) (hp : a.tmps.getD p undef = .pointer (some ⟨g, 0, none⟩))
    (hB : Blk w g 40 cs) (hs : cs.size = 12) (hd : a.defers = []) (hR : Q (.returned (.tuple #[.agg cs, a.tmps.getD u undef])) w) : bodyPost Tryz.prog fn Q .ret a w := by
  refine bodyPost_ret ?_ hd hR
  have hp' : a.tmps[p]?.getD undef = .pointer (some ⟨g, 0, none⟩) := by simpa using hp
  simp [results, hr, hp', asAddr, run_loadVar_row w g 40 40 _ (0, 0) _ hB Tryz.underlying40 rfl (by rw [hs]; kernel_rfl)]
theorem Has.all12 {w V : World} {l : List As} {g : Nat} {t : TypeId} {c0 c1 c2 c3 c4 c5 c6 c7 c8 c9 c10 c11 v0 v1 v2 v3 v4 v5 v6 v7 v8 v9 v10 v11 : Value} (h : Has w (blkA g t #[c0, c1, c2, c3, c4, c5, c6, c7, c8, c9, c10, c11] :: l) V) : Has w (blkA g t #[v0, v1, v2, v3, v4, v5, v6, v7, v8, v9, v10, v11] :: l) ((((((((((((V.setCell ⟨g, 0, none⟩ v0).setCell ⟨g, 1, none⟩ v1).setCell ⟨g, 2, none⟩ v2).setCell ⟨g, 3, none⟩ v3).setCell ⟨g, 4, none⟩ v4).setCell ⟨g, 5, none⟩ v5).setCell ⟨g, 6, none⟩ v6).setCell ⟨g, 7, none⟩ v7).setCell ⟨g, 8, none⟩ v8).setCell ⟨g, 9, none⟩ v9).setCell ⟨g, 10, none⟩ v10).setCell ⟨g, 11, none⟩ v11) := by
  have := ((((((((((((h.setBlk 0 v0).setBlk 1 v1).setBlk 2 v2).setBlk 3 v3).setBlk 4 v4).setBlk 5 v5).setBlk 6 v6).setBlk 7 v7).setBlk 8 v8).setBlk 9 v9).setBlk 10 v10).setBlk 11 v11)
  simpa using this
theorem stamps2_blk {w : World} {g : Nat} {a b c d : Int} (h : Blk w g 26 #[.int .i64 a, .int .i64 b, .int .i64 c, .int .i64 d]) : Stamps w (some ⟨g, 0, none⟩) 2 [(a, b), (c, d)] := by
  refine ⟨rfl, fun _ => ⟨g, 0, rfl, fun i hi => ?_⟩⟩
  have : i = 0 ∨ i = 1 := by simp at hi; omega
  rcases this with rfl | rfl
  · exact ⟨h.cell 0, h.cell 1⟩
  · exact ⟨h.cell 2, h.cell 3⟩
theorem hop_of {w V : World} {L : List As} {g : Nat} {key tx : ByteArray} {y : It} (h : bs (txI y) = tx) (a1 a2 : Int) (ho : Has w (blkA g 93 #[.string (bs (ikey (sb key))), .string tx, .bool false] :: L) V) : Has w (opA (.slice (some ⟨g, 0, none⟩) 1 1) (opsD key ⟨some y, a1, a2, zI⟩) :: L) V := by subst h; exact ho.imp fun F hb => blk_opA hb
theorem flat_snoc (l : List Ch) (y : Ch) : l.flatMap chc ++ chc y = (l ++ [y]).flatMap chc := by simp
theorem Has.dropN {w V : World} {T : List As} : ∀ (l : List As), Has w (l ++ T) V → Has w T V
  | [], h => h
  | _ :: l, h => Has.dropN l (Has.tail h)
set_option maxHeartbeats 16000000 in
theorem poAdd {w V : World} {T : List As} {p N n c : Nat} {A : Option Addr} {r : List Rw} {own : It} (h : Has w (rowA 24 3 (.slice A n c) own.l.length (own.l.flatMap chc) :: tbA p r :: T) V) (hr : ROk N r) (hM : MaxL w) (key : ByteArray) (hk : isK key = true) (hln : own.l.length ≤ 16) (ch : Ch) (x : Tx) (m1 m2 : Int)
    (hmay : (nxt (two (m1, m2) (nwV r key)).1 (two (m1, m2) (nwV r key)).2).2.2 = 0 → mayI (wIt x (atW (nwV r key) (m1, m2) own x).1 (atW (nwV r key) (m1, m2) own x).2 (own.l ++ [ch])) = true) :
    Calls Tryz.prog 46 #[pt p, .string key, itv own (.slice A n c), chv ch, txv x, sv m1 m2] V fun e w' => AnsD key (addW (nwV r key) own ch x (m1, m2)) w (tbA p r :: T) e w' := by
  have hmix : Tryz.prog.follows .mixedOrders = true := by kernel_rfl
  obtain ⟨q, s, d⟩ := ch
  have HN := Lib.hid (fun (T2 : List As) (W : World) (hh : Has w T2 W) (hm : tbA p r ∈ T2) => newest_c (F := (hh.at_ hm).choose) (hh.at_ hm).choose_spec.1 hr.szs (hM.below hh.bel) key hk)
  have HIK := Lib.hid (fun (W : World) (hb : Below w.heap.size w W) => (show Calls Tryz.prog 89 #[.string key] W fun e w' => e = .returned (.tuple #[.string (bs (ikey (sb key))), .int .i64 0]) ∧ Below W.heap.size W w' from by
    have := intentKey_c key W (hM.below hb)
    unfold markK at this
    rw [if_pos hk, List.append_nil] at this
    exact this))
  unfold addW
  unfold atW at *
  obtain ⟨nv, hnv⟩ : ∃ nv, nwV r key = nv := ⟨_, rfl⟩
  rw [hnv] at HN hmay ⊢
  obtain ⟨nv1, nv2⟩ := nv
  have HMX := Lib.hid (fun (A : Option Addr) (W : World) hS => max_c A 2 2 [(m1, m2), (nv1, nv2)] W hS (by decide))
  rw [show mx [(m1, m2), (nv1, nv2)] = two (m1, m2) (nv1, nv2) from rfl] at HMX
  obtain ⟨tw, htw⟩ : ∃ tw, two (m1, m2) (nv1, nv2) = tw := ⟨_, rfl⟩
  rw [htw] at HMX hmay ⊢
  obtain ⟨tw1, tw2⟩ := tw
  simp only at HMX hmay ⊢
  have HNX := Lib.hid (fun W => next_c tw1 tw2 W)
  obtain ⟨nx, hnx⟩ : ∃ nx, nxt tw1 tw2 = nx := ⟨_, rfl⟩
  rw [hnx] at HNX hmay ⊢
  obtain ⟨na, nb, E⟩ := nx
  simp only at HNX hmay ⊢
  have HM3 := Lib.hid (fun (A : Option Addr) (W : World) hS => max_c A 3 3 [(x.ww, x.wl), (na, nb), (own.sw, own.sl)] W hS (by decide))
  rw [show mx [(x.ww, x.wl), (na, nb), (own.sw, own.sl)] = two (two (x.ww, x.wl) (na, nb)) (own.sw, own.sl) from rfl] at HM3
  obtain ⟨at_, hat⟩ : ∃ at_, two (two (x.ww, x.wl) (na, nb)) (own.sw, own.sl) = at_ := ⟨_, rfl⟩
  rw [hat] at HM3 hmay ⊢
  obtain ⟨a1, a2⟩ := at_
  simp only at HM3 hmay ⊢
  have h1 := ((((h.newBlk 38 (itc own (.slice A n c))).newBlk 24 #[.int .i64 q, .string s, .bool d]).newBlk 28 (txc x)).newBlk 26 #[.int .i64 m1, .int .i64 m2]).newBlk 40 #[.slice none 0 0, .int .i64 0, .int .i64 0, .int .i64 0, .int .i64 0, .int .i64 0, .string ⟨#[]⟩, .int .i64 0, .int .i64 0, .int .i64 0, .int .i64 0, .slice none 0 0]
  simp only [World.size_alloc] at h1
  have H1 := Lib.hid (show Has w (rowA 24 3 (.slice A n c) own.l.length (own.l.flatMap chc) :: blkA (V.heap.size + 1 + 1 + 1 + 1) 40 #[.slice none 0 0, .int .i64 0, .int .i64 0, .int .i64 0, .int .i64 0, .int .i64 0, .string ⟨#[]⟩, .int .i64 0, .int .i64 0, .int .i64 0, .int .i64 0, .slice none 0 0] :: blkA (V.heap.size + 1 + 1 + 1) 26 #[.int .i64 m1, .int .i64 m2] :: blkA (V.heap.size + 1 + 1) 28 (txc x) :: blkA (V.heap.size + 1) 24 #[.int .i64 q, .string s, .bool d] :: blkA (V.heap.size) 38 (itc own (.slice A n c)) :: tbA p r :: T) _ from h1.perm (List.perm_middle (l₁ := [_, _, _, _, _])))
  have HMAY := Lib.hid hmay
  have HIT := Lib.hid (fun A n c W hA hn => intent_c (wIt x a1 a2 (own.l ++ [⟨q, s, d⟩])) A n c W hA hn)
  clear h h1 hr hk hnv htw hnx hat hmay
  by_cases hE : E = 0
  · subst hE
    rw [if_pos rfl]
    go_enter Tryz.func46, Tryz.ntmps46
    go_upto_region 1 with fail
    go_cut [14, 15] from 21 to 30 (fun v u wx => ∃ gB, v = .pointer (some ⟨gB, 0, none⟩) ∧ u = .int .i64 0 ∧ Hid (Has w (blkA gB 26 #[.int .i64 na, .int .i64 nb] :: rowA 24 3 (.slice A n c) own.l.length (own.l.flatMap chc) :: blkA (V.heap.size + 1 + 1 + 1 + 1) 40 #[.slice none 0 0, .int .i64 0, .int .i64 0, .int .i64 0, .int .i64 0, .int .i64 0, .string ⟨#[]⟩, .int .i64 0, .int .i64 0, .int .i64 0, .int .i64 0, .slice none 0 0] :: blkA (V.heap.size + 1 + 1 + 1) 26 #[.int .i64 m1, .int .i64 m2] :: blkA (V.heap.size + 1 + 1) 28 (txc x) :: blkA (V.heap.size + 1) 24 #[.int .i64 q, .string s, .bool d] :: blkA (V.heap.size) 38 (itc own (.slice A n c)) :: tbA p r :: T) wx))
    case first =>
      obtain ⟨V1, hV1⟩ : ∃ V1, (((((V.alloc (.cells (itc own (.slice A n c)) 38)).alloc (.cells #[.int .i64 q, .string s, .bool d] 24)).alloc (.cells (txc x) 28)).alloc (.cells #[.int .i64 m1, .int .i64 m2] 26)).alloc (.cells #[.slice none 0 0, .int .i64 0, .int .i64 0, .int .i64 0, .int .i64 0, .int .i64 0, .string ⟨#[]⟩, .int .i64 0, .int .i64 0, .int .i64 0, .int .i64 0, .slice none 0 0] 40)) = V1 := ⟨_, rfl⟩
      rw [hV1] at H1 ⊢
      clear hV1
      have HX0 := Lib.hid H1.out.drew
      refine wp_region_held_drew (S := Has w (rowA 24 3 (.slice A n c) own.l.length (own.l.flatMap chc) :: blkA (V.heap.size + 1 + 1 + 1 + 1) 40 #[.slice none 0 0, .int .i64 0, .int .i64 0, .int .i64 0, .int .i64 0, .int .i64 0, .string ⟨#[]⟩, .int .i64 0, .int .i64 0, .int .i64 0, .int .i64 0, .slice none 0 0] :: blkA (V.heap.size + 1 + 1 + 1) 26 #[.int .i64 m1, .int .i64 m2] :: blkA (V.heap.size + 1 + 1) 28 (txc x) :: blkA (V.heap.size + 1) 24 #[.int .i64 q, .string s, .bool d] :: blkA (V.heap.size) 38 (itc own (.slice A n c)) :: tbA p r :: T)) hmix (HX0.out) (fun hS => ?_)
      simp only [List.size_toArray, List.length_cons, List.length_nil, Nat.reduceAdd, Array.replicate_succ, Array.replicate_zero]
      refine wpAnyH_take (i := 0) (oi := ⟨some 22, Op.load 26 (Operand.tmp 11), 26, "poke.go:86", #[], none⟩) (v := ?v0z) rfl (by kernel_rfl) (by kernel_rfl) (by kernel_rfl) (fun _ _ _ h => h) (Or.inl ⟨by rfl, ?hy0z⟩) (by assumption) ?rest0z
      case hy0z => (intro V2 hSw; (try dsimp only at hSw); have tq := hSw.blkAt (g := V.heap.size + 1 + 1 + 1) (t := 26) (cs := #[.int .i64 m1, .int .i64 m2]) (by simp); have t0 := tq.cell 0; have t1 := tq.cell 1; simp at t0 t1; go_simp; all_goals (with_reducible rfl))
      try simp only [Act.put, List.setIfInBounds_toArray, List.set_cons_zero, List.set_cons_succ]
      refine wpAnyH_take (i := 1) (oi := ⟨some 23, Op.move (Operand.tmp 0), 31, "poke.go:86", #[], none⟩) (v := ?v1z) rfl (by kernel_rfl) (by kernel_rfl) (by kernel_rfl) (fun _ _ _ h => h) (Or.inl ⟨by rfl, ?hy1z⟩) (by assumption) ?rest1z
      case hy1z => (intro V2 hSw; (try dsimp only at hSw); go_simp; all_goals (with_reducible rfl))
      try simp only [Act.put, List.setIfInBounds_toArray, List.set_cons_zero, List.set_cons_succ]
      refine wpAnyH_take (i := 2) (oi := ⟨some 24, Op.move (Operand.tmp 1), 9, "poke.go:86", #[], none⟩) (v := ?v2z) rfl (by kernel_rfl) (by kernel_rfl) (by kernel_rfl) (fun _ _ _ h => h) (Or.inl ⟨by rfl, ?hy2z⟩) (by assumption) ?rest2z
      case hy2z => (intro V2 hSw; (try dsimp only at hSw); go_simp; all_goals (with_reducible rfl))
      try simp only [Act.put, List.setIfInBounds_toArray, List.set_cons_zero, List.set_cons_succ]
      refine wpAnyH_ready (rs := [3, 10]) (by kernel_rfl) (by simp) ?_
      refine AllReadyH.cons (o := ⟨some 25, Op.call { callee := Callee.value (Operand.func 97), args := #[Operand.tmp 23, Operand.tmp 24], argTypes := #[31, 9] }, 26, "poke.go:86", #[⟨1, .data⟩, ⟨2, .data⟩], none⟩) rfl (fun K hK => ?_) ?_
      · go_simp
        refine (HN.out _ _ HX0.out (by simp)).mono ?_
        rintro e u1 ⟨rfl, hbu⟩
        have hX := HX0.out.keep hbu
        refine hK.out _ _ (hX) (fun hS => ?_)
        clear hK K
        try simp only [Act.put, List.setIfInBounds_toArray, List.set_cons_zero, List.set_cons_succ]
        have HX1 := Lib.hid hX
        clear hX
        clear hbu
        refine wpAnyH_ready (rs := [4, 10]) (by kernel_rfl) (by simp) ?_
        refine AllReadyH.cons (o := ⟨some 26, Op.buildSlice 187 2 #[(0, Operand.tmp 22), (1, Operand.tmp 25)], 187, "poke.go:86", #[⟨0, .data⟩, ⟨3, .data⟩], none⟩) rfl (fun K hK => ?_) ?_
        · go_simp
          have hX := HX1.out.newBlk 26 #[.int .i64 m1, .int .i64 m2, .int .i64 nv1, .int .i64 nv2]
          (try simp only [World.size_alloc] at hX)
          refine hK.out _ _ (hX.tail) (fun hS => ?_)
          clear hK K
          try simp only [Act.put, List.setIfInBounds_toArray, List.set_cons_zero, List.set_cons_succ]
          have HX2 := Lib.hid hX
          clear hX
          refine wpAnyH_ready (rs := [5, 10]) (by kernel_rfl) (by simp) ?_
          refine AllReadyH.cons (o := ⟨some 27, Op.call { callee := Callee.value (Operand.func 71), args := #[Operand.tmp 26], argTypes := #[187] }, 26, "poke.go:86", #[⟨4, .data⟩, ⟨3, .chain⟩], none⟩) rfl (fun K hK => ?_) ?_
          · go_simp
            refine (HMX.out _ _ (stamps2_blk (HX2.out.blkAt (g := u1.heap.size) (t := 26) (cs := #[.int .i64 m1, .int .i64 m2, .int .i64 nv1, .int .i64 nv2]) (by simp)))).mono ?_
            rintro e u3 ⟨rfl, hbu⟩
            have hX := HX2.out.keep hbu
            refine hK.out _ _ (hX.tail) (fun hS => ?_)
            clear hK K
            try simp only [Act.put, List.setIfInBounds_toArray, List.set_cons_zero, List.set_cons_succ]
            have HX3 := Lib.hid hX
            clear hX
            clear hbu
            refine wpAnyH_ready (rs := [6, 10]) (by kernel_rfl) (by simp) ?_
            refine AllReadyH.cons (o := ⟨some 28, Op.call { callee := Callee.value (Operand.func 96), args := #[Operand.tmp 27], argTypes := #[26] }, 115, "poke.go:86", #[⟨5, .data⟩, ⟨5, .chain⟩], none⟩) rfl (fun K hK => ?_) ?_
            · go_simp
              refine (HNX.out _).mono ?_
              rintro e u4 ⟨rfl, hbu⟩
              have hX := HX3.out.keep hbu
              refine hK.out _ _ (hX.tail) (fun hS => ?_)
              clear hK K
              try simp only [Act.put, List.setIfInBounds_toArray, List.set_cons_zero, List.set_cons_succ]
              have HX4 := Lib.hid hX
              clear hX
              clear hbu
              refine wpAnyH_take (i := 7) (oi := ⟨some 21, Op.move (Operand.tmp 28), 115, "poke.go:86", #[⟨6, .data⟩], none⟩) (v := ?v7zaaaa) rfl (by kernel_rfl) (by kernel_rfl) (by kernel_rfl) (fun _ _ _ h => h) (Or.inl ⟨by rfl, ?hy7zaaaa⟩) (by assumption) ?rest7zaaaa
              case hy7zaaaa => (intro V2 hSw; (try dsimp only at hSw); go_simp; all_goals (with_reducible rfl))
              try simp only [Act.put, List.setIfInBounds_toArray, List.set_cons_zero, List.set_cons_succ]
              refine wpAnyH_take (i := 8) (oi := ⟨some 29, Op.extract (Operand.tmp 21) 0, 26, "poke.go:86", #[⟨7, .data⟩], none⟩) (v := ?v8zaaaa) rfl (by kernel_rfl) (by kernel_rfl) (by kernel_rfl) (fun _ _ _ h => h) (Or.inl ⟨by rfl, ?hy8zaaaa⟩) (by assumption) ?rest8zaaaa
              case hy8zaaaa => (intro V2 hSw; (try dsimp only at hSw); go_simp; all_goals (with_reducible rfl))
              try simp only [Act.put, List.setIfInBounds_toArray, List.set_cons_zero, List.set_cons_succ]
              refine wpAnyH_take (i := 9) (oi := ⟨some 30, Op.extract (Operand.tmp 21) 1, 41, "poke.go:86", #[⟨7, .data⟩, { on := 11, ground := Ground.gcOnly Departure.lateStores }], none⟩) (v := ?v9zaaaa) rfl (by kernel_rfl) (by kernel_rfl) (by kernel_rfl) (fun _ _ _ h => h) (Or.inl ⟨by rfl, ?hy9zaaaa⟩) (by assumption) ?rest9zaaaa
              case hy9zaaaa => (intro V2 hSw; (try dsimp only at hSw); go_simp; all_goals (with_reducible rfl))
              try simp only [Act.put, List.setIfInBounds_toArray, List.set_cons_zero, List.set_cons_succ]
              refine wpAnyH_ready (rs := [10]) (by kernel_rfl) (by simp) ?_
              refine AllReadyH.cons (o := ⟨some 14, Op.alloc 26, 0, "poke.go:86", #[], none⟩) rfl (fun K hK => ?_) AllReadyH.nil
              go_simp
              have hX := HX4.out.newBlk 26 #[.int .i64 0, .int .i64 0]
              (try simp only [World.size_alloc] at hX)
              refine hK.out _ _ (hX.tail.tail) (fun hS => ?_)
              clear hK K
              try simp only [Act.put, List.setIfInBounds_toArray, List.set_cons_zero, List.set_cons_succ]
              have HX5 := Lib.hid hX
              clear hX
              refine wpAnyH_ready (rs := [11]) (by kernel_rfl) (by simp) ?_
              refine AllReadyH.cons (o := ⟨none, Op.store 26 (Operand.tmp 14) (Operand.tmp 29), 0, "poke.go:86", #[⟨10, .data⟩, ⟨8, .data⟩, ⟨6, .chain⟩, ⟨0, .phase⟩, ⟨1, .phase⟩, ⟨2, .phase⟩, ⟨3, .phase⟩, ⟨4, .phase⟩, ⟨5, .phase⟩, ⟨6, .phase⟩, ⟨7, .phase⟩, ⟨8, .phase⟩, { on := 9, ground := Ground.textOnly Departure.lateStores }, ⟨10, .phase⟩], none⟩) rfl (fun K hK => ?_) AllReadyH.nil
              go_simp
              have hY := HX4.out.newBlk 26 #[.int .i64 na, .int .i64 nb]
              (try simp only [World.size_alloc] at hY)
              refine hK.out _ _ (hY.tail.tail) (fun hS => ?_)
              clear hK K
              try simp only [Act.put, List.setIfInBounds_toArray, List.set_cons_zero, List.set_cons_succ]
              have HX6 := Lib.hid hY
              clear hY
              refine wpAnyH_take (i := 12) (oi := ⟨some 15, Op.assign (Operand.tmp 30), 41, "poke.go:86", #[⟨9, .data⟩, ⟨11, .chain⟩, ⟨0, .phase⟩, ⟨1, .phase⟩, ⟨2, .phase⟩, ⟨3, .phase⟩, ⟨4, .phase⟩, ⟨5, .phase⟩, ⟨6, .phase⟩, ⟨7, .phase⟩, ⟨8, .phase⟩, ⟨9, .phase⟩, ⟨10, .phase⟩, ⟨11, .phase⟩], none⟩) (v := ?v12zaaaa) rfl (by kernel_rfl) (by kernel_rfl) (by kernel_rfl) (fun _ _ _ h => h) (Or.inl ⟨by rfl, ?hy12zaaaa⟩) (by assumption) ?rest12zaaaa
              case hy12zaaaa => (intro V2 hSw; (try dsimp only at hSw); go_simp; all_goals (with_reducible rfl))
              try simp only [Act.put, List.setIfInBounds_toArray, List.set_cons_zero, List.set_cons_succ]
              refine wpAnyH_done (by kernel_rfl) ?_ _
              (try go_wp2_with fail)
              go_meet
              exact ⟨_, rfl, rfl, Lib.hid HX6.out.swap.tail⟩
            refine AllReadyH.cons (o := ⟨some 14, Op.alloc 26, 0, "poke.go:86", #[], none⟩) rfl (fun K hK => ?_) AllReadyH.nil
            go_simp
            have hX := HX3.out.newBlk 26 #[.int .i64 0, .int .i64 0]
            (try simp only [World.size_alloc] at hX)
            refine hK.out _ _ (hX.tail.tail) (fun hS => ?_)
            clear hK K
            try simp only [Act.put, List.setIfInBounds_toArray, List.set_cons_zero, List.set_cons_succ]
            have HX4 := Lib.hid hX
            clear hX
            refine wpAnyH_ready (rs := [6]) (by kernel_rfl) (by simp) ?_
            refine AllReadyH.cons (o := ⟨some 28, Op.call { callee := Callee.value (Operand.func 96), args := #[Operand.tmp 27], argTypes := #[26] }, 115, "poke.go:86", #[⟨5, .data⟩, ⟨5, .chain⟩], none⟩) rfl (fun K hK => ?_) AllReadyH.nil
            go_simp
            refine (HNX.out _).mono ?_
            rintro e u5 ⟨rfl, hbu⟩
            have hX := HX4.out.keep hbu
            refine hK.out _ _ (hX.tail.tail) (fun hS => ?_)
            clear hK K
            try simp only [Act.put, List.setIfInBounds_toArray, List.set_cons_zero, List.set_cons_succ]
            have HX5 := Lib.hid hX
            clear hX
            clear hbu
            refine wpAnyH_take (i := 7) (oi := ⟨some 21, Op.move (Operand.tmp 28), 115, "poke.go:86", #[⟨6, .data⟩], none⟩) (v := ?v7zaaab) rfl (by kernel_rfl) (by kernel_rfl) (by kernel_rfl) (fun _ _ _ h => h) (Or.inl ⟨by rfl, ?hy7zaaab⟩) (by assumption) ?rest7zaaab
            case hy7zaaab => (intro V2 hSw; (try dsimp only at hSw); go_simp; all_goals (with_reducible rfl))
            try simp only [Act.put, List.setIfInBounds_toArray, List.set_cons_zero, List.set_cons_succ]
            refine wpAnyH_take (i := 8) (oi := ⟨some 29, Op.extract (Operand.tmp 21) 0, 26, "poke.go:86", #[⟨7, .data⟩], none⟩) (v := ?v8zaaab) rfl (by kernel_rfl) (by kernel_rfl) (by kernel_rfl) (fun _ _ _ h => h) (Or.inl ⟨by rfl, ?hy8zaaab⟩) (by assumption) ?rest8zaaab
            case hy8zaaab => (intro V2 hSw; (try dsimp only at hSw); go_simp; all_goals (with_reducible rfl))
            try simp only [Act.put, List.setIfInBounds_toArray, List.set_cons_zero, List.set_cons_succ]
            refine wpAnyH_take (i := 9) (oi := ⟨some 30, Op.extract (Operand.tmp 21) 1, 41, "poke.go:86", #[⟨7, .data⟩, { on := 11, ground := Ground.gcOnly Departure.lateStores }], none⟩) (v := ?v9zaaab) rfl (by kernel_rfl) (by kernel_rfl) (by kernel_rfl) (fun _ _ _ h => h) (Or.inl ⟨by rfl, ?hy9zaaab⟩) (by assumption) ?rest9zaaab
            case hy9zaaab => (intro V2 hSw; (try dsimp only at hSw); go_simp; all_goals (with_reducible rfl))
            try simp only [Act.put, List.setIfInBounds_toArray, List.set_cons_zero, List.set_cons_succ]
            refine wpAnyH_ready (rs := [11]) (by kernel_rfl) (by simp) ?_
            refine AllReadyH.cons (o := ⟨none, Op.store 26 (Operand.tmp 14) (Operand.tmp 29), 0, "poke.go:86", #[⟨10, .data⟩, ⟨8, .data⟩, ⟨6, .chain⟩, ⟨0, .phase⟩, ⟨1, .phase⟩, ⟨2, .phase⟩, ⟨3, .phase⟩, ⟨4, .phase⟩, ⟨5, .phase⟩, ⟨6, .phase⟩, ⟨7, .phase⟩, ⟨8, .phase⟩, { on := 9, ground := Ground.textOnly Departure.lateStores }, ⟨10, .phase⟩], none⟩) rfl (fun K hK => ?_) AllReadyH.nil
            have hX := HX5.out
            have kB := hX.blk.1
            have p0 := kB.cell 0
            have f0 := kB.frozen 0
            have p1 := kB.cell 1
            have f1 := kB.frozen 1
            simp at p0 p1
            (try simp at f0 f1)
            have hY := Has.all2 (v0 := .int .i64 na) (v1 := .int .i64 nb) hX
            go_simp
            refine hK.out _ _ (hY.tail.tail) (fun hS => ?_)
            clear hK K
            try simp only [Act.put, List.setIfInBounds_toArray, List.set_cons_zero, List.set_cons_succ]
            have HX6 := Lib.hid hY
            clear hX hY kB
            refine wpAnyH_take (i := 12) (oi := ⟨some 15, Op.assign (Operand.tmp 30), 41, "poke.go:86", #[⟨9, .data⟩, ⟨11, .chain⟩, ⟨0, .phase⟩, ⟨1, .phase⟩, ⟨2, .phase⟩, ⟨3, .phase⟩, ⟨4, .phase⟩, ⟨5, .phase⟩, ⟨6, .phase⟩, ⟨7, .phase⟩, ⟨8, .phase⟩, ⟨9, .phase⟩, ⟨10, .phase⟩, ⟨11, .phase⟩], none⟩) (v := ?v12zaaab) rfl (by kernel_rfl) (by kernel_rfl) (by kernel_rfl) (fun _ _ _ h => h) (Or.inl ⟨by rfl, ?hy12zaaab⟩) (by assumption) ?rest12zaaab
            case hy12zaaab => (intro V2 hSw; (try dsimp only at hSw); go_simp; all_goals (with_reducible rfl))
            try simp only [Act.put, List.setIfInBounds_toArray, List.set_cons_zero, List.set_cons_succ]
            refine wpAnyH_done (by kernel_rfl) ?_ _
            (try go_wp2_with fail)
            go_meet
            exact ⟨_, rfl, rfl, Lib.hid HX6.out.swap.tail⟩
          refine AllReadyH.cons (o := ⟨some 14, Op.alloc 26, 0, "poke.go:86", #[], none⟩) rfl (fun K hK => ?_) AllReadyH.nil
          go_simp
          have hX := HX2.out.newBlk 26 #[.int .i64 0, .int .i64 0]
          (try simp only [World.size_alloc] at hX)
          refine hK.out _ _ (hX.tail.tail) (fun hS => ?_)
          clear hK K
          try simp only [Act.put, List.setIfInBounds_toArray, List.set_cons_zero, List.set_cons_succ]
          have HX3 := Lib.hid hX
          clear hX
          refine wpAnyH_ready (rs := [5]) (by kernel_rfl) (by simp) ?_
          refine AllReadyH.cons (o := ⟨some 27, Op.call { callee := Callee.value (Operand.func 71), args := #[Operand.tmp 26], argTypes := #[187] }, 26, "poke.go:86", #[⟨4, .data⟩, ⟨3, .chain⟩], none⟩) rfl (fun K hK => ?_) AllReadyH.nil
          go_simp
          refine (HMX.out _ _ (stamps2_blk (HX3.out.blkAt (g := u1.heap.size) (t := 26) (cs := #[.int .i64 m1, .int .i64 m2, .int .i64 nv1, .int .i64 nv2]) (by simp)))).mono ?_
          rintro e u4 ⟨rfl, hbu⟩
          have hX := HX3.out.keep hbu
          refine hK.out _ _ (hX.tail.tail) (fun hS => ?_)
          clear hK K
          try simp only [Act.put, List.setIfInBounds_toArray, List.set_cons_zero, List.set_cons_succ]
          have HX4 := Lib.hid hX
          clear hX
          clear hbu
          refine wpAnyH_ready (rs := [6]) (by kernel_rfl) (by simp) ?_
          refine AllReadyH.cons (o := ⟨some 28, Op.call { callee := Callee.value (Operand.func 96), args := #[Operand.tmp 27], argTypes := #[26] }, 115, "poke.go:86", #[⟨5, .data⟩, ⟨5, .chain⟩], none⟩) rfl (fun K hK => ?_) AllReadyH.nil
          go_simp
          refine (HNX.out _).mono ?_
          rintro e u5 ⟨rfl, hbu⟩
          have hX := HX4.out.keep hbu
          refine hK.out _ _ (hX.tail.tail) (fun hS => ?_)
          clear hK K
          try simp only [Act.put, List.setIfInBounds_toArray, List.set_cons_zero, List.set_cons_succ]
          have HX5 := Lib.hid hX
          clear hX
          clear hbu
          refine wpAnyH_take (i := 7) (oi := ⟨some 21, Op.move (Operand.tmp 28), 115, "poke.go:86", #[⟨6, .data⟩], none⟩) (v := ?v7zaab) rfl (by kernel_rfl) (by kernel_rfl) (by kernel_rfl) (fun _ _ _ h => h) (Or.inl ⟨by rfl, ?hy7zaab⟩) (by assumption) ?rest7zaab
          case hy7zaab => (intro V2 hSw; (try dsimp only at hSw); go_simp; all_goals (with_reducible rfl))
          try simp only [Act.put, List.setIfInBounds_toArray, List.set_cons_zero, List.set_cons_succ]
          refine wpAnyH_take (i := 8) (oi := ⟨some 29, Op.extract (Operand.tmp 21) 0, 26, "poke.go:86", #[⟨7, .data⟩], none⟩) (v := ?v8zaab) rfl (by kernel_rfl) (by kernel_rfl) (by kernel_rfl) (fun _ _ _ h => h) (Or.inl ⟨by rfl, ?hy8zaab⟩) (by assumption) ?rest8zaab
          case hy8zaab => (intro V2 hSw; (try dsimp only at hSw); go_simp; all_goals (with_reducible rfl))
          try simp only [Act.put, List.setIfInBounds_toArray, List.set_cons_zero, List.set_cons_succ]
          refine wpAnyH_take (i := 9) (oi := ⟨some 30, Op.extract (Operand.tmp 21) 1, 41, "poke.go:86", #[⟨7, .data⟩, { on := 11, ground := Ground.gcOnly Departure.lateStores }], none⟩) (v := ?v9zaab) rfl (by kernel_rfl) (by kernel_rfl) (by kernel_rfl) (fun _ _ _ h => h) (Or.inl ⟨by rfl, ?hy9zaab⟩) (by assumption) ?rest9zaab
          case hy9zaab => (intro V2 hSw; (try dsimp only at hSw); go_simp; all_goals (with_reducible rfl))
          try simp only [Act.put, List.setIfInBounds_toArray, List.set_cons_zero, List.set_cons_succ]
          refine wpAnyH_ready (rs := [11]) (by kernel_rfl) (by simp) ?_
          refine AllReadyH.cons (o := ⟨none, Op.store 26 (Operand.tmp 14) (Operand.tmp 29), 0, "poke.go:86", #[⟨10, .data⟩, ⟨8, .data⟩, ⟨6, .chain⟩, ⟨0, .phase⟩, ⟨1, .phase⟩, ⟨2, .phase⟩, ⟨3, .phase⟩, ⟨4, .phase⟩, ⟨5, .phase⟩, ⟨6, .phase⟩, ⟨7, .phase⟩, ⟨8, .phase⟩, { on := 9, ground := Ground.textOnly Departure.lateStores }, ⟨10, .phase⟩], none⟩) rfl (fun K hK => ?_) AllReadyH.nil
          have hX := HX5.out
          have kB := hX.blk.1
          have p0 := kB.cell 0
          have f0 := kB.frozen 0
          have p1 := kB.cell 1
          have f1 := kB.frozen 1
          simp at p0 p1
          (try simp at f0 f1)
          have hY := Has.all2 (v0 := .int .i64 na) (v1 := .int .i64 nb) hX
          go_simp
          refine hK.out _ _ (hY.tail.tail) (fun hS => ?_)
          clear hK K
          try simp only [Act.put, List.setIfInBounds_toArray, List.set_cons_zero, List.set_cons_succ]
          have HX6 := Lib.hid hY
          clear hX hY kB
          refine wpAnyH_take (i := 12) (oi := ⟨some 15, Op.assign (Operand.tmp 30), 41, "poke.go:86", #[⟨9, .data⟩, ⟨11, .chain⟩, ⟨0, .phase⟩, ⟨1, .phase⟩, ⟨2, .phase⟩, ⟨3, .phase⟩, ⟨4, .phase⟩, ⟨5, .phase⟩, ⟨6, .phase⟩, ⟨7, .phase⟩, ⟨8, .phase⟩, ⟨9, .phase⟩, ⟨10, .phase⟩, ⟨11, .phase⟩], none⟩) (v := ?v12zaab) rfl (by kernel_rfl) (by kernel_rfl) (by kernel_rfl) (fun _ _ _ h => h) (Or.inl ⟨by rfl, ?hy12zaab⟩) (by assumption) ?rest12zaab
          case hy12zaab => (intro V2 hSw; (try dsimp only at hSw); go_simp; all_goals (with_reducible rfl))
          try simp only [Act.put, List.setIfInBounds_toArray, List.set_cons_zero, List.set_cons_succ]
          refine wpAnyH_done (by kernel_rfl) ?_ _
          (try go_wp2_with fail)
          go_meet
          exact ⟨_, rfl, rfl, Lib.hid HX6.out.swap.tail⟩
        refine AllReadyH.cons (o := ⟨some 14, Op.alloc 26, 0, "poke.go:86", #[], none⟩) rfl (fun K hK => ?_) AllReadyH.nil
        go_simp
        have hX := HX1.out.newBlk 26 #[.int .i64 0, .int .i64 0]
        (try simp only [World.size_alloc] at hX)
        refine hK.out _ _ (hX.tail) (fun hS => ?_)
        clear hK K
        try simp only [Act.put, List.setIfInBounds_toArray, List.set_cons_zero, List.set_cons_succ]
        have HX2 := Lib.hid hX
        clear hX
        refine wpAnyH_ready (rs := [4]) (by kernel_rfl) (by simp) ?_
        refine AllReadyH.cons (o := ⟨some 26, Op.buildSlice 187 2 #[(0, Operand.tmp 22), (1, Operand.tmp 25)], 187, "poke.go:86", #[⟨0, .data⟩, ⟨3, .data⟩], none⟩) rfl (fun K hK => ?_) AllReadyH.nil
        go_simp
        have hX := HX2.out.newBlk 26 #[.int .i64 m1, .int .i64 m2, .int .i64 nv1, .int .i64 nv2]
        (try simp only [World.size_alloc] at hX)
        refine hK.out _ _ (hX.tail.tail) (fun hS => ?_)
        clear hK K
        try simp only [Act.put, List.setIfInBounds_toArray, List.set_cons_zero, List.set_cons_succ]
        have HX3 := Lib.hid hX
        clear hX
        refine wpAnyH_ready (rs := [5]) (by kernel_rfl) (by simp) ?_
        refine AllReadyH.cons (o := ⟨some 27, Op.call { callee := Callee.value (Operand.func 71), args := #[Operand.tmp 26], argTypes := #[187] }, 26, "poke.go:86", #[⟨4, .data⟩, ⟨3, .chain⟩], none⟩) rfl (fun K hK => ?_) AllReadyH.nil
        go_simp
        refine (HMX.out _ _ (stamps2_blk (HX3.out.blkAt (g := u1.heap.size + 1) (t := 26) (cs := #[.int .i64 m1, .int .i64 m2, .int .i64 nv1, .int .i64 nv2]) (by simp)))).mono ?_
        rintro e u4 ⟨rfl, hbu⟩
        have hX := HX3.out.keep hbu
        refine hK.out _ _ (hX.tail.tail) (fun hS => ?_)
        clear hK K
        try simp only [Act.put, List.setIfInBounds_toArray, List.set_cons_zero, List.set_cons_succ]
        have HX4 := Lib.hid hX
        clear hX
        clear hbu
        refine wpAnyH_ready (rs := [6]) (by kernel_rfl) (by simp) ?_
        refine AllReadyH.cons (o := ⟨some 28, Op.call { callee := Callee.value (Operand.func 96), args := #[Operand.tmp 27], argTypes := #[26] }, 115, "poke.go:86", #[⟨5, .data⟩, ⟨5, .chain⟩], none⟩) rfl (fun K hK => ?_) AllReadyH.nil
        go_simp
        refine (HNX.out _).mono ?_
        rintro e u5 ⟨rfl, hbu⟩
        have hX := HX4.out.keep hbu
        refine hK.out _ _ (hX.tail.tail) (fun hS => ?_)
        clear hK K
        try simp only [Act.put, List.setIfInBounds_toArray, List.set_cons_zero, List.set_cons_succ]
        have HX5 := Lib.hid hX
        clear hX
        clear hbu
        refine wpAnyH_take (i := 7) (oi := ⟨some 21, Op.move (Operand.tmp 28), 115, "poke.go:86", #[⟨6, .data⟩], none⟩) (v := ?v7zab) rfl (by kernel_rfl) (by kernel_rfl) (by kernel_rfl) (fun _ _ _ h => h) (Or.inl ⟨by rfl, ?hy7zab⟩) (by assumption) ?rest7zab
        case hy7zab => (intro V2 hSw; (try dsimp only at hSw); go_simp; all_goals (with_reducible rfl))
        try simp only [Act.put, List.setIfInBounds_toArray, List.set_cons_zero, List.set_cons_succ]
        refine wpAnyH_take (i := 8) (oi := ⟨some 29, Op.extract (Operand.tmp 21) 0, 26, "poke.go:86", #[⟨7, .data⟩], none⟩) (v := ?v8zab) rfl (by kernel_rfl) (by kernel_rfl) (by kernel_rfl) (fun _ _ _ h => h) (Or.inl ⟨by rfl, ?hy8zab⟩) (by assumption) ?rest8zab
        case hy8zab => (intro V2 hSw; (try dsimp only at hSw); go_simp; all_goals (with_reducible rfl))
        try simp only [Act.put, List.setIfInBounds_toArray, List.set_cons_zero, List.set_cons_succ]
        refine wpAnyH_take (i := 9) (oi := ⟨some 30, Op.extract (Operand.tmp 21) 1, 41, "poke.go:86", #[⟨7, .data⟩, { on := 11, ground := Ground.gcOnly Departure.lateStores }], none⟩) (v := ?v9zab) rfl (by kernel_rfl) (by kernel_rfl) (by kernel_rfl) (fun _ _ _ h => h) (Or.inl ⟨by rfl, ?hy9zab⟩) (by assumption) ?rest9zab
        case hy9zab => (intro V2 hSw; (try dsimp only at hSw); go_simp; all_goals (with_reducible rfl))
        try simp only [Act.put, List.setIfInBounds_toArray, List.set_cons_zero, List.set_cons_succ]
        refine wpAnyH_ready (rs := [11]) (by kernel_rfl) (by simp) ?_
        refine AllReadyH.cons (o := ⟨none, Op.store 26 (Operand.tmp 14) (Operand.tmp 29), 0, "poke.go:86", #[⟨10, .data⟩, ⟨8, .data⟩, ⟨6, .chain⟩, ⟨0, .phase⟩, ⟨1, .phase⟩, ⟨2, .phase⟩, ⟨3, .phase⟩, ⟨4, .phase⟩, ⟨5, .phase⟩, ⟨6, .phase⟩, ⟨7, .phase⟩, ⟨8, .phase⟩, { on := 9, ground := Ground.textOnly Departure.lateStores }, ⟨10, .phase⟩], none⟩) rfl (fun K hK => ?_) AllReadyH.nil
        have hX := HX5.out.swap
        have kB := hX.blk.1
        have p0 := kB.cell 0
        have f0 := kB.frozen 0
        have p1 := kB.cell 1
        have f1 := kB.frozen 1
        simp at p0 p1
        (try simp at f0 f1)
        have hY := Has.all2 (v0 := .int .i64 na) (v1 := .int .i64 nb) hX
        go_simp
        refine hK.out _ _ (hY.tail.tail) (fun hS => ?_)
        clear hK K
        try simp only [Act.put, List.setIfInBounds_toArray, List.set_cons_zero, List.set_cons_succ]
        have HX6 := Lib.hid hY
        clear hX hY kB
        refine wpAnyH_take (i := 12) (oi := ⟨some 15, Op.assign (Operand.tmp 30), 41, "poke.go:86", #[⟨9, .data⟩, ⟨11, .chain⟩, ⟨0, .phase⟩, ⟨1, .phase⟩, ⟨2, .phase⟩, ⟨3, .phase⟩, ⟨4, .phase⟩, ⟨5, .phase⟩, ⟨6, .phase⟩, ⟨7, .phase⟩, ⟨8, .phase⟩, ⟨9, .phase⟩, ⟨10, .phase⟩, ⟨11, .phase⟩], none⟩) (v := ?v12zab) rfl (by kernel_rfl) (by kernel_rfl) (by kernel_rfl) (fun _ _ _ h => h) (Or.inl ⟨by rfl, ?hy12zab⟩) (by assumption) ?rest12zab
        case hy12zab => (intro V2 hSw; (try dsimp only at hSw); go_simp; all_goals (with_reducible rfl))
        try simp only [Act.put, List.setIfInBounds_toArray, List.set_cons_zero, List.set_cons_succ]
        refine wpAnyH_done (by kernel_rfl) ?_ _
        (try go_wp2_with fail)
        go_meet
        exact ⟨_, rfl, rfl, Lib.hid HX6.out.swap.tail⟩
      refine AllReadyH.cons (o := ⟨some 14, Op.alloc 26, 0, "poke.go:86", #[], none⟩) rfl (fun K hK => ?_) AllReadyH.nil
      go_simp
      have hX := HX0.out.newBlk 26 #[.int .i64 0, .int .i64 0]
      (try simp only [World.size_alloc] at hX)
      refine hK.out _ _ (hX.tail) (fun hS => ?_)
      clear hK K
      try simp only [Act.put, List.setIfInBounds_toArray, List.set_cons_zero, List.set_cons_succ]
      have HX1 := Lib.hid hX
      clear hX
      refine wpAnyH_ready (rs := [3]) (by kernel_rfl) (by simp) ?_
      refine AllReadyH.cons (o := ⟨some 25, Op.call { callee := Callee.value (Operand.func 97), args := #[Operand.tmp 23, Operand.tmp 24], argTypes := #[31, 9] }, 26, "poke.go:86", #[⟨1, .data⟩, ⟨2, .data⟩], none⟩) rfl (fun K hK => ?_) AllReadyH.nil
      go_simp
      refine (HN.out _ _ HX1.out (by simp)).mono ?_
      rintro e u2 ⟨rfl, hbu⟩
      have hX := HX1.out.keep hbu
      refine hK.out _ _ (hX.tail) (fun hS => ?_)
      clear hK K
      try simp only [Act.put, List.setIfInBounds_toArray, List.set_cons_zero, List.set_cons_succ]
      have HX2 := Lib.hid hX
      clear hX
      clear hbu
      refine wpAnyH_ready (rs := [4]) (by kernel_rfl) (by simp) ?_
      refine AllReadyH.cons (o := ⟨some 26, Op.buildSlice 187 2 #[(0, Operand.tmp 22), (1, Operand.tmp 25)], 187, "poke.go:86", #[⟨0, .data⟩, ⟨3, .data⟩], none⟩) rfl (fun K hK => ?_) AllReadyH.nil
      go_simp
      have hX := HX2.out.newBlk 26 #[.int .i64 m1, .int .i64 m2, .int .i64 nv1, .int .i64 nv2]
      (try simp only [World.size_alloc] at hX)
      refine hK.out _ _ (hX.tail.tail) (fun hS => ?_)
      clear hK K
      try simp only [Act.put, List.setIfInBounds_toArray, List.set_cons_zero, List.set_cons_succ]
      have HX3 := Lib.hid hX
      clear hX
      refine wpAnyH_ready (rs := [5]) (by kernel_rfl) (by simp) ?_
      refine AllReadyH.cons (o := ⟨some 27, Op.call { callee := Callee.value (Operand.func 71), args := #[Operand.tmp 26], argTypes := #[187] }, 26, "poke.go:86", #[⟨4, .data⟩, ⟨3, .chain⟩], none⟩) rfl (fun K hK => ?_) AllReadyH.nil
      go_simp
      refine (HMX.out _ _ (stamps2_blk (HX3.out.blkAt (g := u2.heap.size) (t := 26) (cs := #[.int .i64 m1, .int .i64 m2, .int .i64 nv1, .int .i64 nv2]) (by simp)))).mono ?_
      rintro e u4 ⟨rfl, hbu⟩
      have hX := HX3.out.keep hbu
      refine hK.out _ _ (hX.tail.tail) (fun hS => ?_)
      clear hK K
      try simp only [Act.put, List.setIfInBounds_toArray, List.set_cons_zero, List.set_cons_succ]
      have HX4 := Lib.hid hX
      clear hX
      clear hbu
      refine wpAnyH_ready (rs := [6]) (by kernel_rfl) (by simp) ?_
      refine AllReadyH.cons (o := ⟨some 28, Op.call { callee := Callee.value (Operand.func 96), args := #[Operand.tmp 27], argTypes := #[26] }, 115, "poke.go:86", #[⟨5, .data⟩, ⟨5, .chain⟩], none⟩) rfl (fun K hK => ?_) AllReadyH.nil
      go_simp
      refine (HNX.out _).mono ?_
      rintro e u5 ⟨rfl, hbu⟩
      have hX := HX4.out.keep hbu
      refine hK.out _ _ (hX.tail.tail) (fun hS => ?_)
      clear hK K
      try simp only [Act.put, List.setIfInBounds_toArray, List.set_cons_zero, List.set_cons_succ]
      have HX5 := Lib.hid hX
      clear hX
      clear hbu
      refine wpAnyH_take (i := 7) (oi := ⟨some 21, Op.move (Operand.tmp 28), 115, "poke.go:86", #[⟨6, .data⟩], none⟩) (v := ?v7zb) rfl (by kernel_rfl) (by kernel_rfl) (by kernel_rfl) (fun _ _ _ h => h) (Or.inl ⟨by rfl, ?hy7zb⟩) (by assumption) ?rest7zb
      case hy7zb => (intro V2 hSw; (try dsimp only at hSw); go_simp; all_goals (with_reducible rfl))
      try simp only [Act.put, List.setIfInBounds_toArray, List.set_cons_zero, List.set_cons_succ]
      refine wpAnyH_take (i := 8) (oi := ⟨some 29, Op.extract (Operand.tmp 21) 0, 26, "poke.go:86", #[⟨7, .data⟩], none⟩) (v := ?v8zb) rfl (by kernel_rfl) (by kernel_rfl) (by kernel_rfl) (fun _ _ _ h => h) (Or.inl ⟨by rfl, ?hy8zb⟩) (by assumption) ?rest8zb
      case hy8zb => (intro V2 hSw; (try dsimp only at hSw); go_simp; all_goals (with_reducible rfl))
      try simp only [Act.put, List.setIfInBounds_toArray, List.set_cons_zero, List.set_cons_succ]
      refine wpAnyH_take (i := 9) (oi := ⟨some 30, Op.extract (Operand.tmp 21) 1, 41, "poke.go:86", #[⟨7, .data⟩, { on := 11, ground := Ground.gcOnly Departure.lateStores }], none⟩) (v := ?v9zb) rfl (by kernel_rfl) (by kernel_rfl) (by kernel_rfl) (fun _ _ _ h => h) (Or.inl ⟨by rfl, ?hy9zb⟩) (by assumption) ?rest9zb
      case hy9zb => (intro V2 hSw; (try dsimp only at hSw); go_simp; all_goals (with_reducible rfl))
      try simp only [Act.put, List.setIfInBounds_toArray, List.set_cons_zero, List.set_cons_succ]
      refine wpAnyH_ready (rs := [11]) (by kernel_rfl) (by simp) ?_
      refine AllReadyH.cons (o := ⟨none, Op.store 26 (Operand.tmp 14) (Operand.tmp 29), 0, "poke.go:86", #[⟨10, .data⟩, ⟨8, .data⟩, ⟨6, .chain⟩, ⟨0, .phase⟩, ⟨1, .phase⟩, ⟨2, .phase⟩, ⟨3, .phase⟩, ⟨4, .phase⟩, ⟨5, .phase⟩, ⟨6, .phase⟩, ⟨7, .phase⟩, ⟨8, .phase⟩, { on := 9, ground := Ground.textOnly Departure.lateStores }, ⟨10, .phase⟩], none⟩) rfl (fun K hK => ?_) AllReadyH.nil
      have hX := HX5.out.swap
      have kB := hX.blk.1
      have p0 := kB.cell 0
      have f0 := kB.frozen 0
      have p1 := kB.cell 1
      have f1 := kB.frozen 1
      simp at p0 p1
      (try simp at f0 f1)
      have hY := Has.all2 (v0 := .int .i64 na) (v1 := .int .i64 nb) hX
      go_simp
      refine hK.out _ _ (hY.tail.tail) (fun hS => ?_)
      clear hK K
      try simp only [Act.put, List.setIfInBounds_toArray, List.set_cons_zero, List.set_cons_succ]
      have HX6 := Lib.hid hY
      clear hX hY kB
      refine wpAnyH_take (i := 12) (oi := ⟨some 15, Op.assign (Operand.tmp 30), 41, "poke.go:86", #[⟨9, .data⟩, ⟨11, .chain⟩, ⟨0, .phase⟩, ⟨1, .phase⟩, ⟨2, .phase⟩, ⟨3, .phase⟩, ⟨4, .phase⟩, ⟨5, .phase⟩, ⟨6, .phase⟩, ⟨7, .phase⟩, ⟨8, .phase⟩, ⟨9, .phase⟩, ⟨10, .phase⟩, ⟨11, .phase⟩], none⟩) (v := ?v12zb) rfl (by kernel_rfl) (by kernel_rfl) (by kernel_rfl) (fun _ _ _ h => h) (Or.inl ⟨by rfl, ?hy12zb⟩) (by assumption) ?rest12zb
      case hy12zb => (intro V2 hSw; (try dsimp only at hSw); go_simp; all_goals (with_reducible rfl))
      try simp only [Act.put, List.setIfInBounds_toArray, List.set_cons_zero, List.set_cons_succ]
      refine wpAnyH_done (by kernel_rfl) ?_ _
      (try go_wp2_with fail)
      go_meet
      exact ⟨_, rfl, rfl, Lib.hid HX6.out.swap.tail⟩
    case rest =>
      obtain ⟨gB, rfl, rfl, HS⟩ := hcut
      clear H1
      have hmy := HMAY.out rfl
      rw [hmy] at HIT
      clear hmy HMAY
      have HIT := Lib.hid (show ∀ (A : Option Addr) (n c : Nat) (W : World), ChAt W A n (own.l ++ [⟨q, s, d⟩]) → n ≤ 9223372036854775807 → Calls Tryz.prog 98 #[itv (wIt x a1 a2 (own.l ++ [⟨q, s, d⟩])) (.slice A n c)] W fun e w' => e = .returned (.tuple #[.string (bs (txI (wIt x a1 a2 (own.l ++ [⟨q, s, d⟩])))), .int .i64 0]) ∧ Below W.heap.size W w' from HIT.out)
      obtain ⟨tx, htx⟩ : ∃ tx, bs (txI (wIt x a1 a2 (own.l ++ [⟨q, s, d⟩]))) = tx := ⟨_, rfl⟩
      rw [htx] at HIT
      have HTX := Lib.hid htx
      clear htx
      have bB := HS.out.blkAt (g := gB) (t := 26) (cs := #[.int .i64 na, .int .i64 nb]) (by simp)
      have bT := HS.out.blkAt (g := V.heap.size + 1 + 1) (t := 28) (cs := (txc x)) (by simp)
      have bI := HS.out.blkAt (g := V.heap.size) (t := 38) (cs := (itc own (.slice A n c))) (by simp)
      have nb_0 := bB.cell 0
      have nb_1 := bB.cell 1
      simp at nb_0 nb_1
      have t0 := bT.cell 0
      have t1 := bT.cell 1
      have t2 := bT.cell 2
      have t3 := bT.cell 3
      have t4 := bT.cell 4
      have t5 := bT.cell 5
      have t6 := bT.cell 6
      have t7 := bT.cell 7
      have t8 := bT.cell 8
      have t9 := bT.cell 9
      have t10 := bT.cell 10
      have t11 := bT.cell 11
      simp at t0 t1 t2 t3 t4 t5 t6 t7 t8 t9 t10 t11
      have i0 := bI.cell 0
      have i1 := bI.cell 1
      have i2 := bI.cell 2
      have i3 := bI.cell 3
      have i4 := bI.cell 4
      have i5 := bI.cell 5
      have i6 := bI.cell 6
      have i7 := bI.cell 7
      have i8 := bI.cell 8
      simp at i0 i1 i2 i3 i4 i5 i6 i7 i8
      have HS4 := Lib.hid (HS.out.keep (nbl wc (.cells #[.int .i64 x.ww, .int .i64 x.wl, .int .i64 na, .int .i64 nb, .int .i64 own.sw, .int .i64 own.sl] 26)))
      have HC3 := Lib.hid (HM3.out _ _ (three_stamps wc x.ww x.wl na nb own.sw own.sl))
      clear bB bT bI HM3
      go_wp2_with fail
      refine HC3.out.mono ?_
      rintro e w4 ⟨rfl, hb4⟩
      have HS5 := Lib.hid ((HS4.out.keep hb4).newBlk 26 #[.int .i64 a1, .int .i64 a2])
      clear hb4
      go_wp2_with fail
      refine (HIK.out _ HS5.out.bel).mono ?_
      rintro e w5 ⟨rfl, hb5⟩
      have hS6 := HS5.out.keep hb5
      have HS6 := Lib.hid (show Has w (rowA 24 3 (.slice A n c) own.l.length (own.l.flatMap chc) :: blkA w4.heap.size 26 #[.int .i64 a1, .int .i64 a2] :: blkA gB 26 #[.int .i64 na, .int .i64 nb] :: blkA (V.heap.size + 1 + 1 + 1 + 1) 40 #[.slice none 0 0, .int .i64 0, .int .i64 0, .int .i64 0, .int .i64 0, .int .i64 0, .string ⟨#[]⟩, .int .i64 0, .int .i64 0, .int .i64 0, .int .i64 0, .slice none 0 0] :: blkA (V.heap.size + 1 + 1 + 1) 26 #[.int .i64 m1, .int .i64 m2] :: blkA (V.heap.size + 1 + 1) 28 (txc x) :: blkA (V.heap.size + 1) 24 #[.int .i64 q, .string s, .bool d] :: blkA (V.heap.size) 38 (itc own (.slice A n c)) :: tbA p r :: T) w5 from hS6.perm (List.perm_middle (l₁ := [_, _])))
      clear hb5 hS6
      go_upto_region 6 with fail
      have HY0 := Lib.hid HS6.out.drew
      refine wp_region_held_drew (S := Has w (blkA w4.heap.size 26 #[.int .i64 a1, .int .i64 a2] :: blkA gB 26 #[.int .i64 na, .int .i64 nb] :: blkA (V.heap.size + 1 + 1 + 1 + 1) 40 #[.slice none 0 0, .int .i64 0, .int .i64 0, .int .i64 0, .int .i64 0, .int .i64 0, .string ⟨#[]⟩, .int .i64 0, .int .i64 0, .int .i64 0, .int .i64 0, .slice none 0 0] :: blkA (V.heap.size + 1 + 1 + 1) 26 #[.int .i64 m1, .int .i64 m2] :: blkA (V.heap.size + 1 + 1) 28 (txc x) :: blkA (V.heap.size + 1) 24 #[.int .i64 q, .string s, .bool d] :: blkA (V.heap.size) 38 (itc own (.slice A n c)) :: tbA p r :: T)) hmix (HY0.out.tail) (fun hS => ?_)
      simp only [List.size_toArray, List.length_cons, List.length_nil, Nat.reduceAdd, Array.replicate_succ, Array.replicate_zero]
      refine wpAnyH_take (i := 0) (oi := ⟨some 48, Op.load 28 (Operand.tmp 10), 28, "poke.go:92", #[], none⟩) (v := ?v0y) rfl (by kernel_rfl) (by kernel_rfl) (by kernel_rfl) (fun _ _ _ h => h) (Or.inl ⟨by rfl, ?hy0y⟩) (by assumption) ?rest0y
      case hy0y => (intro V2 hSw; (try dsimp only at hSw); have tq := hSw.blkAt (g := V.heap.size + 1 + 1) (t := 28) (cs := (txc x)) (by simp); have t0 := tq.cell 0; have t1 := tq.cell 1; have t2 := tq.cell 2; have t3 := tq.cell 3; have t4 := tq.cell 4; have t5 := tq.cell 5; have t6 := tq.cell 6; have t7 := tq.cell 7; have t8 := tq.cell 8; have t9 := tq.cell 9; have t10 := tq.cell 10; have t11 := tq.cell 11; simp at t0 t1 t2 t3 t4 t5 t6 t7 t8 t9 t10 t11; go_simp; all_goals (with_reducible rfl))
      try simp only [Act.put, List.setIfInBounds_toArray, List.set_cons_zero, List.set_cons_succ]
      refine wpAnyH_take (i := 1) (oi := ⟨some 49, Op.load 26 (Operand.tmp 16), 26, "poke.go:92", #[], none⟩) (v := ?v1y) rfl (by kernel_rfl) (by kernel_rfl) (by kernel_rfl) (fun _ _ _ h => h) (Or.inl ⟨by rfl, ?hy1y⟩) (by assumption) ?rest1y
      case hy1y => (intro V2 hSw; (try dsimp only at hSw); have tq := hSw.blkAt (g := w4.heap.size) (t := 26) (cs := #[.int .i64 a1, .int .i64 a2]) (by simp); have t0 := tq.cell 0; have t1 := tq.cell 1; simp at t0 t1; go_simp; all_goals (with_reducible rfl))
      try simp only [Act.put, List.setIfInBounds_toArray, List.set_cons_zero, List.set_cons_succ]
      refine wpAnyH_take (i := 2) (oi := ⟨some 50, Op.fieldAddr 38 (Operand.tmp 8) 6, 0, "poke.go:92", #[], none⟩) (v := ?v2y) rfl (by kernel_rfl) (by kernel_rfl) (by kernel_rfl) (fun _ _ _ h => h) (Or.inl ⟨by rfl, ?hy2y⟩) (by assumption) ?rest2y
      case hy2y => (intro V2 hSw; (try dsimp only at hSw); go_simp; all_goals (with_reducible rfl))
      try simp only [Act.put, List.setIfInBounds_toArray, List.set_cons_zero, List.set_cons_succ]
      refine wpAnyH_take (i := 3) (oi := ⟨some 51, Op.load 36 (Operand.tmp 50), 36, "poke.go:92", #[⟨2, .data⟩], none⟩) (v := ?v3y) rfl (by kernel_rfl) (by kernel_rfl) (by kernel_rfl) (fun _ _ _ h => h) (Or.inl ⟨by rfl, ?hy3y⟩) (by assumption) ?rest3y
      case hy3y => (intro V2 hSw; (try dsimp only at hSw); have tq := hSw.blkAt (g := V.heap.size) (t := 38) (cs := (itc own (.slice A n c))) (by simp); have t0 := tq.cell 0; have t1 := tq.cell 1; have t2 := tq.cell 2; have t3 := tq.cell 3; have t4 := tq.cell 4; have t5 := tq.cell 5; have t6 := tq.cell 6; have t7 := tq.cell 7; have t8 := tq.cell 8; simp at t0 t1 t2 t3 t4 t5 t6 t7 t8; go_simp; all_goals (with_reducible rfl))
      try simp only [Act.put, List.setIfInBounds_toArray, List.set_cons_zero, List.set_cons_succ]
      refine wpAnyH_take (i := 4) (oi := ⟨some 52, Op.load 24 (Operand.tmp 9), 24, "poke.go:92", #[], none⟩) (v := ?v4y) rfl (by kernel_rfl) (by kernel_rfl) (by kernel_rfl) (fun _ _ _ h => h) (Or.inl ⟨by rfl, ?hy4y⟩) (by assumption) ?rest4y
      case hy4y => (intro V2 hSw; (try dsimp only at hSw); have tq := hSw.blkAt (g := V.heap.size + 1) (t := 24) (cs := #[.int .i64 q, .string s, .bool d]) (by simp); have t0 := tq.cell 0; have t1 := tq.cell 1; have t2 := tq.cell 2; simp at t0 t1 t2; go_simp; all_goals (with_reducible rfl))
      try simp only [Act.put, List.setIfInBounds_toArray, List.set_cons_zero, List.set_cons_succ]
      refine wpAnyH_ready (rs := [5]) (by kernel_rfl) (by simp) ?_
      refine AllReadyH.cons (o := ⟨some 53, Op.buildSlice 36 1 #[(0, Operand.tmp 52)], 36, "poke.go:92", #[⟨4, .data⟩], none⟩) rfl (fun K hK => ?_) AllReadyH.nil
      go_simp
      have hX := HY0.out.newBlk 24 #[.int .i64 q, .string s, .bool d]
      refine hK.out _ _ (hX.tail.tail) (fun hS => ?_)
      clear hK K
      try simp only [Act.put, List.setIfInBounds_toArray, List.set_cons_zero, List.set_cons_succ]
      have HY1 := Lib.hid hX
      clear hX
      refine wpAnyH_ready (rs := [6]) (by kernel_rfl) (by simp) ?_
      refine AllReadyH.cons (o := ⟨some 54, Op.call { callee := Callee.builtin Builtin.append, args := #[Operand.tmp 51, Operand.tmp 53], argTypes := #[36, 36] }, 36, "poke.go:92", #[⟨3, .data⟩, ⟨5, .data⟩], none⟩) rfl (fun K hK => ?_) AllReadyH.nil
      refine step_appI rfl _ _ rfl (.slice A n c) own.l (by first | rfl | assumption) HY1.out.swap.rowOf _ 1 ⟨q, s, d⟩ (by first | rfl | (simp; rfl)) HY1.out.blk.1 (by omega) ?_
      intro v5 w7 hr5 hg5 hob5 hf5
      obtain ⟨A5, n5, c5, rfl⟩ := hf5
      have hX := HY1.out.swap.rowTurn hr5 hg5 hob5
      rw [flat_snoc] at hr5
      obtain ⟨A6, c6, hv6, hat6, hnc6, hcm6, -⟩ := chRow hr5
      injection hv6 with hv1 hv2 hv3
      subst hv1 hv2 hv3
      refine hK.out _ _ (hX.tail.tail) (fun hS => ?_)
      clear hK K
      try simp only [Act.put, List.setIfInBounds_toArray, List.set_cons_zero, List.set_cons_succ]
      have HY2 := Lib.hid hX
      have HAT := Lib.hid hat6
      clear hX hr5 hg5 hob5 hat6
      refine wpAnyH_ready (rs := [7]) (by kernel_rfl) (by simp) ?_
      refine AllReadyH.cons (o := ⟨some 55, Op.call { callee := Callee.value (Operand.func 92), args := #[Operand.tmp 48, Operand.tmp 49, Operand.tmp 54], argTypes := #[28, 26, 36] }, 38, "poke.go:92", #[⟨0, .data⟩, ⟨1, .data⟩, ⟨6, .data⟩, ⟨6, .chain⟩], none⟩) rfl (fun K hK => ?_) AllReadyH.nil
      go_simp
      refine (intentOf_c x a1 a2 (own.l ++ [⟨q, s, d⟩]) _ _ _ _).mono ?_
      rintro e w8 ⟨rfl, hb8⟩
      have hX := HY2.out.keep hb8
      refine hK.out _ _ (hX.tail.tail) (fun hS => ?_)
      clear hK K
      try simp only [Act.put, List.setIfInBounds_toArray, List.set_cons_zero, List.set_cons_succ]
      have HY3 := Lib.hid hX
      have HAT2 := Lib.hid (HAT.out.below hb8)
      clear hX hb8
      refine wpAnyH_ready (rs := [8]) (by kernel_rfl) (by simp) ?_
      refine AllReadyH.cons (o := ⟨some 56, Op.call { callee := Callee.value (Operand.func 98), args := #[Operand.tmp 55], argTypes := #[38] }, 118, "poke.go:92", #[⟨7, .data⟩, ⟨7, .chain⟩], none⟩) rfl (fun K hK => ?_) AllReadyH.nil
      go_simp
      refine (HIT.out _ _ _ w8 HAT2.out (by omega)).mono ?_
      rintro e w9 ⟨rfl, hb9⟩
      have hX := HY3.out.keep hb9
      refine hK.out _ _ (hX.tail.tail) (fun hS => ?_)
      clear hK K
      try simp only [Act.put, List.setIfInBounds_toArray, List.set_cons_zero, List.set_cons_succ]
      have HY4 := Lib.hid hX
      clear hX hb9
      refine wpAnyH_take (i := 9) (oi := ⟨some 47, Op.move (Operand.tmp 56), 118, "poke.go:92", #[⟨8, .data⟩], none⟩) (v := ?v9y) rfl (by kernel_rfl) (by kernel_rfl) (by kernel_rfl) (fun _ _ _ h => h) (Or.inl ⟨by rfl, ?hy9y⟩) (by assumption) ?rest9y
      case hy9y => (intro V2 hSw; (try dsimp only at hSw); go_simp; all_goals (with_reducible rfl))
      try simp only [Act.put, List.setIfInBounds_toArray, List.set_cons_zero, List.set_cons_succ]
      refine wpAnyH_take (i := 10) (oi := ⟨some 57, Op.extract (Operand.tmp 47) 0, 9, "poke.go:92", #[⟨9, .data⟩], none⟩) (v := ?v10y) rfl (by kernel_rfl) (by kernel_rfl) (by kernel_rfl) (fun _ _ _ h => h) (Or.inl ⟨by rfl, ?hy10y⟩) (by assumption) ?rest10y
      case hy10y => (intro V2 hSw; (try dsimp only at hSw); go_simp; all_goals (with_reducible rfl))
      try simp only [Act.put, List.setIfInBounds_toArray, List.set_cons_zero, List.set_cons_succ]
      refine wpAnyH_take (i := 11) (oi := ⟨some 58, Op.extract (Operand.tmp 47) 1, 41, "poke.go:92", #[⟨9, .data⟩, { on := 12, ground := Ground.gcOnly Departure.lateStores }], none⟩) (v := ?v11y) rfl (by kernel_rfl) (by kernel_rfl) (by kernel_rfl) (fun _ _ _ h => h) (Or.inl ⟨by rfl, ?hy11y⟩) (by assumption) ?rest11y
      case hy11y => (intro V2 hSw; (try dsimp only at hSw); go_simp; all_goals (with_reducible rfl))
      try simp only [Act.put, List.setIfInBounds_toArray, List.set_cons_zero, List.set_cons_succ]
      refine wpAnyH_take (i := 12) (oi := ⟨some 19, Op.assign (Operand.tmp 57), 9, "poke.go:92", #[⟨10, .data⟩, ⟨8, .chain⟩, ⟨0, .phase⟩, ⟨1, .phase⟩, ⟨2, .phase⟩, ⟨3, .phase⟩, ⟨4, .phase⟩, ⟨5, .phase⟩, ⟨6, .phase⟩, ⟨7, .phase⟩, ⟨8, .phase⟩, ⟨9, .phase⟩, ⟨10, .phase⟩, { on := 11, ground := Ground.textOnly Departure.lateStores }], none⟩) (v := ?v12y) rfl (by kernel_rfl) (by kernel_rfl) (by kernel_rfl) (fun _ _ _ h => h) (Or.inl ⟨by rfl, ?hy12y⟩) (by assumption) ?rest12y
      case hy12y => (intro V2 hSw; (try dsimp only at hSw); go_simp; all_goals (with_reducible rfl))
      try simp only [Act.put, List.setIfInBounds_toArray, List.set_cons_zero, List.set_cons_succ]
      refine wpAnyH_take (i := 13) (oi := ⟨some 20, Op.assign (Operand.tmp 58), 41, "poke.go:92", #[⟨11, .data⟩, ⟨12, .chain⟩, ⟨0, .phase⟩, ⟨1, .phase⟩, ⟨2, .phase⟩, ⟨3, .phase⟩, ⟨4, .phase⟩, ⟨5, .phase⟩, ⟨6, .phase⟩, ⟨7, .phase⟩, ⟨8, .phase⟩, ⟨9, .phase⟩, ⟨10, .phase⟩, ⟨11, .phase⟩, ⟨12, .phase⟩], none⟩) (v := ?v13y) rfl (by kernel_rfl) (by kernel_rfl) (by kernel_rfl) (fun _ _ _ h => h) (Or.inl ⟨by rfl, ?hy13y⟩) (by assumption) ?rest13y
      case hy13y => (intro V2 hSw; (try dsimp only at hSw); go_simp; all_goals (with_reducible rfl))
      try simp only [Act.put, List.setIfInBounds_toArray, List.set_cons_zero, List.set_cons_succ]
      refine wpAnyH_done (by kernel_rfl) ?_ _
      skip
      obtain ⟨vR, nR, xR, HY5⟩ : ∃ vR nR xR, Hid (Has w (rowA 24 3 vR nR xR :: blkA w5.heap.size 24 #[.int .i64 q, .string s, .bool d] :: blkA w4.heap.size 26 #[.int .i64 a1, .int .i64 a2] :: blkA gB 26 #[.int .i64 na, .int .i64 nb] :: blkA (V.heap.size + 1 + 1 + 1 + 1) 40 #[.slice none 0 0, .int .i64 0, .int .i64 0, .int .i64 0, .int .i64 0, .int .i64 0, .string ⟨#[]⟩, .int .i64 0, .int .i64 0, .int .i64 0, .int .i64 0, .slice none 0 0] :: blkA (V.heap.size + 1 + 1 + 1) 26 #[.int .i64 m1, .int .i64 m2] :: blkA (V.heap.size + 1 + 1) 28 (txc x) :: blkA (V.heap.size + 1) 24 #[.int .i64 q, .string s, .bool d] :: blkA (V.heap.size) 38 (itc own (.slice A n c)) :: tbA p r :: T) w9) := ⟨_, _, _, HY4⟩
      have bO := HY5.out.newBlk 93 #[.string (bs (ikey (sb key))), .string tx, .bool false]
      have bD := (bO.perm (List.perm_middle (l₁ := [_, _, _, _, _]))).blk.1
      have bS := bO.blkAt (g := w4.heap.size) (t := 26) (cs := #[.int .i64 a1, .int .i64 a2]) (by simp)
      have p0 := bD.cell 0
      have f0 := bD.frozen 0
      have p1 := bD.cell 1
      have f1 := bD.frozen 1
      have p2 := bD.cell 2
      have f2 := bD.frozen 2
      have p3 := bD.cell 3
      have f3 := bD.frozen 3
      have p4 := bD.cell 4
      have f4 := bD.frozen 4
      have p5 := bD.cell 5
      have f5 := bD.frozen 5
      have p6 := bD.cell 6
      have f6 := bD.frozen 6
      have p7 := bD.cell 7
      have f7 := bD.frozen 7
      have p8 := bD.cell 8
      have f8 := bD.frozen 8
      have p9 := bD.cell 9
      have f9 := bD.frozen 9
      have p10 := bD.cell 10
      have f10 := bD.frozen 10
      have p11 := bD.cell 11
      have f11 := bD.frozen 11
      simp at p0 p1 p2 p3 p4 p5 p6 p7 p8 p9 p10 p11
      (try simp at f0 f1 f2 f3 f4 f5 f6 f7 f8 f9 f10 f11)
      have z0 := bS.cell 0
      have z1 := bS.cell 1
      simp at z0 z1
      have HO := Lib.hid (bO.perm (List.perm_middle (l₁ := [_, _, _, _, _])))
      clear bO bD bS HY4
      go_wp2_with fail
      have hF := Has.all12 (v0 := .slice (some ⟨w9.heap.size, 0, none⟩) 1 1) (v1 := .int .i64 a1) (v2 := .int .i64 a2) (v3 := .int .i64 0) (v4 := .int .i64 0) (v5 := .int .i64 0) (v6 := .string ⟨#[]⟩) (v7 := .int .i64 0) (v8 := .int .i64 0) (v9 := .int .i64 0) (v10 := .int .i64 0) (v11 := .slice none 0 0) HO.out
      have hop2 := hop_of (key := key) HTX.out a1 a2 (Has.dropN [_, _, _, _, _, _, _, _] (hF.tail.perm (List.perm_middle (l₁ := [_, _, _, _, _, _, _, _])).symm))
      exact ret_dn2 rfl rfl hF.blk.1 rfl rfl (AnsD.of (A := none) (n := 0) (c := 0) rfl rfl hop2 (ChAt.nil _ _) (by omega))
  · rw [if_neg hE]
    have hE2 : (E == 0) = false := by simpa using hE
    go_enter Tryz.func46, Tryz.ntmps46
    go_upto_region 1 with fail
    go_cut [14, 15] from 21 to 30 (fun v u wx => ∃ gB, v = .pointer (some ⟨gB, 0, none⟩) ∧ u = .int .i64 E ∧ Hid (Has w (blkA gB 26 #[.int .i64 na, .int .i64 nb] :: rowA 24 3 (.slice A n c) own.l.length (own.l.flatMap chc) :: blkA (V.heap.size + 1 + 1 + 1 + 1) 40 #[.slice none 0 0, .int .i64 0, .int .i64 0, .int .i64 0, .int .i64 0, .int .i64 0, .string ⟨#[]⟩, .int .i64 0, .int .i64 0, .int .i64 0, .int .i64 0, .slice none 0 0] :: blkA (V.heap.size + 1 + 1 + 1) 26 #[.int .i64 m1, .int .i64 m2] :: blkA (V.heap.size + 1 + 1) 28 (txc x) :: blkA (V.heap.size + 1) 24 #[.int .i64 q, .string s, .bool d] :: blkA (V.heap.size) 38 (itc own (.slice A n c)) :: tbA p r :: T) wx))
    case first =>
      obtain ⟨V1, hV1⟩ : ∃ V1, (((((V.alloc (.cells (itc own (.slice A n c)) 38)).alloc (.cells #[.int .i64 q, .string s, .bool d] 24)).alloc (.cells (txc x) 28)).alloc (.cells #[.int .i64 m1, .int .i64 m2] 26)).alloc (.cells #[.slice none 0 0, .int .i64 0, .int .i64 0, .int .i64 0, .int .i64 0, .int .i64 0, .string ⟨#[]⟩, .int .i64 0, .int .i64 0, .int .i64 0, .int .i64 0, .slice none 0 0] 40)) = V1 := ⟨_, rfl⟩
      rw [hV1] at H1 ⊢
      clear hV1
      have HX0 := Lib.hid H1.out.drew
      refine wp_region_held_drew (S := Has w (rowA 24 3 (.slice A n c) own.l.length (own.l.flatMap chc) :: blkA (V.heap.size + 1 + 1 + 1 + 1) 40 #[.slice none 0 0, .int .i64 0, .int .i64 0, .int .i64 0, .int .i64 0, .int .i64 0, .string ⟨#[]⟩, .int .i64 0, .int .i64 0, .int .i64 0, .int .i64 0, .slice none 0 0] :: blkA (V.heap.size + 1 + 1 + 1) 26 #[.int .i64 m1, .int .i64 m2] :: blkA (V.heap.size + 1 + 1) 28 (txc x) :: blkA (V.heap.size + 1) 24 #[.int .i64 q, .string s, .bool d] :: blkA (V.heap.size) 38 (itc own (.slice A n c)) :: tbA p r :: T)) hmix (HX0.out) (fun hS => ?_)
      simp only [List.size_toArray, List.length_cons, List.length_nil, Nat.reduceAdd, Array.replicate_succ, Array.replicate_zero]
      refine wpAnyH_take (i := 0) (oi := ⟨some 22, Op.load 26 (Operand.tmp 11), 26, "poke.go:86", #[], none⟩) (v := ?v0x) rfl (by kernel_rfl) (by kernel_rfl) (by kernel_rfl) (fun _ _ _ h => h) (Or.inl ⟨by rfl, ?hy0x⟩) (by assumption) ?rest0x
      case hy0x => (intro V2 hSw; (try dsimp only at hSw); have tq := hSw.blkAt (g := V.heap.size + 1 + 1 + 1) (t := 26) (cs := #[.int .i64 m1, .int .i64 m2]) (by simp); have t0 := tq.cell 0; have t1 := tq.cell 1; simp at t0 t1; go_simp; all_goals (with_reducible rfl))
      try simp only [Act.put, List.setIfInBounds_toArray, List.set_cons_zero, List.set_cons_succ]
      refine wpAnyH_take (i := 1) (oi := ⟨some 23, Op.move (Operand.tmp 0), 31, "poke.go:86", #[], none⟩) (v := ?v1x) rfl (by kernel_rfl) (by kernel_rfl) (by kernel_rfl) (fun _ _ _ h => h) (Or.inl ⟨by rfl, ?hy1x⟩) (by assumption) ?rest1x
      case hy1x => (intro V2 hSw; (try dsimp only at hSw); go_simp; all_goals (with_reducible rfl))
      try simp only [Act.put, List.setIfInBounds_toArray, List.set_cons_zero, List.set_cons_succ]
      refine wpAnyH_take (i := 2) (oi := ⟨some 24, Op.move (Operand.tmp 1), 9, "poke.go:86", #[], none⟩) (v := ?v2x) rfl (by kernel_rfl) (by kernel_rfl) (by kernel_rfl) (fun _ _ _ h => h) (Or.inl ⟨by rfl, ?hy2x⟩) (by assumption) ?rest2x
      case hy2x => (intro V2 hSw; (try dsimp only at hSw); go_simp; all_goals (with_reducible rfl))
      try simp only [Act.put, List.setIfInBounds_toArray, List.set_cons_zero, List.set_cons_succ]
      refine wpAnyH_ready (rs := [3, 10]) (by kernel_rfl) (by simp) ?_
      refine AllReadyH.cons (o := ⟨some 25, Op.call { callee := Callee.value (Operand.func 97), args := #[Operand.tmp 23, Operand.tmp 24], argTypes := #[31, 9] }, 26, "poke.go:86", #[⟨1, .data⟩, ⟨2, .data⟩], none⟩) rfl (fun K hK => ?_) ?_
      · go_simp
        refine (HN.out _ _ HX0.out (by simp)).mono ?_
        rintro e u1 ⟨rfl, hbu⟩
        have hX := HX0.out.keep hbu
        refine hK.out _ _ (hX) (fun hS => ?_)
        clear hK K
        try simp only [Act.put, List.setIfInBounds_toArray, List.set_cons_zero, List.set_cons_succ]
        have HX1 := Lib.hid hX
        clear hX
        clear hbu
        refine wpAnyH_ready (rs := [4, 10]) (by kernel_rfl) (by simp) ?_
        refine AllReadyH.cons (o := ⟨some 26, Op.buildSlice 187 2 #[(0, Operand.tmp 22), (1, Operand.tmp 25)], 187, "poke.go:86", #[⟨0, .data⟩, ⟨3, .data⟩], none⟩) rfl (fun K hK => ?_) ?_
        · go_simp
          have hX := HX1.out.newBlk 26 #[.int .i64 m1, .int .i64 m2, .int .i64 nv1, .int .i64 nv2]
          (try simp only [World.size_alloc] at hX)
          refine hK.out _ _ (hX.tail) (fun hS => ?_)
          clear hK K
          try simp only [Act.put, List.setIfInBounds_toArray, List.set_cons_zero, List.set_cons_succ]
          have HX2 := Lib.hid hX
          clear hX
          refine wpAnyH_ready (rs := [5, 10]) (by kernel_rfl) (by simp) ?_
          refine AllReadyH.cons (o := ⟨some 27, Op.call { callee := Callee.value (Operand.func 71), args := #[Operand.tmp 26], argTypes := #[187] }, 26, "poke.go:86", #[⟨4, .data⟩, ⟨3, .chain⟩], none⟩) rfl (fun K hK => ?_) ?_
          · go_simp
            refine (HMX.out _ _ (stamps2_blk (HX2.out.blkAt (g := u1.heap.size) (t := 26) (cs := #[.int .i64 m1, .int .i64 m2, .int .i64 nv1, .int .i64 nv2]) (by simp)))).mono ?_
            rintro e u3 ⟨rfl, hbu⟩
            have hX := HX2.out.keep hbu
            refine hK.out _ _ (hX.tail) (fun hS => ?_)
            clear hK K
            try simp only [Act.put, List.setIfInBounds_toArray, List.set_cons_zero, List.set_cons_succ]
            have HX3 := Lib.hid hX
            clear hX
            clear hbu
            refine wpAnyH_ready (rs := [6, 10]) (by kernel_rfl) (by simp) ?_
            refine AllReadyH.cons (o := ⟨some 28, Op.call { callee := Callee.value (Operand.func 96), args := #[Operand.tmp 27], argTypes := #[26] }, 115, "poke.go:86", #[⟨5, .data⟩, ⟨5, .chain⟩], none⟩) rfl (fun K hK => ?_) ?_
            · go_simp
              refine (HNX.out _).mono ?_
              rintro e u4 ⟨rfl, hbu⟩
              have hX := HX3.out.keep hbu
              refine hK.out _ _ (hX.tail) (fun hS => ?_)
              clear hK K
              try simp only [Act.put, List.setIfInBounds_toArray, List.set_cons_zero, List.set_cons_succ]
              have HX4 := Lib.hid hX
              clear hX
              clear hbu
              refine wpAnyH_take (i := 7) (oi := ⟨some 21, Op.move (Operand.tmp 28), 115, "poke.go:86", #[⟨6, .data⟩], none⟩) (v := ?v7xaaaa) rfl (by kernel_rfl) (by kernel_rfl) (by kernel_rfl) (fun _ _ _ h => h) (Or.inl ⟨by rfl, ?hy7xaaaa⟩) (by assumption) ?rest7xaaaa
              case hy7xaaaa => (intro V2 hSw; (try dsimp only at hSw); go_simp; all_goals (with_reducible rfl))
              try simp only [Act.put, List.setIfInBounds_toArray, List.set_cons_zero, List.set_cons_succ]
              refine wpAnyH_take (i := 8) (oi := ⟨some 29, Op.extract (Operand.tmp 21) 0, 26, "poke.go:86", #[⟨7, .data⟩], none⟩) (v := ?v8xaaaa) rfl (by kernel_rfl) (by kernel_rfl) (by kernel_rfl) (fun _ _ _ h => h) (Or.inl ⟨by rfl, ?hy8xaaaa⟩) (by assumption) ?rest8xaaaa
              case hy8xaaaa => (intro V2 hSw; (try dsimp only at hSw); go_simp; all_goals (with_reducible rfl))
              try simp only [Act.put, List.setIfInBounds_toArray, List.set_cons_zero, List.set_cons_succ]
              refine wpAnyH_take (i := 9) (oi := ⟨some 30, Op.extract (Operand.tmp 21) 1, 41, "poke.go:86", #[⟨7, .data⟩, { on := 11, ground := Ground.gcOnly Departure.lateStores }], none⟩) (v := ?v9xaaaa) rfl (by kernel_rfl) (by kernel_rfl) (by kernel_rfl) (fun _ _ _ h => h) (Or.inl ⟨by rfl, ?hy9xaaaa⟩) (by assumption) ?rest9xaaaa
              case hy9xaaaa => (intro V2 hSw; (try dsimp only at hSw); go_simp; all_goals (with_reducible rfl))
              try simp only [Act.put, List.setIfInBounds_toArray, List.set_cons_zero, List.set_cons_succ]
              refine wpAnyH_ready (rs := [10]) (by kernel_rfl) (by simp) ?_
              refine AllReadyH.cons (o := ⟨some 14, Op.alloc 26, 0, "poke.go:86", #[], none⟩) rfl (fun K hK => ?_) AllReadyH.nil
              go_simp
              have hX := HX4.out.newBlk 26 #[.int .i64 0, .int .i64 0]
              (try simp only [World.size_alloc] at hX)
              refine hK.out _ _ (hX.tail.tail) (fun hS => ?_)
              clear hK K
              try simp only [Act.put, List.setIfInBounds_toArray, List.set_cons_zero, List.set_cons_succ]
              have HX5 := Lib.hid hX
              clear hX
              refine wpAnyH_ready (rs := [11]) (by kernel_rfl) (by simp) ?_
              refine AllReadyH.cons (o := ⟨none, Op.store 26 (Operand.tmp 14) (Operand.tmp 29), 0, "poke.go:86", #[⟨10, .data⟩, ⟨8, .data⟩, ⟨6, .chain⟩, ⟨0, .phase⟩, ⟨1, .phase⟩, ⟨2, .phase⟩, ⟨3, .phase⟩, ⟨4, .phase⟩, ⟨5, .phase⟩, ⟨6, .phase⟩, ⟨7, .phase⟩, ⟨8, .phase⟩, { on := 9, ground := Ground.textOnly Departure.lateStores }, ⟨10, .phase⟩], none⟩) rfl (fun K hK => ?_) AllReadyH.nil
              go_simp
              have hY := HX4.out.newBlk 26 #[.int .i64 na, .int .i64 nb]
              (try simp only [World.size_alloc] at hY)
              refine hK.out _ _ (hY.tail.tail) (fun hS => ?_)
              clear hK K
              try simp only [Act.put, List.setIfInBounds_toArray, List.set_cons_zero, List.set_cons_succ]
              have HX6 := Lib.hid hY
              clear hY
              refine wpAnyH_take (i := 12) (oi := ⟨some 15, Op.assign (Operand.tmp 30), 41, "poke.go:86", #[⟨9, .data⟩, ⟨11, .chain⟩, ⟨0, .phase⟩, ⟨1, .phase⟩, ⟨2, .phase⟩, ⟨3, .phase⟩, ⟨4, .phase⟩, ⟨5, .phase⟩, ⟨6, .phase⟩, ⟨7, .phase⟩, ⟨8, .phase⟩, ⟨9, .phase⟩, ⟨10, .phase⟩, ⟨11, .phase⟩], none⟩) (v := ?v12xaaaa) rfl (by kernel_rfl) (by kernel_rfl) (by kernel_rfl) (fun _ _ _ h => h) (Or.inl ⟨by rfl, ?hy12xaaaa⟩) (by assumption) ?rest12xaaaa
              case hy12xaaaa => (intro V2 hSw; (try dsimp only at hSw); go_simp; all_goals (with_reducible rfl))
              try simp only [Act.put, List.setIfInBounds_toArray, List.set_cons_zero, List.set_cons_succ]
              refine wpAnyH_done (by kernel_rfl) ?_ _
              (try go_wp2_with fail)
              go_meet
              exact ⟨_, rfl, rfl, Lib.hid HX6.out.swap.tail⟩
            refine AllReadyH.cons (o := ⟨some 14, Op.alloc 26, 0, "poke.go:86", #[], none⟩) rfl (fun K hK => ?_) AllReadyH.nil
            go_simp
            have hX := HX3.out.newBlk 26 #[.int .i64 0, .int .i64 0]
            (try simp only [World.size_alloc] at hX)
            refine hK.out _ _ (hX.tail.tail) (fun hS => ?_)
            clear hK K
            try simp only [Act.put, List.setIfInBounds_toArray, List.set_cons_zero, List.set_cons_succ]
            have HX4 := Lib.hid hX
            clear hX
            refine wpAnyH_ready (rs := [6]) (by kernel_rfl) (by simp) ?_
            refine AllReadyH.cons (o := ⟨some 28, Op.call { callee := Callee.value (Operand.func 96), args := #[Operand.tmp 27], argTypes := #[26] }, 115, "poke.go:86", #[⟨5, .data⟩, ⟨5, .chain⟩], none⟩) rfl (fun K hK => ?_) AllReadyH.nil
            go_simp
            refine (HNX.out _).mono ?_
            rintro e u5 ⟨rfl, hbu⟩
            have hX := HX4.out.keep hbu
            refine hK.out _ _ (hX.tail.tail) (fun hS => ?_)
            clear hK K
            try simp only [Act.put, List.setIfInBounds_toArray, List.set_cons_zero, List.set_cons_succ]
            have HX5 := Lib.hid hX
            clear hX
            clear hbu
            refine wpAnyH_take (i := 7) (oi := ⟨some 21, Op.move (Operand.tmp 28), 115, "poke.go:86", #[⟨6, .data⟩], none⟩) (v := ?v7xaaab) rfl (by kernel_rfl) (by kernel_rfl) (by kernel_rfl) (fun _ _ _ h => h) (Or.inl ⟨by rfl, ?hy7xaaab⟩) (by assumption) ?rest7xaaab
            case hy7xaaab => (intro V2 hSw; (try dsimp only at hSw); go_simp; all_goals (with_reducible rfl))
            try simp only [Act.put, List.setIfInBounds_toArray, List.set_cons_zero, List.set_cons_succ]
            refine wpAnyH_take (i := 8) (oi := ⟨some 29, Op.extract (Operand.tmp 21) 0, 26, "poke.go:86", #[⟨7, .data⟩], none⟩) (v := ?v8xaaab) rfl (by kernel_rfl) (by kernel_rfl) (by kernel_rfl) (fun _ _ _ h => h) (Or.inl ⟨by rfl, ?hy8xaaab⟩) (by assumption) ?rest8xaaab
            case hy8xaaab => (intro V2 hSw; (try dsimp only at hSw); go_simp; all_goals (with_reducible rfl))
            try simp only [Act.put, List.setIfInBounds_toArray, List.set_cons_zero, List.set_cons_succ]
            refine wpAnyH_take (i := 9) (oi := ⟨some 30, Op.extract (Operand.tmp 21) 1, 41, "poke.go:86", #[⟨7, .data⟩, { on := 11, ground := Ground.gcOnly Departure.lateStores }], none⟩) (v := ?v9xaaab) rfl (by kernel_rfl) (by kernel_rfl) (by kernel_rfl) (fun _ _ _ h => h) (Or.inl ⟨by rfl, ?hy9xaaab⟩) (by assumption) ?rest9xaaab
            case hy9xaaab => (intro V2 hSw; (try dsimp only at hSw); go_simp; all_goals (with_reducible rfl))
            try simp only [Act.put, List.setIfInBounds_toArray, List.set_cons_zero, List.set_cons_succ]
            refine wpAnyH_ready (rs := [11]) (by kernel_rfl) (by simp) ?_
            refine AllReadyH.cons (o := ⟨none, Op.store 26 (Operand.tmp 14) (Operand.tmp 29), 0, "poke.go:86", #[⟨10, .data⟩, ⟨8, .data⟩, ⟨6, .chain⟩, ⟨0, .phase⟩, ⟨1, .phase⟩, ⟨2, .phase⟩, ⟨3, .phase⟩, ⟨4, .phase⟩, ⟨5, .phase⟩, ⟨6, .phase⟩, ⟨7, .phase⟩, ⟨8, .phase⟩, { on := 9, ground := Ground.textOnly Departure.lateStores }, ⟨10, .phase⟩], none⟩) rfl (fun K hK => ?_) AllReadyH.nil
            have hX := HX5.out
            have kB := hX.blk.1
            have p0 := kB.cell 0
            have f0 := kB.frozen 0
            have p1 := kB.cell 1
            have f1 := kB.frozen 1
            simp at p0 p1
            (try simp at f0 f1)
            have hY := Has.all2 (v0 := .int .i64 na) (v1 := .int .i64 nb) hX
            go_simp
            refine hK.out _ _ (hY.tail.tail) (fun hS => ?_)
            clear hK K
            try simp only [Act.put, List.setIfInBounds_toArray, List.set_cons_zero, List.set_cons_succ]
            have HX6 := Lib.hid hY
            clear hX hY kB
            refine wpAnyH_take (i := 12) (oi := ⟨some 15, Op.assign (Operand.tmp 30), 41, "poke.go:86", #[⟨9, .data⟩, ⟨11, .chain⟩, ⟨0, .phase⟩, ⟨1, .phase⟩, ⟨2, .phase⟩, ⟨3, .phase⟩, ⟨4, .phase⟩, ⟨5, .phase⟩, ⟨6, .phase⟩, ⟨7, .phase⟩, ⟨8, .phase⟩, ⟨9, .phase⟩, ⟨10, .phase⟩, ⟨11, .phase⟩], none⟩) (v := ?v12xaaab) rfl (by kernel_rfl) (by kernel_rfl) (by kernel_rfl) (fun _ _ _ h => h) (Or.inl ⟨by rfl, ?hy12xaaab⟩) (by assumption) ?rest12xaaab
            case hy12xaaab => (intro V2 hSw; (try dsimp only at hSw); go_simp; all_goals (with_reducible rfl))
            try simp only [Act.put, List.setIfInBounds_toArray, List.set_cons_zero, List.set_cons_succ]
            refine wpAnyH_done (by kernel_rfl) ?_ _
            (try go_wp2_with fail)
            go_meet
            exact ⟨_, rfl, rfl, Lib.hid HX6.out.swap.tail⟩
          refine AllReadyH.cons (o := ⟨some 14, Op.alloc 26, 0, "poke.go:86", #[], none⟩) rfl (fun K hK => ?_) AllReadyH.nil
          go_simp
          have hX := HX2.out.newBlk 26 #[.int .i64 0, .int .i64 0]
          (try simp only [World.size_alloc] at hX)
          refine hK.out _ _ (hX.tail.tail) (fun hS => ?_)
          clear hK K
          try simp only [Act.put, List.setIfInBounds_toArray, List.set_cons_zero, List.set_cons_succ]
          have HX3 := Lib.hid hX
          clear hX
          refine wpAnyH_ready (rs := [5]) (by kernel_rfl) (by simp) ?_
          refine AllReadyH.cons (o := ⟨some 27, Op.call { callee := Callee.value (Operand.func 71), args := #[Operand.tmp 26], argTypes := #[187] }, 26, "poke.go:86", #[⟨4, .data⟩, ⟨3, .chain⟩], none⟩) rfl (fun K hK => ?_) AllReadyH.nil
          go_simp
          refine (HMX.out _ _ (stamps2_blk (HX3.out.blkAt (g := u1.heap.size) (t := 26) (cs := #[.int .i64 m1, .int .i64 m2, .int .i64 nv1, .int .i64 nv2]) (by simp)))).mono ?_
          rintro e u4 ⟨rfl, hbu⟩
          have hX := HX3.out.keep hbu
          refine hK.out _ _ (hX.tail.tail) (fun hS => ?_)
          clear hK K
          try simp only [Act.put, List.setIfInBounds_toArray, List.set_cons_zero, List.set_cons_succ]
          have HX4 := Lib.hid hX
          clear hX
          clear hbu
          refine wpAnyH_ready (rs := [6]) (by kernel_rfl) (by simp) ?_
          refine AllReadyH.cons (o := ⟨some 28, Op.call { callee := Callee.value (Operand.func 96), args := #[Operand.tmp 27], argTypes := #[26] }, 115, "poke.go:86", #[⟨5, .data⟩, ⟨5, .chain⟩], none⟩) rfl (fun K hK => ?_) AllReadyH.nil
          go_simp
          refine (HNX.out _).mono ?_
          rintro e u5 ⟨rfl, hbu⟩
          have hX := HX4.out.keep hbu
          refine hK.out _ _ (hX.tail.tail) (fun hS => ?_)
          clear hK K
          try simp only [Act.put, List.setIfInBounds_toArray, List.set_cons_zero, List.set_cons_succ]
          have HX5 := Lib.hid hX
          clear hX
          clear hbu
          refine wpAnyH_take (i := 7) (oi := ⟨some 21, Op.move (Operand.tmp 28), 115, "poke.go:86", #[⟨6, .data⟩], none⟩) (v := ?v7xaab) rfl (by kernel_rfl) (by kernel_rfl) (by kernel_rfl) (fun _ _ _ h => h) (Or.inl ⟨by rfl, ?hy7xaab⟩) (by assumption) ?rest7xaab
          case hy7xaab => (intro V2 hSw; (try dsimp only at hSw); go_simp; all_goals (with_reducible rfl))
          try simp only [Act.put, List.setIfInBounds_toArray, List.set_cons_zero, List.set_cons_succ]
          refine wpAnyH_take (i := 8) (oi := ⟨some 29, Op.extract (Operand.tmp 21) 0, 26, "poke.go:86", #[⟨7, .data⟩], none⟩) (v := ?v8xaab) rfl (by kernel_rfl) (by kernel_rfl) (by kernel_rfl) (fun _ _ _ h => h) (Or.inl ⟨by rfl, ?hy8xaab⟩) (by assumption) ?rest8xaab
          case hy8xaab => (intro V2 hSw; (try dsimp only at hSw); go_simp; all_goals (with_reducible rfl))
          try simp only [Act.put, List.setIfInBounds_toArray, List.set_cons_zero, List.set_cons_succ]
          refine wpAnyH_take (i := 9) (oi := ⟨some 30, Op.extract (Operand.tmp 21) 1, 41, "poke.go:86", #[⟨7, .data⟩, { on := 11, ground := Ground.gcOnly Departure.lateStores }], none⟩) (v := ?v9xaab) rfl (by kernel_rfl) (by kernel_rfl) (by kernel_rfl) (fun _ _ _ h => h) (Or.inl ⟨by rfl, ?hy9xaab⟩) (by assumption) ?rest9xaab
          case hy9xaab => (intro V2 hSw; (try dsimp only at hSw); go_simp; all_goals (with_reducible rfl))
          try simp only [Act.put, List.setIfInBounds_toArray, List.set_cons_zero, List.set_cons_succ]
          refine wpAnyH_ready (rs := [11]) (by kernel_rfl) (by simp) ?_
          refine AllReadyH.cons (o := ⟨none, Op.store 26 (Operand.tmp 14) (Operand.tmp 29), 0, "poke.go:86", #[⟨10, .data⟩, ⟨8, .data⟩, ⟨6, .chain⟩, ⟨0, .phase⟩, ⟨1, .phase⟩, ⟨2, .phase⟩, ⟨3, .phase⟩, ⟨4, .phase⟩, ⟨5, .phase⟩, ⟨6, .phase⟩, ⟨7, .phase⟩, ⟨8, .phase⟩, { on := 9, ground := Ground.textOnly Departure.lateStores }, ⟨10, .phase⟩], none⟩) rfl (fun K hK => ?_) AllReadyH.nil
          have hX := HX5.out
          have kB := hX.blk.1
          have p0 := kB.cell 0
          have f0 := kB.frozen 0
          have p1 := kB.cell 1
          have f1 := kB.frozen 1
          simp at p0 p1
          (try simp at f0 f1)
          have hY := Has.all2 (v0 := .int .i64 na) (v1 := .int .i64 nb) hX
          go_simp
          refine hK.out _ _ (hY.tail.tail) (fun hS => ?_)
          clear hK K
          try simp only [Act.put, List.setIfInBounds_toArray, List.set_cons_zero, List.set_cons_succ]
          have HX6 := Lib.hid hY
          clear hX hY kB
          refine wpAnyH_take (i := 12) (oi := ⟨some 15, Op.assign (Operand.tmp 30), 41, "poke.go:86", #[⟨9, .data⟩, ⟨11, .chain⟩, ⟨0, .phase⟩, ⟨1, .phase⟩, ⟨2, .phase⟩, ⟨3, .phase⟩, ⟨4, .phase⟩, ⟨5, .phase⟩, ⟨6, .phase⟩, ⟨7, .phase⟩, ⟨8, .phase⟩, ⟨9, .phase⟩, ⟨10, .phase⟩, ⟨11, .phase⟩], none⟩) (v := ?v12xaab) rfl (by kernel_rfl) (by kernel_rfl) (by kernel_rfl) (fun _ _ _ h => h) (Or.inl ⟨by rfl, ?hy12xaab⟩) (by assumption) ?rest12xaab
          case hy12xaab => (intro V2 hSw; (try dsimp only at hSw); go_simp; all_goals (with_reducible rfl))
          try simp only [Act.put, List.setIfInBounds_toArray, List.set_cons_zero, List.set_cons_succ]
          refine wpAnyH_done (by kernel_rfl) ?_ _
          (try go_wp2_with fail)
          go_meet
          exact ⟨_, rfl, rfl, Lib.hid HX6.out.swap.tail⟩
        refine AllReadyH.cons (o := ⟨some 14, Op.alloc 26, 0, "poke.go:86", #[], none⟩) rfl (fun K hK => ?_) AllReadyH.nil
        go_simp
        have hX := HX1.out.newBlk 26 #[.int .i64 0, .int .i64 0]
        (try simp only [World.size_alloc] at hX)
        refine hK.out _ _ (hX.tail) (fun hS => ?_)
        clear hK K
        try simp only [Act.put, List.setIfInBounds_toArray, List.set_cons_zero, List.set_cons_succ]
        have HX2 := Lib.hid hX
        clear hX
        refine wpAnyH_ready (rs := [4]) (by kernel_rfl) (by simp) ?_
        refine AllReadyH.cons (o := ⟨some 26, Op.buildSlice 187 2 #[(0, Operand.tmp 22), (1, Operand.tmp 25)], 187, "poke.go:86", #[⟨0, .data⟩, ⟨3, .data⟩], none⟩) rfl (fun K hK => ?_) AllReadyH.nil
        go_simp
        have hX := HX2.out.newBlk 26 #[.int .i64 m1, .int .i64 m2, .int .i64 nv1, .int .i64 nv2]
        (try simp only [World.size_alloc] at hX)
        refine hK.out _ _ (hX.tail.tail) (fun hS => ?_)
        clear hK K
        try simp only [Act.put, List.setIfInBounds_toArray, List.set_cons_zero, List.set_cons_succ]
        have HX3 := Lib.hid hX
        clear hX
        refine wpAnyH_ready (rs := [5]) (by kernel_rfl) (by simp) ?_
        refine AllReadyH.cons (o := ⟨some 27, Op.call { callee := Callee.value (Operand.func 71), args := #[Operand.tmp 26], argTypes := #[187] }, 26, "poke.go:86", #[⟨4, .data⟩, ⟨3, .chain⟩], none⟩) rfl (fun K hK => ?_) AllReadyH.nil
        go_simp
        refine (HMX.out _ _ (stamps2_blk (HX3.out.blkAt (g := u1.heap.size + 1) (t := 26) (cs := #[.int .i64 m1, .int .i64 m2, .int .i64 nv1, .int .i64 nv2]) (by simp)))).mono ?_
        rintro e u4 ⟨rfl, hbu⟩
        have hX := HX3.out.keep hbu
        refine hK.out _ _ (hX.tail.tail) (fun hS => ?_)
        clear hK K
        try simp only [Act.put, List.setIfInBounds_toArray, List.set_cons_zero, List.set_cons_succ]
        have HX4 := Lib.hid hX
        clear hX
        clear hbu
        refine wpAnyH_ready (rs := [6]) (by kernel_rfl) (by simp) ?_
        refine AllReadyH.cons (o := ⟨some 28, Op.call { callee := Callee.value (Operand.func 96), args := #[Operand.tmp 27], argTypes := #[26] }, 115, "poke.go:86", #[⟨5, .data⟩, ⟨5, .chain⟩], none⟩) rfl (fun K hK => ?_) AllReadyH.nil
        go_simp
        refine (HNX.out _).mono ?_
        rintro e u5 ⟨rfl, hbu⟩
        have hX := HX4.out.keep hbu
        refine hK.out _ _ (hX.tail.tail) (fun hS => ?_)
        clear hK K
        try simp only [Act.put, List.setIfInBounds_toArray, List.set_cons_zero, List.set_cons_succ]
        have HX5 := Lib.hid hX
        clear hX
        clear hbu
        refine wpAnyH_take (i := 7) (oi := ⟨some 21, Op.move (Operand.tmp 28), 115, "poke.go:86", #[⟨6, .data⟩], none⟩) (v := ?v7xab) rfl (by kernel_rfl) (by kernel_rfl) (by kernel_rfl) (fun _ _ _ h => h) (Or.inl ⟨by rfl, ?hy7xab⟩) (by assumption) ?rest7xab
        case hy7xab => (intro V2 hSw; (try dsimp only at hSw); go_simp; all_goals (with_reducible rfl))
        try simp only [Act.put, List.setIfInBounds_toArray, List.set_cons_zero, List.set_cons_succ]
        refine wpAnyH_take (i := 8) (oi := ⟨some 29, Op.extract (Operand.tmp 21) 0, 26, "poke.go:86", #[⟨7, .data⟩], none⟩) (v := ?v8xab) rfl (by kernel_rfl) (by kernel_rfl) (by kernel_rfl) (fun _ _ _ h => h) (Or.inl ⟨by rfl, ?hy8xab⟩) (by assumption) ?rest8xab
        case hy8xab => (intro V2 hSw; (try dsimp only at hSw); go_simp; all_goals (with_reducible rfl))
        try simp only [Act.put, List.setIfInBounds_toArray, List.set_cons_zero, List.set_cons_succ]
        refine wpAnyH_take (i := 9) (oi := ⟨some 30, Op.extract (Operand.tmp 21) 1, 41, "poke.go:86", #[⟨7, .data⟩, { on := 11, ground := Ground.gcOnly Departure.lateStores }], none⟩) (v := ?v9xab) rfl (by kernel_rfl) (by kernel_rfl) (by kernel_rfl) (fun _ _ _ h => h) (Or.inl ⟨by rfl, ?hy9xab⟩) (by assumption) ?rest9xab
        case hy9xab => (intro V2 hSw; (try dsimp only at hSw); go_simp; all_goals (with_reducible rfl))
        try simp only [Act.put, List.setIfInBounds_toArray, List.set_cons_zero, List.set_cons_succ]
        refine wpAnyH_ready (rs := [11]) (by kernel_rfl) (by simp) ?_
        refine AllReadyH.cons (o := ⟨none, Op.store 26 (Operand.tmp 14) (Operand.tmp 29), 0, "poke.go:86", #[⟨10, .data⟩, ⟨8, .data⟩, ⟨6, .chain⟩, ⟨0, .phase⟩, ⟨1, .phase⟩, ⟨2, .phase⟩, ⟨3, .phase⟩, ⟨4, .phase⟩, ⟨5, .phase⟩, ⟨6, .phase⟩, ⟨7, .phase⟩, ⟨8, .phase⟩, { on := 9, ground := Ground.textOnly Departure.lateStores }, ⟨10, .phase⟩], none⟩) rfl (fun K hK => ?_) AllReadyH.nil
        have hX := HX5.out.swap
        have kB := hX.blk.1
        have p0 := kB.cell 0
        have f0 := kB.frozen 0
        have p1 := kB.cell 1
        have f1 := kB.frozen 1
        simp at p0 p1
        (try simp at f0 f1)
        have hY := Has.all2 (v0 := .int .i64 na) (v1 := .int .i64 nb) hX
        go_simp
        refine hK.out _ _ (hY.tail.tail) (fun hS => ?_)
        clear hK K
        try simp only [Act.put, List.setIfInBounds_toArray, List.set_cons_zero, List.set_cons_succ]
        have HX6 := Lib.hid hY
        clear hX hY kB
        refine wpAnyH_take (i := 12) (oi := ⟨some 15, Op.assign (Operand.tmp 30), 41, "poke.go:86", #[⟨9, .data⟩, ⟨11, .chain⟩, ⟨0, .phase⟩, ⟨1, .phase⟩, ⟨2, .phase⟩, ⟨3, .phase⟩, ⟨4, .phase⟩, ⟨5, .phase⟩, ⟨6, .phase⟩, ⟨7, .phase⟩, ⟨8, .phase⟩, ⟨9, .phase⟩, ⟨10, .phase⟩, ⟨11, .phase⟩], none⟩) (v := ?v12xab) rfl (by kernel_rfl) (by kernel_rfl) (by kernel_rfl) (fun _ _ _ h => h) (Or.inl ⟨by rfl, ?hy12xab⟩) (by assumption) ?rest12xab
        case hy12xab => (intro V2 hSw; (try dsimp only at hSw); go_simp; all_goals (with_reducible rfl))
        try simp only [Act.put, List.setIfInBounds_toArray, List.set_cons_zero, List.set_cons_succ]
        refine wpAnyH_done (by kernel_rfl) ?_ _
        (try go_wp2_with fail)
        go_meet
        exact ⟨_, rfl, rfl, Lib.hid HX6.out.swap.tail⟩
      refine AllReadyH.cons (o := ⟨some 14, Op.alloc 26, 0, "poke.go:86", #[], none⟩) rfl (fun K hK => ?_) AllReadyH.nil
      go_simp
      have hX := HX0.out.newBlk 26 #[.int .i64 0, .int .i64 0]
      (try simp only [World.size_alloc] at hX)
      refine hK.out _ _ (hX.tail) (fun hS => ?_)
      clear hK K
      try simp only [Act.put, List.setIfInBounds_toArray, List.set_cons_zero, List.set_cons_succ]
      have HX1 := Lib.hid hX
      clear hX
      refine wpAnyH_ready (rs := [3]) (by kernel_rfl) (by simp) ?_
      refine AllReadyH.cons (o := ⟨some 25, Op.call { callee := Callee.value (Operand.func 97), args := #[Operand.tmp 23, Operand.tmp 24], argTypes := #[31, 9] }, 26, "poke.go:86", #[⟨1, .data⟩, ⟨2, .data⟩], none⟩) rfl (fun K hK => ?_) AllReadyH.nil
      go_simp
      refine (HN.out _ _ HX1.out (by simp)).mono ?_
      rintro e u2 ⟨rfl, hbu⟩
      have hX := HX1.out.keep hbu
      refine hK.out _ _ (hX.tail) (fun hS => ?_)
      clear hK K
      try simp only [Act.put, List.setIfInBounds_toArray, List.set_cons_zero, List.set_cons_succ]
      have HX2 := Lib.hid hX
      clear hX
      clear hbu
      refine wpAnyH_ready (rs := [4]) (by kernel_rfl) (by simp) ?_
      refine AllReadyH.cons (o := ⟨some 26, Op.buildSlice 187 2 #[(0, Operand.tmp 22), (1, Operand.tmp 25)], 187, "poke.go:86", #[⟨0, .data⟩, ⟨3, .data⟩], none⟩) rfl (fun K hK => ?_) AllReadyH.nil
      go_simp
      have hX := HX2.out.newBlk 26 #[.int .i64 m1, .int .i64 m2, .int .i64 nv1, .int .i64 nv2]
      (try simp only [World.size_alloc] at hX)
      refine hK.out _ _ (hX.tail.tail) (fun hS => ?_)
      clear hK K
      try simp only [Act.put, List.setIfInBounds_toArray, List.set_cons_zero, List.set_cons_succ]
      have HX3 := Lib.hid hX
      clear hX
      refine wpAnyH_ready (rs := [5]) (by kernel_rfl) (by simp) ?_
      refine AllReadyH.cons (o := ⟨some 27, Op.call { callee := Callee.value (Operand.func 71), args := #[Operand.tmp 26], argTypes := #[187] }, 26, "poke.go:86", #[⟨4, .data⟩, ⟨3, .chain⟩], none⟩) rfl (fun K hK => ?_) AllReadyH.nil
      go_simp
      refine (HMX.out _ _ (stamps2_blk (HX3.out.blkAt (g := u2.heap.size) (t := 26) (cs := #[.int .i64 m1, .int .i64 m2, .int .i64 nv1, .int .i64 nv2]) (by simp)))).mono ?_
      rintro e u4 ⟨rfl, hbu⟩
      have hX := HX3.out.keep hbu
      refine hK.out _ _ (hX.tail.tail) (fun hS => ?_)
      clear hK K
      try simp only [Act.put, List.setIfInBounds_toArray, List.set_cons_zero, List.set_cons_succ]
      have HX4 := Lib.hid hX
      clear hX
      clear hbu
      refine wpAnyH_ready (rs := [6]) (by kernel_rfl) (by simp) ?_
      refine AllReadyH.cons (o := ⟨some 28, Op.call { callee := Callee.value (Operand.func 96), args := #[Operand.tmp 27], argTypes := #[26] }, 115, "poke.go:86", #[⟨5, .data⟩, ⟨5, .chain⟩], none⟩) rfl (fun K hK => ?_) AllReadyH.nil
      go_simp
      refine (HNX.out _).mono ?_
      rintro e u5 ⟨rfl, hbu⟩
      have hX := HX4.out.keep hbu
      refine hK.out _ _ (hX.tail.tail) (fun hS => ?_)
      clear hK K
      try simp only [Act.put, List.setIfInBounds_toArray, List.set_cons_zero, List.set_cons_succ]
      have HX5 := Lib.hid hX
      clear hX
      clear hbu
      refine wpAnyH_take (i := 7) (oi := ⟨some 21, Op.move (Operand.tmp 28), 115, "poke.go:86", #[⟨6, .data⟩], none⟩) (v := ?v7xb) rfl (by kernel_rfl) (by kernel_rfl) (by kernel_rfl) (fun _ _ _ h => h) (Or.inl ⟨by rfl, ?hy7xb⟩) (by assumption) ?rest7xb
      case hy7xb => (intro V2 hSw; (try dsimp only at hSw); go_simp; all_goals (with_reducible rfl))
      try simp only [Act.put, List.setIfInBounds_toArray, List.set_cons_zero, List.set_cons_succ]
      refine wpAnyH_take (i := 8) (oi := ⟨some 29, Op.extract (Operand.tmp 21) 0, 26, "poke.go:86", #[⟨7, .data⟩], none⟩) (v := ?v8xb) rfl (by kernel_rfl) (by kernel_rfl) (by kernel_rfl) (fun _ _ _ h => h) (Or.inl ⟨by rfl, ?hy8xb⟩) (by assumption) ?rest8xb
      case hy8xb => (intro V2 hSw; (try dsimp only at hSw); go_simp; all_goals (with_reducible rfl))
      try simp only [Act.put, List.setIfInBounds_toArray, List.set_cons_zero, List.set_cons_succ]
      refine wpAnyH_take (i := 9) (oi := ⟨some 30, Op.extract (Operand.tmp 21) 1, 41, "poke.go:86", #[⟨7, .data⟩, { on := 11, ground := Ground.gcOnly Departure.lateStores }], none⟩) (v := ?v9xb) rfl (by kernel_rfl) (by kernel_rfl) (by kernel_rfl) (fun _ _ _ h => h) (Or.inl ⟨by rfl, ?hy9xb⟩) (by assumption) ?rest9xb
      case hy9xb => (intro V2 hSw; (try dsimp only at hSw); go_simp; all_goals (with_reducible rfl))
      try simp only [Act.put, List.setIfInBounds_toArray, List.set_cons_zero, List.set_cons_succ]
      refine wpAnyH_ready (rs := [11]) (by kernel_rfl) (by simp) ?_
      refine AllReadyH.cons (o := ⟨none, Op.store 26 (Operand.tmp 14) (Operand.tmp 29), 0, "poke.go:86", #[⟨10, .data⟩, ⟨8, .data⟩, ⟨6, .chain⟩, ⟨0, .phase⟩, ⟨1, .phase⟩, ⟨2, .phase⟩, ⟨3, .phase⟩, ⟨4, .phase⟩, ⟨5, .phase⟩, ⟨6, .phase⟩, ⟨7, .phase⟩, ⟨8, .phase⟩, { on := 9, ground := Ground.textOnly Departure.lateStores }, ⟨10, .phase⟩], none⟩) rfl (fun K hK => ?_) AllReadyH.nil
      have hX := HX5.out.swap
      have kB := hX.blk.1
      have p0 := kB.cell 0
      have f0 := kB.frozen 0
      have p1 := kB.cell 1
      have f1 := kB.frozen 1
      simp at p0 p1
      (try simp at f0 f1)
      have hY := Has.all2 (v0 := .int .i64 na) (v1 := .int .i64 nb) hX
      go_simp
      refine hK.out _ _ (hY.tail.tail) (fun hS => ?_)
      clear hK K
      try simp only [Act.put, List.setIfInBounds_toArray, List.set_cons_zero, List.set_cons_succ]
      have HX6 := Lib.hid hY
      clear hX hY kB
      refine wpAnyH_take (i := 12) (oi := ⟨some 15, Op.assign (Operand.tmp 30), 41, "poke.go:86", #[⟨9, .data⟩, ⟨11, .chain⟩, ⟨0, .phase⟩, ⟨1, .phase⟩, ⟨2, .phase⟩, ⟨3, .phase⟩, ⟨4, .phase⟩, ⟨5, .phase⟩, ⟨6, .phase⟩, ⟨7, .phase⟩, ⟨8, .phase⟩, ⟨9, .phase⟩, ⟨10, .phase⟩, ⟨11, .phase⟩], none⟩) (v := ?v12xb) rfl (by kernel_rfl) (by kernel_rfl) (by kernel_rfl) (fun _ _ _ h => h) (Or.inl ⟨by rfl, ?hy12xb⟩) (by assumption) ?rest12xb
      case hy12xb => (intro V2 hSw; (try dsimp only at hSw); go_simp; all_goals (with_reducible rfl))
      try simp only [Act.put, List.setIfInBounds_toArray, List.set_cons_zero, List.set_cons_succ]
      refine wpAnyH_done (by kernel_rfl) ?_ _
      (try go_wp2_with fail)
      go_meet
      exact ⟨_, rfl, rfl, Lib.hid HX6.out.swap.tail⟩
    case rest =>
      obtain ⟨gB, rfl, rfl, HS⟩ := hcut
      clear H1
      have bD := (HS.out.perm (List.perm_middle (l₁ := [_, _]))).blk.1
      have p0 := bD.cell 0
      have f0 := bD.frozen 0
      have p1 := bD.cell 1
      have f1 := bD.frozen 1
      have p2 := bD.cell 2
      have f2 := bD.frozen 2
      have p3 := bD.cell 3
      have f3 := bD.frozen 3
      have p4 := bD.cell 4
      have f4 := bD.frozen 4
      have p5 := bD.cell 5
      have f5 := bD.frozen 5
      have p6 := bD.cell 6
      have f6 := bD.frozen 6
      have p7 := bD.cell 7
      have f7 := bD.frozen 7
      have p8 := bD.cell 8
      have f8 := bD.frozen 8
      have p9 := bD.cell 9
      have f9 := bD.frozen 9
      have p10 := bD.cell 10
      have f10 := bD.frozen 10
      have p11 := bD.cell 11
      have f11 := bD.frozen 11
      simp at p0 p1 p2 p3 p4 p5 p6 p7 p8 p9 p10 p11
      (try simp at f0 f1 f2 f3 f4 f5 f6 f7 f8 f9 f10 f11)
      have HO := Lib.hid (HS.out.perm (List.perm_middle (l₁ := [_, _])))
      clear bD HMAY HIT HM3
      go_wp2_with fail
      have hF := Has.all12 (v0 := .slice none 0 0) (v1 := .int .i64 0) (v2 := .int .i64 0) (v3 := .int .i64 0) (v4 := .int .i64 0) (v5 := .int .i64 0) (v6 := .string ⟨#[]⟩) (v7 := .int .i64 0) (v8 := .int .i64 0) (v9 := .int .i64 0) (v10 := .int .i64 0) (v11 := .slice none 0 0) HO.out
      exact ret_dn2 rfl rfl hF.blk.1 rfl rfl (AnsD.of (AL := none) (nL := 0) (cL := 0) (A := none) (n := 0) (c := 0) rfl rfl ((Has.dropN [_, _, _, _, _, _, _] hF).rowNil _ _) (ChAt.nil _ _) (by omega))
end Go.Proofs.YtgccichmdddbpaaGreatDoor
