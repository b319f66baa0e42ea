/-
  Layer 14, the code: what changes in the table (written by wip/genset.py).
  Layer 14, the code: what is asked of stamps and transactions; a table that is none.
  Layer 14, the code: a key's intent; what is asked of a record (written by wip/genset.py).
  Layer 14, plain: what was settled is settled.
  Layer 14, the code: Resolve (written by wip/genset.py).
  Layer 14, the code: Resolve, a version (written by wip/genset.py).
  Layer 14, the code: Resolve, committed else (written by wip/genset.py).
-/
import Derived.Test.YtldbmogondmgmaaGreatDoorSS32
import Derived.Test.YtldbmogondmgmaaGreatDoorSS29
import Derived.Test.YtldbmogondmgmaaGreatDoorSS11
import Derived.Test.YtldbmogondmgmaaGreatDoorSS28
import Derived.Test.YtldbmogondmgmaaGreatDoorSS25
import Derived.Test.YtldbmogondmgmaaGreatDoorSS04
set_option linter.unusedVariables false
set_option linter.unusedSimpArgs false
set_option maxRecDepth 100000
namespace Go.Proofs.YtldbmogondmgmaaGreatDoor
open Go.RowKit

abbrev opv (o : Op_) : Value := .agg #[.string o.key, .string o.value, .bool o.del]
theorem ret_opc {fn : Func} {Q : Ending → World → Prop} {a : Act} {w : World} {p : Tmp} {g : Nat} {cs : Array Value} (hr : fn.results = #[.cell p 98]) (hp : a.tmps.getD p undef = .pointer (some ⟨g, 0, none⟩))
    (hB : Blk w g 98 cs) (hs : cs.size = 3) (hd : a.defers = []) (hR : Q (.returned (.agg cs)) w) : bodyPost Tryz.prog fn Q .ret a w := by
  refine bodyPost_ret ?_ hd hR
  have hp' : a.tmps[p]?.getD undef = .pointer (some ⟨g, 0, none⟩) := by simpa using hp
  simp [results, hr, hp', asAddr, run_loadVar_row w g 98 98 _ (0, 0) _ hB Tryz.underlying98 rfl (by rw [hs]; kernel_rfl)]
theorem orow1 {w : World} {B g : Nat} {k v : ByteArray} {d : Bool} (h : Blk w g 98 #[.string k, .string v, .bool d]) (hg : B ≤ g) : ORow w B (.slice (some ⟨g, 0, none⟩) 1 1) 1 [⟨k, v, d⟩] :=
  ⟨rfl, .inr ⟨g, 1, _, rfl, hg, h, Nat.le_refl _, by decide, rfl, rfl⟩⟩
theorem orow2 {w : World} {B g : Nat} {k v k' v' : ByteArray} {d d' : Bool} (h : Blk w g 98 #[.string k, .string v, .bool d, .string k', .string v', .bool d']) (hg : B ≤ g) : ORow w B (.slice (some ⟨g, 0, none⟩) 2 2) 2 [⟨k, v, d⟩, ⟨k', v', d'⟩] :=
  ⟨rfl, .inr ⟨g, 2, _, rfl, hg, h, Nat.le_refl _, by decide, rfl, rfl⟩⟩
theorem seIKey (key : ByteArray) (hk : isK key = true) (W : World) (hM : MaxL W) :
    Calls Tryz.prog 13 #[.string key] W fun e w' => e = .returned (.tuple #[.string (bs (ikey (sb key))), .int .i64 0]) ∧ Below W.heap.size W w' := by
  have := intentKey_c key W hM
  unfold markK at this
  rw [if_pos hk, List.append_nil] at this
  exact this
theorem seVKey (key : ByteArray) (a b : Int) (hk : isK key = true) (hm : may a b = true) (W : World) (hM : MaxL W) :
    Calls Tryz.prog 130 #[.string key, sv a b] W fun e w' => e = .returned (.tuple #[.string (bs (vkey (sb key) a b)), .int .i64 0]) ∧ Below W.heap.size W w' := by
  have := versionKey_c key a b W hM hm
  unfold markK at this
  rw [if_pos hk] at this
  have e : ([118] ++ okey (sb key) ++ odown a b : List UInt8) = vkey (sb key) a b := by simp [vkey]
  rw [e] at this
  exact this
theorem seGone (key : ByteArray) (hk : isK key = true) (w : World) (hM : MaxL w) :
    Calls Tryz.prog 137 #[.string key] w fun e w' => e = .returned (opv (goneO key)) ∧ Below w.heap.size w w' := by
  have HK := Lib.hid (fun W hW => seIKey key hk W (hM.below hW))
  have k0 := Blk.new w 98 #[.string ⟨#[]⟩, .string ⟨#[]⟩, .bool false]
  have g0 := nbl w (.cells #[.string ⟨#[]⟩, .string ⟨#[]⟩, .bool false] 98)
  unfold goneO opv
  simp only
  generalize bs (ikey (sb key)) = kk at *
  clear hk hM
  go_enter Tryz.func137, Tryz.ntmps137
  go_wp2_with (first
    | (go_at_call 13; refine (HK.out _ g0).mono ?_; rintro e w1 ⟨rfl, hb1⟩
       have g1 := bst g0 hb1
       have k1 := k0.below hb1 k0.lt
       have p0 := k1.cell 0
       have f0 := k1.frozen 0
       have p1 := k1.cell 1
       have f1 := k1.frozen 1
       have p2 := k1.cell 2
       have f2 := k1.frozen 2
       simp at p0 p1 p2
       have K1 := Lib.hid k1
       have G1 := Lib.hid g1
       clear hb1 k1 g1))
  exact ret_opc rfl rfl (Blk.all3 (v0 := .string kk) (v1 := .string ⟨#[]⟩) (v2 := .bool true) (by exact K1.out)) rfl rfl ⟨rfl, (((G1.out.setCell (by exact Nat.le_refl _) _).setCell (by exact Nat.le_refl _) _).setCell (by exact Nat.le_refl _) _)⟩
set_option maxHeartbeats 2000000 in
theorem seVersion (key : ByteArray) (hk : isK key = true) (a b : Int) (hm : may a b = true) (y : It) (hy : mayI y = true) (A : Option Addr) (n c : Nat) (w : World) (hM : MaxL w) (hx : ChAt w A n y.l) (hn : n ≤ 9223372036854775807) :
    Calls Tryz.prog 136 #[.string key, sv a b, itv y (.slice A n c)] w fun e w' => e = .returned (opv (verO key a b y)) ∧ Below w.heap.size w w' := by
  have hl := hx.1
  have hV := last_isV hy
  obtain ⟨m, rfl⟩ : ∃ m, n = m + 1 := ⟨n - 1, by have := List.length_pos_iff.2 (mayI_ne hy); omega⟩
  have gA := nbl w (.cells #[.int .i64 a, .int .i64 b] 26)
  have gB := bsa gA (.cells (itc y (.slice A (m + 1) c)) 39)
  have gC := bsa gB (.cells #[.string ⟨#[]⟩, .string ⟨#[]⟩, .bool false] 98)
  obtain ⟨bb, o, rfl, hc⟩ := (hx.below gC).2 (by omega)
  have hml : m < y.l.length := by omega
  obtain ⟨c0, c1, c2⟩ := hc m hml
  have hgl : y.l.getLast? = some (y.l[m]'hml) := by
    rw [List.getLast?_eq_getElem?, hl]
    exact List.getElem?_eq_getElem hml
  unfold verO opv
  simp only
  unfold lastS lastD at *
  rw [hgl] at hV ⊢
  simp only [Option.map_some, Option.getD_some] at hV ⊢
  obtain ⟨ch, hch⟩ : ∃ ch, y.l[m]'hml = ch := ⟨_, rfl⟩
  rw [hch] at c0 c1 c2 hV ⊢
  obtain ⟨q, s, d⟩ := ch
  simp only at c0 c1 c2 hV ⊢
  have hmm : ((m + 1 : Nat) : Int) - 1 = (m : Int) := by omega
  have HK := Lib.hid (fun W hW => seVKey key a b hk hm W (hM.below hW))
  have HV := Lib.hid (fun W => version_c s (!d) W)
  rw [hV] at HV
  simp only [ansT_t] at HV
  have hz1 : (w.alloc (.cells #[.int .i64 a, .int .i64 b] 26)).heap.size = w.heap.size + 1 := World.size_alloc _ _
  have hz2 : ((w.alloc (.cells #[.int .i64 a, .int .i64 b] 26)).alloc (.cells (itc y (.slice (some ⟨bb, o, none⟩) (m + 1) c)) 39)).heap.size = w.heap.size + 1 + 1 := (World.size_alloc _ _).trans (by rw [hz1])
  have hz3 : (((w.alloc (.cells #[.int .i64 a, .int .i64 b] 26)).alloc (.cells (itc y (.slice (some ⟨bb, o, none⟩) (m + 1) c)) 39)).alloc (.cells #[.string ⟨#[]⟩, .string ⟨#[]⟩, .bool false] 98)).heap.size = w.heap.size + 1 + 1 + 1 := (World.size_alloc _ _).trans (by rw [hz2])
  have kC := Blk.new ((w.alloc (.cells #[.int .i64 a, .int .i64 b] 26)).alloc (.cells (itc y (.slice (some ⟨bb, o, none⟩) (m + 1) c)) 39)) 98 #[.string ⟨#[]⟩, .string ⟨#[]⟩, .bool false]
  rw [hz2] at kC
  have kD := Blk.new (((w.alloc (.cells #[.int .i64 a, .int .i64 b] 26)).alloc (.cells (itc y (.slice (some ⟨bb, o, none⟩) (m + 1) c)) 39)).alloc (.cells #[.string ⟨#[]⟩, .string ⟨#[]⟩, .bool false] 98)) 24 #[.int .i64 q, .string s, .bool d]
  rw [hz3] at kD
  have KC := Lib.hid (kC.below (nbl _ (.cells #[.int .i64 q, .string s, .bool d] 24)) kC.lt)
  have KD := Lib.hid kD
  have G0 := Lib.hid (bsa gC (.cells #[.int .i64 q, .string s, .bool d] 24))
  generalize bs (vkey (sb key) a b) = kk at *
  have hbv : ∀ l : List UInt8, (⟨l.toArray⟩ : ByteArray) = bs l := fun _ => rfl
  simp only [hbv] at HV
  generalize bs (txV s (!d)) = tx at *
  clear hx hc hgl hch hl hk hm hM hy hV gA gB gC kC kD hz1 hz2 hz3 hbv
  go_enter Tryz.func136, Tryz.ntmps136
  go_wp2_with (first
    | (go_at_call 130; refine (HK.out _ G0.out).mono ?_; rintro e w1 ⟨rfl, hb1⟩
       have G1 := Lib.hid (bst G0.out hb1)
       have kc1 := KC.out.below hb1 KC.out.lt
       have kd1 := KD.out.below hb1 KD.out.lt
       have d0 := kd1.cell 0
       have d1 := kd1.cell 1
       have d2 := kd1.cell 2
       simp at d0 d1 d2
       have KC1 := Lib.hid kc1
       clear hb1 kc1 kd1)
    | (go_at_call 192; refine (HV.out _).mono ?_; rintro e w2 ⟨rfl, hb2⟩
       have k2 := KC1.out.below hb2 KC1.out.lt
       have p0 := k2.cell 0
       have f0 := k2.frozen 0
       have p1 := k2.cell 1
       have f1 := k2.frozen 1
       have p2 := k2.cell 2
       have f2 := k2.frozen 2
       simp at p0 p1 p2
       have K2 := Lib.hid k2
       have G2 := Lib.hid (bst G1.out hb2)
       clear hb2 k2))
  exact ret_opc rfl rfl (Blk.all3 (v0 := .string kk) (v1 := .string tx) (v2 := .bool false) (by exact K2.out)) rfl rfl ⟨rfl, (((G2.out.setCell (show w.heap.size ≤ w.heap.size + 1 + 1 by omega) _).setCell (show w.heap.size ≤ w.heap.size + 1 + 1 by omega) _).setCell (show w.heap.size ≤ w.heap.size + 1 + 1 by omega) _)⟩
set_option maxHeartbeats 2000000 in
theorem seCounts (y : It) (v : Value) (x : Rc) (u : Value) (w : World) :
    Calls Tryz.prog 135 #[itv y v, rcv x u] w fun e w' => e = .returned (.bool (counts y x)) ∧ Below w.heap.size w w' := by
  have G0 := Lib.hid (bsa (nbl w (.cells (itc y v) 39)) (.cells (rcc x u) 69))
  have HL := Lib.hid (less_c x.sw x.sl y.sw y.sl)
  unfold counts
  generalize lt (x.sw, x.sl) (y.sw, y.sl) = b at *
  obtain ⟨y0, y1, y2, y3, y4, y5, y6, y7, y8⟩ := y
  obtain ⟨x0, x1, x2, x3, x4, x5, x6, x7, x8, x9⟩ := x
  simp only at HL G0 ⊢
  by_cases he : y1 = x1
  · subst he
    go_enter Tryz.func135, Tryz.ntmps135
    go_wp2_with (go_at_call 12; refine (HL.out _).mono ?_; rintro e w1 ⟨rfl, hb1⟩)
    have G1 := Lib.hid (bst G0.out hb1)
    go_ret
    exact ⟨by simp, G1.out⟩
  · have he2 : (y1 == x1) = false := by simpa using he
    have he3 : decide (y1 = x1) = false := by simpa using he
    rw [he3]
    clear he he3
    go_enter Tryz.func135, Tryz.ntmps135
    go_wp2_with fail
    go_ret
    exact ⟨by simp, G0.out⟩
/-- Changes that are answered. -/
def AnsO (ops : List Op_) (B : Nat) (e : Ending) (w' : World) : Prop := ∃ v, e = .returned v ∧ ORow w' B v ops.length ops
set_option maxHeartbeats 4000000 in
theorem sePushed (key : ByteArray) (hk : isK key = true) (y : It) (hy : mayI y = true) (A : Option Addr) (n c : Nat) (x : Rc) (hm : may x.sw x.sl = true) (u : Value) (w : World) (hM : MaxL w) (hx : ChAt w A n y.l) (hn : n ≤ 9223372036854775807) :
    Calls Tryz.prog 138 #[.string key, itv y (.slice A n c), rcv x u] w fun e w' => AnsO (pushP y key x) w.heap.size e w' ∧ Below w.heap.size w w' := by
  have gA := nbl w (.cells (itc y (.slice A n c)) 39)
  have gB := bsa gA (.cells (rcc x u) 69)
  have G0 := Lib.hid gB
  have HG := Lib.hid (fun W hW => seGone key hk W (hM.below hW))
  have HK := Lib.hid (fun W hW => seIKey key hk W (hM.below hW))
  have HL := Lib.hid (less_c y.sw y.sl x.sw x.sl)
  have hmy : mayI (atI y x.sw x.sl) = true := atI_may hy hm
  have kA := Blk.new w 39 (itc y (.slice A n c))
  have KA := Lib.hid (kA.below (nbl _ (.cells (rcc x u) 69)) kA.lt)
  have hz1 : (w.alloc (.cells (itc y (.slice A n c)) 39)).heap.size = w.heap.size + 1 := World.size_alloc _ _
  have kB := Blk.new (w.alloc (.cells (itc y (.slice A n c)) 39)) 69 (rcc x u)
  rw [hz1] at kB
  have KB := Lib.hid kB
  have HC := Lib.hid (hx.below gB)
  have HNE := Lib.hid ((hx.below gA).apart kA (it_no _ _ (fun d e => nomatch e)))
  have HI := Lib.hid (fun W (h : ChAt W A n y.l) => show Calls Tryz.prog 171 #[itv (atI y x.sw x.sl) (.slice A n c)] W fun e w' => e = .returned (.tuple #[.string (bs (txI (atI y x.sw x.sl))), .int .i64 0]) ∧ Below W.heap.size W w' from by
    have := intent_c (atI y x.sw x.sl) A n c W h hn
    rw [hmy] at this
    exact this)
  clear hy hm hM hx gA gB kA kB hz1 hmy hk
  unfold pushP AnsO
  by_cases c1 : y.ep < x.ep
  · rw [if_pos c1]
    unfold goneO opv at *
    simp only at HG
    generalize bs (ikey (sb key)) = kk at *
    obtain ⟨y0, y1, y2, y3, y4, y5, y6, y7, y8⟩ := y
    obtain ⟨x0, x1, x2, x3, x4, x5, x6, x7, x8, x9⟩ := x
    simp only at *
    go_enter Tryz.func138, Tryz.ntmps138
    go_wp2_with (go_at_call 137; refine (HG.out _ G0.out).mono ?_; rintro e w1 ⟨rfl, hb1⟩)
    have G1 := Lib.hid (bsa (bst G0.out hb1) (.cells #[.string kk, .string ⟨#[]⟩, .bool true] 98))
    have hq := Blk.new w1 98 #[.string kk, .string ⟨#[]⟩, .bool true]
    go_ret
    exact ⟨⟨_, rfl, orow1 hq (bst G0.out hb1).size⟩, G1.out⟩
  · rw [if_neg c1]
    by_cases c2 : y.ep = x.ep
    · cases c3 : lt (y.sw, y.sl) (x.sw, x.sl) with
      | true =>
        rw [c3] at HL
        rw [if_pos ⟨c2, rfl⟩]
        unfold pushO
        generalize bs (ikey (sb key)) = kk at *
        generalize bs (txI (atI y x.sw x.sl)) = tx at *
        obtain ⟨y0, y1, y2, y3, y4, y5, y6, y7, y8⟩ := y
        obtain ⟨x0, x1, x2, x3, x4, x5, x6, x7, x8, x9⟩ := x
        unfold atI at *
        simp only at *
        subst c2
        clear c3
        go_enter Tryz.func138, Tryz.ntmps138
        go_wp2_with (first
          | (go_at_call 12; refine (HL.out _).mono ?_; rintro e w1 ⟨rfl, hb1⟩
             have ka1 := KA.out.below hb1 KA.out.lt
             have kb1 := KB.out.below hb1 KB.out.lt
             have p0 := ka1.cell 0
             have f0 := ka1.frozen 0
             have p1 := ka1.cell 1
             have f1 := ka1.frozen 1
             have p2 := ka1.cell 2
             have f2 := ka1.frozen 2
             have p3 := ka1.cell 3
             have f3 := ka1.frozen 3
             have p4 := ka1.cell 4
             have f4 := ka1.frozen 4
             have p5 := ka1.cell 5
             have f5 := ka1.frozen 5
             have p6 := ka1.cell 6
             have f6 := ka1.frozen 6
             have p7 := ka1.cell 7
             have f7 := ka1.frozen 7
             have p8 := ka1.cell 8
             have f8 := ka1.frozen 8
             simp at p0 p1 p2 p3 p4 p5 p6 p7 p8
             have r5 := kb1.cell 5
             have r6 := kb1.cell 6
             simp at r5 r6
             have KA1 := Lib.hid ((ka1.set_ 4 (.int .i64 x5)).set_ 5 (.int .i64 x6))
             have G1 := Lib.hid ((((bst G0.out hb1).setCell (by exact Nat.le_refl _) _).setCell (by exact Nat.le_refl _) _) : Below w.heap.size w ((w1.setCell ⟨w.heap.size, 4, none⟩ (.int .i64 x5)).setCell ⟨w.heap.size, 5, none⟩ (.int .i64 x6)))
             have HC1 := Lib.hid (((HC.out.below hb1).put (g := w.heap.size) (i := 4) (u := .int .i64 x5) HNE.out).put (g := w.heap.size) (i := 5) (u := .int .i64 x6) HNE.out)
             clear hb1 ka1 kb1)
          | (go_at_call 13; refine (HK.out _ G1.out).mono ?_; rintro e w2 ⟨rfl, hb2⟩
             have ka2 := KA1.out.below hb2 KA1.out.lt
             simp at ka2
             have p0 := ka2.cell 0
             have p1 := ka2.cell 1
             have p2 := ka2.cell 2
             have p3 := ka2.cell 3
             have p4 := ka2.cell 4
             have p5 := ka2.cell 5
             have p6 := ka2.cell 6
             have p7 := ka2.cell 7
             have p8 := ka2.cell 8
             simp at p0 p1 p2 p3 p4 p5 p6 p7 p8
             have G2 := Lib.hid (bst G1.out hb2)
             have HC2 := Lib.hid (HC1.out.below hb2)
             clear hb2 ka2)
          | (go_at_call 171; refine (HI.out _ HC2.out).mono ?_; rintro e w3 ⟨rfl, hb3⟩))
        have G3 := Lib.hid (bsa (bst G2.out hb3) (.cells #[.string kk, .string tx, .bool false] 98))
        have hq := Blk.new w3 98 #[.string kk, .string tx, .bool false]
        go_ret
        exact ⟨⟨_, rfl, orow1 hq (bst G2.out hb3).size⟩, G3.out⟩
      | false =>
        rw [c3] at HL
        rw [if_neg (fun h => by cases h.2)]
        obtain ⟨y0, y1, y2, y3, y4, y5, y6, y7, y8⟩ := y
        obtain ⟨x0, x1, x2, x3, x4, x5, x6, x7, x8, x9⟩ := x
        simp only at *
        subst c2
        clear c3
        go_enter Tryz.func138, Tryz.ntmps138
        go_wp2_with (go_at_call 12; refine (HL.out _).mono ?_; rintro e w1 ⟨rfl, hb1⟩)
        have G1 := Lib.hid (bst G0.out hb1)
        go_ret
        exact ⟨⟨_, rfl, World.ownsRow_nil _ _ _ _⟩, G1.out⟩
    · rw [if_neg (fun h => c2 h.1)]
      obtain ⟨y0, y1, y2, y3, y4, y5, y6, y7, y8⟩ := y
      obtain ⟨x0, x1, x2, x3, x4, x5, x6, x7, x8, x9⟩ := x
      simp only at *
      have c2b : (y1 == x1) = false := by simpa using c2
      clear c2
      go_enter Tryz.func138, Tryz.ntmps138
      go_wp2_with fail
      go_ret
      exact ⟨⟨_, rfl, World.ownsRow_nil _ _ _ _⟩, G0.out⟩
end Go.Proofs.YtldbmogondmgmaaGreatDoor
set_option linter.unusedVariables false
set_option linter.unusedSimpArgs false
set_option maxRecDepth 100000
namespace Go.Proofs.YtldbmogondmgmaaGreatDoor
open Go.RowKit

set_option maxHeartbeats 4000000 in
theorem seIdxP {S : Type} (ok : S → Int × Int → Bool) (nx : S → Int × Int → S) (J : S → World → Prop) (A : Option Addr) (n c : Nat) (l : List (Int × Int)) (hn : n ≤ 9223372036854775807)
    (hat : ∀ s W, J s W → Stamps W A n l)
    (step : ∀ s (c : Int × Int) W, J s W → Calls Tryz.prog 188 #[(sv c.1 c.2)] W fun e w' => e = .returned (.bool (!(ok s c))) ∧ J (nx s c) w')
    (s : S) (w : World) (hJ : J s w) :
    Calls Tryz.prog 215 #[.slice A n c, .func (.func 188) #[] #[]] w fun e w' => ∃ k : Int, e = .returned (.int .i64 k) ∧ decide (0 ≤ k) = !(scan ok nx s l) ∧ ∃ s', J s' w' := by
  have ST := Lib.hid step
  have HF := Lib.hid hat
  clear step hat
  go_enter Tryz.func215, Tryz.ntmps215
  go_wp2
  go_loopw [8] (fun i wr => ∃ (k : Nat) (s' : S), k ≤ n ∧ i = .int .i64 k ∧ Hid (scan ok nx s' (l.drop k) = scan ok nx s l) ∧ J s' wr) (fun i _ => n - (intOf i).toNat)
  case atStart => exact ⟨0, s, Nat.zero_le _, rfl, rfl, hJ⟩
  case round =>
    obtain ⟨k, s', hk, rfl, hrun, hRep⟩ := hrel
    have hfa := HF.out s' wr hRep
    have hlen := hfa.1
    by_cases hlt : k < n
    · have hkl : k < l.length := by omega
      obtain ⟨b, o, rfl, hc⟩ := hfa.2 (by omega)
      obtain ⟨h1, h2⟩ := hc k hkl
      have hs := ST.out s' (l[k]'hkl) wr hRep
      have hd : l.drop k = (l[k]'hkl) :: l.drop (k + 1) := List.drop_eq_getElem_cons hkl
      have hrun' := hrun.out
      rw [hd] at hrun'
      generalize (l[k]'hkl) = x at *
      clear hc hfa HF ST hd hrun
      cases hok : ok s' x with
      | true =>
        have HR := Lib.hid (show scan ok nx (nx s' x) (l.drop (k + 1)) = scan ok nx s l by rw [← hrun', scan, hok, Bool.true_and])
        rw [hok] at hs
        clear hrun' hok
        go_wp2_with fail
        refine hs.mono ?_
        rintro e w2 ⟨rfl, h2⟩
        go_wp2
        go_roundw
        case rel => exact ⟨k + 1, _, by omega, by go_num, HR, h2⟩
        case measure => simp [intOf]; omega
      | false =>
        have HR := Lib.hid (show scan ok nx s l = false by rw [← hrun', scan, hok, Bool.false_and])
        rw [hok] at hs
        clear hrun' hok
        go_wp2_with fail
        refine hs.mono ?_
        rintro e w2 ⟨rfl, h2⟩
        go_wp2
        go_ret
        exact ⟨k, rfl, by rw [HR.out]; exact decide_eq_true (by omega), _, h2⟩
    · have HR := Lib.hid (show scan ok nx s l = true by rw [← hrun.out, List.drop_of_length_le (by omega), scan])
      clear hrun HF ST hfa
      go_wp2
      go_ret
      exact ⟨-1, rfl, by rw [HR.out]; rfl, _, hRep⟩
theorem seConP {S : Type} (ok : S → Int × Int → Bool) (nx : S → Int × Int → S) (J : S → World → Prop) (A : Option Addr) (n c : Nat) (l : List (Int × Int)) (hn : n ≤ 9223372036854775807)
    (hat : ∀ s W, J s W → Stamps W A n l)
    (step : ∀ s (c : Int × Int) W, J s W → Calls Tryz.prog 188 #[(sv c.1 c.2)] W fun e w' => e = .returned (.bool (!(ok s c))) ∧ J (nx s c) w')
    (s : S) (w : World) (hJ : J s w) :
    Calls Tryz.prog 185 #[.slice A n c, .func (.func 188) #[] #[]] w fun e w' => e = .returned (.bool (!(scan ok nx s l))) ∧ ∃ s', J s' w' := by
  have HI := Lib.hid (seIdxP ok nx J A n c l hn hat step s w hJ)
  clear step hat hJ
  go_enter Tryz.func185, Tryz.ntmps185
  go_wp2_with fail
  refine HI.out.mono ?_
  rintro e w1 ⟨k, rfl, hk, h1⟩
  have HK := Lib.hid hk
  clear hk
  go_wp2
  go_ret
  exact ⟨congrArg (fun b => Ending.returned (Value.bool b)) HK.out, h1⟩

theorem seOne (c : Int × Int) (W : World) :
    Calls Tryz.prog 188 #[sv c.1 c.2] W fun e w' => e = .returned (.bool (!(mayP c))) ∧ Below W.heap.size W w' := by
  obtain ⟨x, y⟩ := c
  have h3 := Blk.new W 26 #[.int .i64 x, .int .i64 y]
  have HO := Lib.hid (check_c x y (W.alloc (.cells #[.int .i64 x, .int .i64 y] 26)))
  have c0 := h3.cell 0
  have c1 := h3.cell 1
  simp at c0 c1
  clear h3
  have hck : (ck x y != 0) = !mayP (x, y) := by
    unfold ck mayP
    cases may x y <;> rfl
  obtain ⟨kk, hkk⟩ : ∃ kk, ck x y = kk := ⟨_, rfl⟩
  rw [hkk] at HO hck
  rw [← hck]
  clear hkk hck
  go_enter Tryz.func188, Tryz.ntmps188
  go_wp2_with (go_at_call 145; refine HO.out.mono ?_; rintro e w1 ⟨rfl, q1⟩)
  have q3 := (nbl W (.cells #[.int .i64 x, .int .i64 y] 26)).trans (q1.mono (by simp))
  go_ret
  exact ⟨rfl, q3⟩
theorem seStamps (A : Option Addr) (n c : Nat) (l : List (Int × Int)) (b : Bool) (hb : l.all mayP = b) (w : World) (hn : n ≤ 9223372036854775807) (hx : Stamps w A n l) :
    Calls Tryz.prog 128 #[.slice A n c] w fun e w' => e = .returned (.bool b) ∧ Below w.heap.size w w' := by
  have HC := Lib.hid (seConP (fun (_ : Unit) p => mayP p) (fun u _ => u) (fun _ W => Below w.heap.size w W) A n c l hn (fun s W h => hx.below' h)
    (fun s x W h => (seOne x W).mono fun e w' ⟨h1, h3⟩ => ⟨h1, h.trans (h3.mono h.size)⟩) () w (Below.refl _ _))
  rw [scan_all, hb] at HC
  clear hb hx
  go_enter Tryz.func128, Tryz.ntmps128
  go_wp2_with fail
  refine HC.out.mono ?_
  rintro e w1 ⟨rfl, s', h1⟩
  go_wp2
  go_ret
  exact ⟨by simp, h1⟩
theorem se_two (w : World) (a b c d : Int) : Stamps (w.alloc (.cells #[.int .i64 a, .int .i64 b, .int .i64 c, .int .i64 d] 26)) (some ⟨w.heap.size, 0, none⟩) 2 [(a, b), (c, d)] := by
  have h := Blk.new w 26 #[.int .i64 a, .int .i64 b, .int .i64 c, .int .i64 d]
  refine ⟨rfl, fun _ => ⟨w.heap.size, 0, rfl, fun i hi => ?_⟩⟩
  have : i = 0 ∨ i = 1 := by simp at hi; omega
  rcases this with rfl | rfl
  · exact ⟨h.cell 0, h.cell 1⟩
  · exact ⟨h.cell 2, h.cell 3⟩
set_option maxHeartbeats 2000000 in
theorem seMay (x : Tx) (w : World) : Calls Tryz.prog 127 #[txv x] w fun e w' => e = .returned (.bool (mayX x)) ∧ Below w.heap.size w w' := by
  have HA := Lib.hid (seStamps (some ⟨w.heap.size + 1, 0, none⟩) 2 2 [(x.rw, x.rl), (x.lw, x.ll)] (may x.rw x.rl && may x.lw x.ll) (by simp [mayP]) ((w.alloc (.cells (txc x) 28)).alloc (.cells #[.int .i64 x.rw, .int .i64 x.rl, .int .i64 x.lw, .int .i64 x.ll] 26)) (by decide)
    (by have := se_two (w.alloc (.cells (txc x) 28)) x.rw x.rl x.lw x.ll; simpa using this))
  have HG := Lib.hid (bsa (nbl w (.cells (txc x) 28)) (.cells #[.int .i64 x.rw, .int .i64 x.rl, .int .i64 x.lw, .int .i64 x.ll] 26))
  have HG1 := Lib.hid (nbl w (.cells (txc x) 28))
  unfold mayX idOk
  obtain ⟨bb, hbb⟩ : ∃ bb, (may x.rw x.rl && may x.lw x.ll) = bb := ⟨_, rfl⟩
  rw [hbb] at HA ⊢
  clear hbb
  obtain ⟨x0, x1, x2, x3, x4, x5, x6, x7, x8, x9, x10, x11⟩ := x
  simp only at HA HG HG1 ⊢
  by_cases c1 : 1 ≤ x0
  · by_cases c2 : x0 ≤ 9007199254740991
    · by_cases c3 : 0 ≤ x1
      · by_cases c4 : x1 ≤ 9007199254740991
        · rw [decide_eq_true (show 1 ≤ x0 ∧ x0 ≤ 9007199254740991 ∧ 0 ≤ x1 ∧ x1 ≤ 9007199254740991 from ⟨c1, c2, c3, c4⟩)]
          go_enter Tryz.func127, Tryz.ntmps127
          go_wp2_with (go_at_call 128; refine HA.out.mono ?_; rintro e w1 ⟨rfl, hb1⟩)
          go_ret
          exact ⟨by simp, bst HG.out hb1⟩
        · rw [decide_eq_false (show ¬ (1 ≤ x0 ∧ x0 ≤ 9007199254740991 ∧ 0 ≤ x1 ∧ x1 ≤ 9007199254740991) from fun h => c4 h.2.2.2)]
          go_enter Tryz.func127, Tryz.ntmps127
          go_wp2
          go_ret
          exact ⟨by simp, HG1.out⟩
      · rw [decide_eq_false (show ¬ (1 ≤ x0 ∧ x0 ≤ 9007199254740991 ∧ 0 ≤ x1 ∧ x1 ≤ 9007199254740991) from fun h => c3 h.2.2.1)]
        go_enter Tryz.func127, Tryz.ntmps127
        go_wp2
        go_ret
        exact ⟨by simp, HG1.out⟩
    · rw [decide_eq_false (show ¬ (1 ≤ x0 ∧ x0 ≤ 9007199254740991 ∧ 0 ≤ x1 ∧ x1 ≤ 9007199254740991) from fun h => c2 h.2.1)]
      go_enter Tryz.func127, Tryz.ntmps127
      go_wp2
      go_ret
      exact ⟨by simp, HG1.out⟩
  · rw [decide_eq_false (show ¬ (1 ≤ x0 ∧ x0 ≤ 9007199254740991 ∧ 0 ≤ x1 ∧ x1 ≤ 9007199254740991) from fun h => c1 h.1)]
    go_enter Tryz.func127, Tryz.ntmps127
    go_wp2
    go_ret
    exact ⟨by simp, HG1.out⟩
theorem seIsNone {w V : World} {T : List As} {p N : Nat} {r : List Rw} (h : Has w (tbA p r :: T) V) (hr : ROk N r) (hN : N ≤ 999999000) :
    Calls Tryz.prog 126 #[pt p] V fun e w' => e = .returned (.bool false) ∧ Has w (tbA p r :: T) w' := by
  have HA := Lib.hid (show Calls Tryz.prog 27 #[pt p, .slice none 0 0] V fun e w' => e = .returned (.int .i64 0) ∧ Has w (tbA p r :: T) w' from
    (Has.tbApply h hr hN none 0 0 [] ⟨rfl, fun h => absurd h (by omega)⟩ (by omega) (fun o ho => nomatch ho)).mono fun e w' hq => ⟨hq.1, hq.2.1⟩)
  clear h hr hN
  go_enter Tryz.func126, Tryz.ntmps126
  go_wp2_with (go_at_call 27; refine HA.out.mono ?_; rintro e w1 ⟨rfl, h2⟩)
  go_ret
  exact ⟨rfl, h2⟩
end Go.Proofs.YtldbmogondmgmaaGreatDoor
set_option linter.unusedVariables false
set_option linter.unusedSimpArgs false
set_option maxRecDepth 100000
namespace Go.Proofs.YtldbmogondmgmaaGreatDoor
open Go.RowKit

set_option maxHeartbeats 2000000 in
theorem seIntentOf {V : World} {p : Nat} {r : List Rw} {F : Nat → Prop} (h : (tbA p r).p V F) (hz : Szs r) (hM : MaxL V) (key : ByteArray) (hk : isK key = true) (id : Int) :
    Calls Tryz.prog 134 #[pt p, .string key, .int .i64 id] V fun e w' => AnsT (ownI (pint r key) id) e w' ∧ Below V.heap.size V w' := by
  have hK : ∀ W, Below V.heap.size V W → Calls Tryz.prog 13 #[.string key] W fun e w' => e = .returned (.tuple #[.string (bs (ikey (sb key))), .int .i64 0]) ∧ Below W.heap.size W w' := fun W hb => seIKey key hk W (hM.below hb)
  have hG := fun W (hb : Below V.heap.size V W) => tb_get (tbA_below h hb) (bs (ikey (sb key)))
  have hT := fun W => takeI_c (rval r (bs (ikey (sb key)))) W (by have := rval_le hz (bs (ikey (sb key))); omega)
  unfold pint
  generalize rval r (bs (ikey (sb key))) = t at *
  generalize rhas r (bs (ikey (sb key))) = hh at *
  generalize bs (ikey (sb key)) = kk at *
  have HK := Lib.hid hK
  have HG := Lib.hid hG
  have k0 := Blk.new V 39 (itc zI (.slice none 0 0))
  have g0 := nbl V (.cells (itc zI (.slice none 0 0)) 39)
  clear hK hG h hM hk hz
  cases ho : tkI (sb t) with
  | none =>
    simp only [ho, AnsI] at hT
    have HT := Lib.hid hT
    unfold ownI
    simp only
    clear ho hT
    go_enter Tryz.func134, Tryz.ntmps134
    go_wp2_with (first
      | (go_at_call 13; refine (HK.out _ g0).mono ?_; rintro e w1 ⟨rfl, hb1⟩; have g1 := bst g0 hb1; have k1 := k0.below hb1 k0.lt)
      | (go_at_call 14; refine (HG.out _ g1).mono ?_; rintro e w2 ⟨rfl, hb2⟩; have g2 := bst g1 hb2; have k2 := k1.below hb2 k1.lt)
      | (go_at_call 15; refine (HT.out _).mono ?_; rintro e w3 ⟨rfl, hb3⟩
         have k3 := (k2.below hb3 k2.lt).below (nbl w3 (.cells (itc zI (.slice none 0 0)) 39)) (k2.below hb3 k2.lt).lt
         have g3 := bsa (bst g2 hb3) (.cells (itc zI (.slice none 0 0)) 39)
         have p0 := k3.cell 0
         have f0 := k3.frozen 0
         have p1 := k3.cell 1
         have f1 := k3.frozen 1
         have p2 := k3.cell 2
         have f2 := k3.frozen 2
         have p3 := k3.cell 3
         have f3 := k3.frozen 3
         have p4 := k3.cell 4
         have f4 := k3.frozen 4
         have p5 := k3.cell 5
         have f5 := k3.frozen 5
         have p6 := k3.cell 6
         have f6 := k3.frozen 6
         have p7 := k3.cell 7
         have f7 := k3.frozen 7
         have p8 := k3.cell 8
         have f8 := k3.frozen 8
         simp at p0 p1 p2 p3 p4 p5 p6 p7 p8
         have K3 := Lib.hid k3
         have G3 := Lib.hid g3
         clear hb1 hb2 hb3 k3 g3))
    exact ret_it rfl rfl (Blk.all9 (v0 := .int .i64 zI.id) (v1 := .int .i64 zI.ep) (v2 := .int .i64 zI.pr) (v3 := .string zI.an) (v4 := .int .i64 zI.sw) (v5 := .int .i64 zI.sl) (v6 := .int .i64 zI.bw) (v7 := .int .i64 zI.bl) (v8 := .slice none 0 0) (by exact K3.out)) rfl rfl ⟨rfl, (((((((((G3.out.setCell (by exact Nat.le_refl _) _).setCell (by exact Nat.le_refl _) _).setCell (by exact Nat.le_refl _) _).setCell (by exact Nat.le_refl _) _).setCell (by exact Nat.le_refl _) _).setCell (by exact Nat.le_refl _) _).setCell (by exact Nat.le_refl _) _).setCell (by exact Nat.le_refl _) _).setCell (by exact Nat.le_refl _) _)⟩
  | some y =>
    simp only [ho, AnsI] at hT
    have HT := Lib.hid hT
    unfold ownI
    simp only
    clear ho hT
    by_cases hid : y.id = id
    · rw [if_pos hid]
      subst hid
      go_enter Tryz.func134, Tryz.ntmps134
      go_wp2_with (first
        | (go_at_call 13; refine (HK.out _ g0).mono ?_; rintro e w1 ⟨rfl, hb1⟩; have g1 := bst g0 hb1; have k1 := k0.below hb1 k0.lt)
        | (go_at_call 14; refine (HG.out _ g1).mono ?_; rintro e w2 ⟨rfl, hb2⟩; have g2 := bst g1 hb2; have k2 := k1.below hb2 k1.lt)
        | (go_at_call 15; refine (HT.out _).mono ?_; rintro e w3 ⟨⟨A, n, c, rfl, hat, hnc, hcm, hap⟩, hb3⟩
           have hne := hat.apart (k2.below hb3 k2.lt) (it_no _ _ (fun d e => nomatch e))
           have HAT := Lib.hid (hat.below (nbl w3 (.cells (itc y (.slice A n c)) 39)))
           have HNE := Lib.hid hne
           clear hat hap hne
           have k3 := (k2.below hb3 k2.lt).below (nbl w3 (.cells (itc y (.slice A n c)) 39)) (k2.below hb3 k2.lt).lt
           have g3 := bsa (bst g2 hb3) (.cells (itc y (.slice A n c)) 39)
           have p0 := k3.cell 0
           have f0 := k3.frozen 0
           have p1 := k3.cell 1
           have f1 := k3.frozen 1
           have p2 := k3.cell 2
           have f2 := k3.frozen 2
           have p3 := k3.cell 3
           have f3 := k3.frozen 3
           have p4 := k3.cell 4
           have f4 := k3.frozen 4
           have p5 := k3.cell 5
           have f5 := k3.frozen 5
           have p6 := k3.cell 6
           have f6 := k3.frozen 6
           have p7 := k3.cell 7
           have f7 := k3.frozen 7
           have p8 := k3.cell 8
           have f8 := k3.frozen 8
           simp at p0 p1 p2 p3 p4 p5 p6 p7 p8
           have K3 := Lib.hid k3
           have G3 := Lib.hid g3
           clear hb1 hb2 hb3 k3 g3))
      have HA9 := Lib.hid (((((((((HAT.out.put (g := V.heap.size) (i := 0) (u := .int .i64 y.id) HNE.out).put (g := V.heap.size) (i := 1) (u := .int .i64 y.ep) HNE.out).put (g := V.heap.size) (i := 2) (u := .int .i64 y.pr) HNE.out).put (g := V.heap.size) (i := 3) (u := .string y.an) HNE.out).put (g := V.heap.size) (i := 4) (u := .int .i64 y.sw) HNE.out).put (g := V.heap.size) (i := 5) (u := .int .i64 y.sl) HNE.out).put (g := V.heap.size) (i := 6) (u := .int .i64 y.bw) HNE.out).put (g := V.heap.size) (i := 7) (u := .int .i64 y.bl) HNE.out).put (g := V.heap.size) (i := 8) (u := .slice A n c) HNE.out)
      exact ret_it rfl rfl (Blk.all9 (v0 := .int .i64 y.id) (v1 := .int .i64 y.ep) (v2 := .int .i64 y.pr) (v3 := .string y.an) (v4 := .int .i64 y.sw) (v5 := .int .i64 y.sl) (v6 := .int .i64 y.bw) (v7 := .int .i64 y.bl) (v8 := .slice A n c) (by exact K3.out)) rfl rfl ⟨⟨A, n, c, rfl, HA9.out, by omega⟩, (((((((((G3.out.setCell (by exact Nat.le_refl _) _).setCell (by exact Nat.le_refl _) _).setCell (by exact Nat.le_refl _) _).setCell (by exact Nat.le_refl _) _).setCell (by exact Nat.le_refl _) _).setCell (by exact Nat.le_refl _) _).setCell (by exact Nat.le_refl _) _).setCell (by exact Nat.le_refl _) _).setCell (by exact Nat.le_refl _) _)⟩
    · rw [if_neg hid]
      have hid2 : (y.id == id) = false := by simpa using hid
      clear hid
      go_enter Tryz.func134, Tryz.ntmps134
      go_wp2_with (first
        | (go_at_call 13; refine (HK.out _ g0).mono ?_; rintro e w1 ⟨rfl, hb1⟩; have g1 := bst g0 hb1; have k1 := k0.below hb1 k0.lt)
        | (go_at_call 14; refine (HG.out _ g1).mono ?_; rintro e w2 ⟨rfl, hb2⟩; have g2 := bst g1 hb2; have k2 := k1.below hb2 k1.lt)
        | (go_at_call 15; refine (HT.out _).mono ?_; rintro e w3 ⟨⟨A, n, c, rfl, hat, hnc, hcm, hap⟩, hb3⟩
           clear hat hap
           have k3 := (k2.below hb3 k2.lt).below (nbl w3 (.cells (itc y (.slice A n c)) 39)) (k2.below hb3 k2.lt).lt
           have g3 := bsa (bst g2 hb3) (.cells (itc y (.slice A n c)) 39)
           have p0 := k3.cell 0
           have f0 := k3.frozen 0
           have p1 := k3.cell 1
           have f1 := k3.frozen 1
           have p2 := k3.cell 2
           have f2 := k3.frozen 2
           have p3 := k3.cell 3
           have f3 := k3.frozen 3
           have p4 := k3.cell 4
           have f4 := k3.frozen 4
           have p5 := k3.cell 5
           have f5 := k3.frozen 5
           have p6 := k3.cell 6
           have f6 := k3.frozen 6
           have p7 := k3.cell 7
           have f7 := k3.frozen 7
           have p8 := k3.cell 8
           have f8 := k3.frozen 8
           simp at p0 p1 p2 p3 p4 p5 p6 p7 p8
           have K3 := Lib.hid k3
           have G3 := Lib.hid g3
           clear hb1 hb2 hb3 k3 g3))
      exact ret_it rfl rfl (Blk.all9 (v0 := .int .i64 zI.id) (v1 := .int .i64 zI.ep) (v2 := .int .i64 zI.pr) (v3 := .string zI.an) (v4 := .int .i64 zI.sw) (v5 := .int .i64 zI.sl) (v6 := .int .i64 zI.bw) (v7 := .int .i64 zI.bl) (v8 := .slice none 0 0) (by exact K3.out)) rfl rfl ⟨rfl, (((((((((G3.out.setCell (by exact Nat.le_refl _) _).setCell (by exact Nat.le_refl _) _).setCell (by exact Nat.le_refl _) _).setCell (by exact Nat.le_refl _) _).setCell (by exact Nat.le_refl _) _).setCell (by exact Nat.le_refl _) _).setCell (by exact Nat.le_refl _) _).setCell (by exact Nat.le_refl _) _).setCell (by exact Nat.le_refl _) _)⟩

theorem se_markK (key : ByteArray) : ∃ s n, markK [105] key [] = .returned (.tuple #[.string s, .int .i64 n]) ∧ (isK key = true → n = 0) ∧ (isK key = false → n = 2) := by
  unfold markK
  cases isK key
  · exact ⟨_, _, rfl, fun h => by (cases h), fun _ => rfl⟩
  · exact ⟨_, _, rfl, fun _ => rfl, fun h => by (cases h)⟩
set_option maxHeartbeats 4000000 in
theorem seCheckRec {w V : World} {T : List As} {p N : Nat} {r : List Rw} (h : Has w (tbA p r :: T) V) (hr : ROk N r) (hN : N ≤ 999999000) (hM : MaxL w) (key : ByteArray) (x : Rc) (A : Option Addr) (n c : Nat) (hx : ∀ W, Has w (tbA p r :: T) W → WtAt W A n x.l) (hn : n ≤ 9223372036854775807) :
    Calls Tryz.prog 133 #[pt p, .string key, rcv x (.slice A n c)] V fun e w' => e = .returned (.int .i64 (chkS key x)) ∧ Has w (tbA p r :: T) w' := by
  have H1 := Lib.hid (h.newBlk 69 (rcc x (.slice A n c))).swap
  have HI := Lib.hid (fun W hW => seIsNone (w := w) (p := p) (V := W) (T := blkA V.heap.size 69 (rcc x (.slice A n c)) :: T) hW hr hN)
  have HK := Lib.hid (fun W hW => intentKey_c key W (hM.below hW))
  have HX := Lib.hid hx
  have HC := Lib.hid (fun W hW => checkR x A n c W hW hn)
  obtain ⟨s, kk, hs, h1, h2⟩ := se_markK key
  rw [hs] at HK
  clear h hr hM hx hs
  unfold chkS
  cases hk : isK key with
  | false =>
    obtain rfl := h2 hk
    rw [if_neg (fun q => by cases q.1)]
    clear h1 h2 hk
    go_enter Tryz.func133, Tryz.ntmps133
    go_wp2_with (first
      | (go_at_call 126; refine (HI.out _ H1.out).mono ?_; rintro e w1 ⟨rfl, h3⟩; have H3 := Lib.hid h3; clear h3)
      | (go_at_call 13; refine (HK.out _ H3.out.bel).mono ?_; rintro e w2 ⟨rfl, hb2⟩; have H4 := Lib.hid (H3.out.keep hb2); clear hb2))
    go_ret
    exact ⟨rfl, H4.out.swap.tail⟩
  | true =>
    obtain rfl := h1 hk
    have HC2 := Lib.hid (show (if mayR x = true then (0 : Int) else 2) = if true = true ∧ mayR x = true then 0 else 2 by cases mayR x <;> rfl)
    rw [← HC2.out]
    obtain ⟨kc, hkc⟩ : ∃ kc, (if mayR x = true then (0 : Int) else 2) = kc := ⟨_, rfl⟩
    rw [hkc] at HC ⊢
    clear h1 h2 hk HC2 hkc
    go_enter Tryz.func133, Tryz.ntmps133
    go_wp2_with (first
      | (go_at_call 126; refine (HI.out _ H1.out).mono ?_; rintro e w1 ⟨rfl, h3⟩; have H3 := Lib.hid h3; clear h3)
      | (go_at_call 13; refine (HK.out _ H3.out.bel).mono ?_; rintro e w2 ⟨rfl, hb2⟩
         have h4 := H3.out.keep hb2
         have b4 := h4.blkAt (g := V.heap.size) (t := 69) (cs := rcc x (.slice A n c)) (by simp)
         have q0 := b4.cell 0
         have q1 := b4.cell 1
         have q2 := b4.cell 2
         have q3 := b4.cell 3
         have q4 := b4.cell 4
         have q5 := b4.cell 5
         have q6 := b4.cell 6
         have q7 := b4.cell 7
         have q8 := b4.cell 8
         have q9 := b4.cell 9
         simp at q0 q1 q2 q3 q4 q5 q6 q7 q8 q9
         have H4 := Lib.hid h4
         clear hb2 h4 b4)
      | (go_at_call 191; refine (HC.out _ (HX.out _ H4.out.swap.tail)).mono ?_; rintro e w3 ⟨rfl, hb3⟩; have H5 := Lib.hid (H4.out.keep hb3); clear hb3))
    go_ret
    exact ⟨rfl, H5.out.swap.tail⟩
end Go.Proofs.YtldbmogondmgmaaGreatDoor
set_option linter.unusedVariables false
set_option linter.unusedSimpArgs false
set_option maxRecDepth 100000
namespace Go.Proofs.YtldbmogondmgmaaGreatDoor
open Go.RowKit

theorem chkS_ok {key : ByteArray} {x : Rc} (h : chkS key x = 0) : isK key = true ∧ mayR x = true := by
  unfold chkS at h
  split at h
  · assumption
  · cases h
theorem tkI_nil : tkI [] = none := by
  cases h : tkI [] with
  | none => rfl
  | some y =>
    have h1 := (tkI_back h).2
    have h2 : (txI y).length = 0 := by rw [← h1]; rfl
    have h3 : 0 < (nbs y.id).length := by
      unfold nbs
      exact List.length_pos_iff.2 (by unfold enc; simp)
    unfold txI at h2
    simp only [List.length_append] at h2
    omega
theorem okey_sz {key : ByteArray} (h : isK key = true) : (okey (sb key)).length ≤ 66 := okey_len key (isK_iff.1 h).2
end Go.Proofs.YtldbmogondmgmaaGreatDoor
set_option linter.unusedVariables false
set_option linter.unusedSimpArgs false
set_option maxRecDepth 100000
namespace Go.Proofs.YtldbmogondmgmaaGreatDoor
open Go.RowKit

/-- What Resolve answers. -/
def AnsRes (o : List Op_ × Int) (w : World) (L : List As) (e : Ending) (w' : World) : Prop := ∃ A n c, e = .returned (.tuple #[.slice A n c, .int .i64 o.2]) ∧ n = o.1.length ∧ Has w (opA (.slice A n c) o.1 :: L) w'
set_option maxHeartbeats 4000000 in
theorem seRes_no {w V : World} {T : List As} {p N : Nat} {r : List Rw} (h : Has w (tbA p r :: T) V) (hr : ROk N r) (hN : N ≤ 999999000) (hM : MaxL w) (key : ByteArray) (x : Rc) (A : Option Addr) (n c : Nat) (hx : ∀ W, Has w (tbA p r :: T) W → WtAt W A n x.l) (hn : n ≤ 9223372036854775807) (hc : chkS key x = 2) :
    Calls Tryz.prog 68 #[pt p, .string key, rcv x (.slice A n c)] V fun e w' => AnsRes ([], 2) w (tbA p r :: T) e w' := by
  have h1 := (h.newBlk 69 (rcc x (.slice A n c))).swap
  have H1 := Lib.hid h1
  have HCK := Lib.hid (seCheckRec h1 hr hN hM key x A n c (fun W hW => hx W (show Has w (blkA V.heap.size 69 (rcc x (.slice A n c)) :: tbA p r :: T) W from hW.swap).tail) hn)
  have b1 := h1.blkAt (g := V.heap.size) (t := 69) (cs := rcc x (.slice A n c)) (by simp)
  have q0 := b1.cell 0
  have q1 := b1.cell 1
  have q2 := b1.cell 2
  have q3 := b1.cell 3
  have q4 := b1.cell 4
  have q5 := b1.cell 5
  have q6 := b1.cell 6
  have q7 := b1.cell 7
  have q8 := b1.cell 8
  have q9 := b1.cell 9
  simp at q0 q1 q2 q3 q4 q5 q6 q7 q8 q9
  have HIN := Lib.hid (fun (hk : isK key = true) W (hW : Has w (tbA p r :: blkA V.heap.size 69 (rcc x (.slice A n c)) :: T) W) => let ⟨F, hA, _⟩ := hW.get; seIntentOf hA hr.szs (hM.below hW.bel) key hk x.id)
  clear h h1 hr hx b1
  rw [hc] at HCK
  clear hc HIN hM
  go_enter Tryz.func68, Tryz.ntmps68
  go_wp2_with (first
      | (go_at_call 133; refine HCK.out.mono ?_; rintro e w1 ⟨rfl, h2⟩
         have b2 := h2.blkAt (g := V.heap.size) (t := 69) (cs := rcc x (.slice A n c)) (by simp)
         have q0 := b2.cell 0
         have q1 := b2.cell 1
         have q2 := b2.cell 2
         have q3 := b2.cell 3
         have q4 := b2.cell 4
         have q5 := b2.cell 5
         have q6 := b2.cell 6
         have q7 := b2.cell 7
         have q8 := b2.cell 8
         have q9 := b2.cell 9
         simp at q0 q1 q2 q3 q4 q5 q6 q7 q8 q9
         have H2 := Lib.hid h2
         clear h2 b2)
      | fail)
  go_ret2
  exact ⟨_, _, _, rfl, rfl, (show Has w (blkA V.heap.size 69 (rcc x (.slice A n c)) :: tbA p r :: T) _ from H2.out.swap).tail.newOp (World.ownsRow_nil _ _ _ _) (Below.refl _ _)⟩
set_option maxHeartbeats 4000000 in
theorem seRes_none {w V : World} {T : List As} {p N : Nat} {r : List Rw} (h : Has w (tbA p r :: T) V) (hr : ROk N r) (hN : N ≤ 999999000) (hM : MaxL w) (key : ByteArray) (x : Rc) (A : Option Addr) (n c : Nat) (hx : ∀ W, Has w (tbA p r :: T) W → WtAt W A n x.l) (hn : n ≤ 9223372036854775807) (hc : chkS key x = 0) (ho : ownI (pint r key) x.id = none) :
    Calls Tryz.prog 68 #[pt p, .string key, rcv x (.slice A n c)] V fun e w' => AnsRes ([], 0) w (tbA p r :: T) e w' := by
  have h1 := (h.newBlk 69 (rcc x (.slice A n c))).swap
  have H1 := Lib.hid h1
  have HCK := Lib.hid (seCheckRec h1 hr hN hM key x A n c (fun W hW => hx W (show Has w (blkA V.heap.size 69 (rcc x (.slice A n c)) :: tbA p r :: T) W from hW.swap).tail) hn)
  have b1 := h1.blkAt (g := V.heap.size) (t := 69) (cs := rcc x (.slice A n c)) (by simp)
  have q0 := b1.cell 0
  have q1 := b1.cell 1
  have q2 := b1.cell 2
  have q3 := b1.cell 3
  have q4 := b1.cell 4
  have q5 := b1.cell 5
  have q6 := b1.cell 6
  have q7 := b1.cell 7
  have q8 := b1.cell 8
  have q9 := b1.cell 9
  simp at q0 q1 q2 q3 q4 q5 q6 q7 q8 q9
  have HIN := Lib.hid (fun (hk : isK key = true) W (hW : Has w (tbA p r :: blkA V.heap.size 69 (rcc x (.slice A n c)) :: T) W) => let ⟨F, hA, _⟩ := hW.get; seIntentOf hA hr.szs (hM.below hW.bel) key hk x.id)
  clear h h1 hr hx b1
  have HI2 := Lib.hid (HIN.out (chkS_ok hc).1)
  rw [hc] at HCK
  rw [ho] at HI2
  unfold AnsT at HI2
  simp only at HI2
  clear hc HIN hM ho
  go_enter Tryz.func68, Tryz.ntmps68
  go_wp2_with (first
      | (go_at_call 133; refine HCK.out.mono ?_; rintro e w1 ⟨rfl, h2⟩
         have b2 := h2.blkAt (g := V.heap.size) (t := 69) (cs := rcc x (.slice A n c)) (by simp)
         have q0 := b2.cell 0
         have q1 := b2.cell 1
         have q2 := b2.cell 2
         have q3 := b2.cell 3
         have q4 := b2.cell 4
         have q5 := b2.cell 5
         have q6 := b2.cell 6
         have q7 := b2.cell 7
         have q8 := b2.cell 8
         have q9 := b2.cell 9
         simp at q0 q1 q2 q3 q4 q5 q6 q7 q8 q9
         have H2 := Lib.hid h2
         clear h2 b2)
      | (go_at_call 134; refine (HI2.out _ H2.out).mono ?_; rintro e w2 ⟨rfl, hb2⟩
         have h3 := H2.out.keep (bsa hb2 (.cells (itc zI (.slice none 0 0)) 39))
         have b3 := h3.blkAt (g := V.heap.size) (t := 69) (cs := rcc x (.slice A n c)) (by simp)
         have q0 := b3.cell 0
         have q1 := b3.cell 1
         have q2 := b3.cell 2
         have q3 := b3.cell 3
         have q4 := b3.cell 4
         have q5 := b3.cell 5
         have q6 := b3.cell 6
         have q7 := b3.cell 7
         have q8 := b3.cell 8
         have q9 := b3.cell 9
         simp at q0 q1 q2 q3 q4 q5 q6 q7 q8 q9
         have H3 := Lib.hid h3
         clear hb2 h3 b3)
      | fail)
  go_ret2
  exact ⟨_, _, _, rfl, rfl, (show Has w (blkA V.heap.size 69 (rcc x (.slice A n c)) :: tbA p r :: T) _ from H3.out.swap).tail.newOp (World.ownsRow_nil _ _ _ _) (Below.refl _ _)⟩
end Go.Proofs.YtldbmogondmgmaaGreatDoor
set_option linter.unusedVariables false
set_option linter.unusedSimpArgs false
set_option maxRecDepth 100000
namespace Go.Proofs.YtldbmogondmgmaaGreatDoor
open Go.RowKit

set_option maxHeartbeats 4000000 in
theorem seRes_ver {w V : World} {T : List As} {p N : Nat} {r : List Rw} (h : Has w (tbA p r :: T) V) (hr : ROk N r) (hN : N ≤ 999999000) (hM : MaxL w) (key : ByteArray) (x : Rc) (A : Option Addr) (n c : Nat) (hx : ∀ W, Has w (tbA p r :: T) W → WtAt W A n x.l) (hn : n ≤ 9223372036854775807) (hc : chkS key x = 0) (y : It) (ho : ownI (pint r key) x.id = some y) (hs : x.st = 3) (hcn : counts y x = true) :
    Calls Tryz.prog 68 #[pt p, .string key, rcv x (.slice A n c)] V fun e w' => AnsRes ([verO key x.sw x.sl y, goneO key], 0) w (tbA p r :: T) e w' := by
  have h1 := (h.newBlk 69 (rcc x (.slice A n c))).swap
  have H1 := Lib.hid h1
  have HCK := Lib.hid (seCheckRec h1 hr hN hM key x A n c (fun W hW => hx W (show Has w (blkA V.heap.size 69 (rcc x (.slice A n c)) :: tbA p r :: T) W from hW.swap).tail) hn)
  have b1 := h1.blkAt (g := V.heap.size) (t := 69) (cs := rcc x (.slice A n c)) (by simp)
  have q0 := b1.cell 0
  have q1 := b1.cell 1
  have q2 := b1.cell 2
  have q3 := b1.cell 3
  have q4 := b1.cell 4
  have q5 := b1.cell 5
  have q6 := b1.cell 6
  have q7 := b1.cell 7
  have q8 := b1.cell 8
  have q9 := b1.cell 9
  simp at q0 q1 q2 q3 q4 q5 q6 q7 q8 q9
  have HIN := Lib.hid (fun (hk : isK key = true) W (hW : Has w (tbA p r :: blkA V.heap.size 69 (rcc x (.slice A n c)) :: T) W) => let ⟨F, hA, _⟩ := hW.get; seIntentOf hA hr.szs (hM.below hW.bel) key hk x.id)
  clear h h1 hr hx b1
  have HI2 := Lib.hid (HIN.out (chkS_ok hc).1)
  have hkk := (chkS_ok hc).1
  have hmr := (mayR_parts (chkS_ok hc).2).1
  have hmy := pint_may (ownI_some ho).1
  have HGO := Lib.hid (fun W hW => seGone key hkk W (hM.below hW))
  have HCO := Lib.hid (fun v W => seCounts y v x (.slice A n c) W)
  have HVE := Lib.hid (fun A2 n2 c2 W (hW : Below w.heap.size w W) hx2 hn2 => seVersion key hkk x.sw x.sl hmr y hmy A2 n2 c2 W (hM.below hW) hx2 hn2)
  have HPU := Lib.hid (fun A2 n2 c2 W (hW : Below w.heap.size w W) hx2 hn2 => sePushed key hkk y hmy A2 n2 c2 x hmr (.slice A n c) W (hM.below hW) hx2 hn2)
  rw [hc] at HCK
  rw [ho] at HI2
  unfold AnsT at HI2
  simp only at HI2
  clear hc HIN hM ho hkk hmr hmy
  unfold verO goneO opv at *
  simp only at HGO HVE
  generalize bs (ikey (sb key)) = kk at *
  generalize bs (vkey (sb key) x.sw x.sl) = kv at *
  generalize bs (txV (lastS y) (!lastD y)) = tv at *
  rw [hcn] at HCO
  have hs3 : (x.st == 3) = true := by simpa using hs
  clear hcn HPU hs
  go_enter Tryz.func68, Tryz.ntmps68
  go_wp2_with (first
      | (go_at_call 133; refine HCK.out.mono ?_; rintro e w1 ⟨rfl, h2⟩
         have b2 := h2.blkAt (g := V.heap.size) (t := 69) (cs := rcc x (.slice A n c)) (by simp)
         have q0 := b2.cell 0
         have q1 := b2.cell 1
         have q2 := b2.cell 2
         have q3 := b2.cell 3
         have q4 := b2.cell 4
         have q5 := b2.cell 5
         have q6 := b2.cell 6
         have q7 := b2.cell 7
         have q8 := b2.cell 8
         have q9 := b2.cell 9
         simp at q0 q1 q2 q3 q4 q5 q6 q7 q8 q9
         have H2 := Lib.hid h2
         clear h2 b2)
      | (go_at_call 134; refine (HI2.out _ H2.out).mono ?_; rintro e w2 ⟨⟨A2, n2, c2, rfl, hat, hn2⟩, hb2⟩
         have h3 := H2.out.keep (bsa hb2 (.cells (itc y (.slice A2 n2 c2)) 39))
         have b3 := h3.blkAt (g := V.heap.size) (t := 69) (cs := rcc x (.slice A n c)) (by simp)
         have q0 := b3.cell 0
         have q1 := b3.cell 1
         have q2 := b3.cell 2
         have q3 := b3.cell 3
         have q4 := b3.cell 4
         have q5 := b3.cell 5
         have q6 := b3.cell 6
         have q7 := b3.cell 7
         have q8 := b3.cell 8
         have q9 := b3.cell 9
         simp at q0 q1 q2 q3 q4 q5 q6 q7 q8 q9
         have kI := Blk.new w2 39 (itc y (.slice A2 n2 c2))
         have KI := Lib.hid kI
         have HAT := Lib.hid (hat.below (nbl w2 (.cells (itc y (.slice A2 n2 c2)) 39)))
         clear hat kI
         have H3 := Lib.hid h3
         clear hb2 h3 b3)
      | (go_at_call 135; refine (HCO.out _ _).mono ?_; rintro e w3 ⟨rfl, hb3⟩
         have h4 := H3.out.keep hb3
         have b4 := h4.blkAt (g := V.heap.size) (t := 69) (cs := rcc x (.slice A n c)) (by simp)
         have q0 := b4.cell 0
         have q1 := b4.cell 1
         have q2 := b4.cell 2
         have q3 := b4.cell 3
         have q4 := b4.cell 4
         have q5 := b4.cell 5
         have q6 := b4.cell 6
         have q7 := b4.cell 7
         have q8 := b4.cell 8
         have q9 := b4.cell 9
         simp at q0 q1 q2 q3 q4 q5 q6 q7 q8 q9
         have k4 := KI.out.below hb3 KI.out.lt
         have i0 := k4.cell 0
         have i1 := k4.cell 1
         have i2 := k4.cell 2
         have i3 := k4.cell 3
         have i4 := k4.cell 4
         have i5 := k4.cell 5
         have i6 := k4.cell 6
         have i7 := k4.cell 7
         have i8 := k4.cell 8
         simp at i0 i1 i2 i3 i4 i5 i6 i7 i8
         have HAT4 := Lib.hid (HAT.out.below hb3)
         have H4 := Lib.hid h4
         clear hb3 h4 b4 k4)
      | (go_at_call 136; refine (HVE.out _ _ _ _ H4.out.bel HAT4.out hn2).mono ?_; rintro e w5 ⟨rfl, hb5⟩; have H5 := Lib.hid (H4.out.keep hb5); clear hb5)
      | (go_at_call 137; refine (HGO.out _ H5.out.bel).mono ?_; rintro e w6 ⟨rfl, hb6⟩; have H6 := Lib.hid (H5.out.keep hb6); clear hb6)
      | fail)
  have hq := Blk.new w6 98 #[.string kv, .string tv, .bool false, .string kk, .string ⟨#[]⟩, .bool true]
  go_ret2
  exact ⟨_, _, _, rfl, rfl, (show Has w (blkA V.heap.size 69 (rcc x (.slice A n c)) :: tbA p r :: T) _ from H6.out.swap).tail.newOp (orow2 hq (Nat.le_refl _)) (nbl _ _)⟩
end Go.Proofs.YtldbmogondmgmaaGreatDoor
set_option linter.unusedVariables false
set_option linter.unusedSimpArgs false
set_option maxRecDepth 100000
namespace Go.Proofs.YtldbmogondmgmaaGreatDoor
open Go.RowKit

set_option maxHeartbeats 4000000 in
theorem seRes_else {w V : World} {T : List As} {p N : Nat} {r : List Rw} (h : Has w (tbA p r :: T) V) (hr : ROk N r) (hN : N ≤ 999999000) (hM : MaxL w) (key : ByteArray) (x : Rc) (A : Option Addr) (n c : Nat) (hx : ∀ W, Has w (tbA p r :: T) W → WtAt W A n x.l) (hn : n ≤ 9223372036854775807) (hc : chkS key x = 0) (y : It) (ho : ownI (pint r key) x.id = some y) (hs : x.st = 3) (hcn : counts y x = false) :
    Calls Tryz.prog 68 #[pt p, .string key, rcv x (.slice A n c)] V fun e w' => AnsRes ([goneO key], 0) w (tbA p r :: T) e w' := by
  have h1 := (h.newBlk 69 (rcc x (.slice A n c))).swap
  have H1 := Lib.hid h1
  have HCK := Lib.hid (seCheckRec h1 hr hN hM key x A n c (fun W hW => hx W (show Has w (blkA V.heap.size 69 (rcc x (.slice A n c)) :: tbA p r :: T) W from hW.swap).tail) hn)
  have b1 := h1.blkAt (g := V.heap.size) (t := 69) (cs := rcc x (.slice A n c)) (by simp)
  have q0 := b1.cell 0
  have q1 := b1.cell 1
  have q2 := b1.cell 2
  have q3 := b1.cell 3
  have q4 := b1.cell 4
  have q5 := b1.cell 5
  have q6 := b1.cell 6
  have q7 := b1.cell 7
  have q8 := b1.cell 8
  have q9 := b1.cell 9
  simp at q0 q1 q2 q3 q4 q5 q6 q7 q8 q9
  have HIN := Lib.hid (fun (hk : isK key = true) W (hW : Has w (tbA p r :: blkA V.heap.size 69 (rcc x (.slice A n c)) :: T) W) => let ⟨F, hA, _⟩ := hW.get; seIntentOf hA hr.szs (hM.below hW.bel) key hk x.id)
  clear h h1 hr hx b1
  have HI2 := Lib.hid (HIN.out (chkS_ok hc).1)
  have hkk := (chkS_ok hc).1
  have hmr := (mayR_parts (chkS_ok hc).2).1
  have hmy := pint_may (ownI_some ho).1
  have HGO := Lib.hid (fun W hW => seGone key hkk W (hM.below hW))
  have HCO := Lib.hid (fun v W => seCounts y v x (.slice A n c) W)
  have HVE := Lib.hid (fun A2 n2 c2 W (hW : Below w.heap.size w W) hx2 hn2 => seVersion key hkk x.sw x.sl hmr y hmy A2 n2 c2 W (hM.below hW) hx2 hn2)
  have HPU := Lib.hid (fun A2 n2 c2 W (hW : Below w.heap.size w W) hx2 hn2 => sePushed key hkk y hmy A2 n2 c2 x hmr (.slice A n c) W (hM.below hW) hx2 hn2)
  rw [hc] at HCK
  rw [ho] at HI2
  unfold AnsT at HI2
  simp only at HI2
  clear hc HIN hM ho hkk hmr hmy
  unfold goneO opv at *
  simp only at HGO
  generalize bs (ikey (sb key)) = kk at *
  rw [hcn] at HCO
  have hs3 : (x.st == 3) = true := by simpa using hs
  clear hcn HPU HVE hs
  go_enter Tryz.func68, Tryz.ntmps68
  go_wp2_with (first
      | (go_at_call 133; refine HCK.out.mono ?_; rintro e w1 ⟨rfl, h2⟩
         have b2 := h2.blkAt (g := V.heap.size) (t := 69) (cs := rcc x (.slice A n c)) (by simp)
         have q0 := b2.cell 0
         have q1 := b2.cell 1
         have q2 := b2.cell 2
         have q3 := b2.cell 3
         have q4 := b2.cell 4
         have q5 := b2.cell 5
         have q6 := b2.cell 6
         have q7 := b2.cell 7
         have q8 := b2.cell 8
         have q9 := b2.cell 9
         simp at q0 q1 q2 q3 q4 q5 q6 q7 q8 q9
         have H2 := Lib.hid h2
         clear h2 b2)
      | (go_at_call 134; refine (HI2.out _ H2.out).mono ?_; rintro e w2 ⟨⟨A2, n2, c2, rfl, hat, hn2⟩, hb2⟩
         have h3 := H2.out.keep (bsa hb2 (.cells (itc y (.slice A2 n2 c2)) 39))
         have b3 := h3.blkAt (g := V.heap.size) (t := 69) (cs := rcc x (.slice A n c)) (by simp)
         have q0 := b3.cell 0
         have q1 := b3.cell 1
         have q2 := b3.cell 2
         have q3 := b3.cell 3
         have q4 := b3.cell 4
         have q5 := b3.cell 5
         have q6 := b3.cell 6
         have q7 := b3.cell 7
         have q8 := b3.cell 8
         have q9 := b3.cell 9
         simp at q0 q1 q2 q3 q4 q5 q6 q7 q8 q9
         have kI := Blk.new w2 39 (itc y (.slice A2 n2 c2))
         have KI := Lib.hid kI
         have HAT := Lib.hid (hat.below (nbl w2 (.cells (itc y (.slice A2 n2 c2)) 39)))
         clear hat kI
         have H3 := Lib.hid h3
         clear hb2 h3 b3)
      | (go_at_call 135; refine (HCO.out _ _).mono ?_; rintro e w3 ⟨rfl, hb3⟩
         have h4 := H3.out.keep hb3
         have b4 := h4.blkAt (g := V.heap.size) (t := 69) (cs := rcc x (.slice A n c)) (by simp)
         have q0 := b4.cell 0
         have q1 := b4.cell 1
         have q2 := b4.cell 2
         have q3 := b4.cell 3
         have q4 := b4.cell 4
         have q5 := b4.cell 5
         have q6 := b4.cell 6
         have q7 := b4.cell 7
         have q8 := b4.cell 8
         have q9 := b4.cell 9
         simp at q0 q1 q2 q3 q4 q5 q6 q7 q8 q9
         have k4 := KI.out.below hb3 KI.out.lt
         have i0 := k4.cell 0
         have i1 := k4.cell 1
         have i2 := k4.cell 2
         have i3 := k4.cell 3
         have i4 := k4.cell 4
         have i5 := k4.cell 5
         have i6 := k4.cell 6
         have i7 := k4.cell 7
         have i8 := k4.cell 8
         simp at i0 i1 i2 i3 i4 i5 i6 i7 i8
         have HAT4 := Lib.hid (HAT.out.below hb3)
         have H4 := Lib.hid h4
         clear hb3 h4 b4 k4)
      | (go_at_call 137; refine (HGO.out _ H4.out.bel).mono ?_; rintro e w6 ⟨rfl, hb6⟩; have H6 := Lib.hid (H4.out.keep hb6); clear hb6)
      | fail)
  have hq := Blk.new w6 98 #[.string kk, .string ⟨#[]⟩, .bool true]
  go_ret2
  exact ⟨_, _, _, rfl, rfl, (show Has w (blkA V.heap.size 69 (rcc x (.slice A n c)) :: tbA p r :: T) _ from H6.out.swap).tail.newOp (orow1 hq (Nat.le_refl _)) (nbl _ _)⟩
end Go.Proofs.YtldbmogondmgmaaGreatDoor
