/-
  Layer 9, the code: find.
  Layer 9, the code: New, Get, Steps, Len, First, Last.
-/
import Derived.Test.YtgccichmdddbpaaGreatDoorPL04
import Derived.StillTailTactics
import Derived.Deep.CutRange
import Derived.Deep.CutBlock
import Derived.LaidEqlPtr
set_option linter.unusedVariables false
namespace Go.Proofs.YtgccichmdddbpaaGreatDoor
open Go.RowKit

theorem Blk.c16 {w : World} {b : Nat} {t : TypeId} {f : Nat → Value} (h : Blk w b t (waysC f)) :
    w.cell? ⟨b, 0, none⟩ = some (f 0) ∧ w.cell? ⟨b, 1, none⟩ = some (f 1) ∧ w.cell? ⟨b, 2, none⟩ = some (f 2) ∧ w.cell? ⟨b, 3, none⟩ = some (f 3) ∧ w.cell? ⟨b, 4, none⟩ = some (f 4) ∧ w.cell? ⟨b, 5, none⟩ = some (f 5) ∧ w.cell? ⟨b, 6, none⟩ = some (f 6) ∧ w.cell? ⟨b, 7, none⟩ = some (f 7) ∧
      w.cell? ⟨b, 8, none⟩ = some (f 8) ∧ w.cell? ⟨b, 9, none⟩ = some (f 9) ∧ w.cell? ⟨b, 10, none⟩ = some (f 10) ∧ w.cell? ⟨b, 11, none⟩ = some (f 11) ∧ w.cell? ⟨b, 12, none⟩ = some (f 12) ∧ w.cell? ⟨b, 13, none⟩ = some (f 13) ∧ w.cell? ⟨b, 14, none⟩ = some (f 14) ∧ w.cell? ⟨b, 15, none⟩ = some (f 15) :=
  ⟨h.cell 0, h.cell 1, h.cell 2, h.cell 3, h.cell 4, h.cell 5, h.cell 6, h.cell 7, h.cell 8, h.cell 9, h.cell 10, h.cell 11, h.cell 12, h.cell 13, h.cell 14, h.cell 15⟩
/-- What stands at a key's place. -/
def fndP (L : List Nd) (key : ByteArray) : Option Nat := if khas (kvs L) key then (L[kpos (kvs L) key]?).map (·.1) else none
def ahd (h : Nat) (L : List Nd) (key : ByteArray) : Nat → Nat := fun m => la m (sh h (L.take (kpos (kvs L) key)))
section
variable {TL TI : TypeId} {z : Value} {V : World} {q h : Nat} {L : List Nd} {g : Nat → Nat → Option Nat}
theorem SkR.nx0 (hR : SkR TL TI z V q h L g) (p : Nat) : g 0 (la 0 (sh h (L.take p))) = (L[p]?).map (·.1) := by
  have hc := hR.ck 0 (by omega)
  have e : sh h L = sh h (L.take p) ++ (L.drop p).map (fun x => (x.1, x.2.st)) := by
    rw [← sh_take, ← sh_drop, List.take_append_drop]
  rw [e] at hc
  rw [ck_la hc (sh_on (by omega) h _)]
  by_cases hp : p < L.length
  · rw [List.drop_eq_getElem_cons hp, List.map_cons, nx_cons (by have := (hR.st (L[p]'hp) (List.getElem_mem hp)).1; show 0 < (L[p]'hp).2.st; omega), List.getElem?_eq_getElem hp]
    rfl
  · rw [List.drop_of_length_le (by omega), List.getElem?_eq_none (by omega)]
    rfl
theorem SkR.laMem (hR : SkR TL TI z V q h L g) (m p : Nat) : la m (sh h (L.take p)) = h ∨ la m (sh h (L.take p)) ∈ L.map (·.1) := by
  have hm : la m (sh h (L.take p)) ∈ (sh h (L.take p)).map (·.1) := la_mem (by simp [sh])
  have e : (sh h (L.take p)).map (·.1) = h :: (L.take p).map (·.1) := by unfold sh; rw [List.map_cons, List.map_map]; rfl
  rw [e] at hm
  rcases List.mem_cons.1 hm with h1 | h1
  · exact .inl h1
  · refine .inr ?_
    obtain ⟨x, hx, e2⟩ := List.mem_map.1 h1
    exact List.mem_map.2 ⟨x, List.mem_of_mem_take hx, e2⟩
end
theorem ret_find {fn : Func} {Q : Ending → World → Prop} {a : Act} {w : World} {b : Nat} {v : Value} {f : Nat → Value} (hr : fn.results = #[.tmp 4, .cell 5 182]) (hv : a.tmps.getD 4 undef = v) (hp : a.tmps.getD 5 undef = .pointer (some ⟨b, 0, none⟩))
    (hB : Blk w b 182 (waysC f)) (hd : a.defers = []) (hR : Q (.returned (.tuple #[v, .agg (waysC f)])) w) : bodyPost Tryz.prog fn Q .ret a w := by
  refine bodyPost_ret ?_ hd hR
  have hp' : a.tmps[5]?.getD undef = .pointer (some ⟨b, 0, none⟩) := by simpa using hp
  have hv' : a.tmps[4]?.getD undef = v := by simpa using hv
  simp [results, hr, hp', hv', asAddr, run_loadVar_row w b 182 182 _ (0, 0) _ hB Tryz.underlying182 rfl (by kernel_rfl)]
set_option maxRecDepth 100000 in
set_option maxHeartbeats 8000000 in
theorem sk_find (z : Value) (q h : Nat) (L : List Nd) (g : Nat → Nat → Option Nat) (key : ByteArray) (w : World) (hR : SkR 195 186 z w q h L g) :
    Calls Tryz.prog 119 #[pt q, .string key] w fun e w' => e = .returned (.tuple #[pp (fndP L key), .agg (waysC (fun m => pt (ahd h L key m)))]) ∧ Below w.heap.size w w' := by
  obtain ⟨W, hW⟩ : ∃ W : Array Value, W = waysC (fun m => pt (ahd h L key m)) := ⟨_, rfl⟩
  have hb1 := nbl w (.cells zeroW 182)
  have NO := Lib.hid (sk_isNone z q h L.length L g _ (hR.below hb1).mem)
  have BE := Lib.hid (sk_below z q h L g key _ (hR.below hb1))
  have HZ := Lib.hid (Blk.new w 182 zeroW)
  have HB := Lib.hid hb1
  have HR := Lib.hid hR
  have HN0 := Lib.hid (hR.nx0 (kpos (kvs L) key))
  have HM0 := Lib.hid (hR.laMem 0 (kpos (kvs L) key))
  have hl := kvs_len L
  have hsz : (w.alloc (.cells zeroW 182)).heap.size = w.heap.size + 1 := by simp
  have HSZ := Lib.hid hsz
  have hfn : (kpos (kvs L) key < L.length ∧ ∃ x, L[kpos (kvs L) key]? = some x ∧ fndP L key = if x.2.key = key then some x.1 else none) ∨ (L[kpos (kvs L) key]? = none ∧ fndP L key = none) := by
    by_cases hp : kpos (kvs L) key < L.length
    · refine .inl ⟨hp, _, List.getElem?_eq_getElem hp, ?_⟩
      unfold fndP
      rw [khas_at (by rw [hl]; exact hp), List.getElem?_eq_getElem hp, kvs_get hp]
      by_cases e : (L[kpos (kvs L) key]'hp).2.key = key
      · rw [decide_eq_true e, if_pos rfl, if_pos e]
        rfl
      · rw [decide_eq_false e, if_neg (by decide), if_neg e]
    · refine .inr ⟨List.getElem?_eq_none (by omega), ?_⟩
      unfold fndP
      rw [khas_end (by rw [hl]; omega)]
      rfl
  have HF := Lib.hid hfn
  clear hR hb1 hl hsz hfn
  go_enter Tryz.func119, Tryz.ntmps119
  go_upto_region 4 with (first
    | (go_at_call 162; refine NO.out.mono ?_; rintro e w2 ⟨rfl, rfl⟩)
    | (go_at_call 163; refine BE.out.mono ?_; rintro e w2 ⟨rfl, hb⟩; have HZ2 := Lib.hid (HZ.out.below hb (by rw [HSZ.out]; omega)); have HB2 := Lib.hid (bst HB.out hb))
    | (refine wpList_store_row rfl 182 _ _ rfl w.heap.size (waysC (fun m => pt (ahd h L key m))) rfl rfl 182 zeroW HZ2.out (by kernel_rfl) rfl (waysC_all (fun _ _ => rfl)) ?_))
  have hz3 := HZ2.out.row (waysC (fun m => pt (ahd h L key m)))
  have hb3 := brow HB2.out (Nat.le_refl _) (waysC (fun m => pt (ahd h L key m)))
  generalize w2.setRow w.heap.size (waysC (fun m => pt (ahd h L key m))) = X at *
  have hm3 := HR.out.mem.next HM0.out (show 0 < 16 by omega)
  have halt : la 0 (sh h (L.take (kpos (kvs L) key))) < w.heap.size := HR.out.mem.lt (HM0.out.elim (fun e => .inr (.inl e)) (fun e => .inr (.inr e)))
  rw [HN0.out] at hm3
  have hm4 := (hb3.cell (p := ⟨la 0 (sh h (L.take (kpos (kvs L) key))), 3 + 0, none⟩) halt).trans hm3
  have HZ3 := Lib.hid hz3
  have HB3 := Lib.hid hb3
  obtain ⟨c0, c1, c2, c3, c4, c5, c6, c7, c8, c9, c10, c11, c12, c13, c14, c15⟩ := hz3.c16
  have d0 : X.cell? ⟨w.heap.size, 0, none⟩ = some (pt (la 0 (sh h (L.take (kpos (kvs L) key))))) := c0
  have HC := Lib.hid (And.intro c0 (And.intro c1 (And.intro c2 (And.intro c3 (And.intro c4 (And.intro c5 (And.intro c6 (And.intro c7 (And.intro c8 (And.intro c9 (And.intro c10 (And.intro c11 (And.intro c12 (And.intro c13 (And.intro c14 c15)))))))))))))))
  clear c0 c1 c2 c3 c4 c5 c6 c7 c8 c9 c10 c11 c12 c13 c14 c15 hm3 hz3 hb3 HZ2 HB2 hb NO BE HB HZ
  generalize la 0 (sh h (L.take (kpos (kvs L) key))) = a at *
  rcases HF.out with ⟨hp, x, hx, hf⟩ | ⟨hx, hf⟩
  · rw [hx] at hm4
    have hxm : x ∈ L := by
      obtain ⟨hp2, e⟩ := List.getElem?_eq_some_iff.1 hx
      rw [← e]
      exact List.getElem_mem hp2
    have hxlt : x.1 < w.heap.size := HR.out.mem.lt (.inr (.inr (List.mem_map.2 ⟨x, hxm, rfl⟩)))
    have e2 := (HB3.out.cell (p := ⟨x.1, 0, none⟩) hxlt).trans (HR.out.mem.key hxm)
    have e1 : X.cell? ⟨a, 3, none⟩ = some (pt x.1) := hm4
    obtain ⟨⟨b, ⟨k, v, s⟩⟩, rfl⟩ : ∃ y, x = y := ⟨x, rfl⟩
    simp only at e1 e2 hf
    clear hm4 hx HF HN0 hxm hxlt
    by_cases hk : k = key
    · rw [if_pos hk] at hf
      have HFF := Lib.hid hf
      have hk2 : (k.toList == key.toList) = true := by rw [kbeq]; exact decide_eq_true hk
      clear hf
      subst hk
      go_wp2_with fail
      clear d0
      obtain ⟨c0, c1, c2, c3, c4, c5, c6, c7, c8, c9, c10, c11, c12, c13, c14, c15⟩ := HC.out
      go_still_tail 3, (by kernel_rfl)
      change wpList _ _ _ _ _ X.drew
      have HZ4 := Lib.hid (show Blk X.drew w.heap.size 182 (waysC fun m => pt (ahd h L k m)) from HZ3.out)
      have HB4 := Lib.hid (show Below w.heap.size w X.drew from HB3.out.drew)
      generalize X.drew = Y at *
      clear c0 c1 c2 c3 c4 c5 c6 c7 c8 c9 c10 c11 c12 c13 c14 c15 HC e1 e2
      go_wp2_with (refine wpList_store_row rfl 182 _ _ rfl w.heap.size (waysC (fun m => pt (ahd h L k m))) rfl rfl 182 _ HZ4.out (by kernel_rfl) rfl (waysC_all (fun _ _ => rfl)) ?_)
      exact ret_find (v := pt b) rfl rfl rfl (HZ4.out.row _) rfl ⟨by rw [HFF.out]; rfl, brow HB4.out (Nat.le_refl _) _⟩
    · rw [if_neg hk] at hf
      have HFF := Lib.hid hf
      have hk2 : (k.toList == key.toList) = false := by rw [kbeq]; exact decide_eq_false hk
      clear hf hk
      go_wp2_with fail
      clear d0
      obtain ⟨c0, c1, c2, c3, c4, c5, c6, c7, c8, c9, c10, c11, c12, c13, c14, c15⟩ := HC.out
      go_still_tail 2, (by kernel_rfl)
      change wpList _ _ _ _ _ X.drew
      have HZ4 := Lib.hid (show Blk X.drew w.heap.size 182 (waysC fun m => pt (ahd h L key m)) from HZ3.out)
      have HB4 := Lib.hid (show Below w.heap.size w X.drew from HB3.out.drew)
      generalize X.drew = Y at *
      clear c0 c1 c2 c3 c4 c5 c6 c7 c8 c9 c10 c11 c12 c13 c14 c15 HC e1 e2
      go_wp2_with (refine wpList_store_row rfl 182 _ _ rfl w.heap.size (waysC (fun m => pt (ahd h L key m))) rfl rfl 182 _ HZ4.out (by kernel_rfl) rfl (waysC_all (fun _ _ => rfl)) ?_)
      exact ret_find (v := .pointer none) rfl rfl rfl (HZ4.out.row _) rfl ⟨by rw [HFF.out]; rfl, brow HB4.out (Nat.le_refl _) _⟩
  · rw [hx] at hm4
    have HFF := Lib.hid hf
    have e1 : X.cell? ⟨a, 3, none⟩ = some (.pointer none) := hm4
    clear hm4 hf hx HF HN0
    go_wp2_with fail
    clear d0
    obtain ⟨c0, c1, c2, c3, c4, c5, c6, c7, c8, c9, c10, c11, c12, c13, c14, c15⟩ := HC.out
    go_still_tail 2, (by kernel_rfl)
    change wpList _ _ _ _ _ X.drew
    have HZ4 := Lib.hid (show Blk X.drew w.heap.size 182 (waysC fun m => pt (ahd h L key m)) from HZ3.out)
    have HB4 := Lib.hid (show Below w.heap.size w X.drew from HB3.out.drew)
    generalize X.drew = Y at *
    clear c0 c1 c2 c3 c4 c5 c6 c7 c8 c9 c10 c11 c12 c13 c14 c15 HC e1
    go_wp2_with (refine wpList_store_row rfl 182 _ _ rfl w.heap.size (waysC (fun m => pt (ahd h L key m))) rfl rfl 182 _ HZ4.out (by kernel_rfl) rfl (waysC_all (fun _ _ => rfl)) ?_)
    exact ret_find (v := .pointer none) rfl rfl rfl (HZ4.out.row _) rfl ⟨by rw [HFF.out]; rfl, brow HB4.out (Nat.le_refl _) _⟩
end Go.Proofs.YtgccichmdddbpaaGreatDoor
set_option linter.unusedVariables false
namespace Go.Proofs.YtgccichmdddbpaaGreatDoor
open Go.RowKit

theorem fnd_cases (z : Value) (L : List Nd) (key : ByteArray) :
    (∃ x, ∃ hp : kpos (kvs L) key < L.length, x = L[kpos (kvs L) key]'hp ∧ x ∈ L ∧ fndP L key = some x.1 ∧ khas (kvs L) key = true ∧ kval z (kvs L) key = x.2.val ∧ ksteps (kvs L) key = x.2.st) ∨
      (fndP L key = none ∧ khas (kvs L) key = false ∧ kval z (kvs L) key = z ∧ ksteps (kvs L) key = 0) := by
  have hl := kvs_len L
  cases hh : khas (kvs L) key with
  | true =>
    obtain ⟨hp, hk⟩ := (khas_iff _ _).1 hh
    have hp2 : kpos (kvs L) key < L.length := by omega
    refine .inl ⟨_, hp2, rfl, List.getElem_mem hp2, ?_, rfl, ?_, ?_⟩
    · unfold fndP
      rw [hh, if_pos rfl, List.getElem?_eq_getElem hp2]
      rfl
    · rw [kval_eq hp hh, kvs_get hp2]
    · unfold ksteps
      rw [hh, if_pos rfl, stAt_eq hp, kvs_get hp2]
  | false =>
    refine .inr ⟨?_, rfl, ?_, ?_⟩
    · unfold fndP; rw [hh]; rfl
    · unfold kval; rw [hh]; rfl
    · unfold ksteps; rw [hh]; rfl
set_option maxRecDepth 100000 in
set_option maxHeartbeats 4000000 in
theorem sk_new (w : World) :
    Calls Tryz.prog 87 #[] w fun e w' => e = .returned (pt (w.heap.size + 1)) ∧ SkR 195 186 (.string ⟨#[]⟩) w' (w.heap.size + 1) w.heap.size [] (fun _ _ => none) ∧ Below w.heap.size w w' ∧ w'.heap.size = w.heap.size + 2 := by
  have h1 := Blk.new w 186 (nodeC ⟨#[]⟩ (.string ⟨#[]⟩) 0 (fun _ => none))
  have hb1 := nbl w (.cells (nodeC ⟨#[]⟩ (.string ⟨#[]⟩) 0 (fun _ => none)) 186)
  generalize hX : w.alloc (.cells (nodeC ⟨#[]⟩ (.string ⟨#[]⟩) 0 (fun _ => none)) 186) = X at *
  have hs : X.heap.size = w.heap.size + 1 := by rw [← hX]; simp
  have h2 := Blk.new X 195 #[pt w.heap.size, .int .i64 0]
  have hb2 := nbl X (.cells #[pt w.heap.size, .int .i64 0] 195)
  have h3 := h1.below hb2 h1.lt
  rw [hs] at h2
  have hR : SkR 195 186 (.string ⟨#[]⟩) (X.alloc (.cells #[pt w.heap.size, .int .i64 0] 195)) (w.heap.size + 1) w.heap.size [] (fun _ _ => none) :=
    ⟨⟨h2, h3, fun x hx => (nomatch hx), by simp⟩, fun m hm => ⟨fun _ => rfl, trivial⟩, fun x hx => (nomatch hx), List.Pairwise.nil⟩
  have HR := Lib.hid hR
  have HB := Lib.hid (bst hb1 hb2)
  have HS := Lib.hid (show (X.alloc (.cells #[pt w.heap.size, .int .i64 0] 195)).heap.size = w.heap.size + 2 from by simp [hs])
  have HX := Lib.hid hX
  clear hR hb1 hb2 h1 h2 h3 hs hX
  go_enter Tryz.func87, Tryz.ntmps87
  go_wp2_with fail
  go_ret
  have e : w.alloc (.cells #[.string ⟨#[]⟩, .string ⟨#[]⟩, .int .i64 0, .pointer none, .pointer none, .pointer none, .pointer none, .pointer none, .pointer none, .pointer none, .pointer none, .pointer none, .pointer none, .pointer none, .pointer none, .pointer none, .pointer none, .pointer none, .pointer none] 186) = X := HX.out
  rw [e]
  exact ⟨rfl, HR.out, HB.out, HS.out⟩
set_option maxRecDepth 100000 in
set_option maxHeartbeats 4000000 in
theorem sk_get (z : Value) (hz : z = .string ⟨#[]⟩) (q h : Nat) (L : List Nd) (g : Nat → Nat → Option Nat) (key : ByteArray) (w : World) (hR : SkR 195 186 z w q h L g) :
    Calls Tryz.prog 70 #[pt q, .string key] w fun e w' => e = .returned (.tuple #[kval z (kvs L) key, .bool (khas (kvs L) key)]) ∧ Below w.heap.size w w' := by
  have FI := Lib.hid (sk_find z q h L g key w hR)
  rcases fnd_cases z L key with ⟨x, hp, hx, hm, h1, h2, h3, h4⟩ | ⟨h1, h2, h3, h4⟩
  · have hv := hR.mem.val hm
    have hlt := hR.mem.lt (.inr (.inr (List.mem_map.2 ⟨x, hm, rfl⟩)))
    rw [h1, show pp (some x.1) = pt x.1 from rfl] at FI
    rw [h2, h3]
    obtain ⟨⟨b, ⟨k, v, s⟩⟩, rfl⟩ : ∃ y, x = y := ⟨x, rfl⟩
    simp only at hv hlt FI ⊢
    have HV := Lib.hid (fun V (hb : Below w.heap.size w V) => (hb.cell (p := ⟨b, 1, none⟩) hlt).trans hv)
    clear hx h4 hR hm h1 h2 h3 hv hlt hp
    go_enter Tryz.func70, Tryz.ntmps70
    go_wp2_with (first
      | (go_at_call 119; refine FI.out.mono ?_; rintro e w2 ⟨rfl, hb⟩; have HB := Lib.hid hb; have HB2 := Lib.hid (brow (bst hb (nbl w2 (.cells zeroW 182))) hb.size (waysC fun m => pt (ahd h L key m))); have c1 := HV.out _ HB2.out)
      | (refine wpList_store_row rfl 182 _ _ rfl w2.heap.size (waysC fun m => pt (ahd h L key m)) rfl rfl 182 zeroW (Blk.new w2 182 zeroW) (by kernel_rfl) rfl (waysC_all (fun _ _ => rfl)) ?_))
    go_ret2
    exact ⟨rfl, HB2.out⟩
  · rw [h1, show pp none = .pointer none from rfl] at FI
    rw [h2, h3, hz]
    clear hR h1 h2 h3 h4
    go_enter Tryz.func70, Tryz.ntmps70
    go_wp2_with (first
      | (go_at_call 119; refine FI.out.mono ?_; rintro e w2 ⟨rfl, hb⟩; have HB2 := Lib.hid (brow (bst hb (nbl w2 (.cells zeroW 182))) hb.size (waysC fun m => pt (ahd h L key m))))
      | (refine wpList_store_row rfl 182 _ _ rfl w2.heap.size (waysC fun m => pt (ahd h L key m)) rfl rfl 182 zeroW (Blk.new w2 182 zeroW) (by kernel_rfl) rfl (waysC_all (fun _ _ => rfl)) ?_))
    go_ret2
    exact ⟨rfl, HB2.out⟩
/-- What First answers. -/
def firstV (l : List Kv) (k : ByteArray) : Value := .tuple #[.string (keyAt l (kpos l k)), .bool (decide (kpos l k < l.length))]
set_option maxRecDepth 100000 in
set_option maxHeartbeats 4000000 in
theorem sk_first (z : Value) (q h : Nat) (L : List Nd) (g : Nat → Nat → Option Nat) (key : ByteArray) (w : World) (hR : SkR 195 186 z w q h L g) :
    Calls Tryz.prog 108 #[pt q, .string key] w fun e w' => e = .returned (firstV (kvs L) key) ∧ Below w.heap.size w w' := by
  have NO := Lib.hid (sk_isNone z q h L.length L g _ hR.mem)
  have BE := Lib.hid (sk_below z q h L g key w hR)
  have hn0 := hR.nx0 (kpos (kvs L) key)
  have hm0 := hR.laMem 0 (kpos (kvs L) key)
  have hm3 := hR.mem.next hm0 (show 0 < 16 by omega)
  have halt : la 0 (sh h (L.take (kpos (kvs L) key))) < w.heap.size := hR.mem.lt (hm0.elim (fun e => .inr (.inl e)) (fun e => .inr (.inr e)))
  rw [hn0] at hm3
  have HN := Lib.hid (fun V (hb : Below w.heap.size w V) => (hb.cell (p := ⟨la 0 (sh h (L.take (kpos (kvs L) key))), 3 + 0, none⟩) halt).trans hm3)
  have hl := kvs_len L
  have hcs : (∃ x, (L[kpos (kvs L) key]?) = some x ∧ x ∈ L ∧ firstV (kvs L) key = .tuple #[.string x.2.key, .bool true]) ∨ (L[kpos (kvs L) key]? = none ∧ firstV (kvs L) key = .tuple #[.string ⟨#[]⟩, .bool false]) := by
    unfold firstV
    by_cases hp : kpos (kvs L) key < L.length
    · refine .inl ⟨_, List.getElem?_eq_getElem hp, List.getElem_mem hp, ?_⟩
      rw [keyAt_eq (by rw [hl]; exact hp), kvs_get hp, hl, decide_eq_true hp]
    · refine .inr ⟨List.getElem?_eq_none (by omega), ?_⟩
      unfold keyAt
      rw [List.getElem?_eq_none (by rw [hl]; omega), hl, decide_eq_false hp]
      rfl
  rcases hcs with ⟨x, hx, hxm, hv⟩ | ⟨hx, hv⟩
  · have hxlt : x.1 < w.heap.size := hR.mem.lt (.inr (.inr (List.mem_map.2 ⟨x, hxm, rfl⟩)))
    have HK := Lib.hid (fun V (hb : Below w.heap.size w V) => (hb.cell (p := ⟨x.1, 0, none⟩) hxlt).trans (hR.mem.key hxm))
    rw [hx] at HN
    rw [hv]
    clear hR hn0 hm0 hm3 halt hl hx hxm hv hxlt
    have hi0 : ∀ V : World, (Instr.index 182 (.agg (waysC (fun m => pt (la m (sh h (L.take (kpos (kvs L) key))))))) (.int .i64 0)).run Tryz.prog V = .ok (pt (la 0 (sh h (L.take (kpos (kvs L) key))))) V := fun V => by kernel_rfl
    generalize waysC (fun m => pt (la m (sh h (L.take (kpos (kvs L) key))))) = W at *
    generalize la 0 (sh h (L.take (kpos (kvs L) key))) = a at *
    obtain ⟨⟨b, ⟨k, v, s⟩⟩, rfl⟩ : ∃ y, x = y := ⟨x, rfl⟩
    simp only at HK ⊢
    go_enter Tryz.func108, Tryz.ntmps108
    go_wp2_with (first
      | (go_at_call 162; refine NO.out.mono ?_; rintro e w2 ⟨rfl, rfl⟩)
      | (go_at_call 163; refine BE.out.mono ?_; rintro e w2 ⟨rfl, hb⟩; have HB := Lib.hid hb; have c3 : w2.cell? ⟨a, 3, none⟩ = some (pt b) := HN.out _ hb; have c0 := HK.out _ hb))
    go_ret2
    exact ⟨rfl, HB.out⟩
  · rw [hx] at HN
    rw [hv]
    clear hR hn0 hm0 hm3 halt hl hx hv
    have hi0 : ∀ V : World, (Instr.index 182 (.agg (waysC (fun m => pt (la m (sh h (L.take (kpos (kvs L) key))))))) (.int .i64 0)).run Tryz.prog V = .ok (pt (la 0 (sh h (L.take (kpos (kvs L) key))))) V := fun V => by kernel_rfl
    generalize waysC (fun m => pt (la m (sh h (L.take (kpos (kvs L) key))))) = W at *
    generalize la 0 (sh h (L.take (kpos (kvs L) key))) = a at *
    go_enter Tryz.func108, Tryz.ntmps108
    go_wp2_with (first
      | (go_at_call 162; refine NO.out.mono ?_; rintro e w2 ⟨rfl, rfl⟩)
      | (go_at_call 163; refine BE.out.mono ?_; rintro e w2 ⟨rfl, hb⟩; have HB := Lib.hid hb; have c3 : w2.cell? ⟨a, 3, none⟩ = some (.pointer none) := HN.out _ hb))
    go_ret2
    exact ⟨rfl, HB.out⟩
end Go.Proofs.YtgccichmdddbpaaGreatDoor
