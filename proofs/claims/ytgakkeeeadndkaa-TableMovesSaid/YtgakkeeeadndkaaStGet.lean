/-
  Layer 9, the code: find.
-/
import Derived.Test.YtgakkeeeadndkaaStCode
import Derived.StillTailTactics
import Derived.Deep.CutRange
import Derived.Deep.CutBlock
set_option linter.unusedVariables false
namespace Go.Proofs.Ytgakkeeeadndkaa
open Go.RowKit

theorem Blk.c16 {w : World} {b : Nat} {t : TypeId} {f : Nat → Value} (h : Blk w b t (waysC f)) :
    w.cell? ⟨b, 0, none⟩ = some (f 0) ∧ w.cell? ⟨b, 1, none⟩ = some (f 1) ∧ w.cell? ⟨b, 2, none⟩ = some (f 2) ∧ w.cell? ⟨b, 3, none⟩ = some (f 3) ∧ w.cell? ⟨b, 4, none⟩ = some (f 4) ∧ w.cell? ⟨b, 5, none⟩ = some (f 5) ∧ w.cell? ⟨b, 6, none⟩ = some (f 6) ∧ w.cell? ⟨b, 7, none⟩ = some (f 7) ∧
      w.cell? ⟨b, 8, none⟩ = some (f 8) ∧ w.cell? ⟨b, 9, none⟩ = some (f 9) ∧ w.cell? ⟨b, 10, none⟩ = some (f 10) ∧ w.cell? ⟨b, 11, none⟩ = some (f 11) ∧ w.cell? ⟨b, 12, none⟩ = some (f 12) ∧ w.cell? ⟨b, 13, none⟩ = some (f 13) ∧ w.cell? ⟨b, 14, none⟩ = some (f 14) ∧ w.cell? ⟨b, 15, none⟩ = some (f 15) :=
  ⟨h.cell 0, h.cell 1, h.cell 2, h.cell 3, h.cell 4, h.cell 5, h.cell 6, h.cell 7, h.cell 8, h.cell 9, h.cell 10, h.cell 11, h.cell 12, h.cell 13, h.cell 14, h.cell 15⟩
/-- What stands at a key's place. -/
def fndP (L : List Nd) (key : ByteArray) : Option Nat := if khas (kvs L) key then (L[kpos (kvs L) key]?).map (·.1) else none
def ahd (h : Nat) (L : List Nd) (key : ByteArray) : Nat → Nat := fun m => la m (sh h (L.take (kpos (kvs L) key)))
section
variable {TL TI : TypeId} {z : Value} {V : World} {q h : Nat} {L : List Nd} {g : Nat → Nat → Option Nat}
theorem SkR.nx0 (hR : SkR TL TI z V q h L g) (p : Nat) : g 0 (la 0 (sh h (L.take p))) = (L[p]?).map (·.1) := by
  have hc := hR.ck 0 (by omega)
  have e : sh h L = sh h (L.take p) ++ (L.drop p).map (fun x => (x.1, x.2.st)) := by
    rw [← sh_take, ← sh_drop, List.take_append_drop]
  rw [e] at hc
  rw [ck_la hc (sh_on (by omega) h _)]
  by_cases hp : p < L.length
  · rw [List.drop_eq_getElem_cons hp, List.map_cons, nx_cons (by have := (hR.st (L[p]'hp) (List.getElem_mem hp)).1; show 0 < (L[p]'hp).2.st; omega), List.getElem?_eq_getElem hp]
    rfl
  · rw [List.drop_of_length_le (by omega), List.getElem?_eq_none (by omega)]
    rfl
theorem SkR.laMem (hR : SkR TL TI z V q h L g) (m p : Nat) : la m (sh h (L.take p)) = h ∨ la m (sh h (L.take p)) ∈ L.map (·.1) := by
  have hm : la m (sh h (L.take p)) ∈ (sh h (L.take p)).map (·.1) := la_mem (by simp [sh])
  have e : (sh h (L.take p)).map (·.1) = h :: (L.take p).map (·.1) := by unfold sh; rw [List.map_cons, List.map_map]; rfl
  rw [e] at hm
  rcases List.mem_cons.1 hm with h1 | h1
  · exact .inl h1
  · refine .inr ?_
    obtain ⟨x, hx, e2⟩ := List.mem_map.1 h1
    exact List.mem_map.2 ⟨x, List.mem_of_mem_take hx, e2⟩
end
theorem ret_find {fn : Func} {Q : Ending → World → Prop} {a : Act} {w : World} {b : Nat} {v : Value} {f : Nat → Value} (hr : fn.results = #[.tmp 4, .cell 5 74]) (hv : a.tmps.getD 4 undef = v) (hp : a.tmps.getD 5 undef = .pointer (some ⟨b, 0, none⟩))
    (hB : Blk w b 74 (waysC f)) (hd : a.defers = []) (hR : Q (.returned (.tuple #[v, .agg (waysC f)])) w) : bodyPost Try.prog fn Q .ret a w := by
  refine bodyPost_ret ?_ hd hR
  have hp' : a.tmps[5]?.getD undef = .pointer (some ⟨b, 0, none⟩) := by simpa using hp
  have hv' : a.tmps[4]?.getD undef = v := by simpa using hv
  simp [results, hr, hp', hv', asAddr, run_loadVar_row w b 74 74 _ (0, 0) _ hB Try.underlying74 rfl (by kernel_rfl)]
set_option maxRecDepth 100000 in
set_option maxHeartbeats 8000000 in
theorem sk_find (z : Value) (q h : Nat) (L : List Nd) (g : Nat → Nat → Option Nat) (key : ByteArray) (w : World) (hR : SkR 78 76 z w q h L g) :
    Calls Try.prog 54 #[pt q, .string key] w fun e w' => e = .returned (.tuple #[pp (fndP L key), .agg (waysC (fun m => pt (ahd h L key m)))]) ∧ Below w.heap.size w w' := by
  obtain ⟨W, hW⟩ : ∃ W : Array Value, W = waysC (fun m => pt (ahd h L key m)) := ⟨_, rfl⟩
  have hb1 := nbl w (.cells zeroW 74)
  have NO := Lib.hid (sk_isNone z q h L.length L g _ (hR.below hb1).mem)
  have BE := Lib.hid (sk_below z q h L g key _ (hR.below hb1))
  have HZ := Lib.hid (Blk.new w 74 zeroW)
  have HB := Lib.hid hb1
  have HR := Lib.hid hR
  have HN0 := Lib.hid (hR.nx0 (kpos (kvs L) key))
  have HM0 := Lib.hid (hR.laMem 0 (kpos (kvs L) key))
  have hl := kvs_len L
  have hsz : (w.alloc (.cells zeroW 74)).heap.size = w.heap.size + 1 := by simp
  have HSZ := Lib.hid hsz
  have hfn : (kpos (kvs L) key < L.length ∧ ∃ x, L[kpos (kvs L) key]? = some x ∧ fndP L key = if x.2.key = key then some x.1 else none) ∨ (L[kpos (kvs L) key]? = none ∧ fndP L key = none) := by
    by_cases hp : kpos (kvs L) key < L.length
    · refine .inl ⟨hp, _, List.getElem?_eq_getElem hp, ?_⟩
      unfold fndP
      rw [khas_at (by rw [hl]; exact hp), List.getElem?_eq_getElem hp, kvs_get hp]
      by_cases e : (L[kpos (kvs L) key]'hp).2.key = key
      · rw [decide_eq_true e, if_pos rfl, if_pos e]
        rfl
      · rw [decide_eq_false e, if_neg (by decide), if_neg e]
    · refine .inr ⟨List.getElem?_eq_none (by omega), ?_⟩
      unfold fndP
      rw [khas_end (by rw [hl]; omega)]
      rfl
  have HF := Lib.hid hfn
  clear hR hb1 hl hsz hfn
  go_enter Try.func54, Try.ntmps54
  go_upto_region 4 with (first
    | (go_at_call 53; refine NO.out.mono ?_; rintro e w2 ⟨rfl, rfl⟩)
    | (go_at_call 55; refine BE.out.mono ?_; rintro e w2 ⟨rfl, hb⟩; have HZ2 := Lib.hid (HZ.out.below hb (by rw [HSZ.out]; omega)); have HB2 := Lib.hid (bst HB.out hb))
    | (refine wpList_store_row rfl 74 _ _ rfl w.heap.size (waysC (fun m => pt (ahd h L key m))) rfl rfl 74 zeroW HZ2.out (by kernel_rfl) rfl (waysC_all (fun _ _ => rfl)) ?_))
  have hz3 := HZ2.out.row (waysC (fun m => pt (ahd h L key m)))
  have hb3 := brow HB2.out (Nat.le_refl _) (waysC (fun m => pt (ahd h L key m)))
  generalize w2.setRow w.heap.size (waysC (fun m => pt (ahd h L key m))) = X at *
  have hm3 := HR.out.mem.next HM0.out (show 0 < 16 by omega)
  have halt : la 0 (sh h (L.take (kpos (kvs L) key))) < w.heap.size := HR.out.mem.lt (HM0.out.elim (fun e => .inr (.inl e)) (fun e => .inr (.inr e)))
  rw [HN0.out] at hm3
  have hm4 := (hb3.cell (p := ⟨la 0 (sh h (L.take (kpos (kvs L) key))), 3 + 0, none⟩) halt).trans hm3
  have HZ3 := Lib.hid hz3
  have HB3 := Lib.hid hb3
  obtain ⟨c0, c1, c2, c3, c4, c5, c6, c7, c8, c9, c10, c11, c12, c13, c14, c15⟩ := hz3.c16
  have d0 : X.cell? ⟨w.heap.size, 0, none⟩ = some (pt (la 0 (sh h (L.take (kpos (kvs L) key))))) := c0
  have HC := Lib.hid (And.intro c0 (And.intro c1 (And.intro c2 (And.intro c3 (And.intro c4 (And.intro c5 (And.intro c6 (And.intro c7 (And.intro c8 (And.intro c9 (And.intro c10 (And.intro c11 (And.intro c12 (And.intro c13 (And.intro c14 c15)))))))))))))))
  clear c0 c1 c2 c3 c4 c5 c6 c7 c8 c9 c10 c11 c12 c13 c14 c15 hm3 hz3 hb3 HZ2 HB2 hb NO BE HB HZ
  generalize la 0 (sh h (L.take (kpos (kvs L) key))) = a at *
  rcases HF.out with ⟨hp, x, hx, hf⟩ | ⟨hx, hf⟩
  · rw [hx] at hm4
    have hxm : x ∈ L := by
      obtain ⟨hp2, e⟩ := List.getElem?_eq_some_iff.1 hx
      rw [← e]
      exact List.getElem_mem hp2
    have hxlt : x.1 < w.heap.size := HR.out.mem.lt (.inr (.inr (List.mem_map.2 ⟨x, hxm, rfl⟩)))
    have e2 := (HB3.out.cell (p := ⟨x.1, 0, none⟩) hxlt).trans (HR.out.mem.key hxm)
    have e1 : X.cell? ⟨a, 3, none⟩ = some (pt x.1) := hm4
    obtain ⟨⟨b, ⟨k, v, s⟩⟩, rfl⟩ : ∃ y, x = y := ⟨x, rfl⟩
    simp only at e1 e2 hf
    clear hm4 hx HF HN0 hxm hxlt
    by_cases hk : k = key
    · rw [if_pos hk] at hf
      have HFF := Lib.hid hf
      have hk2 : (k.toList == key.toList) = true := by rw [kbeq]; exact decide_eq_true hk
      clear hf
      subst hk
      go_wp2_with fail
      clear d0
      obtain ⟨c0, c1, c2, c3, c4, c5, c6, c7, c8, c9, c10, c11, c12, c13, c14, c15⟩ := HC.out
      go_still_tail 3, (by kernel_rfl)
      change wpList _ _ _ _ _ X.drew
      have HZ4 := Lib.hid (show Blk X.drew w.heap.size 74 (waysC fun m => pt (ahd h L k m)) from HZ3.out)
      have HB4 := Lib.hid (show Below w.heap.size w X.drew from HB3.out.drew)
      generalize X.drew = Y at *
      clear c0 c1 c2 c3 c4 c5 c6 c7 c8 c9 c10 c11 c12 c13 c14 c15 HC e1 e2
      go_wp2_with (refine wpList_store_row rfl 74 _ _ rfl w.heap.size (waysC (fun m => pt (ahd h L k m))) rfl rfl 74 _ HZ4.out (by kernel_rfl) rfl (waysC_all (fun _ _ => rfl)) ?_)
      exact ret_find (v := pt b) rfl rfl rfl (HZ4.out.row _) rfl ⟨by rw [HFF.out]; rfl, brow HB4.out (Nat.le_refl _) _⟩
    · rw [if_neg hk] at hf
      have HFF := Lib.hid hf
      have hk2 : (k.toList == key.toList) = false := by rw [kbeq]; exact decide_eq_false hk
      clear hf hk
      go_wp2_with fail
      clear d0
      obtain ⟨c0, c1, c2, c3, c4, c5, c6, c7, c8, c9, c10, c11, c12, c13, c14, c15⟩ := HC.out
      go_still_tail 2, (by kernel_rfl)
      change wpList _ _ _ _ _ X.drew
      have HZ4 := Lib.hid (show Blk X.drew w.heap.size 74 (waysC fun m => pt (ahd h L key m)) from HZ3.out)
      have HB4 := Lib.hid (show Below w.heap.size w X.drew from HB3.out.drew)
      generalize X.drew = Y at *
      clear c0 c1 c2 c3 c4 c5 c6 c7 c8 c9 c10 c11 c12 c13 c14 c15 HC e1 e2
      go_wp2_with (refine wpList_store_row rfl 74 _ _ rfl w.heap.size (waysC (fun m => pt (ahd h L key m))) rfl rfl 74 _ HZ4.out (by kernel_rfl) rfl (waysC_all (fun _ _ => rfl)) ?_)
      exact ret_find (v := .pointer none) rfl rfl rfl (HZ4.out.row _) rfl ⟨by rw [HFF.out]; rfl, brow HB4.out (Nat.le_refl _) _⟩
  · rw [hx] at hm4
    have HFF := Lib.hid hf
    have e1 : X.cell? ⟨a, 3, none⟩ = some (.pointer none) := hm4
    clear hm4 hf hx HF HN0
    go_wp2_with fail
    clear d0
    obtain ⟨c0, c1, c2, c3, c4, c5, c6, c7, c8, c9, c10, c11, c12, c13, c14, c15⟩ := HC.out
    go_still_tail 2, (by kernel_rfl)
    change wpList _ _ _ _ _ X.drew
    have HZ4 := Lib.hid (show Blk X.drew w.heap.size 74 (waysC fun m => pt (ahd h L key m)) from HZ3.out)
    have HB4 := Lib.hid (show Below w.heap.size w X.drew from HB3.out.drew)
    generalize X.drew = Y at *
    clear c0 c1 c2 c3 c4 c5 c6 c7 c8 c9 c10 c11 c12 c13 c14 c15 HC e1
    go_wp2_with (refine wpList_store_row rfl 74 _ _ rfl w.heap.size (waysC (fun m => pt (ahd h L key m))) rfl rfl 74 _ HZ4.out (by kernel_rfl) rfl (waysC_all (fun _ _ => rfl)) ?_)
    exact ret_find (v := .pointer none) rfl rfl rfl (HZ4.out.row _) rfl ⟨by rw [HFF.out]; rfl, brow HB4.out (Nat.le_refl _) _⟩
end Go.Proofs.Ytgakkeeeadndkaa
