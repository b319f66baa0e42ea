/-
  Layer 9, the code: Put.
-/
import Derived.Test.YtcpbcoeccplliaaSkPut
import Derived.Test.YtcpbcoeccplliaaSlAsk
import Derived.Test.YtcpbcoeccplliaaShelf
set_option linter.unusedVariables false
namespace Go.Proofs.Ytcpbcoeccplliaa.SL
open Go.Proofs.Ytcpbcoeccplliaa
open Go.RowKit

section
variable {TL TI : TypeId} {z : Value} {V V' w : World} {q h cnt n s : Nat} {L A B : List Nd} {g : Nat → Nat → Option Nat} {key : ByteArray} {v : Value}
end
set_option maxRecDepth 100000 in
set_option maxHeartbeats 8000000 in
theorem sk_put (z : Value) (q h : Nat) (L : List Nd) (g : Nat → Nat → Option Nat) (key : ByteArray) (vA : Option Addr) (vm vc : Nat) (s : Int) (w : World) (hR : SkR 80 78 z w q h L g) (hL : L.length ≤ 1000000000) (hs1 : -9223372036854775808 ≤ s) (hs2 : s ≤ 9223372036854775807) (hks : key.size ≤ 281474976710656) :
    Calls Try.prog 37 #[pt q, .string key, .slice vA vm vc, .int .i64 s] w fun e w' => e = .returned (.bool (decide (1 ≤ s ∧ s ≤ 16))) ∧ ∃ L' g', SkR 80 78 z w' q h L' g' ∧ kvs L' = (if 1 ≤ s ∧ s ≤ 16 then kput (kvs L) key (.slice vA vm vc) s.toNat else kvs L) ∧ Grow (skF q h L) w w' ∧ ∀ k, skF q h L' k → nF (skF q h L) w w' k := by
  have NO := Lib.hid (sk_isNone z q h L.length L g _ hR.mem)
  have IS := Lib.hid (sk_isStep s w hs1 hs2)
  by_cases hs : 1 ≤ s ∧ s ≤ 16
  · rw [decide_eq_true hs] at IS ⊢
    rw [if_pos hs]
    obtain ⟨s, rfl⟩ : ∃ n : Nat, s = (n : Int) := ⟨s.toNat, by omega⟩
    have hsa : 1 ≤ s := by omega
    have hsb : s ≤ 16 := by omega
    rw [show ((s : Int)).toNat = s from by omega]
    have FI := Lib.hid (sk_find z q h L g key w hR)
    rcases fnd_cases z L key with ⟨x, hp, hx, hm, h1, h2, h3, h4⟩ | ⟨h1, h2, h3, h4⟩
    · rw [h1, show pp (some x.1) = pt x.1 from rfl] at FI
      have hkp : kvs (L.set (kpos (kvs L) key) (x.1, ⟨x.2.key, .slice vA vm vc, x.2.st⟩)) = kput (kvs L) key (.slice vA vm vc) s := by
        have hl := kvs_len L
        obtain ⟨q1, q2⟩ := (khas_iff _ _).1 h2
        unfold kput
        rw [if_pos h2, stAt_eq q1, kvs_get hp, ← hx]
        rw [kvs_get hp, ← hx] at q2
        simp only [kvs, List.map_set]
        rw [q2]
      have HK := Lib.hid hkp
      have HX := Lib.hid (fun V (hb : Below w.heap.size w V) => (hR.below hb).setVal hp (.slice vA vm vc))
      rw [← hx] at HX
      have HC := Lib.hid (fun V (hb : Below w.heap.size w V) => And.intro ((hR.below hb).mem.val hm) ((hR.below hb).mem.free (.inr (List.mem_map.2 ⟨x, hm, rfl⟩)) 1))
      have HXF := Lib.hid (show skF q h L x.1 from .inr (.inr (List.mem_map.2 ⟨x, hm, rfl⟩)))
      clear hR hkp hx h1 h2 h3 h4 hp hm hs hL
      obtain ⟨⟨b, ⟨k, v, st⟩⟩, rfl⟩ : ∃ y, x = y := ⟨x, rfl⟩
      simp only at HK HX HC HXF FI
      go_enter Try.func37, Try.ntmps37
      go_wp2_with (first
        | (go_at_call 53; refine NO.out.mono ?_; rintro e w2 ⟨rfl, hw2⟩; obtain rfl : w = w2 := hw2.symm)
        | (go_at_call 50; refine IS.out.mono ?_; rintro e w2 ⟨rfl, hw2⟩; obtain rfl : w = w2 := hw2.symm)
        | (go_at_call 52; refine FI.out.mono ?_; rintro e w2 ⟨rfl, hb⟩; have HB2 := Lib.hid (brow (bst hb (nbl w2 (.cells zeroW 76))) hb.size (waysC fun m => pt (ahd h L key m))); obtain ⟨c1, f1⟩ := HC.out _ HB2.out)
        | (refine wpList_store_row rfl 76 _ _ rfl w2.heap.size (waysC fun m => pt (ahd h L key m)) rfl rfl 76 zeroW (Blk.new w2 76 zeroW) (by kernel_rfl) rfl (waysC_all (fun _ _ => rfl)) ?_))
      go_ret
      obtain ⟨r1, r2⟩ := HX.out _ HB2.out
      refine ⟨rfl, _, g, r1, HK.out, (Grow.of_below HB2.out).set (.inl HXF.out) _, fun k e => ?_⟩
      unfold skF at e
      rw [r2] at e
      exact .inl e
    · rw [h1, show pp none = .pointer none from rfl] at FI
      have HR := Lib.hid hR
      have HKH := Lib.hid h2
      have HL := Lib.hid hL
      have CL := Lib.hid (fun V => sk_clone key V hks)
      clear hR h1 h2 h3 h4 hs hks hL
      go_enter Try.func37, Try.ntmps37
      go_wp2_with (first
        | (go_at_call 53; refine NO.out.mono ?_; rintro e w2 ⟨rfl, hw2⟩; obtain rfl : w = w2 := hw2.symm)
        | (go_at_call 50; refine IS.out.mono ?_; rintro e w2 ⟨rfl, hw2⟩; obtain rfl : w = w2 := hw2.symm)
        | (go_at_call 52; refine FI.out.mono ?_; rintro e w2 ⟨rfl, hb⟩; have HB2 := Lib.hid (brow (bst hb (nbl w2 (.cells zeroW 76))) hb.size (waysC fun m => pt (ahd h L key m))); have HZ2 := Lib.hid ((Blk.new w2 76 zeroW).row (waysC fun m => pt (ahd h L key m))); have HS2 := Lib.hid hb.size)
        | (refine wpList_store_row rfl 76 _ _ rfl w2.heap.size (waysC fun m => pt (ahd h L key m)) rfl rfl 76 zeroW (Blk.new w2 76 zeroW) (by kernel_rfl) rfl (waysC_all (fun _ _ => rfl)) ?_)
        | (go_at_call 51; refine (CL.out _).mono ?_; rintro e w3 ⟨rfl, hb3⟩; have HB3 := Lib.hid (bst HB2.out hb3); have HZ3 := Lib.hid (HZ2.out.below hb3 (by simp)); have HS3 := Lib.hid (show w2.heap.size < w3.heap.size from by have := hb3.size; simp at this; omega)))
      have HN := Lib.hid (Blk.new w3 78 (nodeC key (.slice vA vm vc) (s : Int) (fun _ => none)))
      have HB4 := Lib.hid (bst HB3.out (nbl w3 (.cells (nodeC key (.slice vA vm vc) (s : Int) (fun _ => none)) 78)))
      have HZ4 := Lib.hid (HZ3.out.below (nbl w3 (.cells (nodeC key (.slice vA vm vc) (s : Int) (fun _ => none)) 78)) HS3.out)
      change Code.wp _ _ _ _ (w3.alloc (.cells (nodeC key (.slice vA vm vc) (s : Int) (fun _ => none)) 78))
      generalize w3.alloc (.cells (nodeC key (.slice vA vm vc) (s : Int) (fun _ => none)) 78) = X at *
      have HLA := Lib.hid (fun m => HR.out.laMem m (kpos (kvs L) key))
      have hsp : L.take (kpos (kvs L) key) ++ L.drop (kpos (kvs L) key) = L := List.take_append_drop _ _
      have HW0 := Lib.hid (SkW.ins (A := L.take (kpos (kvs L) key)) (B := L.drop (kpos (kvs L) key)) (by rw [hsp]; exact HR.out.mem) HB4.out HN.out (Nat.le_trans HS2.out (Nat.le_of_lt HS3.out)))
      have HG0 := Lib.hid (Grow.of_below (F := skF q h L) HB4.out)
      have HDN := Lib.hid (fun V (c : Nat) (hM : SkW 80 78 z V q h (L.length + 1) (L.take (kpos (kvs L) key) ++ (w3.heap.size, ⟨key, .slice vA vm vc, s⟩) :: L.drop (kpos (kvs L) key)) (gIns h (L.take (kpos (kvs L) key)) w3.heap.size g s)) => HR.out.insDone key (.slice vA vm vc) hsa hsb HKH.out hM)
      have HNF := Lib.hid (Nat.le_trans HS2.out (Nat.le_of_lt HS3.out))
      have hlz : L.length < 1000000001 := by have := HL.out; omega
      have HQ := Lib.hid (fun k (e : skF q h L k) => HR.out.mem.lt e)
      have HSZ := Lib.hid (show w3.heap.size < X.heap.size from HN.out.lt)
      clear hsp HB2 HZ2 HB3 HZ3 HN HB4 hb hb3 NO IS FI CL
      generalize hn : w3.heap.size = n at *
      generalize hb10 : w2.heap.size = b10 at *
      have hbn : b10 < n := HS3.out
      have hwb : w.heap.size ≤ b10 := HS2.out
      clear hn hb10 HS3 HS2
      have HA : ∀ m, la m (sh h (L.take (kpos (kvs L) key))) = ahd h L key m := fun m => rfl
      go_loopw [39] (fun i wr => ∃ k : Nat, k ≤ s ∧ i = .int .i64 k ∧ Hid (SkW 80 78 z wr q h L.length (L.take (kpos (kvs L) key) ++ (n, ⟨key, .slice vA vm vc, s⟩) :: L.drop (kpos (kvs L) key)) (gIns h (L.take (kpos (kvs L) key)) n g k)) ∧ Hid (Blk wr b10 76 (waysC fun m => pt (ahd h L key m))) ∧ Hid (Grow (skF q h L) w wr ∧ X.heap.size ≤ wr.heap.size)) (fun i _ => s - (intOf i).toNat)
      case atStart => exact ⟨0, Nat.zero_le _, rfl, HW0, HZ4, Lib.hid ⟨HG0.out, Nat.le_refl _⟩⟩
      case round =>
        obtain ⟨k, hk, rfl, HW, HZ, HG⟩ := hrel
        by_cases hlt : k < s
        · have hk16 : k < 16 := by omega
          obtain ⟨a, ha⟩ : ∃ a, ahd h L key k = a := ⟨_, rfl⟩
          have ha2 : la k (sh h (L.take (kpos (kvs L) key))) = a := ha
          have hmem := HLA.out k
          rw [ha2] at hmem
          have halt : a < w.heap.size := HQ.out a (hmem.elim (fun e => .inr (.inl e)) (fun e => .inr (.inr e)))
          have hnm : n ∈ (L.take (kpos (kvs L) key) ++ (n, (⟨key, .slice vA vm vc, s⟩ : Kv)) :: L.drop (kpos (kvs L) key)).map (·.1) := by simp
          have hmem2 : a = h ∨ a ∈ (L.take (kpos (kvs L) key) ++ (n, (⟨key, .slice vA vm vc, s⟩ : Kv)) :: L.drop (kpos (kvs L) key)).map (·.1) := by
            rcases hmem with e | e
            · exact .inl e
            · refine .inr ?_
              rw [← List.take_append_drop (kpos (kvs L) key) L, List.map_append] at e
              rw [List.map_append, List.map_cons]
              rcases List.mem_append.1 e with e | e
              · exact List.mem_append_left _ e
              · exact List.mem_append_right _ (List.mem_cons_of_mem _ e)
          have hne : a ≠ n := by have := HNF.out; omega
          obtain ⟨t1, t2⟩ := HW.out.two (k := k) hnm hk16 (by rw [ha2]; exact hmem2) (by rw [ha2]; exact hne)
          rw [ha2] at t1 t2
          have hgk : gIns h (L.take (kpos (kvs L) key)) n g k k a = g k a := by unfold gIns; rw [if_neg (Nat.lt_irrefl _), if_neg hne]
          have c1 := HW.out.next hmem2 hk16
          rw [hgk] at c1
          have c2 := HW.out.next (.inr hnm) hk16
          have f2 := HW.out.free (.inr hnm) (3 + k)
          have c3 := (HZ.out.cell k).trans (waysC_get _ hk16)
          rw [ha] at c3
          have c4 := t1.next hmem2 hk16
          have f4 := t1.free hmem2 (3 + k)
          have HG2 := Lib.hid ((HG.out.1.set (p := ⟨n, 3 + k, none⟩) (.inr (by have := HNF.out; omega)) (pp (g k a))).set (p := ⟨a, 3 + k, none⟩) (.inl (hmem.elim (fun e => .inr (.inl e)) (fun e => .inr (.inr e)))) (pp (some n)))
          have HT := Lib.hid t2
          have hgs := HG.out.2
          have hb1 : b10 ≠ n := by omega
          have hb2 : b10 ≠ a := by omega
          have HZa := (show Blk (wr.setCell ⟨n, 3 + k, none⟩ (pp (g k a))) b10 76 (waysC fun m => pt (ahd h L key m)) from (heap_setNe hb1 _).trans HZ.out)
          have c5 := (HZa.cell k).trans (waysC_get _ hk16)
          rw [ha] at c5
          have HZ2 := Lib.hid (show Blk ((wr.setCell ⟨n, 3 + k, none⟩ (pp (g k a))).setCell ⟨a, 3 + k, none⟩ (pp (some n))) b10 76 (waysC fun m => pt (ahd h L key m)) from (heap_setNe hb2 _).trans HZa)
          clear HZa t1 t2 hgk
          generalize pp (gIns h (L.take (kpos (kvs L) key)) n g k k n) = v2 at *
          generalize pp ((fun m b => if m = k ∧ b = n then g k a else gIns h (L.take (kpos (kvs L) key)) n g k m b) k a) = v4 at *
          obtain ⟨pv, hpv⟩ : ∃ p, pp (g k a) = .pointer p := by cases g k a with
            | none => exact ⟨_, rfl⟩
            | some x => exact ⟨_, rfl⟩
          rw [hpv] at c1 c4 f4 c5 HT HG2 HZ2
          clear HW HZ HG halt hmem hmem2 hnm ha ha2 HA hne hb1 hb2
          go_wp2_with fail
          have hi1 : (0 : Int) ≤ (k : Int) := by omega
          have hi2 : (k : Int) < 16 := by omega
          have hi3 : ¬ (16 : Int) ≤ (k : Int) := by omega
          go_still_tail 13, (by kernel_rfl)
          change wpList _ _ _ _ _ wr.drew
          go_wp2_with fail
          go_roundw
          case rel => exact ⟨k + 1, by omega, by go_num, ⟨HT.out.obj, HT.out.head, HT.out.node, HT.out.ne⟩, HZ2.out, ⟨HG2.out.drewN 1, by simp [World.setCell]; exact hgs⟩⟩
          case measure => simp [intOf]; omega
        · obtain rfl : k = s := by omega
          have c1 := HW.out.obj.cell 1
          have f1 := HW.out.obj.frozen 1
          obtain ⟨r1, r2⟩ := HDN.out _ L.length (HW.out.setCnt (L.length + 1))
          have HR1 := Lib.hid r1
          have HR2 := Lib.hid r2
          have HG2 := Lib.hid (HG.out.1.set (p := ⟨q, 1, none⟩) (.inl (.inl rfl)) (.int .i64 ((L.length + 1 : Nat) : Int)))
          have hgs := HG.out.2
          clear r1 r2 HA HW
          go_wp2_with fail
          go_ret
          refine ⟨rfl, _, _, HR1.out, HR2.out, HG2.out, fun j e => ?_⟩
          unfold skF at e
          rcases e with e | e | e
          · exact .inl (.inl e)
          · exact .inl (.inr (.inl e))
          · rw [List.map_append, List.map_cons] at e
            rcases List.mem_append.1 e with e | e
            · exact .inl (.inr (.inr (by rw [List.map_take] at e; exact List.mem_of_mem_take e)))
            · rcases List.mem_cons.1 e with e | e
              · refine .inr ⟨?_, ?_⟩
                · rw [e]; exact HNF.out
                · rw [e]; have := HSZ.out; simp [World.setCell]; omega
              · exact .inl (.inr (.inr (by rw [List.map_drop] at e; exact List.mem_of_mem_drop e)))
  · rw [decide_eq_false hs] at IS ⊢
    rw [if_neg hs]
    have HR := Lib.hid hR
    clear hR hs
    go_enter Try.func37, Try.ntmps37
    go_wp2_with (first
      | (go_at_call 53; refine NO.out.mono ?_; rintro e w2 ⟨rfl, hw2⟩; obtain rfl : w = w2 := hw2.symm)
      | (go_at_call 50; refine IS.out.mono ?_; rintro e w2 ⟨rfl, hw2⟩; obtain rfl : w = w2 := hw2.symm))
    go_ret
    exact ⟨rfl, L, g, HR.out, rfl, Grow.refl _ _, fun k e => .inl e⟩

end Go.Proofs.Ytcpbcoeccplliaa.SL
