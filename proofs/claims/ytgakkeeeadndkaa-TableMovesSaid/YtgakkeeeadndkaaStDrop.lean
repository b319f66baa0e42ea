/-
  Layer 9, the code: Drop.
-/
import Derived.Test.YtgakkeeeadndkaaStPut
set_option linter.unusedVariables false
namespace Go.Proofs.Ytgakkeeeadndkaa
open Go.RowKit

def gDel (h : Nat) (A : List Nd) (x : Nat) (g : Nat → Nat → Option Nat) (k : Nat) : Nat → Nat → Option Nat := fun m a => if m < k ∧ a = la m (sh h A) then g m x else g m a
theorem gDel_0 (h : Nat) (A : List Nd) (x : Nat) (g : Nat → Nat → Option Nat) : gDel h A x g 0 = g := by
  funext m a
  unfold gDel
  rw [if_neg (by omega)]
theorem gDel_next (h : Nat) (A : List Nd) (x : Nat) (g : Nat → Nat → Option Nat) (k : Nat) : (fun m b => if m = k ∧ b = la k (sh h A) then g k x else gDel h A x g k m b) = gDel h A x g (k + 1) := by
  funext m b
  unfold gDel
  by_cases hm : m = k
  · subst hm
    simp
  · have e : (m < k + 1) ↔ (m < k) := by omega
    simp only [hm, false_and, if_false, e]
section
variable {TL TI : TypeId} {z : Value} {V V' w : World} {q h cnt n s : Nat} {L A B : List Nd} {g : Nat → Nat → Option Nat} {key : ByteArray} {v : Value}
theorem SkR.delDone (hR : SkR TL TI z w q h L g) (key : ByteArray) (hk : khas (kvs L) key = true) (hp : kpos (kvs L) key < L.length) (s : Nat) (hs : s = (L[kpos (kvs L) key]'hp).2.st)
    (hM : SkW TL TI z V q h (L.length - 1) L (gDel h (L.take (kpos (kvs L) key)) (L[kpos (kvs L) key]'hp).1 g s)) :
    SkR TL TI z V q h (L.take (kpos (kvs L) key) ++ L.drop (kpos (kvs L) key + 1)) (gDel h (L.take (kpos (kvs L) key)) (L[kpos (kvs L) key]'hp).1 g s) ∧
      kvs (L.take (kpos (kvs L) key) ++ L.drop (kpos (kvs L) key + 1)) = kdrop (kvs L) key := by
  have hl := kvs_len L
  have hkv : kvs (L.take (kpos (kvs L) key) ++ L.drop (kpos (kvs L) key + 1)) = kdrop (kvs L) key := by
    unfold kdrop
    rw [hk, if_pos rfl]
    simp only [kvs, List.map_append, List.map_take, List.map_drop]
  obtain ⟨p, hpe⟩ : ∃ p, kpos (kvs L) key = p := ⟨_, rfl⟩
  simp only [hpe] at hM hkv hp hs ⊢
  have hlen : (L.take p ++ L.drop (p + 1)).length = L.length - 1 := by
    rw [List.length_append, List.length_take, List.length_drop]; omega
  have hsub : (L.take p ++ L.drop (p + 1)).Sublist L := by
    have e : L.take p ++ L.drop (p + 1) = L.eraseIdx p := (List.eraseIdx_eq_take_drop_succ L _).symm
    rw [e]
    exact List.eraseIdx_sublist _ _
  have hsp : L.take p ++ L[p]'hp :: L.drop (p + 1) = L := by
    rw [← List.drop_eq_getElem_cons hp, List.take_append_drop]
  refine ⟨⟨by rw [hlen]; exact hM.sub (fun x hx => hsub.subset hx) (List.Nodup.sublist (List.Sublist.cons_cons _ (List.Sublist.cons_cons _ (hsub.map _))) hM.ne), fun m hm => ?_, fun x hx => hR.st x (hsub.subset hx), ?_⟩, hkv⟩
  · have hc := hR.ck m hm
    have e1 : sh h L = sh h (L.take p) ++ ((L[p]'hp).1, (L[p]'hp).2.st) :: (L.drop (p + 1)).map (fun x => (x.1, x.2.st)) := by
      have : sh h (L.take p ++ L[p]'hp :: L.drop (p + 1)) = sh h (L.take p) ++ ((L[p]'hp).1, (L[p]'hp).2.st) :: (L.drop (p + 1)).map (fun x => (x.1, x.2.st)) := by unfold sh; rw [List.map_append, List.map_cons]; rfl
      rw [hsp] at this
      exact this
    have e2 : sh h (L.take p ++ L.drop (p + 1)) = sh h (L.take p) ++ (L.drop (p + 1)).map (fun x => (x.1, x.2.st)) := by simp [sh]
    have hnd := hR.mem.nd
    rw [e1] at hc hnd
    rw [e2]
    by_cases hms : m < s
    · have := ck_del hc (sh_on hm h _) (by rw [hs] at hms; exact hms) hnd
      have e3 : gDel h (L.take p) (L[p]'hp).1 g s m = fun a => if a = la m (sh h (L.take p)) then g m (L[p]'hp).1 else g m a := by
        funext a
        unfold gDel
        simp only [hms, true_and]
      rw [e3]
      exact this
    · have h3 := (ck_mid (by rw [hs] at hms; exact hms)).1 hc
      have e3 : gDel h (L.take p) (L[p]'hp).1 g s m = g m := by
        funext a
        unfold gDel
        rw [if_neg (fun e => hms e.1)]
      rw [e3]
      exact h3
  · show Sor (kvs _)
    rw [hkv]
    exact Sor.dropk hR.sor key
end
set_option maxRecDepth 100000 in
set_option maxHeartbeats 8000000 in
theorem sk_drop (z : Value) (q h : Nat) (L : List Nd) (g : Nat → Nat → Option Nat) (key : ByteArray) (w : World) (hR : SkR 78 76 z w q h L g) (hL : L.length ≤ 1000000000) :
    Calls Try.prog 51 #[pt q, .string key] w fun e w' => e = .returned (.bool (khas (kvs L) key)) ∧ ∃ L' g', SkR 78 76 z w' q h L' g' ∧ kvs L' = kdrop (kvs L) key ∧ Grow (skF q h L) w w' ∧ ∀ k, skF q h L' k → nF (skF q h L) w w' k := by
  have FI := Lib.hid (sk_find z q h L g key w hR)
  rcases fnd_cases z L key with ⟨x, hp, hx, hm, h1, h2, h3, h4⟩ | ⟨h1, h2, h3, h4⟩
  · rw [h1, show pp (some x.1) = pt x.1 from rfl] at FI
    rw [h2]
    have HR := Lib.hid hR
    have HDN := Lib.hid (fun V (hM : SkW 78 76 z V q h (L.length - 1) L (gDel h (L.take (kpos (kvs L) key)) x.1 g x.2.st)) => (show SkR 78 76 z V q h (L.take (kpos (kvs L) key) ++ L.drop (kpos (kvs L) key + 1)) (gDel h (L.take (kpos (kvs L) key)) x.1 g x.2.st) ∧ kvs (L.take (kpos (kvs L) key) ++ L.drop (kpos (kvs L) key + 1)) = kdrop (kvs L) key from by
      have := hR.delDone (V := V) key h2 hp x.2.st (by rw [hx]) (by rw [← hx]; exact hM)
      rw [← hx] at this
      exact this))
    have HLA := Lib.hid (fun m => hR.laMem m (kpos (kvs L) key))
    have HQ := Lib.hid (fun k (e : skF q h L k) => hR.mem.lt e)
    have hxn : x.1 ∈ L.map (·.1) := List.mem_map.2 ⟨x, hm, rfl⟩
    have HXN := Lib.hid hxn
    have hst := hR.st x hm
    have HLN := Lib.hid (show 0 < L.length ∧ L.length < 1000000001 from by omega)
    have HNE := Lib.hid (fun m (hm16 : m < 16) => (show la m (sh h (L.take (kpos (kvs L) key))) ≠ x.1 from fun e => by
      have hla : la m (sh h (L.take (kpos (kvs L) key))) ∈ (sh h (L.take (kpos (kvs L) key))).map (·.1) := la_mem (by simp [sh])
      rw [e] at hla
      have hnd := hR.mem.nd
      have e1 : sh h L = sh h (L.take (kpos (kvs L) key)) ++ (x.1, x.2.st) :: (L.drop (kpos (kvs L) key + 1)).map (fun x => (x.1, x.2.st)) := by
        have hsp : L.take (kpos (kvs L) key) ++ x :: L.drop (kpos (kvs L) key + 1) = L := by
          rw [hx, ← List.drop_eq_getElem_cons hp, List.take_append_drop]
        have : sh h (L.take (kpos (kvs L) key) ++ x :: L.drop (kpos (kvs L) key + 1)) = sh h (L.take (kpos (kvs L) key)) ++ (x.1, x.2.st) :: (L.drop (kpos (kvs L) key + 1)).map (fun x => (x.1, x.2.st)) := by unfold sh; rw [List.map_append, List.map_cons]; rfl
        rw [hsp] at this
        exact this
      rw [e1, List.map_append, List.map_cons, List.nodup_append] at hnd
      exact hnd.2.2 _ hla x.1 List.mem_cons_self rfl))
    have HST := Lib.hid (fun V (hb : Below w.heap.size w V) => (hR.below hb).mem.stc hm)
    clear hx hp h1 h2 h3 h4 hR hm hxn hL
    obtain ⟨⟨b, ⟨k0, v, s⟩⟩, rfl⟩ : ∃ y, x = y := ⟨x, rfl⟩
    simp only at HDN HXN HNE HST FI hst
    obtain ⟨hsa, hsb⟩ := hst
    go_enter Try.func51, Try.ntmps51
    go_wp2_with (first
      | (go_at_call 54; refine FI.out.mono ?_; rintro e w2 ⟨rfl, hb⟩; have HB2 := Lib.hid (brow (bst hb (nbl w2 (.cells zeroW 74))) hb.size (waysC fun m => pt (ahd h L key m))); have HZ2 := Lib.hid ((Blk.new w2 74 zeroW).row (waysC fun m => pt (ahd h L key m))); have HS2 := Lib.hid hb.size; have c2 := HST.out _ HB2.out)
      | (refine wpList_store_row rfl 74 _ _ rfl w2.heap.size (waysC fun m => pt (ahd h L key m)) rfl rfl 74 zeroW (Blk.new w2 74 zeroW) (by kernel_rfl) rfl (waysC_all (fun _ _ => rfl)) ?_))
    generalize (w2.alloc (.cells zeroW 74)).setRow w2.heap.size (waysC fun m => pt (ahd h L key m)) = X at *
    generalize hb10 : w2.heap.size = b10 at *
    have hwb : w.heap.size ≤ b10 := HS2.out
    have HW0 := Lib.hid (HR.out.below HB2.out).mem
    have HG0 := Lib.hid (Grow.of_below (F := skF q h L) HB2.out)
    clear hb10 HS2 hb c2 FI HST
    go_loopw [20] (fun i wr => ∃ k : Nat, k ≤ s ∧ i = .int .i64 k ∧ Hid (SkW 78 76 z wr q h L.length L (gDel h (L.take (kpos (kvs L) key)) b g k)) ∧ Hid (Blk wr b10 74 (waysC fun m => pt (ahd h L key m))) ∧ Hid (Grow (skF q h L) w wr)) (fun i _ => s - (intOf i).toNat)
    case atStart => exact ⟨0, Nat.zero_le _, rfl, Lib.hid (by rw [gDel_0]; exact HW0.out), HZ2, HG0⟩
    case round =>
      obtain ⟨k, hk, rfl, HW, HZ, HG⟩ := hrel
      by_cases hlt : k < s
      · have hk16 : k < 16 := by omega
        obtain ⟨a, ha⟩ : ∃ a, ahd h L key k = a := ⟨_, rfl⟩
        have ha2 : la k (sh h (L.take (kpos (kvs L) key))) = a := ha
        have hmem := HLA.out k
        have hne := HNE.out k hk16
        rw [ha2] at hmem hne
        have halt : a < w.heap.size := HQ.out a (hmem.elim (fun e => .inr (.inl e)) (fun e => .inr (.inr e)))
        have t1 := HW.out.setNext hmem hk16 (g k b)
        rw [← ha2, gDel_next, ha2] at t1
        have hgk : gDel h (L.take (kpos (kvs L) key)) b g k k b = g k b := by unfold gDel; rw [if_neg (fun e => absurd e.1 (Nat.lt_irrefl _))]
        have c1 := HW.out.next (.inr HXN.out) hk16
        rw [hgk] at c1
        have c2 := HW.out.next hmem hk16
        have f2 := HW.out.free hmem (3 + k)
        have c3 := (HZ.out.cell k).trans (waysC_get _ hk16)
        rw [ha] at c3
        have HG2 := Lib.hid (HG.out.set (p := ⟨a, 3 + k, none⟩) (.inl (hmem.elim (fun e => .inr (.inl e)) (fun e => .inr (.inr e)))) (pp (g k b)))
        have HT := Lib.hid t1
        have hb2 : b10 ≠ a := by omega
        have HZ3 := Lib.hid (show Blk (wr.setCell ⟨a, 3 + k, none⟩ (pp (g k b))) b10 74 (waysC fun m => pt (ahd h L key m)) from (heap_setNe hb2 _).trans HZ.out)
        clear t1 hgk
        generalize pp (gDel h (L.take (kpos (kvs L) key)) b g k k a) = v2 at *
        obtain ⟨pv, hpv⟩ : ∃ p, pp (g k b) = .pointer p := by cases g k b with
          | none => exact ⟨_, rfl⟩
          | some x => exact ⟨_, rfl⟩
        rw [hpv] at c1 HT HG2 HZ3
        clear HW HZ HG halt hmem ha ha2 hne hb2
        have hi1 : (0 : Int) ≤ (k : Int) := by omega
        have hi2 : (k : Int) < 16 := by omega
        have hi3 : ¬ (16 : Int) ≤ (k : Int) := by omega
        go_wp2_with fail
        go_still_tail 13, (by kernel_rfl)
        change wpList _ _ _ _ _ wr.drew
        go_wp2_with fail
        go_roundw
        case rel => exact ⟨k + 1, by omega, by go_num, ⟨HT.out.obj, HT.out.head, HT.out.node, HT.out.ne⟩, HZ3.out, HG2.out.drewN 1⟩
        case measure => simp [intOf]; omega
      · obtain rfl : k = s := by omega
        have c1 := HW.out.obj.cell 1
        have f1 := HW.out.obj.frozen 1
        obtain ⟨hl0, hl1⟩ := HLN.out
        obtain ⟨r1, r2⟩ := HDN.out _ (HW.out.setCnt (L.length - 1))
        have HG2 := Lib.hid (HG.out.set (p := ⟨q, 1, none⟩) (.inl (.inl rfl)) (.int .i64 ((L.length - 1 : Nat) : Int)))
        rw [show ((L.length - 1 : Nat) : Int) = (L.length : Int) - 1 from by omega] at r1 HG2
        have HR1 := Lib.hid r1
        have HR2 := Lib.hid r2
        clear r1 r2 HW
        go_wp2_with fail
        go_ret
        refine ⟨rfl, _, _, HR1.out, HR2.out, HG2.out, fun j e => ?_⟩
        unfold skF at e
        rcases e with e | e | e
        · exact .inl (.inl e)
        · exact .inl (.inr (.inl e))
        · rw [List.map_append] at e
          rcases List.mem_append.1 e with e | e
          · exact .inl (.inr (.inr (by rw [List.map_take] at e; exact List.mem_of_mem_take e)))
          · exact .inl (.inr (.inr (by rw [List.map_drop] at e; exact List.mem_of_mem_drop e)))
  · rw [h1, show pp none = .pointer none from rfl] at FI
    have HKD := Lib.hid (show kdrop (kvs L) key = kvs L from by unfold kdrop; rw [h2]; rfl)
    rw [h2]
    have HR := Lib.hid hR
    clear hR h1 h2 h3 h4
    go_enter Try.func51, Try.ntmps51
    go_wp2_with (first
      | (go_at_call 54; refine FI.out.mono ?_; rintro e w2 ⟨rfl, hb⟩; have HB2 := Lib.hid (brow (bst hb (nbl w2 (.cells zeroW 74))) hb.size (waysC fun m => pt (ahd h L key m))))
      | (refine wpList_store_row rfl 74 _ _ rfl w2.heap.size (waysC fun m => pt (ahd h L key m)) rfl rfl 74 zeroW (Blk.new w2 74 zeroW) (by kernel_rfl) rfl (waysC_all (fun _ _ => rfl)) ?_))
    go_ret
    exact ⟨rfl, L, g, HR.out.below HB2.out, HKD.out.symm, Grow.of_below HB2.out, fun k e => .inl e⟩
end Go.Proofs.Ytgakkeeeadndkaa
