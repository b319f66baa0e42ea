/-
  Layer 11, the document's answers: Intent as a text.
  Layer 11, the document's answers: its taker: numbers, texts, stamps, flags, one behind the other.
  Layer 11, the document's answers: TakeNumber, TakeStamp, TakeVersion; the code's TakeNumber.
  Layer 11: are two lists of changes, of writes, the same? (slices.Equal; the document's SameWrites.)
-/
import Derived.Test.YtgccichmdddbpaaGreatDoorPL27
import Derived.Deep.RegionHeld3
import Derived.Test.YtgccichmdddbpaaGreatDoorPL26
import Derived.Test.YtgccichmdddbpaaGreatDoorPL24
import Derived.Test.YtgccichmdddbpaaGreatDoorPL18
import Derived.Test.YtgccichmdddbpaaGreatDoorPL25
import Derived.BigQuiet
import Derived.Deep.QuietTactic
set_option linter.unusedVariables false
set_option linter.unusedSimpArgs false
set_option maxRecDepth 100000
namespace Go.Proofs.YtgccichmdddbpaaGreatDoor
open Go.RowKit

section
variable {P : Program} {ops : Array Oper} {Q : Exit → Act → World → Prop} {md : Region.Mode} {S S' : World → Prop}
theorem wpAnyH_imp (hS : ∀ V, S' V → S V) : ∀ {fuel : Nat} {listed : Array Bool} {a : Act} {w : World}, wpAnyH P md ops Q S' fuel listed a w → wpAnyH P md ops Q S fuel listed a w
  | 0, _, _, _, h => h
  | fuel + 1, _, _, _, h => ⟨h.1, fun i hi => wpOp_mono (fun a' w' h' => ⟨hS _ h'.1, wpAnyH_imp hS h'.2⟩) (h.2 i hi)⟩
end
theorem below_dr (W : World) : Below W.heap.size W W.drew := ⟨rfl, rfl, rfl, Nat.le_refl _, fun _ _ => rfl⟩
theorem tx_str (l : List UInt8) (N : Nat) (h : l.length ≤ N) : ∃ s : ByteArray, (⟨l.toArray⟩ : ByteArray) = s ∧ sb s = l ∧ s.size ≤ N := ⟨_, rfl, rfl, h⟩
theorem cat_str (a b : ByteArray) (N M : Nat) (ha : a.size ≤ N) (hb : b.size ≤ M) : ∃ s : ByteArray, a ++ b = s ∧ sb s = sb a ++ sb b ∧ s.size ≤ N + M := ⟨_, rfl, by simp [sb], by rw [ByteArray.size_append]; omega⟩
set_option maxHeartbeats 1000000 in
theorem rstamps (a b : Int) (w : World) (h1 : may a b = true) : Calls Tryz.prog 106 #[sv a b] w fun e w' => e = .returned (.string ⟨(txS a b).toArray⟩) ∧ Below w.heap.size w w' := by
  have hm := may_le h1
  obtain ⟨sa, hsa, za⟩ := nb_str a hm.2.1
  obtain ⟨sc, hsc, zc⟩ := nb_str b hm.2.2.2
  have HE := Lib.hid (show (sa ++ sc : ByteArray) = ⟨(txS a b).toArray⟩ by rw [← hsa, ← hsc]; apply ByteArray.ext; simp [txS])
  have HSA := Lib.hid hsa
  have HSC := Lib.hid hsc
  clear hsa hsc
  have hX := Blk.new w 26 #[.int .i64 a, .int .i64 b]
  have hb2 := nbl w (.cells #[.int .i64 a, .int .i64 b] 26)
  have x0 := hX.cell 0
  have x1 := hX.cell 1
  simp at x0 x1
  go_enter Tryz.func106, Tryz.ntmps106
  go_wp2_with fail
  go_region_with (first
    | (go_at_call_of 104 (Value.int .i64 a); refine (rnum a _ hm.1 hm.2.1).mono ?_; rintro e w2 ⟨A1, m1, c1, rfl, hat1, hb3⟩
       have hX2 : Blk w2 w.heap.size 26 #[.int .i64 a, .int .i64 b] := (hb3.block _ hX.lt).trans hX
       have x2 := hX2.cell 0
       have x3 := hX2.cell 1
       simp at x2 x3
       have v1 := cv_ hat1 c1
       rw [HSA.out] at v1
       have f3 : Below w.heap.size w w2 := by first | exact hb2.drew.trans (hb3.mono hb2.size) | exact hb2.trans (hb3.mono hb2.size))
    | (go_at_call_of 104 (Value.int .i64 b); refine (rnum b _ hm.2.2.1 hm.2.2.2).mono ?_; rintro e w3 ⟨A2, m2, c2, rfl, hat2, hb4⟩
       have v2 := cv_ (hat1.below' hb4) c1
       rw [HSA.out] at v2
       have v3 := cv_ hat2 c2
       rw [HSC.out] at v3
       have f4 : Below w.heap.size w w3 := by first | exact f3.trans (hb4.mono f3.size) | exact f3.drew.trans (hb4.mono f3.size)))
  all_goals (try go_wp2)
  all_goals go_ret
  all_goals exact ⟨by rw [← HE.out]; rfl, f4⟩

set_option maxHeartbeats 8000000 in
theorem rIntent_c (x : It) (A : Option Addr) (n c : Nat) (w : World) (hx : ChAt w A n x.l) (hn : n ≤ 9223372036854775807) :
    Calls Tryz.prog 55 #[itv x (.slice A n c)] w fun e w' => e = ansT (mayI x) (txI x) ∧ Below w.heap.size w w' := by
  obtain ⟨id, ep, pr, an, sw, sl, bw, bl, l⟩ := x
  have g0 := nbl w (.cells (itc ⟨id, ep, pr, an, sw, sl, bw, bl, l⟩ (.slice A n c)) 38)
  have hX := Blk.new w 38 (itc ⟨id, ep, pr, an, sw, sl, bw, bl, l⟩ (.slice A n c))
  have HM := Lib.hid (rMayI_c ⟨id, ep, pr, an, sw, sl, bw, bl, l⟩ _ rfl A n c _ (hx.below g0) hn)
  have HX := Lib.hid hX
  have HL0 := Lib.hid (hx.below g0)
  have hlen : l.length = n := hx.1
  cases hmy : mayI ⟨id, ep, pr, an, sw, sl, bw, bl, l⟩
  · rw [hmy] at HM
    clear hmy hX hx hlen
    go_enter Tryz.func55, Tryz.ntmps55
    go_wp2_with (go_at_call 103; refine HM.out.mono ?_; rintro e w1 ⟨rfl, b1⟩)
    go_ret2
    exact ⟨rfl, bst g0 b1⟩
  rw [hmy] at HM
  simp only [mayI, hdr, Bool.and_eq_true] at hmy
  obtain ⟨⟨⟨⟨⟨⟨⟨h1, h2⟩, h3⟩, h4⟩, h5⟩, h6⟩, h7⟩, h8⟩ := hmy
  have h7 := of_decide_eq_true h7
  have HALL := Lib.hid (rise_all h8)
  have i1 := isI_iff.1 h1
  have i2 := isN_iff.1 h2
  have i3 := isP_iff.1 h3
  have i4 := isK_iff.1 h4
  have i5 := may_le h5
  have i6 := may_le h6
  have i7 : (0 : Int) ≤ (n : Int) ∧ (n : Int) ≤ 9007199254740991 := by omega
  have M5 := Lib.hid h5
  have M6 := Lib.hid h6
  obtain ⟨p1, hp1, sp1, z1⟩ := tx_str (nbs id) 8 (num_len (by omega))
  have HP1 := Lib.hid hp1
  obtain ⟨p2, hp2, sp2, z2⟩ := tx_str (nbs ep) 8 (num_len (by omega))
  have HP2 := Lib.hid hp2
  obtain ⟨p3, hp3, sp3, z3⟩ := tx_str (nbs pr) 8 (num_len (by omega))
  have HP3 := Lib.hid hp3
  obtain ⟨p4, hp4, sp4, z4⟩ := tx_str (tbs an) 40 (str_len i4.2 (by omega))
  have HP4 := Lib.hid hp4
  obtain ⟨p5, hp5, sp5, z5⟩ := tx_str (txS sw sl) 16 (by have u := num_len (n := sw) (by omega); have v := num_len (n := sl) (by omega); unfold txS; rw [List.length_append]; omega)
  have HP5 := Lib.hid hp5
  obtain ⟨p6, hp6, sp6, z6⟩ := tx_str (txS bw bl) 16 (by have u := num_len (n := bw) (by omega); have v := num_len (n := bl) (by omega); unfold txS; rw [List.length_append]; omega)
  have HP6 := Lib.hid hp6
  obtain ⟨p7, hp7, sp7, z7⟩ := tx_str (nbs (n : Int)) 8 (num_len (by omega))
  have HP7 := Lib.hid hp7
  obtain ⟨q2, hq2, sq2, y2⟩ := cat_str p1 p2 8 8 z1 z2
  have HQ2 := Lib.hid hq2
  obtain ⟨q3, hq3, sq3, y3⟩ := cat_str q2 p3 16 8 y2 z3
  have HQ3 := Lib.hid hq3
  obtain ⟨q4, hq4, sq4, y4⟩ := cat_str q3 p4 24 40 y3 z4
  have HQ4 := Lib.hid hq4
  obtain ⟨q5, hq5, sq5, y5⟩ := cat_str q4 p5 64 16 y4 z5
  have HQ5 := Lib.hid hq5
  obtain ⟨q6, hq6, sq6, y6⟩ := cat_str q5 p6 80 16 y5 z6
  have HQ6 := Lib.hid hq6
  obtain ⟨q7, hq7, sq7, y7⟩ := cat_str q6 p7 96 8 y6 z7
  have HQ7 := Lib.hid hq7
  have HSQ := Lib.hid (show sb q7 = (nbs id) ++ (nbs ep) ++ (nbs pr) ++ (tbs an) ++ (txS sw sl) ++ (txS bw bl) ++ (nbs (n : Int)) by rw [sq7, sp7, sq6, sp6, sq5, sp5, sq4, sp4, sq3, sp3, sq2, sp2, sp1])
  have hmix : Tryz.prog.follows .mixedOrders = true := by kernel_rfl
  clear hX hx h1 h2 h3 h4 h5 h6 h8 hp1 sp1 hp2 sp2 hp3 sp3 hp4 sp4 hp5 sp5 hp6 sp6 hp7 sp7 hq2 sq2 hq3 sq3 hq4 sq4 hq5 sq5 hq6 sq6 hq7 sq7
  go_enter Tryz.func55, Tryz.ntmps55
  go_wp2_with (go_at_call 103; refine HM.out.mono ?_; rintro e w1 ⟨rfl, b1⟩)
  have HX1 := Lib.hid (HX.out.below b1 HX.out.lt)
  have HL1 := Lib.hid (HL0.out.below b1)
  have g1 := bst g0 b1
  have LC := Lib.hid (fun (V : World) (hb : Below w1.heap.size w1 V) => (show V.cell? ⟨w.heap.size, 0, none⟩ = some (.int .i64 id) ∧ V.cell? ⟨w.heap.size, 1, none⟩ = some (.int .i64 ep) ∧ V.cell? ⟨w.heap.size, 2, none⟩ = some (.int .i64 pr) ∧ V.cell? ⟨w.heap.size, 3, none⟩ = some (.string an) ∧ V.cell? ⟨w.heap.size, 4, none⟩ = some (.int .i64 sw) ∧ V.cell? ⟨w.heap.size, 5, none⟩ = some (.int .i64 sl) ∧ V.cell? ⟨w.heap.size, 6, none⟩ = some (.int .i64 bw) ∧ V.cell? ⟨w.heap.size, 7, none⟩ = some (.int .i64 bl) ∧ V.cell? ⟨w.heap.size, 8, none⟩ = some (.slice A n c) from by
    have k := HX1.out.below hb HX1.out.lt
    exact ⟨k.cell 0, k.cell 1, k.cell 2, k.cell 3, k.cell 4, k.cell 5, k.cell 6, k.cell 7, k.cell 8⟩))
  clear HX HL0 g0 b1 HM
  refine wp_region_held_drew (S := fun V => Below (w1).heap.size (w1) V) hmix (below_dr _) (fun hS => ?_)
  simp only [List.size_toArray, List.length_cons, List.length_nil, Nat.reduceAdd, Array.replicate_succ, Array.replicate_zero]
  refine wpAnyH_take (i := 0) (oi := { dst := some 10, op := Op.fieldAddr 38 (Operand.tmp 1) 0, type := 0, pos := "ref.go:233", after := #[], guard := none }) (v := ?v0a) rfl (by kernel_rfl) (by kernel_rfl) (by kernel_rfl) (fun _ _ _ h => h) (Or.inl ⟨by rfl, ?hy0a⟩) (by assumption) ?rest0a
  case hy0a => (intro V hSw; (try dsimp only at hSw); go_simp; all_goals (with_reducible rfl))
  try simp only [Act.put, List.setIfInBounds_toArray, List.set_cons_zero, List.set_cons_succ]
  refine wpAnyH_take (i := 1) (oi := { dst := some 11, op := Op.load 3 (Operand.tmp 10), type := 3, pos := "ref.go:233", after := #[{ on := 0, ground := Ground.data }], guard := none }) (v := ?v1a) rfl (by kernel_rfl) (by kernel_rfl) (by kernel_rfl) (fun _ _ _ h => h) (Or.inl ⟨by rfl, ?hy1a⟩) (by assumption) ?rest1a
  case hy1a => (intro V hSw; (try dsimp only at hSw); obtain ⟨c0, c1, c2, c3, c4, c5, c6, c7, c8⟩ := LC.out V hSw; go_simp; all_goals (with_reducible rfl))
  try simp only [Act.put, List.setIfInBounds_toArray, List.set_cons_zero, List.set_cons_succ]
  refine wpAnyH_take (i := 4) (oi := { dst := some 14, op := Op.fieldAddr 38 (Operand.tmp 1) 1, type := 0, pos := "ref.go:233", after := #[], guard := none }) (v := ?v4a) rfl (by kernel_rfl) (by kernel_rfl) (by kernel_rfl) (fun _ _ _ h => h) (Or.inl ⟨by rfl, ?hy4a⟩) (by assumption) ?rest4a
  case hy4a => (intro V hSw; (try dsimp only at hSw); go_simp; all_goals (with_reducible rfl))
  try simp only [Act.put, List.setIfInBounds_toArray, List.set_cons_zero, List.set_cons_succ]
  refine wpAnyH_take (i := 5) (oi := { dst := some 15, op := Op.load 3 (Operand.tmp 14), type := 3, pos := "ref.go:233", after := #[{ on := 4, ground := Ground.data }], guard := none }) (v := ?v5a) rfl (by kernel_rfl) (by kernel_rfl) (by kernel_rfl) (fun _ _ _ h => h) (Or.inl ⟨by rfl, ?hy5a⟩) (by assumption) ?rest5a
  case hy5a => (intro V hSw; (try dsimp only at hSw); obtain ⟨c0, c1, c2, c3, c4, c5, c6, c7, c8⟩ := LC.out V hSw; go_simp; all_goals (with_reducible rfl))
  try simp only [Act.put, List.setIfInBounds_toArray, List.set_cons_zero, List.set_cons_succ]
  refine wpAnyH_take (i := 9) (oi := { dst := some 19, op := Op.fieldAddr 38 (Operand.tmp 1) 2, type := 0, pos := "ref.go:233", after := #[], guard := none }) (v := ?v9a) rfl (by kernel_rfl) (by kernel_rfl) (by kernel_rfl) (fun _ _ _ h => h) (Or.inl ⟨by rfl, ?hy9a⟩) (by assumption) ?rest9a
  case hy9a => (intro V hSw; (try dsimp only at hSw); go_simp; all_goals (with_reducible rfl))
  try simp only [Act.put, List.setIfInBounds_toArray, List.set_cons_zero, List.set_cons_succ]
  refine wpAnyH_take (i := 10) (oi := { dst := some 20, op := Op.load 3 (Operand.tmp 19), type := 3, pos := "ref.go:233", after := #[{ on := 9, ground := Ground.data }], guard := none }) (v := ?v10a) rfl (by kernel_rfl) (by kernel_rfl) (by kernel_rfl) (fun _ _ _ h => h) (Or.inl ⟨by rfl, ?hy10a⟩) (by assumption) ?rest10a
  case hy10a => (intro V hSw; (try dsimp only at hSw); obtain ⟨c0, c1, c2, c3, c4, c5, c6, c7, c8⟩ := LC.out V hSw; go_simp; all_goals (with_reducible rfl))
  try simp only [Act.put, List.setIfInBounds_toArray, List.set_cons_zero, List.set_cons_succ]
  refine wpAnyH_take (i := 14) (oi := { dst := some 24, op := Op.fieldAddr 38 (Operand.tmp 1) 3, type := 0, pos := "ref.go:233", after := #[], guard := none }) (v := ?v14a) rfl (by kernel_rfl) (by kernel_rfl) (by kernel_rfl) (fun _ _ _ h => h) (Or.inl ⟨by rfl, ?hy14a⟩) (by assumption) ?rest14a
  case hy14a => (intro V hSw; (try dsimp only at hSw); go_simp; all_goals (with_reducible rfl))
  try simp only [Act.put, List.setIfInBounds_toArray, List.set_cons_zero, List.set_cons_succ]
  refine wpAnyH_take (i := 15) (oi := { dst := some 25, op := Op.load 9 (Operand.tmp 24), type := 9, pos := "ref.go:233", after := #[{ on := 14, ground := Ground.data }], guard := none }) (v := ?v15a) rfl (by kernel_rfl) (by kernel_rfl) (by kernel_rfl) (fun _ _ _ h => h) (Or.inl ⟨by rfl, ?hy15a⟩) (by assumption) ?rest15a
  case hy15a => (intro V hSw; (try dsimp only at hSw); obtain ⟨c0, c1, c2, c3, c4, c5, c6, c7, c8⟩ := LC.out V hSw; go_simp; all_goals (with_reducible rfl))
  try simp only [Act.put, List.setIfInBounds_toArray, List.set_cons_zero, List.set_cons_succ]
  refine wpAnyH_take (i := 19) (oi := { dst := some 29, op := Op.fieldAddr 38 (Operand.tmp 1) 4, type := 0, pos := "ref.go:233", after := #[], guard := none }) (v := ?v19a) rfl (by kernel_rfl) (by kernel_rfl) (by kernel_rfl) (fun _ _ _ h => h) (Or.inl ⟨by rfl, ?hy19a⟩) (by assumption) ?rest19a
  case hy19a => (intro V hSw; (try dsimp only at hSw); go_simp; all_goals (with_reducible rfl))
  try simp only [Act.put, List.setIfInBounds_toArray, List.set_cons_zero, List.set_cons_succ]
  refine wpAnyH_take (i := 20) (oi := { dst := some 30, op := Op.load 26 (Operand.tmp 29), type := 26, pos := "ref.go:233", after := #[{ on := 19, ground := Ground.data }], guard := none }) (v := ?v20a) rfl (by kernel_rfl) (by kernel_rfl) (by kernel_rfl) (fun _ _ _ h => h) (Or.inl ⟨by rfl, ?hy20a⟩) (by assumption) ?rest20a
  case hy20a => (intro V hSw; (try dsimp only at hSw); obtain ⟨c0, c1, c2, c3, c4, c5, c6, c7, c8⟩ := LC.out V hSw; go_simp; all_goals (with_reducible rfl))
  try simp only [Act.put, List.setIfInBounds_toArray, List.set_cons_zero, List.set_cons_succ]
  refine wpAnyH_take (i := 23) (oi := { dst := some 33, op := Op.fieldAddr 38 (Operand.tmp 1) 5, type := 0, pos := "ref.go:233", after := #[], guard := none }) (v := ?v23a) rfl (by kernel_rfl) (by kernel_rfl) (by kernel_rfl) (fun _ _ _ h => h) (Or.inl ⟨by rfl, ?hy23a⟩) (by assumption) ?rest23a
  case hy23a => (intro V hSw; (try dsimp only at hSw); go_simp; all_goals (with_reducible rfl))
  try simp only [Act.put, List.setIfInBounds_toArray, List.set_cons_zero, List.set_cons_succ]
  refine wpAnyH_take (i := 24) (oi := { dst := some 34, op := Op.load 26 (Operand.tmp 33), type := 26, pos := "ref.go:233", after := #[{ on := 23, ground := Ground.data }], guard := none }) (v := ?v24a) rfl (by kernel_rfl) (by kernel_rfl) (by kernel_rfl) (fun _ _ _ h => h) (Or.inl ⟨by rfl, ?hy24a⟩) (by assumption) ?rest24a
  case hy24a => (intro V hSw; (try dsimp only at hSw); obtain ⟨c0, c1, c2, c3, c4, c5, c6, c7, c8⟩ := LC.out V hSw; go_simp; all_goals (with_reducible rfl))
  try simp only [Act.put, List.setIfInBounds_toArray, List.set_cons_zero, List.set_cons_succ]
  refine wpAnyH_take (i := 27) (oi := { dst := some 37, op := Op.fieldAddr 38 (Operand.tmp 1) 6, type := 0, pos := "ref.go:233", after := #[], guard := none }) (v := ?v27a) rfl (by kernel_rfl) (by kernel_rfl) (by kernel_rfl) (fun _ _ _ h => h) (Or.inl ⟨by rfl, ?hy27a⟩) (by assumption) ?rest27a
  case hy27a => (intro V hSw; (try dsimp only at hSw); go_simp; all_goals (with_reducible rfl))
  try simp only [Act.put, List.setIfInBounds_toArray, List.set_cons_zero, List.set_cons_succ]
  refine wpAnyH_take (i := 28) (oi := { dst := some 38, op := Op.load 36 (Operand.tmp 37), type := 36, pos := "ref.go:233", after := #[{ on := 27, ground := Ground.data }], guard := none }) (v := ?v28a) rfl (by kernel_rfl) (by kernel_rfl) (by kernel_rfl) (fun _ _ _ h => h) (Or.inl ⟨by rfl, ?hy28a⟩) (by assumption) ?rest28a
  case hy28a => (intro V hSw; (try dsimp only at hSw); obtain ⟨c0, c1, c2, c3, c4, c5, c6, c7, c8⟩ := LC.out V hSw; go_simp; all_goals (with_reducible rfl))
  try simp only [Act.put, List.setIfInBounds_toArray, List.set_cons_zero, List.set_cons_succ]
  refine wpAnyH_take (i := 29) (oi := { dst := some 39, op := Op.call { callee := Callee.builtin Builtin.len, args := #[Operand.tmp 38], argTypes := #[36] }, type := 3, pos := "ref.go:233", after := #[{ on := 28, ground := Ground.data }], guard := none }) (v := ?v29a) rfl (by kernel_rfl) (by kernel_rfl) (by kernel_rfl) (fun _ _ _ h => h) (Or.inl ⟨by rfl, ?hy29a⟩) (by assumption) ?rest29a
  case hy29a => (intro V hSw; (try dsimp only at hSw); go_simp; all_goals (with_reducible rfl))
  try simp only [Act.put, List.setIfInBounds_toArray, List.set_cons_zero, List.set_cons_succ]
  refine wpAnyH_ready (rs := [2]) (by kernel_rfl) (by simp) ?_
  refine AllReadyH.cons (o := { dst := some 12, op := Op.call { callee := Callee.value (Operand.func 104), args := #[Operand.tmp 11], argTypes := #[3] }, type := 164, pos := "ref.go:233", after := #[{ on := 1, ground := Ground.data }], guard := none }) rfl (fun K hK => ?_) AllReadyH.nil
  go_simp
  refine (rnum id _ (by omega) (by omega)).mono ?_
  rintro e v1 ⟨A1, m1, cc1, rfl, hat1, hb1⟩
  refine hK.out _ _ (bst (below_dr w1) hb1) (fun _ => ?_)
  clear hK K
  clear hS
  refine wpAnyH_imp (S' := fun V => Below v1.heap.size v1 V) (fun V h => bst (bst (below_dr w1) hb1) h) ?_
  have hS : Below v1.heap.size v1 v1 := Below.refl _ _
  try simp only [Act.put, List.setIfInBounds_toArray, List.set_cons_zero, List.set_cons_succ]
  have HAT1 := Lib.hid hat1
  clear hat1
  have HB1 := Lib.hid (bst (below_dr w1) hb1)
  refine wpAnyH_take (i := 3) (oi := { dst := some 13, op := Op.convert 164 9 (Operand.tmp 12), type := 9, pos := "ref.go:233", after := #[{ on := 2, ground := Ground.data }], guard := none }) (v := ?v3a) rfl (by kernel_rfl) (by kernel_rfl) (by kernel_rfl) (fun _ _ _ h => h) (Or.inl ⟨by rfl, ?hy3a⟩) (by assumption) ?rest3a
  case hy3a => (intro V hSw; (try dsimp only at hSw); have kc := cv_ (HAT1.out.below' hSw) cc1; rw [HP1.out] at kc; go_simp; all_goals (with_reducible rfl))
  try simp only [Act.put, List.setIfInBounds_toArray, List.set_cons_zero, List.set_cons_succ]
  refine wpAnyH_ready (rs := [6]) (by kernel_rfl) (by simp) ?_
  refine AllReadyH.cons (o := { dst := some 16, op := Op.call { callee := Callee.value (Operand.func 104), args := #[Operand.tmp 15], argTypes := #[3] }, type := 164, pos := "ref.go:233", after := #[{ on := 5, ground := Ground.data }, { on := 2, ground := Ground.chain }], guard := none }) rfl (fun K hK => ?_) AllReadyH.nil
  go_simp
  refine (rnum ep _ (by omega) (by omega)).mono ?_
  rintro e v2 ⟨A2, m2, cc2, rfl, hat2, hb2⟩
  refine hK.out _ _ hb2 (fun _ => ?_)
  clear hK K
  clear hS
  refine wpAnyH_imp (S' := fun V => Below v2.heap.size v2 V) (fun V h => bst hb2 h) ?_
  have hS : Below v2.heap.size v2 v2 := Below.refl _ _
  try simp only [Act.put, List.setIfInBounds_toArray, List.set_cons_zero, List.set_cons_succ]
  have HAT2 := Lib.hid hat2
  clear hat2
  have HB2 := Lib.hid hb2
  refine wpAnyH_take (i := 7) (oi := { dst := some 17, op := Op.convert 164 9 (Operand.tmp 16), type := 9, pos := "ref.go:233", after := #[{ on := 6, ground := Ground.data }], guard := none }) (v := ?v7a) rfl (by kernel_rfl) (by kernel_rfl) (by kernel_rfl) (fun _ _ _ h => h) (Or.inl ⟨by rfl, ?hy7a⟩) (by assumption) ?rest7a
  case hy7a => (intro V hSw; (try dsimp only at hSw); have kc := cv_ (HAT2.out.below' hSw) cc2; rw [HP2.out] at kc; go_simp; all_goals (with_reducible rfl))
  try simp only [Act.put, List.setIfInBounds_toArray, List.set_cons_zero, List.set_cons_succ]
  refine wpAnyH_take (i := 8) (oi := { dst := some 18, op := Op.binOp BinOp.add 9 (Operand.tmp 13) (Operand.tmp 17) 9, type := 9, pos := "ref.go:233", after := #[{ on := 3, ground := Ground.data }, { on := 7, ground := Ground.data }], guard := none }) (v := .string q2) rfl (by kernel_rfl) (by kernel_rfl) (by kernel_rfl) (fun _ _ _ h => h) (Or.inl ⟨by rfl, ?hy8a⟩) (by assumption) ?rest8a
  case hy8a => (intro V hSw; (try dsimp only at hSw); have ke := HQ2.out; have kz : ¬ 9223372036854775807 < p1.size + p2.size := (by omega); go_simp; all_goals (with_reducible rfl))
  try simp only [Act.put, List.setIfInBounds_toArray, List.set_cons_zero, List.set_cons_succ]
  refine wpAnyH_ready (rs := [11]) (by kernel_rfl) (by simp) ?_
  refine AllReadyH.cons (o := { dst := some 21, op := Op.call { callee := Callee.value (Operand.func 104), args := #[Operand.tmp 20], argTypes := #[3] }, type := 164, pos := "ref.go:233", after := #[{ on := 10, ground := Ground.data }, { on := 6, ground := Ground.chain }], guard := none }) rfl (fun K hK => ?_) AllReadyH.nil
  go_simp
  refine (rnum pr _ (by omega) (by omega)).mono ?_
  rintro e v3 ⟨A3, m3, cc3, rfl, hat3, hb3⟩
  refine hK.out _ _ hb3 (fun _ => ?_)
  clear hK K
  clear hS
  refine wpAnyH_imp (S' := fun V => Below v3.heap.size v3 V) (fun V h => bst hb3 h) ?_
  have hS : Below v3.heap.size v3 v3 := Below.refl _ _
  try simp only [Act.put, List.setIfInBounds_toArray, List.set_cons_zero, List.set_cons_succ]
  have HAT3 := Lib.hid hat3
  clear hat3
  have HB3 := Lib.hid hb3
  refine wpAnyH_take (i := 12) (oi := { dst := some 22, op := Op.convert 164 9 (Operand.tmp 21), type := 9, pos := "ref.go:233", after := #[{ on := 11, ground := Ground.data }], guard := none }) (v := ?v12a) rfl (by kernel_rfl) (by kernel_rfl) (by kernel_rfl) (fun _ _ _ h => h) (Or.inl ⟨by rfl, ?hy12a⟩) (by assumption) ?rest12a
  case hy12a => (intro V hSw; (try dsimp only at hSw); have kc := cv_ (HAT3.out.below' hSw) cc3; rw [HP3.out] at kc; go_simp; all_goals (with_reducible rfl))
  try simp only [Act.put, List.setIfInBounds_toArray, List.set_cons_zero, List.set_cons_succ]
  refine wpAnyH_take (i := 13) (oi := { dst := some 23, op := Op.binOp BinOp.add 9 (Operand.tmp 18) (Operand.tmp 22) 9, type := 9, pos := "ref.go:233", after := #[{ on := 8, ground := Ground.data }, { on := 12, ground := Ground.data }], guard := none }) (v := .string q3) rfl (by kernel_rfl) (by kernel_rfl) (by kernel_rfl) (fun _ _ _ h => h) (Or.inl ⟨by rfl, ?hy13a⟩) (by assumption) ?rest13a
  case hy13a => (intro V hSw; (try dsimp only at hSw); have ke := HQ3.out; have kz : ¬ 9223372036854775807 < q2.size + p3.size := (by omega); go_simp; all_goals (with_reducible rfl))
  try simp only [Act.put, List.setIfInBounds_toArray, List.set_cons_zero, List.set_cons_succ]
  refine wpAnyH_ready (rs := [16]) (by kernel_rfl) (by simp) ?_
  refine AllReadyH.cons (o := { dst := some 26, op := Op.call { callee := Callee.value (Operand.func 105), args := #[Operand.tmp 25], argTypes := #[9] }, type := 164, pos := "ref.go:233", after := #[{ on := 15, ground := Ground.data }, { on := 11, ground := Ground.chain }], guard := none }) rfl (fun K hK => ?_) AllReadyH.nil
  go_simp
  refine (rstr an _ (by omega)).mono ?_
  rintro e v4 ⟨A4, m4, cc4, rfl, hat4, hb4⟩
  refine hK.out _ _ hb4 (fun _ => ?_)
  clear hK K
  clear hS
  refine wpAnyH_imp (S' := fun V => Below v4.heap.size v4 V) (fun V h => bst hb4 h) ?_
  have hS : Below v4.heap.size v4 v4 := Below.refl _ _
  try simp only [Act.put, List.setIfInBounds_toArray, List.set_cons_zero, List.set_cons_succ]
  have HAT4 := Lib.hid hat4
  clear hat4
  have HB4 := Lib.hid hb4
  refine wpAnyH_take (i := 17) (oi := { dst := some 27, op := Op.convert 164 9 (Operand.tmp 26), type := 9, pos := "ref.go:233", after := #[{ on := 16, ground := Ground.data }], guard := none }) (v := ?v17a) rfl (by kernel_rfl) (by kernel_rfl) (by kernel_rfl) (fun _ _ _ h => h) (Or.inl ⟨by rfl, ?hy17a⟩) (by assumption) ?rest17a
  case hy17a => (intro V hSw; (try dsimp only at hSw); have kc := cv_ (HAT4.out.below' hSw) cc4; rw [HP4.out] at kc; go_simp; all_goals (with_reducible rfl))
  try simp only [Act.put, List.setIfInBounds_toArray, List.set_cons_zero, List.set_cons_succ]
  refine wpAnyH_take (i := 18) (oi := { dst := some 28, op := Op.binOp BinOp.add 9 (Operand.tmp 23) (Operand.tmp 27) 9, type := 9, pos := "ref.go:233", after := #[{ on := 13, ground := Ground.data }, { on := 17, ground := Ground.data }], guard := none }) (v := .string q4) rfl (by kernel_rfl) (by kernel_rfl) (by kernel_rfl) (fun _ _ _ h => h) (Or.inl ⟨by rfl, ?hy18a⟩) (by assumption) ?rest18a
  case hy18a => (intro V hSw; (try dsimp only at hSw); have ke := HQ4.out; have kz : ¬ 9223372036854775807 < q3.size + p4.size := (by omega); go_simp; all_goals (with_reducible rfl))
  try simp only [Act.put, List.setIfInBounds_toArray, List.set_cons_zero, List.set_cons_succ]
  refine wpAnyH_ready (rs := [21]) (by kernel_rfl) (by simp) ?_
  refine AllReadyH.cons (o := { dst := some 31, op := Op.call { callee := Callee.value (Operand.func 106), args := #[Operand.tmp 30], argTypes := #[26] }, type := 9, pos := "ref.go:233", after := #[{ on := 20, ground := Ground.data }, { on := 16, ground := Ground.chain }], guard := none }) rfl (fun K hK => ?_) AllReadyH.nil
  go_simp
  refine (rstamps sw sl _ M5.out).mono ?_
  rintro e v5 ⟨rfl, hb5⟩
  rw [HP5.out]
  refine hK.out _ _ hb5 (fun _ => ?_)
  clear hK K
  clear hS
  refine wpAnyH_imp (S' := fun V => Below v5.heap.size v5 V) (fun V h => bst hb5 h) ?_
  have hS : Below v5.heap.size v5 v5 := Below.refl _ _
  try simp only [Act.put, List.setIfInBounds_toArray, List.set_cons_zero, List.set_cons_succ]
  have HB5 := Lib.hid hb5
  refine wpAnyH_take (i := 22) (oi := { dst := some 32, op := Op.binOp BinOp.add 9 (Operand.tmp 28) (Operand.tmp 31) 9, type := 9, pos := "ref.go:233", after := #[{ on := 18, ground := Ground.data }, { on := 21, ground := Ground.data }], guard := none }) (v := .string q5) rfl (by kernel_rfl) (by kernel_rfl) (by kernel_rfl) (fun _ _ _ h => h) (Or.inl ⟨by rfl, ?hy22a⟩) (by assumption) ?rest22a
  case hy22a => (intro V hSw; (try dsimp only at hSw); have ke := HQ5.out; have kz : ¬ 9223372036854775807 < q4.size + p5.size := (by omega); go_simp; all_goals (with_reducible rfl))
  try simp only [Act.put, List.setIfInBounds_toArray, List.set_cons_zero, List.set_cons_succ]
  refine wpAnyH_ready (rs := [25]) (by kernel_rfl) (by simp) ?_
  refine AllReadyH.cons (o := { dst := some 35, op := Op.call { callee := Callee.value (Operand.func 106), args := #[Operand.tmp 34], argTypes := #[26] }, type := 9, pos := "ref.go:233", after := #[{ on := 24, ground := Ground.data }, { on := 21, ground := Ground.chain }], guard := none }) rfl (fun K hK => ?_) AllReadyH.nil
  go_simp
  refine (rstamps bw bl _ M6.out).mono ?_
  rintro e v6 ⟨rfl, hb6⟩
  rw [HP6.out]
  refine hK.out _ _ hb6 (fun _ => ?_)
  clear hK K
  clear hS
  refine wpAnyH_imp (S' := fun V => Below v6.heap.size v6 V) (fun V h => bst hb6 h) ?_
  have hS : Below v6.heap.size v6 v6 := Below.refl _ _
  try simp only [Act.put, List.setIfInBounds_toArray, List.set_cons_zero, List.set_cons_succ]
  have HB6 := Lib.hid hb6
  refine wpAnyH_take (i := 26) (oi := { dst := some 36, op := Op.binOp BinOp.add 9 (Operand.tmp 32) (Operand.tmp 35) 9, type := 9, pos := "ref.go:233", after := #[{ on := 22, ground := Ground.data }, { on := 25, ground := Ground.data }], guard := none }) (v := .string q6) rfl (by kernel_rfl) (by kernel_rfl) (by kernel_rfl) (fun _ _ _ h => h) (Or.inl ⟨by rfl, ?hy26a⟩) (by assumption) ?rest26a
  case hy26a => (intro V hSw; (try dsimp only at hSw); have ke := HQ6.out; have kz : ¬ 9223372036854775807 < q5.size + p6.size := (by omega); go_simp; all_goals (with_reducible rfl))
  try simp only [Act.put, List.setIfInBounds_toArray, List.set_cons_zero, List.set_cons_succ]
  refine wpAnyH_ready (rs := [30]) (by kernel_rfl) (by simp) ?_
  refine AllReadyH.cons (o := { dst := some 40, op := Op.call { callee := Callee.value (Operand.func 104), args := #[Operand.tmp 39], argTypes := #[3] }, type := 164, pos := "ref.go:233", after := #[{ on := 29, ground := Ground.data }, { on := 25, ground := Ground.chain }], guard := none }) rfl (fun K hK => ?_) AllReadyH.nil
  go_simp
  refine (rnum (n : Int) _ (by omega) (by omega)).mono ?_
  rintro e v7 ⟨A7, m7, cc7, rfl, hat7, hb7⟩
  refine hK.out _ _ hb7 (fun _ => ?_)
  clear hK K
  clear hS
  refine wpAnyH_imp (S' := fun V => Below v7.heap.size v7 V) (fun V h => bst hb7 h) ?_
  have hS : Below v7.heap.size v7 v7 := Below.refl _ _
  try simp only [Act.put, List.setIfInBounds_toArray, List.set_cons_zero, List.set_cons_succ]
  have HAT7 := Lib.hid hat7
  clear hat7
  have HB7 := Lib.hid hb7
  refine wpAnyH_take (i := 31) (oi := { dst := some 41, op := Op.convert 164 9 (Operand.tmp 40), type := 9, pos := "ref.go:233", after := #[{ on := 30, ground := Ground.data }], guard := none }) (v := ?v31a) rfl (by kernel_rfl) (by kernel_rfl) (by kernel_rfl) (fun _ _ _ h => h) (Or.inl ⟨by rfl, ?hy31a⟩) (by assumption) ?rest31a
  case hy31a => (intro V hSw; (try dsimp only at hSw); have kc := cv_ (HAT7.out.below' hSw) cc7; rw [HP7.out] at kc; go_simp; all_goals (with_reducible rfl))
  try simp only [Act.put, List.setIfInBounds_toArray, List.set_cons_zero, List.set_cons_succ]
  refine wpAnyH_take (i := 32) (oi := { dst := some 42, op := Op.binOp BinOp.add 9 (Operand.tmp 36) (Operand.tmp 41) 9, type := 9, pos := "ref.go:233", after := #[{ on := 26, ground := Ground.data }, { on := 31, ground := Ground.data }], guard := none }) (v := .string q7) rfl (by kernel_rfl) (by kernel_rfl) (by kernel_rfl) (fun _ _ _ h => h) (Or.inl ⟨by rfl, ?hy32a⟩) (by assumption) ?rest32a
  case hy32a => (intro V hSw; (try dsimp only at hSw); have ke := HQ7.out; have kz : ¬ 9223372036854775807 < q6.size + p7.size := (by omega); go_simp; all_goals (with_reducible rfl))
  try simp only [Act.put, List.setIfInBounds_toArray, List.set_cons_zero, List.set_cons_succ]
  refine wpAnyH_take (i := 33) (oi := { dst := some 4, op := Op.assign (Operand.tmp 42), type := 9, pos := "ref.go:233", after := #[{ on := 32, ground := Ground.data }, { on := 30, ground := Ground.chain }, { on := 0, ground := Ground.phase }, { on := 1, ground := Ground.phase }, { on := 2, ground := Ground.phase }, { on := 3, ground := Ground.phase }, { on := 4, ground := Ground.phase }, { on := 5, ground := Ground.phase }, { on := 6, ground := Ground.phase }, { on := 7, ground := Ground.phase }, { on := 8, ground := Ground.phase }, { on := 9, ground := Ground.phase }, { on := 10, ground := Ground.phase }, { on := 11, ground := Ground.phase }, { on := 12, ground := Ground.phase }, { on := 13, ground := Ground.phase }, { on := 14, ground := Ground.phase }, { on := 15, ground := Ground.phase }, { on := 16, ground := Ground.phase }, { on := 17, ground := Ground.phase }, { on := 18, ground := Ground.phase }, { on := 19, ground := Ground.phase }, { on := 20, ground := Ground.phase }, { on := 21, ground := Ground.phase }, { on := 22, ground := Ground.phase }, { on := 23, ground := Ground.phase }, { on := 24, ground := Ground.phase }, { on := 25, ground := Ground.phase }, { on := 26, ground := Ground.phase }, { on := 27, ground := Ground.phase }, { on := 28, ground := Ground.phase }, { on := 29, ground := Ground.phase }, { on := 30, ground := Ground.phase }, { on := 31, ground := Ground.phase }, { on := 32, ground := Ground.phase }], guard := none }) (v := ?v33a) rfl (by kernel_rfl) (by kernel_rfl) (by kernel_rfl) (fun _ _ _ h => h) (Or.inl ⟨by rfl, ?hy33a⟩) (by assumption) ?rest33a
  case hy33a => (intro V hSw; (try dsimp only at hSw); go_simp; all_goals (with_reducible rfl))
  try simp only [Act.put, List.setIfInBounds_toArray, List.set_cons_zero, List.set_cons_succ]
  refine wpAnyH_done (by kernel_rfl) ?_ _
  have HBE := Lib.hid (show Below w1.heap.size w1 v7 from (bst (bst (bst (bst (bst (bst HB1.out HB2.out) HB3.out) HB4.out) HB5.out) HB6.out) HB7.out))
  have HLE := Lib.hid (HL1.out.below HBE.out)
  have GE := Lib.hid (bst g1 HBE.out)
  have LC2 := Lib.hid (fun (V : World) (hb : Below v7.heap.size v7 V) => (LC.out V (bst HBE.out hb)))
  clear hS hb1 HB1 hb2 HB2 hb3 HB3 hb4 HB4 hb5 HB5 hb6 HB6 hb7 HB7 HAT1 HAT2 HAT3 HAT4 HAT7 LC HX1 HL1 g1 HBE
  go_wp2_with fail
  go_loopw [4, 5, 6] (fun s i dd wr => ∃ (j : Nat) (q : ByteArray), j ≤ n ∧ s = .string q ∧ i = .int .i64 j ∧ q.size ≤ 104 + 120 * j ∧ Hid (sb q = sb q7 ++ (l.take j).flatMap txC) ∧ Hid (Below v7.heap.size v7 wr)) (fun _ i _ _ => n - (intOf i).toNat)
  case atStart => exact ⟨0, q7, Nat.zero_le _, rfl, rfl, by omega, by show sb q7 = _; simp, Lib.hid (Below.refl _ _)⟩
  case round =>
    obtain ⟨j, q, hj, rfl, rfl, hq, HS, HB⟩ := hrel
    obtain ⟨c0, c1, c2, c3, c4, c5, c6, c7, c8⟩ := LC2.out wr HB.out
    by_cases hlt : j < n
    case neg =>
      have hjn : j = n := by omega
      have HF := Lib.hid (show ansT true (txI ⟨id, ep, pr, an, sw, sl, bw, bl, l⟩) = .returned (.tuple #[.string q, .int .i64 0]) from by
        rw [ansT_t]
        have e : txI ⟨id, ep, pr, an, sw, sl, bw, bl, l⟩ = sb q := by
          rw [HS.out, HSQ.out, List.take_of_length_le (by omega)]
          unfold txI
          simp [txS, hlen, List.append_assoc]
        rw [e, mk_tb])
      clear HS
      go_wp2
      go_ret2
      rw [HF.out]
      exact ⟨rfl, bst GE.out HB.out⟩
    have hjl : j < l.length := by rw [hlen]; exact hlt
    obtain ⟨B, o, rfl, hc⟩ := HLE.out.2 (by omega)
    have p := hc j hjl
    have hall := HALL.out _ (List.getElem_mem hjl)
    obtain ⟨cch, hcch⟩ : ∃ cch, l[j]'hjl = cch := ⟨_, rfl⟩
    rw [hcch] at p hall
    have HTK := Lib.hid (show l.take (j + 1) = l.take j ++ [cch] by rw [List.take_succ_eq_append_getElem hjl, hcch])
    obtain ⟨qs, sv', d⟩ := cch
    obtain ⟨p0, p1, p2⟩ := p
    simp only at hall
    have jz : (0 : Int) ≤ (j : Int) := by omega
    have jn : (j : Int) < (n : Int) := by omega
    have LC3 := Lib.hid (fun (V : World) (hb : Below wr.heap.size wr V) => (show V.cell? ⟨w.heap.size, 8, none⟩ = some (.slice (some ⟨B, o, none⟩) n c) ∧ V.cell? ⟨B, o + j * 3, none⟩ = some (.int .i64 qs) ∧ V.cell? ⟨B, o + j * 3 + 1, none⟩ = some (.string sv') ∧ V.cell? ⟨B, o + j * 3 + 2, none⟩ = some (.bool d) from by
      have k := LC2.out V (bst HB.out hb)
      have hbv := bst HB.out hb
      exact ⟨k.2.2.2.2.2.2.2.2, kept_below hbv _ _ p0, kept_below hbv _ _ p1, kept_below hbv _ _ p2⟩))
    obtain ⟨e8, e0, e1, e2⟩ := LC3.out wr (Below.refl _ _)
    obtain ⟨t1, ht1, st1, zt1⟩ := tx_str (nbs qs) 8 (num_len (by omega))
    have HT1 := Lib.hid ht1
    obtain ⟨t2, ht2, st2, zt2⟩ := tx_str (fbs d) 8 (fl_len d)
    have HT2 := Lib.hid ht2
    obtain ⟨t3, ht3, st3, zt3⟩ := tx_str (tbs sv') 72 (str_len (m := 64) (by omega) (by omega))
    have HT3 := Lib.hid ht3
    obtain ⟨r1, hr1, sr1, yr1⟩ := cat_str q t1 (104 + 120 * j + 0) 8 (by omega) zt1
    have HR1 := Lib.hid hr1
    obtain ⟨r2, hr2, sr2, yr2⟩ := cat_str r1 t2 (104 + 120 * j + 8) 8 yr1 zt2
    have HR2 := Lib.hid hr2
    obtain ⟨r3, hr3, sr3, yr3⟩ := cat_str r2 t3 (104 + 120 * j + 16) 72 yr2 zt3
    have HR3 := Lib.hid hr3
    have HSR := Lib.hid (show sb r3 = sb q7 ++ (l.take (j + 1)).flatMap txC by
      rw [sr3, st3, sr2, st2, sr1, st1, HS.out, HTK.out, List.flatMap_append]
      simp [txC, List.append_assoc])
    have hrz : r3.size ≤ 104 + 120 * (j + 1) := by omega
    clear hcch HS ht1 st1 ht2 st2 ht3 st3 hr1 sr1 hr2 sr2 hr3 sr3
    cases d
    · skip
      go_wp2_with fail
      refine wp_region_held_drew (S := fun V => Below (wr).heap.size (wr) V) hmix (below_dr _) (fun hS => ?_)
      simp only [List.size_toArray, List.length_cons, List.length_nil, Nat.reduceAdd, Array.replicate_succ, Array.replicate_zero]
      refine wpAnyH_take (i := 0) (oi := { dst := some 56, op := Op.move (Operand.tmp 4), type := 9, pos := "ref.go:239", after := #[], guard := none }) (v := ?v0b) rfl (by kernel_rfl) (by kernel_rfl) (by kernel_rfl) (fun _ _ _ h => h) (Or.inl ⟨by rfl, ?hy0b⟩) (by assumption) ?rest0b
      case hy0b => (intro V hSw; (try dsimp only at hSw); go_simp; all_goals (with_reducible rfl))
      try simp only [Act.put, List.setIfInBounds_toArray, List.set_cons_zero, List.set_cons_succ]
      refine wpAnyH_take (i := 1) (oi := { dst := some 57, op := Op.fieldAddr 38 (Operand.tmp 1) 6, type := 0, pos := "ref.go:239", after := #[], guard := none }) (v := ?v1b) rfl (by kernel_rfl) (by kernel_rfl) (by kernel_rfl) (fun _ _ _ h => h) (Or.inl ⟨by rfl, ?hy1b⟩) (by assumption) ?rest1b
      case hy1b => (intro V hSw; (try dsimp only at hSw); go_simp; all_goals (with_reducible rfl))
      try simp only [Act.put, List.setIfInBounds_toArray, List.set_cons_zero, List.set_cons_succ]
      refine wpAnyH_take (i := 2) (oi := { dst := some 58, op := Op.load 36 (Operand.tmp 57), type := 36, pos := "ref.go:239", after := #[{ on := 1, ground := Ground.data }], guard := none }) (v := ?v2b) rfl (by kernel_rfl) (by kernel_rfl) (by kernel_rfl) (fun _ _ _ h => h) (Or.inl ⟨by rfl, ?hy2b⟩) (by assumption) ?rest2b
      case hy2b => (intro V hSw; (try dsimp only at hSw); obtain ⟨c8, x0, x1, x2⟩ := LC3.out V hSw; go_simp; all_goals (with_reducible rfl))
      try simp only [Act.put, List.setIfInBounds_toArray, List.set_cons_zero, List.set_cons_succ]
      refine wpAnyH_take (i := 3) (oi := { dst := some 59, op := Op.move (Operand.tmp 5), type := 3, pos := "ref.go:239", after := #[], guard := none }) (v := ?v3b) rfl (by kernel_rfl) (by kernel_rfl) (by kernel_rfl) (fun _ _ _ h => h) (Or.inl ⟨by rfl, ?hy3b⟩) (by assumption) ?rest3b
      case hy3b => (intro V hSw; (try dsimp only at hSw); go_simp; all_goals (with_reducible rfl))
      try simp only [Act.put, List.setIfInBounds_toArray, List.set_cons_zero, List.set_cons_succ]
      refine wpAnyH_take (i := 4) (oi := { dst := some 60, op := Op.indexAddr 36 (Operand.tmp 58) (Operand.tmp 59), type := 0, pos := "ref.go:239", after := #[{ on := 2, ground := Ground.data }, { on := 3, ground := Ground.data }], guard := none }) (v := ?v4b) rfl (by kernel_rfl) (by kernel_rfl) (by kernel_rfl) (fun _ _ _ h => h) (Or.inl ⟨by rfl, ?hy4b⟩) (by assumption) ?rest4b
      case hy4b => (intro V hSw; (try dsimp only at hSw); go_simp; all_goals (with_reducible rfl))
      try simp only [Act.put, List.setIfInBounds_toArray, List.set_cons_zero, List.set_cons_succ]
      refine wpAnyH_take (i := 5) (oi := { dst := some 61, op := Op.fieldAddr 24 (Operand.tmp 60) 0, type := 0, pos := "ref.go:239", after := #[{ on := 4, ground := Ground.data }], guard := none }) (v := ?v5b) rfl (by kernel_rfl) (by kernel_rfl) (by kernel_rfl) (fun _ _ _ h => h) (Or.inl ⟨by rfl, ?hy5b⟩) (by assumption) ?rest5b
      case hy5b => (intro V hSw; (try dsimp only at hSw); go_simp; all_goals (with_reducible rfl))
      try simp only [Act.put, List.setIfInBounds_toArray, List.set_cons_zero, List.set_cons_succ]
      refine wpAnyH_take (i := 6) (oi := { dst := some 62, op := Op.load 3 (Operand.tmp 61), type := 3, pos := "ref.go:239", after := #[{ on := 5, ground := Ground.data }], guard := none }) (v := ?v6b) rfl (by kernel_rfl) (by kernel_rfl) (by kernel_rfl) (fun _ _ _ h => h) (Or.inl ⟨by rfl, ?hy6b⟩) (by assumption) ?rest6b
      case hy6b => (intro V hSw; (try dsimp only at hSw); obtain ⟨c8, x0, x1, x2⟩ := LC3.out V hSw; go_simp; all_goals (with_reducible rfl))
      try simp only [Act.put, List.setIfInBounds_toArray, List.set_cons_zero, List.set_cons_succ]
      refine wpAnyH_take (i := 10) (oi := { dst := some 66, op := Op.move (Operand.tmp 6), type := 3, pos := "ref.go:239", after := #[], guard := none }) (v := ?v10b) rfl (by kernel_rfl) (by kernel_rfl) (by kernel_rfl) (fun _ _ _ h => h) (Or.inl ⟨by rfl, ?hy10b⟩) (by assumption) ?rest10b
      case hy10b => (intro V hSw; (try dsimp only at hSw); go_simp; all_goals (with_reducible rfl))
      try simp only [Act.put, List.setIfInBounds_toArray, List.set_cons_zero, List.set_cons_succ]
      refine wpAnyH_take (i := 14) (oi := { dst := some 70, op := Op.fieldAddr 38 (Operand.tmp 1) 6, type := 0, pos := "ref.go:239", after := #[], guard := none }) (v := ?v14b) rfl (by kernel_rfl) (by kernel_rfl) (by kernel_rfl) (fun _ _ _ h => h) (Or.inl ⟨by rfl, ?hy14b⟩) (by assumption) ?rest14b
      case hy14b => (intro V hSw; (try dsimp only at hSw); go_simp; all_goals (with_reducible rfl))
      try simp only [Act.put, List.setIfInBounds_toArray, List.set_cons_zero, List.set_cons_succ]
      refine wpAnyH_take (i := 15) (oi := { dst := some 71, op := Op.load 36 (Operand.tmp 70), type := 36, pos := "ref.go:239", after := #[{ on := 14, ground := Ground.data }], guard := none }) (v := ?v15b) rfl (by kernel_rfl) (by kernel_rfl) (by kernel_rfl) (fun _ _ _ h => h) (Or.inl ⟨by rfl, ?hy15b⟩) (by assumption) ?rest15b
      case hy15b => (intro V hSw; (try dsimp only at hSw); obtain ⟨c8, x0, x1, x2⟩ := LC3.out V hSw; go_simp; all_goals (with_reducible rfl))
      try simp only [Act.put, List.setIfInBounds_toArray, List.set_cons_zero, List.set_cons_succ]
      refine wpAnyH_take (i := 16) (oi := { dst := some 72, op := Op.move (Operand.tmp 5), type := 3, pos := "ref.go:239", after := #[], guard := none }) (v := ?v16b) rfl (by kernel_rfl) (by kernel_rfl) (by kernel_rfl) (fun _ _ _ h => h) (Or.inl ⟨by rfl, ?hy16b⟩) (by assumption) ?rest16b
      case hy16b => (intro V hSw; (try dsimp only at hSw); go_simp; all_goals (with_reducible rfl))
      try simp only [Act.put, List.setIfInBounds_toArray, List.set_cons_zero, List.set_cons_succ]
      refine wpAnyH_take (i := 17) (oi := { dst := some 73, op := Op.indexAddr 36 (Operand.tmp 71) (Operand.tmp 72), type := 0, pos := "ref.go:239", after := #[{ on := 15, ground := Ground.data }, { on := 16, ground := Ground.data }], guard := none }) (v := ?v17b) rfl (by kernel_rfl) (by kernel_rfl) (by kernel_rfl) (fun _ _ _ h => h) (Or.inl ⟨by rfl, ?hy17b⟩) (by assumption) ?rest17b
      case hy17b => (intro V hSw; (try dsimp only at hSw); go_simp; all_goals (with_reducible rfl))
      try simp only [Act.put, List.setIfInBounds_toArray, List.set_cons_zero, List.set_cons_succ]
      refine wpAnyH_take (i := 18) (oi := { dst := some 74, op := Op.fieldAddr 24 (Operand.tmp 73) 1, type := 0, pos := "ref.go:239", after := #[{ on := 17, ground := Ground.data }], guard := none }) (v := ?v18b) rfl (by kernel_rfl) (by kernel_rfl) (by kernel_rfl) (fun _ _ _ h => h) (Or.inl ⟨by rfl, ?hy18b⟩) (by assumption) ?rest18b
      case hy18b => (intro V hSw; (try dsimp only at hSw); go_simp; all_goals (with_reducible rfl))
      try simp only [Act.put, List.setIfInBounds_toArray, List.set_cons_zero, List.set_cons_succ]
      refine wpAnyH_take (i := 19) (oi := { dst := some 75, op := Op.load 9 (Operand.tmp 74), type := 9, pos := "ref.go:239", after := #[{ on := 18, ground := Ground.data }], guard := none }) (v := ?v19b) rfl (by kernel_rfl) (by kernel_rfl) (by kernel_rfl) (fun _ _ _ h => h) (Or.inl ⟨by rfl, ?hy19b⟩) (by assumption) ?rest19b
      case hy19b => (intro V hSw; (try dsimp only at hSw); obtain ⟨c8, x0, x1, x2⟩ := LC3.out V hSw; go_simp; all_goals (with_reducible rfl))
      try simp only [Act.put, List.setIfInBounds_toArray, List.set_cons_zero, List.set_cons_succ]
      refine wpAnyH_ready (rs := [7]) (by kernel_rfl) (by simp) ?_
      refine AllReadyH.cons (o := { dst := some 63, op := Op.call { callee := Callee.value (Operand.func 104), args := #[Operand.tmp 62], argTypes := #[3] }, type := 164, pos := "ref.go:239", after := #[{ on := 6, ground := Ground.data }], guard := none }) rfl (fun K hK => ?_) AllReadyH.nil
      go_simp
      refine (rnum qs _ (by omega) (by omega)).mono ?_
      rintro e u1 ⟨B1, m1, uc1, rfl, hw1, hu1⟩
      refine hK.out _ _ (bst (below_dr wr) hu1) (fun _ => ?_)
      clear hK K
      clear hS
      refine wpAnyH_imp (S' := fun V => Below u1.heap.size u1 V) (fun V h => bst (bst (below_dr wr) hu1) h) ?_
      have hS : Below u1.heap.size u1 u1 := Below.refl _ _
      try simp only [Act.put, List.setIfInBounds_toArray, List.set_cons_zero, List.set_cons_succ]
      have HU1 := Lib.hid hw1
      clear hw1
      have HV1 := Lib.hid (bst (below_dr wr) hu1)
      refine wpAnyH_take (i := 8) (oi := { dst := some 64, op := Op.convert 164 9 (Operand.tmp 63), type := 9, pos := "ref.go:239", after := #[{ on := 7, ground := Ground.data }], guard := none }) (v := ?v8b) rfl (by kernel_rfl) (by kernel_rfl) (by kernel_rfl) (fun _ _ _ h => h) (Or.inl ⟨by rfl, ?hy8b⟩) (by assumption) ?rest8b
      case hy8b => (intro V hSw; (try dsimp only at hSw); have kc := cv_ (HU1.out.below' hSw) uc1; rw [HT1.out] at kc; go_simp; all_goals (with_reducible rfl))
      try simp only [Act.put, List.setIfInBounds_toArray, List.set_cons_zero, List.set_cons_succ]
      refine wpAnyH_take (i := 9) (oi := { dst := some 65, op := Op.binOp BinOp.add 9 (Operand.tmp 56) (Operand.tmp 64) 9, type := 9, pos := "ref.go:239", after := #[{ on := 0, ground := Ground.data }, { on := 8, ground := Ground.data }], guard := none }) (v := .string r1) rfl (by kernel_rfl) (by kernel_rfl) (by kernel_rfl) (fun _ _ _ h => h) (Or.inl ⟨by rfl, ?hy9b⟩) (by assumption) ?rest9b
      case hy9b => (intro V hSw; (try dsimp only at hSw); have ke := HR1.out; have kz : ¬ 9223372036854775807 < q.size + t1.size := (by omega); go_simp; all_goals (with_reducible rfl))
      try simp only [Act.put, List.setIfInBounds_toArray, List.set_cons_zero, List.set_cons_succ]
      refine wpAnyH_ready (rs := [11]) (by kernel_rfl) (by simp) ?_
      refine AllReadyH.cons (o := { dst := some 67, op := Op.call { callee := Callee.value (Operand.func 104), args := #[Operand.tmp 66], argTypes := #[3] }, type := 164, pos := "ref.go:239", after := #[{ on := 10, ground := Ground.data }, { on := 7, ground := Ground.chain }], guard := none }) rfl (fun K hK => ?_) AllReadyH.nil
      go_simp
      refine (rnum 0 _ (by decide) (by decide)).mono ?_
      rintro e u2 ⟨B2, m2, uc2, rfl, hw2, hu2⟩
      refine hK.out _ _ hu2 (fun _ => ?_)
      clear hK K
      clear hS
      refine wpAnyH_imp (S' := fun V => Below u2.heap.size u2 V) (fun V h => bst hu2 h) ?_
      have hS : Below u2.heap.size u2 u2 := Below.refl _ _
      try simp only [Act.put, List.setIfInBounds_toArray, List.set_cons_zero, List.set_cons_succ]
      have HU2 := Lib.hid (show At u2 B2 m2 (fbs false) from hw2)
      clear hw2
      have HV2 := Lib.hid hu2
      refine wpAnyH_take (i := 12) (oi := { dst := some 68, op := Op.convert 164 9 (Operand.tmp 67), type := 9, pos := "ref.go:239", after := #[{ on := 11, ground := Ground.data }], guard := none }) (v := ?v12b) rfl (by kernel_rfl) (by kernel_rfl) (by kernel_rfl) (fun _ _ _ h => h) (Or.inl ⟨by rfl, ?hy12b⟩) (by assumption) ?rest12b
      case hy12b => (intro V hSw; (try dsimp only at hSw); have kc := cv_ (HU2.out.below' hSw) uc2; rw [HT2.out] at kc; go_simp; all_goals (with_reducible rfl))
      try simp only [Act.put, List.setIfInBounds_toArray, List.set_cons_zero, List.set_cons_succ]
      refine wpAnyH_take (i := 13) (oi := { dst := some 69, op := Op.binOp BinOp.add 9 (Operand.tmp 65) (Operand.tmp 68) 9, type := 9, pos := "ref.go:239", after := #[{ on := 9, ground := Ground.data }, { on := 12, ground := Ground.data }], guard := none }) (v := .string r2) rfl (by kernel_rfl) (by kernel_rfl) (by kernel_rfl) (fun _ _ _ h => h) (Or.inl ⟨by rfl, ?hy13b⟩) (by assumption) ?rest13b
      case hy13b => (intro V hSw; (try dsimp only at hSw); have ke := HR2.out; have kz : ¬ 9223372036854775807 < r1.size + t2.size := (by omega); go_simp; all_goals (with_reducible rfl))
      try simp only [Act.put, List.setIfInBounds_toArray, List.set_cons_zero, List.set_cons_succ]
      refine wpAnyH_ready (rs := [20]) (by kernel_rfl) (by simp) ?_
      refine AllReadyH.cons (o := { dst := some 76, op := Op.call { callee := Callee.value (Operand.func 105), args := #[Operand.tmp 75], argTypes := #[9] }, type := 164, pos := "ref.go:239", after := #[{ on := 19, ground := Ground.data }, { on := 11, ground := Ground.chain }], guard := none }) rfl (fun K hK => ?_) AllReadyH.nil
      go_simp
      refine (rstr sv' _ (by omega)).mono ?_
      rintro e u3 ⟨B3, m3, uc3, rfl, hw3, hu3⟩
      refine hK.out _ _ hu3 (fun _ => ?_)
      clear hK K
      clear hS
      refine wpAnyH_imp (S' := fun V => Below u3.heap.size u3 V) (fun V h => bst hu3 h) ?_
      have hS : Below u3.heap.size u3 u3 := Below.refl _ _
      try simp only [Act.put, List.setIfInBounds_toArray, List.set_cons_zero, List.set_cons_succ]
      have HU3 := Lib.hid hw3
      clear hw3
      have HV3 := Lib.hid hu3
      refine wpAnyH_take (i := 21) (oi := { dst := some 77, op := Op.convert 164 9 (Operand.tmp 76), type := 9, pos := "ref.go:239", after := #[{ on := 20, ground := Ground.data }], guard := none }) (v := ?v21b) rfl (by kernel_rfl) (by kernel_rfl) (by kernel_rfl) (fun _ _ _ h => h) (Or.inl ⟨by rfl, ?hy21b⟩) (by assumption) ?rest21b
      case hy21b => (intro V hSw; (try dsimp only at hSw); have kc := cv_ (HU3.out.below' hSw) uc3; rw [HT3.out] at kc; go_simp; all_goals (with_reducible rfl))
      try simp only [Act.put, List.setIfInBounds_toArray, List.set_cons_zero, List.set_cons_succ]
      refine wpAnyH_take (i := 22) (oi := { dst := some 78, op := Op.binOp BinOp.add 9 (Operand.tmp 69) (Operand.tmp 77) 9, type := 9, pos := "ref.go:239", after := #[{ on := 13, ground := Ground.data }, { on := 21, ground := Ground.data }], guard := none }) (v := .string r3) rfl (by kernel_rfl) (by kernel_rfl) (by kernel_rfl) (fun _ _ _ h => h) (Or.inl ⟨by rfl, ?hy22b⟩) (by assumption) ?rest22b
      case hy22b => (intro V hSw; (try dsimp only at hSw); have ke := HR3.out; have kz : ¬ 9223372036854775807 < r2.size + t3.size := (by omega); go_simp; all_goals (with_reducible rfl))
      try simp only [Act.put, List.setIfInBounds_toArray, List.set_cons_zero, List.set_cons_succ]
      refine wpAnyH_take (i := 23) (oi := { dst := some 4, op := Op.assign (Operand.tmp 78), type := 9, pos := "ref.go:239", after := #[{ on := 22, ground := Ground.data }, { on := 20, ground := Ground.chain }, { on := 0, ground := Ground.phase }, { on := 1, ground := Ground.phase }, { on := 2, ground := Ground.phase }, { on := 3, ground := Ground.phase }, { on := 4, ground := Ground.phase }, { on := 5, ground := Ground.phase }, { on := 6, ground := Ground.phase }, { on := 7, ground := Ground.phase }, { on := 8, ground := Ground.phase }, { on := 9, ground := Ground.phase }, { on := 10, ground := Ground.phase }, { on := 11, ground := Ground.phase }, { on := 12, ground := Ground.phase }, { on := 13, ground := Ground.phase }, { on := 14, ground := Ground.phase }, { on := 15, ground := Ground.phase }, { on := 16, ground := Ground.phase }, { on := 17, ground := Ground.phase }, { on := 18, ground := Ground.phase }, { on := 19, ground := Ground.phase }, { on := 20, ground := Ground.phase }, { on := 21, ground := Ground.phase }, { on := 22, ground := Ground.phase }], guard := none }) (v := ?v23b) rfl (by kernel_rfl) (by kernel_rfl) (by kernel_rfl) (fun _ _ _ h => h) (Or.inl ⟨by rfl, ?hy23b⟩) (by assumption) ?rest23b
      case hy23b => (intro V hSw; (try dsimp only at hSw); go_simp; all_goals (with_reducible rfl))
      try simp only [Act.put, List.setIfInBounds_toArray, List.set_cons_zero, List.set_cons_succ]
      refine wpAnyH_done (by kernel_rfl) ?_ _
      have HZ := Lib.hid (bst HB.out (bst (bst HV1.out HV2.out) HV3.out))
      clear hS hu1 HV1 HU1 hu2 HV2 HU2 hu3 HV3 HU3
      (try go_wp2_with fail)
      go_roundw
      case rel => exact ⟨j + 1, r3, by omega, rfl, by go_num, hrz, HSR.out, HZ⟩
      case measure => simp [intOf]; omega
    · skip
      go_wp2_with fail
      refine wp_region_held_drew (S := fun V => Below (wr).heap.size (wr) V) hmix (below_dr _) (fun hS => ?_)
      simp only [List.size_toArray, List.length_cons, List.length_nil, Nat.reduceAdd, Array.replicate_succ, Array.replicate_zero]
      refine wpAnyH_take (i := 0) (oi := { dst := some 56, op := Op.move (Operand.tmp 4), type := 9, pos := "ref.go:239", after := #[], guard := none }) (v := ?v0c) rfl (by kernel_rfl) (by kernel_rfl) (by kernel_rfl) (fun _ _ _ h => h) (Or.inl ⟨by rfl, ?hy0c⟩) (by assumption) ?rest0c
      case hy0c => (intro V hSw; (try dsimp only at hSw); go_simp; all_goals (with_reducible rfl))
      try simp only [Act.put, List.setIfInBounds_toArray, List.set_cons_zero, List.set_cons_succ]
      refine wpAnyH_take (i := 1) (oi := { dst := some 57, op := Op.fieldAddr 38 (Operand.tmp 1) 6, type := 0, pos := "ref.go:239", after := #[], guard := none }) (v := ?v1c) rfl (by kernel_rfl) (by kernel_rfl) (by kernel_rfl) (fun _ _ _ h => h) (Or.inl ⟨by rfl, ?hy1c⟩) (by assumption) ?rest1c
      case hy1c => (intro V hSw; (try dsimp only at hSw); go_simp; all_goals (with_reducible rfl))
      try simp only [Act.put, List.setIfInBounds_toArray, List.set_cons_zero, List.set_cons_succ]
      refine wpAnyH_take (i := 2) (oi := { dst := some 58, op := Op.load 36 (Operand.tmp 57), type := 36, pos := "ref.go:239", after := #[{ on := 1, ground := Ground.data }], guard := none }) (v := ?v2c) rfl (by kernel_rfl) (by kernel_rfl) (by kernel_rfl) (fun _ _ _ h => h) (Or.inl ⟨by rfl, ?hy2c⟩) (by assumption) ?rest2c
      case hy2c => (intro V hSw; (try dsimp only at hSw); obtain ⟨c8, x0, x1, x2⟩ := LC3.out V hSw; go_simp; all_goals (with_reducible rfl))
      try simp only [Act.put, List.setIfInBounds_toArray, List.set_cons_zero, List.set_cons_succ]
      refine wpAnyH_take (i := 3) (oi := { dst := some 59, op := Op.move (Operand.tmp 5), type := 3, pos := "ref.go:239", after := #[], guard := none }) (v := ?v3c) rfl (by kernel_rfl) (by kernel_rfl) (by kernel_rfl) (fun _ _ _ h => h) (Or.inl ⟨by rfl, ?hy3c⟩) (by assumption) ?rest3c
      case hy3c => (intro V hSw; (try dsimp only at hSw); go_simp; all_goals (with_reducible rfl))
      try simp only [Act.put, List.setIfInBounds_toArray, List.set_cons_zero, List.set_cons_succ]
      refine wpAnyH_take (i := 4) (oi := { dst := some 60, op := Op.indexAddr 36 (Operand.tmp 58) (Operand.tmp 59), type := 0, pos := "ref.go:239", after := #[{ on := 2, ground := Ground.data }, { on := 3, ground := Ground.data }], guard := none }) (v := ?v4c) rfl (by kernel_rfl) (by kernel_rfl) (by kernel_rfl) (fun _ _ _ h => h) (Or.inl ⟨by rfl, ?hy4c⟩) (by assumption) ?rest4c
      case hy4c => (intro V hSw; (try dsimp only at hSw); go_simp; all_goals (with_reducible rfl))
      try simp only [Act.put, List.setIfInBounds_toArray, List.set_cons_zero, List.set_cons_succ]
      refine wpAnyH_take (i := 5) (oi := { dst := some 61, op := Op.fieldAddr 24 (Operand.tmp 60) 0, type := 0, pos := "ref.go:239", after := #[{ on := 4, ground := Ground.data }], guard := none }) (v := ?v5c) rfl (by kernel_rfl) (by kernel_rfl) (by kernel_rfl) (fun _ _ _ h => h) (Or.inl ⟨by rfl, ?hy5c⟩) (by assumption) ?rest5c
      case hy5c => (intro V hSw; (try dsimp only at hSw); go_simp; all_goals (with_reducible rfl))
      try simp only [Act.put, List.setIfInBounds_toArray, List.set_cons_zero, List.set_cons_succ]
      refine wpAnyH_take (i := 6) (oi := { dst := some 62, op := Op.load 3 (Operand.tmp 61), type := 3, pos := "ref.go:239", after := #[{ on := 5, ground := Ground.data }], guard := none }) (v := ?v6c) rfl (by kernel_rfl) (by kernel_rfl) (by kernel_rfl) (fun _ _ _ h => h) (Or.inl ⟨by rfl, ?hy6c⟩) (by assumption) ?rest6c
      case hy6c => (intro V hSw; (try dsimp only at hSw); obtain ⟨c8, x0, x1, x2⟩ := LC3.out V hSw; go_simp; all_goals (with_reducible rfl))
      try simp only [Act.put, List.setIfInBounds_toArray, List.set_cons_zero, List.set_cons_succ]
      refine wpAnyH_take (i := 10) (oi := { dst := some 66, op := Op.move (Operand.tmp 6), type := 3, pos := "ref.go:239", after := #[], guard := none }) (v := ?v10c) rfl (by kernel_rfl) (by kernel_rfl) (by kernel_rfl) (fun _ _ _ h => h) (Or.inl ⟨by rfl, ?hy10c⟩) (by assumption) ?rest10c
      case hy10c => (intro V hSw; (try dsimp only at hSw); go_simp; all_goals (with_reducible rfl))
      try simp only [Act.put, List.setIfInBounds_toArray, List.set_cons_zero, List.set_cons_succ]
      refine wpAnyH_take (i := 14) (oi := { dst := some 70, op := Op.fieldAddr 38 (Operand.tmp 1) 6, type := 0, pos := "ref.go:239", after := #[], guard := none }) (v := ?v14c) rfl (by kernel_rfl) (by kernel_rfl) (by kernel_rfl) (fun _ _ _ h => h) (Or.inl ⟨by rfl, ?hy14c⟩) (by assumption) ?rest14c
      case hy14c => (intro V hSw; (try dsimp only at hSw); go_simp; all_goals (with_reducible rfl))
      try simp only [Act.put, List.setIfInBounds_toArray, List.set_cons_zero, List.set_cons_succ]
      refine wpAnyH_take (i := 15) (oi := { dst := some 71, op := Op.load 36 (Operand.tmp 70), type := 36, pos := "ref.go:239", after := #[{ on := 14, ground := Ground.data }], guard := none }) (v := ?v15c) rfl (by kernel_rfl) (by kernel_rfl) (by kernel_rfl) (fun _ _ _ h => h) (Or.inl ⟨by rfl, ?hy15c⟩) (by assumption) ?rest15c
      case hy15c => (intro V hSw; (try dsimp only at hSw); obtain ⟨c8, x0, x1, x2⟩ := LC3.out V hSw; go_simp; all_goals (with_reducible rfl))
      try simp only [Act.put, List.setIfInBounds_toArray, List.set_cons_zero, List.set_cons_succ]
      refine wpAnyH_take (i := 16) (oi := { dst := some 72, op := Op.move (Operand.tmp 5), type := 3, pos := "ref.go:239", after := #[], guard := none }) (v := ?v16c) rfl (by kernel_rfl) (by kernel_rfl) (by kernel_rfl) (fun _ _ _ h => h) (Or.inl ⟨by rfl, ?hy16c⟩) (by assumption) ?rest16c
      case hy16c => (intro V hSw; (try dsimp only at hSw); go_simp; all_goals (with_reducible rfl))
      try simp only [Act.put, List.setIfInBounds_toArray, List.set_cons_zero, List.set_cons_succ]
      refine wpAnyH_take (i := 17) (oi := { dst := some 73, op := Op.indexAddr 36 (Operand.tmp 71) (Operand.tmp 72), type := 0, pos := "ref.go:239", after := #[{ on := 15, ground := Ground.data }, { on := 16, ground := Ground.data }], guard := none }) (v := ?v17c) rfl (by kernel_rfl) (by kernel_rfl) (by kernel_rfl) (fun _ _ _ h => h) (Or.inl ⟨by rfl, ?hy17c⟩) (by assumption) ?rest17c
      case hy17c => (intro V hSw; (try dsimp only at hSw); go_simp; all_goals (with_reducible rfl))
      try simp only [Act.put, List.setIfInBounds_toArray, List.set_cons_zero, List.set_cons_succ]
      refine wpAnyH_take (i := 18) (oi := { dst := some 74, op := Op.fieldAddr 24 (Operand.tmp 73) 1, type := 0, pos := "ref.go:239", after := #[{ on := 17, ground := Ground.data }], guard := none }) (v := ?v18c) rfl (by kernel_rfl) (by kernel_rfl) (by kernel_rfl) (fun _ _ _ h => h) (Or.inl ⟨by rfl, ?hy18c⟩) (by assumption) ?rest18c
      case hy18c => (intro V hSw; (try dsimp only at hSw); go_simp; all_goals (with_reducible rfl))
      try simp only [Act.put, List.setIfInBounds_toArray, List.set_cons_zero, List.set_cons_succ]
      refine wpAnyH_take (i := 19) (oi := { dst := some 75, op := Op.load 9 (Operand.tmp 74), type := 9, pos := "ref.go:239", after := #[{ on := 18, ground := Ground.data }], guard := none }) (v := ?v19c) rfl (by kernel_rfl) (by kernel_rfl) (by kernel_rfl) (fun _ _ _ h => h) (Or.inl ⟨by rfl, ?hy19c⟩) (by assumption) ?rest19c
      case hy19c => (intro V hSw; (try dsimp only at hSw); obtain ⟨c8, x0, x1, x2⟩ := LC3.out V hSw; go_simp; all_goals (with_reducible rfl))
      try simp only [Act.put, List.setIfInBounds_toArray, List.set_cons_zero, List.set_cons_succ]
      refine wpAnyH_ready (rs := [7]) (by kernel_rfl) (by simp) ?_
      refine AllReadyH.cons (o := { dst := some 63, op := Op.call { callee := Callee.value (Operand.func 104), args := #[Operand.tmp 62], argTypes := #[3] }, type := 164, pos := "ref.go:239", after := #[{ on := 6, ground := Ground.data }], guard := none }) rfl (fun K hK => ?_) AllReadyH.nil
      go_simp
      refine (rnum qs _ (by omega) (by omega)).mono ?_
      rintro e u1 ⟨B1, m1, uc1, rfl, hw1, hu1⟩
      refine hK.out _ _ (bst (below_dr wr) hu1) (fun _ => ?_)
      clear hK K
      clear hS
      refine wpAnyH_imp (S' := fun V => Below u1.heap.size u1 V) (fun V h => bst (bst (below_dr wr) hu1) h) ?_
      have hS : Below u1.heap.size u1 u1 := Below.refl _ _
      try simp only [Act.put, List.setIfInBounds_toArray, List.set_cons_zero, List.set_cons_succ]
      have HU1 := Lib.hid hw1
      clear hw1
      have HV1 := Lib.hid (bst (below_dr wr) hu1)
      refine wpAnyH_take (i := 8) (oi := { dst := some 64, op := Op.convert 164 9 (Operand.tmp 63), type := 9, pos := "ref.go:239", after := #[{ on := 7, ground := Ground.data }], guard := none }) (v := ?v8c) rfl (by kernel_rfl) (by kernel_rfl) (by kernel_rfl) (fun _ _ _ h => h) (Or.inl ⟨by rfl, ?hy8c⟩) (by assumption) ?rest8c
      case hy8c => (intro V hSw; (try dsimp only at hSw); have kc := cv_ (HU1.out.below' hSw) uc1; rw [HT1.out] at kc; go_simp; all_goals (with_reducible rfl))
      try simp only [Act.put, List.setIfInBounds_toArray, List.set_cons_zero, List.set_cons_succ]
      refine wpAnyH_take (i := 9) (oi := { dst := some 65, op := Op.binOp BinOp.add 9 (Operand.tmp 56) (Operand.tmp 64) 9, type := 9, pos := "ref.go:239", after := #[{ on := 0, ground := Ground.data }, { on := 8, ground := Ground.data }], guard := none }) (v := .string r1) rfl (by kernel_rfl) (by kernel_rfl) (by kernel_rfl) (fun _ _ _ h => h) (Or.inl ⟨by rfl, ?hy9c⟩) (by assumption) ?rest9c
      case hy9c => (intro V hSw; (try dsimp only at hSw); have ke := HR1.out; have kz : ¬ 9223372036854775807 < q.size + t1.size := (by omega); go_simp; all_goals (with_reducible rfl))
      try simp only [Act.put, List.setIfInBounds_toArray, List.set_cons_zero, List.set_cons_succ]
      refine wpAnyH_ready (rs := [11]) (by kernel_rfl) (by simp) ?_
      refine AllReadyH.cons (o := { dst := some 67, op := Op.call { callee := Callee.value (Operand.func 104), args := #[Operand.tmp 66], argTypes := #[3] }, type := 164, pos := "ref.go:239", after := #[{ on := 10, ground := Ground.data }, { on := 7, ground := Ground.chain }], guard := none }) rfl (fun K hK => ?_) AllReadyH.nil
      go_simp
      refine (rnum 1 _ (by decide) (by decide)).mono ?_
      rintro e u2 ⟨B2, m2, uc2, rfl, hw2, hu2⟩
      refine hK.out _ _ hu2 (fun _ => ?_)
      clear hK K
      clear hS
      refine wpAnyH_imp (S' := fun V => Below u2.heap.size u2 V) (fun V h => bst hu2 h) ?_
      have hS : Below u2.heap.size u2 u2 := Below.refl _ _
      try simp only [Act.put, List.setIfInBounds_toArray, List.set_cons_zero, List.set_cons_succ]
      have HU2 := Lib.hid (show At u2 B2 m2 (fbs true) from hw2)
      clear hw2
      have HV2 := Lib.hid hu2
      refine wpAnyH_take (i := 12) (oi := { dst := some 68, op := Op.convert 164 9 (Operand.tmp 67), type := 9, pos := "ref.go:239", after := #[{ on := 11, ground := Ground.data }], guard := none }) (v := ?v12c) rfl (by kernel_rfl) (by kernel_rfl) (by kernel_rfl) (fun _ _ _ h => h) (Or.inl ⟨by rfl, ?hy12c⟩) (by assumption) ?rest12c
      case hy12c => (intro V hSw; (try dsimp only at hSw); have kc := cv_ (HU2.out.below' hSw) uc2; rw [HT2.out] at kc; go_simp; all_goals (with_reducible rfl))
      try simp only [Act.put, List.setIfInBounds_toArray, List.set_cons_zero, List.set_cons_succ]
      refine wpAnyH_take (i := 13) (oi := { dst := some 69, op := Op.binOp BinOp.add 9 (Operand.tmp 65) (Operand.tmp 68) 9, type := 9, pos := "ref.go:239", after := #[{ on := 9, ground := Ground.data }, { on := 12, ground := Ground.data }], guard := none }) (v := .string r2) rfl (by kernel_rfl) (by kernel_rfl) (by kernel_rfl) (fun _ _ _ h => h) (Or.inl ⟨by rfl, ?hy13c⟩) (by assumption) ?rest13c
      case hy13c => (intro V hSw; (try dsimp only at hSw); have ke := HR2.out; have kz : ¬ 9223372036854775807 < r1.size + t2.size := (by omega); go_simp; all_goals (with_reducible rfl))
      try simp only [Act.put, List.setIfInBounds_toArray, List.set_cons_zero, List.set_cons_succ]
      refine wpAnyH_ready (rs := [20]) (by kernel_rfl) (by simp) ?_
      refine AllReadyH.cons (o := { dst := some 76, op := Op.call { callee := Callee.value (Operand.func 105), args := #[Operand.tmp 75], argTypes := #[9] }, type := 164, pos := "ref.go:239", after := #[{ on := 19, ground := Ground.data }, { on := 11, ground := Ground.chain }], guard := none }) rfl (fun K hK => ?_) AllReadyH.nil
      go_simp
      refine (rstr sv' _ (by omega)).mono ?_
      rintro e u3 ⟨B3, m3, uc3, rfl, hw3, hu3⟩
      refine hK.out _ _ hu3 (fun _ => ?_)
      clear hK K
      clear hS
      refine wpAnyH_imp (S' := fun V => Below u3.heap.size u3 V) (fun V h => bst hu3 h) ?_
      have hS : Below u3.heap.size u3 u3 := Below.refl _ _
      try simp only [Act.put, List.setIfInBounds_toArray, List.set_cons_zero, List.set_cons_succ]
      have HU3 := Lib.hid hw3
      clear hw3
      have HV3 := Lib.hid hu3
      refine wpAnyH_take (i := 21) (oi := { dst := some 77, op := Op.convert 164 9 (Operand.tmp 76), type := 9, pos := "ref.go:239", after := #[{ on := 20, ground := Ground.data }], guard := none }) (v := ?v21c) rfl (by kernel_rfl) (by kernel_rfl) (by kernel_rfl) (fun _ _ _ h => h) (Or.inl ⟨by rfl, ?hy21c⟩) (by assumption) ?rest21c
      case hy21c => (intro V hSw; (try dsimp only at hSw); have kc := cv_ (HU3.out.below' hSw) uc3; rw [HT3.out] at kc; go_simp; all_goals (with_reducible rfl))
      try simp only [Act.put, List.setIfInBounds_toArray, List.set_cons_zero, List.set_cons_succ]
      refine wpAnyH_take (i := 22) (oi := { dst := some 78, op := Op.binOp BinOp.add 9 (Operand.tmp 69) (Operand.tmp 77) 9, type := 9, pos := "ref.go:239", after := #[{ on := 13, ground := Ground.data }, { on := 21, ground := Ground.data }], guard := none }) (v := .string r3) rfl (by kernel_rfl) (by kernel_rfl) (by kernel_rfl) (fun _ _ _ h => h) (Or.inl ⟨by rfl, ?hy22c⟩) (by assumption) ?rest22c
      case hy22c => (intro V hSw; (try dsimp only at hSw); have ke := HR3.out; have kz : ¬ 9223372036854775807 < r2.size + t3.size := (by omega); go_simp; all_goals (with_reducible rfl))
      try simp only [Act.put, List.setIfInBounds_toArray, List.set_cons_zero, List.set_cons_succ]
      refine wpAnyH_take (i := 23) (oi := { dst := some 4, op := Op.assign (Operand.tmp 78), type := 9, pos := "ref.go:239", after := #[{ on := 22, ground := Ground.data }, { on := 20, ground := Ground.chain }, { on := 0, ground := Ground.phase }, { on := 1, ground := Ground.phase }, { on := 2, ground := Ground.phase }, { on := 3, ground := Ground.phase }, { on := 4, ground := Ground.phase }, { on := 5, ground := Ground.phase }, { on := 6, ground := Ground.phase }, { on := 7, ground := Ground.phase }, { on := 8, ground := Ground.phase }, { on := 9, ground := Ground.phase }, { on := 10, ground := Ground.phase }, { on := 11, ground := Ground.phase }, { on := 12, ground := Ground.phase }, { on := 13, ground := Ground.phase }, { on := 14, ground := Ground.phase }, { on := 15, ground := Ground.phase }, { on := 16, ground := Ground.phase }, { on := 17, ground := Ground.phase }, { on := 18, ground := Ground.phase }, { on := 19, ground := Ground.phase }, { on := 20, ground := Ground.phase }, { on := 21, ground := Ground.phase }, { on := 22, ground := Ground.phase }], guard := none }) (v := ?v23c) rfl (by kernel_rfl) (by kernel_rfl) (by kernel_rfl) (fun _ _ _ h => h) (Or.inl ⟨by rfl, ?hy23c⟩) (by assumption) ?rest23c
      case hy23c => (intro V hSw; (try dsimp only at hSw); go_simp; all_goals (with_reducible rfl))
      try simp only [Act.put, List.setIfInBounds_toArray, List.set_cons_zero, List.set_cons_succ]
      refine wpAnyH_done (by kernel_rfl) ?_ _
      have HZ := Lib.hid (bst HB.out (bst (bst HV1.out HV2.out) HV3.out))
      clear hS hu1 HV1 HU1 hu2 HV2 HU2 hu3 HV3 HU3
      (try go_wp2_with fail)
      go_roundw
      case rel => exact ⟨j + 1, r3, by omega, rfl, by go_num, hrz, HSR.out, HZ⟩
      case measure => simp [intOf]; omega
end Go.Proofs.YtgccichmdddbpaaGreatDoor
set_option linter.unusedVariables false
set_option linter.unusedSimpArgs false
set_option maxRecDepth 100000
namespace Go.Proofs.YtgccichmdddbpaaGreatDoor
open Go.RowKit

/-- The document's taker: what is left (in memory that is newer than its block, or older and nobody's), or that it is bad. -/
def dkA (g : Nat) (s : Rst) : As where
  p V F := ∃ (A : Option Addr) (n c : Nat) (l : List UInt8), Blk V g 177 #[.slice A n c, .bool s.isNone] ∧ At V A n l ∧ n ≤ c ∧ c ≤ 9223372036854775807 ∧ l.length ≤ 225000000000000 ∧ (∀ b, s = some b → b = l) ∧ (∀ a, A = some a → a.block ≠ g) ∧ ∀ k, F k ↔ (k = g ∨ ∃ a, A = some a ∧ 0 < n ∧ a.block = k)
  on {V V' F} h _ hk := by
    obtain ⟨A, n, c, l, h1, h2, h3, h4, h5, h6, h7, h8⟩ := h
    refine ⟨A, n, c, l, (hk _ ((h8 _).2 (.inl rfl))).trans h1, ⟨h2.1, fun hn => ?_⟩, h3, h4, h5, h6, h7, h8⟩
    obtain ⟨b, o, e, hc⟩ := h2.2 hn
    refine ⟨b, o, e, fun i hi => ?_⟩
    have hb := hk b ((h8 b).2 (.inr ⟨_, e, hn, rfl⟩))
    have := hc i hi
    unfold World.cell? at this ⊢
    simp only at this ⊢
    rw [hb]
    exact this
  lt {V F} h k e := by
    obtain ⟨A, n, c, l, h1, h2, h3, h4, h5, h6, h7, h8⟩ := h
    rcases (h8 k).1 e with rfl | ⟨a, ha, hn, rfl⟩
    · exact h1.lt
    · obtain ⟨b, o, e2, hc⟩ := h2.2 hn
      rw [ha] at e2
      cases e2
      exact World.block_lt_of_cell? V _ (hc 0 (by have := h2.1; omega))
theorem dk_put {V w1 : World} {g m c' : Nat} {A' : Option Addr} {rest : List UInt8} {s : Rst} {F : Nat → Prop} (h : (dkA g s).p V F) (hb : Below V.heap.size V w1)
    (ho : Own w1 V.heap.size (.slice A' m c') rest) (hm : m ≤ c') (hc : c' ≤ 9223372036854775807) (hl : rest.length ≤ 225000000000000)
    (hn : s ≠ none) : ATurn (dkA g (some rest)) F V (w1.setCell ⟨g, 0, none⟩ (.slice A' m c')) := by
  obtain ⟨A, n, c, l, h1, h2, h3, h4, h5, h6, h7, h8⟩ := h
  have hgl := h1.lt
  have hB : Blk (w1.setCell ⟨g, 0, none⟩ (.slice A' m c')) g 177 #[.slice A' m c', .bool (some rest).isNone] := by
    have := (h1.below hb h1.lt).set_ 0 (.slice A' m c')
    cases s with
    | none => exact absurd rfl hn
    | some b => exact this
  have hsz : (w1.setCell ⟨g, 0, none⟩ (.slice A' m c')).heap.size = w1.heap.size := by simp [World.setCell]
  have hgr : Grow F V (w1.setCell ⟨g, 0, none⟩ (.slice A' m c')) := (Grow.of_below (F := F) hb).set (p := ⟨g, 0, none⟩) (.inl ((h8 g).2 (.inl rfl))) _
  have hge : ∀ a, A' = some a → 0 < m → V.heap.size ≤ a.block ∧ a.block < w1.heap.size := by
    intro a ha hm0
    obtain ⟨q, e2, e3, e4⟩ := ho.some_ hm0
    rw [ha] at e2
    cases e2
    exact ⟨e3, e4⟩
  have hge0 : ∀ a, A' = some a → V.heap.size ≤ a.block := by
    intro a ha
    rcases ho.2 with ⟨e, _⟩ | ⟨q, cap, cur, e, hq, _⟩
    · injection e with e _ _
      rw [ha] at e
      cases e
    · injection e with e _ _
      rw [ha] at e
      cases e
      exact hq
  have hat : At (w1.setCell ⟨g, 0, none⟩ (.slice A' m c')) A' m rest := by
    have e0 := ho.at_
    refine ⟨e0.1, fun hn => ?_⟩
    obtain ⟨b, o, e, hc⟩ := e0.2 hn
    have hb2 := hge _ e hn
    simp only at hb2
    refine ⟨b, o, e, fun j hj => ?_⟩
    have := hc j hj
    have e5 : (w1.setCell ⟨g, 0, none⟩ (.slice A' m c')).heap[b]? = w1.heap[b]? := by
      simp only [World.setCell, Array.getElem?_modify]
      rw [if_neg (by omega)]
    unfold World.cell? at this ⊢
    simp only at this ⊢
    rw [e5]
    exact this
  refine ⟨fun k => (k = g ∨ ∃ a, A' = some a ∧ 0 < m ∧ a.block = k), ⟨A', m, c', rest, hB, hat, hm, hc, hl, fun b hb => by simpa using hb.symm, fun a ha => by have := hge0 a ha; omega, fun k => Iff.rfl⟩, hgr, fun k e => ?_⟩
  rcases e with e | ⟨a, ha, hm0, e⟩
  · exact .inl (e ▸ (h8 g).2 (.inl rfl))
  · have := hge a ha hm0
    exact .inr (by omega)
theorem dk_set {V : World} {g : Nat} {s s' : Rst} {F : Nat → Prop} (h : (dkA g s).p V F) (hs : ∀ b, s' = some b → s = some b) : ATurn (dkA g s') F V (V.setCell ⟨g, 1, none⟩ (.bool s'.isNone)) := by
  obtain ⟨A, n, c, l, h1, h2, h3, h4, h5, h6, h7, h8⟩ := h
  refine ⟨F, ⟨A, n, c, l, h1.set_ 1 (.bool s'.isNone), ⟨h2.1, fun hn => ?_⟩, h3, h4, h5, fun b hb => h6 b (hs b hb), h7, h8⟩, (Grow.refl F V).set (p := ⟨g, 1, none⟩) (.inl ((h8 g).2 (.inl rfl))) _, fun k e => .inl e⟩
  obtain ⟨b, o, e, hc⟩ := h2.2 hn
  refine ⟨b, o, e, fun j hj => ?_⟩
  have := hc j hj
  have hne := h7 _ e
  unfold World.cell? at this ⊢
  simp only [World.setCell, Array.getElem?_modify] at this ⊢
  rw [if_neg (fun e => hne e.symm)]
  exact this
theorem dk_below {V V1 : World} {g : Nat} {s : Rst} {F : Nat → Prop} (h : (dkA g s).p V F) (hb : Below V.heap.size V V1) : (dkA g s).p V1 F :=
  (dkA g s).on h hb.size fun k e => hb.block k ((dkA g s).lt h k e)
theorem dk_bad {V w1 : World} {g : Nat} {s : Rst} {F : Nat → Prop} (h : (dkA g s).p V F) (hb : Below V.heap.size V w1) : ATurn (dkA g none) F V (w1.setCell ⟨g, 1, none⟩ (.bool true)) :=
  (dk_set (s' := none) (dk_below h hb) (fun b hb => nomatch hb)).pre hb ((dkA g s).lt h)
set_option maxHeartbeats 1000000 in
theorem dkNum (g : Nat) (s : Rst) (V : World) (F : Nat → Prop) (hP : (dkA g s).p V F) :
    Calls Tryz.prog 157 #[pt g] V fun e w' => e = .returned (.int .i64 ((pn s).1 : Int)) ∧ ATurn (dkA g (pn s).2) F V w' := by
  have HP := Lib.hid hP
  obtain ⟨A, n, c, l, d1, d2, d3, d4, d5, d6, d7, d8⟩ := hP
  have g0 := d1.cell 0
  simp at g0
  have HB := Lib.hid d1
  rcases htk : tk l with ⟨v, rest, x⟩
  have hrl : rest.length ≤ 225000000000000 := by have := tk_rest l; rw [htk] at this; simp only at this; omega
  have HQ := Lib.hid (refTakeNum_any A n c l rest v x V d2 d3 d4 (by have := d2.1; omega) htk)
  cases s with
  | none =>
    have HZ := Lib.hid (fun (w1 : World) (hb : Below V.heap.size V w1) => dk_bad HP.out hb)
    clear d1 d2 d3 d4 d5 d6 d7 d8 htk hrl
    by_cases hx : x = 0
    · subst hx
      go_enter Tryz.func157, Tryz.ntmps157
      go_wp2_with (go_at_call 196; refine HQ.out.mono ?_; rintro e w1 ⟨Ar, mr, cr, rfl, hor, hr1, hr2, hb1⟩
                   have hB1 := HB.out.below hb1 HB.out.lt
                   have y0 := hB1.cell 0
                   have y1 := hB1.cell 1
                   have y2 := hB1.frozen 0
                   have y3 := hB1.frozen 1
                   simp at y0 y1)
      go_ret
      exact ⟨rfl, HZ.out _ hb1⟩
    · have hx0 : ((x : Int) == 0) = false := by simpa using hx
      go_enter Tryz.func157, Tryz.ntmps157
      go_wp2_with (go_at_call 196; refine HQ.out.mono ?_; rintro e w1 ⟨Ar, mr, cr, rfl, hor, hr1, hr2, hb1⟩
                   have hB1 := HB.out.below hb1 HB.out.lt
                   have y0 := hB1.cell 0
                   have y1 := hB1.cell 1
                   have y2 := hB1.frozen 0
                   have y3 := hB1.frozen 1
                   simp at y0 y1)
      go_ret
      exact ⟨rfl, HZ.out _ hb1⟩
  | some l2 =>
    obtain rfl := d6 _ rfl
    by_cases hx : x = 0
    · subst hx
      have hp : pn (some l2) = (v, some rest) := by unfold pn; simp only [htk]; rfl
      rw [hp]
      have HZ := Lib.hid (fun (w1 : World) (Ar : Option Addr) (mr cr : Nat) (hb : Below V.heap.size V w1) (ho : Own w1 V.heap.size (.slice Ar mr cr) rest) (h1 : mr ≤ cr) (h2 : cr ≤ 9223372036854775807) => dk_put HP.out hb ho h1 h2 hrl (by simp))
      clear d1 d2 d3 d4 d5 d6 d7 d8 htk hrl hp
      go_enter Tryz.func157, Tryz.ntmps157
      go_wp2_with (go_at_call 196; refine HQ.out.mono ?_; rintro e w1 ⟨Ar, mr, cr, rfl, hor, hr1, hr2, hb1⟩
                   have hB1 := HB.out.below hb1 HB.out.lt
                   have y0 := hB1.cell 0
                   have y1 := hB1.cell 1
                   have y2 := hB1.frozen 0
                   have y3 := hB1.frozen 1
                   simp at y0 y1)
      go_ret
      exact ⟨rfl, HZ.out _ _ _ _ hb1 hor hr1 hr2⟩
    · have hx0 : ((x : Int) == 0) = false := by simpa using hx
      have hp : pn (some l2) = (0, none) := by unfold pn; simp only [htk]; rw [if_neg hx]
      rw [hp]
      have HZ := Lib.hid (fun (w1 : World) (hb : Below V.heap.size V w1) => dk_bad HP.out hb)
      clear d1 d2 d3 d4 d5 d6 d7 d8 htk hrl hp
      go_enter Tryz.func157, Tryz.ntmps157
      go_wp2_with (go_at_call 196; refine HQ.out.mono ?_; rintro e w1 ⟨Ar, mr, cr, rfl, hor, hr1, hr2, hb1⟩
                   have hB1 := HB.out.below hb1 HB.out.lt
                   have y0 := hB1.cell 0
                   have y1 := hB1.cell 1
                   have y2 := hB1.frozen 0
                   have y3 := hB1.frozen 1
                   simp at y0 y1)
      go_ret
      exact ⟨rfl, HZ.out _ hb1⟩
set_option maxHeartbeats 1000000 in
theorem dkStr (g : Nat) (s : Rst) (V : World) (F : Nat → Prop) (hP : (dkA g s).p V F) :
    Calls Tryz.prog 115 #[pt g] V fun e w' => e = .returned (.string (ps s).1) ∧ ATurn (dkA g (ps s).2) F V w' := by
  have HP := Lib.hid hP
  obtain ⟨A, n, c, l, d1, d2, d3, d4, d5, d6, d7, d8⟩ := hP
  have g0 := d1.cell 0
  simp at g0
  have HB := Lib.hid d1
  rcases htk : tsx l 64 with ⟨t, rest, x⟩
  have hrl : rest.length ≤ 225000000000000 := by have := tsx_rest l 64; rw [htk] at this; simp only at this; omega
  have HQ := Lib.hid (refTakeStr_any A n c 64 l t rest x V d2 d3 d4 (by have := d2.1; omega) htk)
  cases s with
  | none =>
    have HZ := Lib.hid (fun (w1 : World) (hb : Below V.heap.size V w1) => dk_bad HP.out hb)
    clear d1 d2 d3 d4 d5 d6 d7 d8 htk hrl
    by_cases hx : x = 0
    · subst hx
      go_enter Tryz.func115, Tryz.ntmps115
      go_wp2_with (go_at_call 167; refine HQ.out.mono ?_; rintro e w1 ⟨Ar, mr, cr, rfl, hor, hr1, hr2, hb1⟩
                   have hB1 := HB.out.below hb1 HB.out.lt
                   have y0 := hB1.cell 0
                   have y1 := hB1.cell 1
                   have y2 := hB1.frozen 0
                   have y3 := hB1.frozen 1
                   simp at y0 y1)
      go_ret
      exact ⟨rfl, HZ.out _ hb1⟩
    · have hx0 : ((x : Int) == 0) = false := by simpa using hx
      go_enter Tryz.func115, Tryz.ntmps115
      go_wp2_with (go_at_call 167; refine HQ.out.mono ?_; rintro e w1 ⟨Ar, mr, cr, rfl, hor, hr1, hr2, hb1⟩
                   have hB1 := HB.out.below hb1 HB.out.lt
                   have y0 := hB1.cell 0
                   have y1 := hB1.cell 1
                   have y2 := hB1.frozen 0
                   have y3 := hB1.frozen 1
                   simp at y0 y1)
      go_ret
      exact ⟨rfl, HZ.out _ hb1⟩
  | some l2 =>
    obtain rfl := d6 _ rfl
    by_cases hx : x = 0
    · subst hx
      have hp : ps (some l2) = (⟨t.toArray⟩, some rest) := by unfold ps; simp only [htk]; rfl
      rw [hp]
      have HZ := Lib.hid (fun (w1 : World) (Ar : Option Addr) (mr cr : Nat) (hb : Below V.heap.size V w1) (ho : Own w1 V.heap.size (.slice Ar mr cr) rest) (h1 : mr ≤ cr) (h2 : cr ≤ 9223372036854775807) => dk_put HP.out hb ho h1 h2 hrl (by simp))
      clear d1 d2 d3 d4 d5 d6 d7 d8 htk hrl hp
      go_enter Tryz.func115, Tryz.ntmps115
      go_wp2_with (go_at_call 167; refine HQ.out.mono ?_; rintro e w1 ⟨Ar, mr, cr, rfl, hor, hr1, hr2, hb1⟩
                   have hB1 := HB.out.below hb1 HB.out.lt
                   have y0 := hB1.cell 0
                   have y1 := hB1.cell 1
                   have y2 := hB1.frozen 0
                   have y3 := hB1.frozen 1
                   simp at y0 y1)
      go_ret
      exact ⟨rfl, HZ.out _ _ _ _ hb1 hor hr1 hr2⟩
    · have hx0 : ((x : Int) == 0) = false := by simpa using hx
      have hp : ps (some l2) = (⟨#[]⟩, none) := by unfold ps; simp only [htk]; rw [if_neg hx]
      rw [hp]
      have HZ := Lib.hid (fun (w1 : World) (hb : Below V.heap.size V w1) => dk_bad HP.out hb)
      clear d1 d2 d3 d4 d5 d6 d7 d8 htk hrl hp
      go_enter Tryz.func115, Tryz.ntmps115
      go_wp2_with (go_at_call 167; refine HQ.out.mono ?_; rintro e w1 ⟨Ar, mr, cr, rfl, hor, hr1, hr2, hb1⟩
                   have hB1 := HB.out.below hb1 HB.out.lt
                   have y0 := hB1.cell 0
                   have y1 := hB1.cell 1
                   have y2 := hB1.frozen 0
                   have y3 := hB1.frozen 1
                   simp at y0 y1)
      go_ret
      exact ⟨rfl, HZ.out _ hb1⟩
theorem dkDone (g : Nat) (s : Rst) (V : World) (F : Nat → Prop) (hP : (dkA g s).p V F) :
    Calls Tryz.prog 116 #[pt g] V fun e w' => e = .returned (.bool (decide (s = some []))) ∧ w' = V := by
  obtain ⟨A, n, c, l, d1, d2, d3, d4, d5, d6, d7, d8⟩ := hP
  have g0 := d1.cell 0
  have g1 := d1.cell 1
  simp at g0 g1
  have hl := d2.1
  cases s with
  | none =>
    clear d1 d2 d8
    go_enter Tryz.func116, Tryz.ntmps116
    go_wp2
    go_ret
    exact ⟨rfl, rfl⟩
  | some l2 =>
    obtain rfl := d6 _ rfl
    have hd : decide (some l2 = some ([] : List UInt8)) = ((n : Int) == 0) := by
      rw [← hl]
      cases l2 <;> simp
      omega
    have HD := Lib.hid hd
    clear d1 d2 d8 hd
    go_enter Tryz.func116, Tryz.ntmps116
    go_wp2
    go_ret
    exact ⟨by rw [HD.out]; rfl, rfl⟩
section
variable {w V : World} {T : List As} {g : Nat} {s : Rst}
theorem Has.dkNum (h : Has w (dkA g s :: T) V) : Calls Tryz.prog 157 #[pt g] V fun e w' => e = .returned (.int .i64 ((pn s).1 : Int)) ∧ Has w (dkA g (pn s).2 :: T) w' :=
  h.turn fun F hF => Go.Proofs.YtgccichmdddbpaaGreatDoor.dkNum g s V F hF
theorem Has.dkStr (h : Has w (dkA g s :: T) V) : Calls Tryz.prog 115 #[pt g] V fun e w' => e = .returned (.string (ps s).1) ∧ Has w (dkA g (ps s).2 :: T) w' :=
  h.turn fun F hF => Go.Proofs.YtgccichmdddbpaaGreatDoor.dkStr g s V F hF
theorem Has.dkDone (h : Has w (dkA g s :: T) V) : Calls Tryz.prog 116 #[pt g] V fun e w' => e = .returned (.bool (decide (s = some []))) ∧ w' = V := by
  obtain ⟨F, hF, _⟩ := h.get
  exact Go.Proofs.YtgccichmdddbpaaGreatDoor.dkDone g s V F hF
theorem Has.dkFlag (h : Has w (dkA g s :: T) V) : Calls Tryz.prog 114 #[pt g] V fun e w' => e = .returned (.bool (pf s).1) ∧ Has w (dkA g (pf s).2 :: T) w' := by
  have H0 := Lib.hid h
  clear h
  have hpf : pf s = (decide ((pn s).1 = 1), if 1 < (pn s).1 then none else (pn s).2) := rfl
  rw [hpf]
  generalize h1 : (pn s).1 = a
  generalize h2 : (pn s).2 = s1
  have N1 := Lib.hid h1
  have N2 := Lib.hid h2
  clear h1 h2 hpf
  obtain ⟨b, hb⟩ : ∃ b, ((a : Int) == 1) = b := ⟨_, rfl⟩
  have hb2 : decide (a = 1) = b := by rw [← hb, Bool.eq_iff_iff]; simp; omega
  rw [hb2]
  clear hb2
  by_cases ha : 1 < a
  · rw [if_pos ha]
    go_enter Tryz.func114, Tryz.ntmps114
    go_wp2_with (go_at_call 157; refine H0.out.dkNum.mono ?_; rintro e w1 ⟨rfl, h1⟩; rw [N1.out, N2.out] at *
                 have hst := h1.step
                 obtain ⟨F, hF, _, hst⟩ := hst
                 have HF := hF
                 obtain ⟨A, n, c, l, d1, d2, d3, d4, d5, d6, d7, d8⟩ := hF
                 have y1 := d1.cell 1
                 have y2 := d1.frozen 1
                 simp at y1
                 have HZ := Lib.hid (show Has w (dkA g none :: T) (w1.setCell ⟨g, 1, none⟩ (.bool true)) from by obtain ⟨F', q1, q2, q3⟩ := dk_bad HF (Below.refl _ _); exact hst _ _ _ q2 q1 q3)
                 cases s1 <;> clear d1 d2 d3 d4 d5 d6 d7 d8 hst HF h1)
    all_goals go_ret
    all_goals (try rw [show decide ((1 : Int) < (a : Int)) = true from decide_eq_true (by omega)])
    all_goals exact ⟨by first | rfl | rw [hb], HZ.out⟩
  · rw [if_neg ha]
    go_enter Tryz.func114, Tryz.ntmps114
    go_wp2_with (go_at_call 157; refine H0.out.dkNum.mono ?_; rintro e w1 ⟨rfl, h1⟩; rw [N1.out, N2.out] at *
                 have hst := h1.step
                 obtain ⟨F, hF, _, hst⟩ := hst
                 have HF := hF
                 obtain ⟨A, n, c, l, d1, d2, d3, d4, d5, d6, d7, d8⟩ := hF
                 have y1 := d1.cell 1
                 have y2 := d1.frozen 1
                 simp at y1
                 have HZ := Lib.hid (show Has w (dkA g s1 :: T) (w1.setCell ⟨g, 1, none⟩ (.bool s1.isNone)) from by obtain ⟨F', q1, q2, q3⟩ := dk_set HF (fun b hb => hb); exact hst _ _ _ q2 q1 q3)
                 cases s1 <;> clear d1 d2 d3 d4 d5 d6 d7 d8 hst HF h1)
    all_goals go_ret
    all_goals (try rw [show decide ((1 : Int) < (a : Int)) = false from decide_eq_false (by omega)])
    all_goals exact ⟨by first | rfl | rw [hb], HZ.out⟩
end
end Go.Proofs.YtgccichmdddbpaaGreatDoor
set_option linter.unusedVariables false
set_option linter.unusedSimpArgs false
set_option maxRecDepth 100000
namespace Go.Proofs.YtgccichmdddbpaaGreatDoor
open Go.RowKit

/-- A new taker of a text's bytes. -/
theorem dkNew (t : ByteArray) (w : World) (ht : t.size ≤ 225000000000000) :
    Has w [dkA (w.heap.size + 1) (some (sb t))] ((Lib.bytesWorld w 5 t).alloc (.cells #[.slice (some ⟨w.heap.size, 0, none⟩) t.size (grownCap w t.size 0 5), .bool false] 177)) := by
  have hW := bytesWorld_below w 5 t
  have hA := bytesWorld_at w 5 t
  have hc1 := grownCap_ge w t.size 0 5
  have hc2 := grownCap_le_maxLen w t.size 0 5 (by unfold maxLen; omega)
  have hc3 : maxLen ≤ 9223372036854775807 := by decide
  have hsz : (Lib.bytesWorld w 5 t).heap.size = w.heap.size + 1 := Lib.bytesWorld_size w 5 t
  have hB := Blk.new (Lib.bytesWorld w 5 t) 177 #[.slice (some ⟨w.heap.size, 0, none⟩) t.size (grownCap w t.size 0 5), .bool false]
  rw [hsz] at hB
  refine (Has.nil (Below.refl w.heap.size w)).new (F := fun k => (k = w.heap.size + 1 ∨ ∃ a, some (⟨w.heap.size, 0, none⟩ : Addr) = some a ∧ 0 < t.size ∧ a.block = k)) (hW.alloc hW.size _) ⟨some ⟨w.heap.size, 0, none⟩, t.size, grownCap w t.size 0 5, sb t, hB, hA.alloc _, hc1, by omega, by rw [sb_len]; exact ht, fun b hb => by simpa using hb.symm, fun a ha => by cases ha; simp, fun k => Iff.rfl⟩ (fun k e => ?_)
  rcases e with e | ⟨a, ha, _, e⟩
  · omega
  · cases ha
    simp at e
    omega
theorem dkKc (w : World) (t : ByteArray) : (convert 9 164 (.string t)).run Tryz.prog w = .ok (.slice (some ⟨w.heap.size, 0, none⟩) t.size (grownCap w t.size 0 5)) (Lib.bytesWorld w 5 t) :=
  Lib.run_convert_string_bytes (P := Tryz.prog) w 9 164 5 t Tryz.underlying9 Tryz.underlying164 Tryz.underlying5
theorem rTakeVersion (t : ByteArray) (w : World) (ht : t.size ≤ 225000000000000) :
    Calls Tryz.prog 66 #[.string t] w fun e w' => e = AnsV (tkV (sb t)) ∧ Below w.heap.size w w' := by
  have H0 := Lib.hid (dkNew t w ht)
  have kc := dkKc w t
  have hsz : (Lib.bytesWorld w 5 t).heap.size = w.heap.size + 1 := Lib.bytesWorld_size w 5 t
  have hk : tkV (sb t) = if (pf (some (sb t))).1 then (if (ps (pf (some (sb t))).2).2 = some [] then some ((ps (pf (some (sb t))).2).1, true) else none) else if (pf (some (sb t))).2 = some [] then some (⟨#[]⟩, false) else none := rfl
  rw [hk]
  generalize h1 : (pf (some (sb t))).1 = d
  generalize h2 : (pf (some (sb t))).2 = s1
  have N1 := Lib.hid h1
  have N2 := Lib.hid h2
  clear h1 h2 hk
  cases d
  · simp only [Bool.false_eq_true, if_false]
    by_cases hd : s1 = some []
    · rw [if_pos hd]
      have HD := Lib.hid (show decide (s1 = some []) = true from decide_eq_true hd)
      clear hd
      go_enter Tryz.func66, Tryz.ntmps66
      go_wp2_with (first
        | (go_at_call 114; refine H0.out.dkFlag.mono ?_; rintro e w1 ⟨rfl, h1⟩; rw [N1.out]; rw [N2.out] at h1; have H1 := Lib.hid h1; clear h1)
        | (go_at_call 116; refine H1.out.dkDone.mono ?_; rintro e w2 ⟨rfl, rfl⟩; rw [HD.out]))
      go_ret3
      exact ⟨rfl, H1.out.bel⟩
    · rw [if_neg hd]
      have HD := Lib.hid (show decide (s1 = some []) = false from decide_eq_false hd)
      clear hd
      go_enter Tryz.func66, Tryz.ntmps66
      go_wp2_with (first
        | (go_at_call 114; refine H0.out.dkFlag.mono ?_; rintro e w1 ⟨rfl, h1⟩; rw [N1.out]; rw [N2.out] at h1; have H1 := Lib.hid h1; clear h1)
        | (go_at_call 116; refine H1.out.dkDone.mono ?_; rintro e w2 ⟨rfl, rfl⟩; rw [HD.out]))
      go_ret3
      exact ⟨rfl, H1.out.bel⟩
  · simp only [if_true]
    generalize h1 : (ps s1).1 = v
    generalize h2 : (ps s1).2 = s2
    have N3 := Lib.hid h1
    have N4 := Lib.hid h2
    clear h1 h2
    by_cases hd : s2 = some []
    · rw [if_pos hd]
      have HD := Lib.hid (show decide (s2 = some []) = true from decide_eq_true hd)
      clear hd
      go_enter Tryz.func66, Tryz.ntmps66
      go_wp2_with (first
        | (go_at_call 114; refine H0.out.dkFlag.mono ?_; rintro e w1 ⟨rfl, h1⟩; rw [N1.out]; rw [N2.out] at h1; have H1 := Lib.hid h1; clear h1)
        | (go_at_call 115; refine H1.out.dkStr.mono ?_; rintro e w2 ⟨rfl, h2⟩; rw [N3.out]; rw [N4.out] at h2; have H2 := Lib.hid h2; clear h2)
        | (go_at_call 116; refine H2.out.dkDone.mono ?_; rintro e w3 ⟨rfl, rfl⟩; rw [HD.out]))
      go_ret3
      exact ⟨rfl, H2.out.bel⟩
    · rw [if_neg hd]
      have HD := Lib.hid (show decide (s2 = some []) = false from decide_eq_false hd)
      clear hd
      go_enter Tryz.func66, Tryz.ntmps66
      go_wp2_with (first
        | (go_at_call 114; refine H0.out.dkFlag.mono ?_; rintro e w1 ⟨rfl, h1⟩; rw [N1.out]; rw [N2.out] at h1; have H1 := Lib.hid h1; clear h1)
        | (go_at_call 115; refine H1.out.dkStr.mono ?_; rintro e w2 ⟨rfl, h2⟩; rw [N3.out]; rw [N4.out] at h2; have H2 := Lib.hid h2; clear h2)
        | (go_at_call 116; refine H2.out.dkDone.mono ?_; rintro e w3 ⟨rfl, rfl⟩; rw [HD.out]))
      go_ret3
      exact ⟨rfl, H2.out.bel⟩
end Go.Proofs.YtgccichmdddbpaaGreatDoor
set_option linter.unusedVariables false
set_option linter.unusedSimpArgs false
set_option maxRecDepth 100000
namespace Go.Proofs.YtgccichmdddbpaaGreatDoor
open Go.RowKit

theorem list_is {α : Type} {l l' : List α} (hl : l.length = l'.length) (h : ∀ i (h : i < l.length) (h' : i < l'.length), l[i]'h = l'[i]'h') : l = l' := List.ext_getElem hl h
theorem text_ne {s t : ByteArray} (h : s ≠ t) : (s.toList == t.toList) = false := by
  cases hh : (s.toList == t.toList) with
  | false => rfl
  | true =>
    refine absurd ?_ h
    rw [Lib.toList_data, Lib.toList_data] at hh
    exact tb_inj (by simpa using hh)
theorem text_eq (s : ByteArray) : (s.toList == s.toList) = true := by simp



end Go.Proofs.YtgccichmdddbpaaGreatDoor
