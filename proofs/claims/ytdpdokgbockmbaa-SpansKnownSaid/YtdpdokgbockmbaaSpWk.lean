/-
  Layer 16: the chapter's examples (written by wip/genspw.py).
-/
import Derived.Test.YtdpdokgbockmbaaSpFns
import Derived.Test.YtdpdokgbockmbaaSpList
set_option linter.unusedVariables false
set_option linter.unusedSimpArgs false
set_option maxRecDepth 100000
namespace Go.Proofs.Ytdpdokgbockmbaa
open Go.RowKit

set_option maxHeartbeats 2000000 in
theorem spIs (A T : Option Addr) (n m c k : Nat) (a : List Sn) (ts : List ByteArray) (w : World) (ha : SnAt w A n a) (ht : StAt w T m ts) (hn : n ≤ 9223372036854775807) (hm : m ≤ 1000) (hk : k ≤ 9223372036854775807) :
    Calls Try.prog 22 #[.slice A n c, .int .i64 0, .slice T m k] w fun e w' => e = .returned (.bool (decide (a = prs ts))) ∧ Below w.heap.size w w' := by
  have HL := Lib.hid (spList T m k ts w ht hm)
  have HLE := Lib.hid (show (prs ts).length ≤ 9223372036854775807 from by
    have h1 : ∀ l : List ByteArray, (prs l).length ≤ l.length := fun l => by
      induction l using prs.induct with
      | case1 a b l ih => rw [prs]; simp; omega
      | case2 l h => unfold prs; split <;> simp_all
    have := h1 ts
    have := ht.1
    omega)
  have HS := Lib.hid (fun V E C (h : Below w.heap.size w V) (h2 : SnAt V E (prs ts).length (prs ts)) => spSame A E n (prs ts).length c C a (prs ts) V (ha.below h) h2 hn HLE.out)
  clear ha ht
  generalize decide (a = prs ts) = r at *
  obtain ⟨N, hN⟩ : ∃ N, (prs ts).length = N := ⟨_, rfl⟩
  rw [hN] at HL HS
  clear hN HLE
  go_enter Try.func22, Try.ntmps22
  go_wp2_with (first
    | (go_at_call 21; refine HL.out.mono ?_; rintro e w1 ⟨E, C, rfl, h1, h2, h3⟩; have H1 := Lib.hid h1; have H3 := Lib.hid h3; clear h1 h2 h3)
    | (go_at_call 15; refine (HS.out _ _ _ H3.out H1.out).mono ?_; rintro e w2 ⟨rfl, h4⟩))
  go_ret
  exact ⟨rfl, bst H3.out h4⟩
/-- What stays while what is older stays. -/
structure Kp (w : World) (P : World → Prop) (V : World) : Prop where
  bel : Below w.heap.size w V
  now : P V
  fix : ∀ {X Y : World}, P X → Below X.heap.size X Y → P Y
theorem Kp.start (w : World) : Kp w (fun _ => True) w := ⟨Below.refl _ _, trivial, fun _ _ => trivial⟩
theorem Kp.keep {w V V' : World} {P : World → Prop} (h : Kp w P V) (hb : Below V.heap.size V V') : Kp w P V' := ⟨bst h.bel hb, h.fix h.now hb, h.fix⟩
theorem Kp.al {w V : World} {P : World → Prop} (h : Kp w P V) (o : Obj) : Kp w P (V.alloc o) := h.keep (nbl V o)
theorem Kp.sn {w V : World} {P : World → Prop} {E : Option Addr} {N : Nat} {l : List Sn} (h : Kp w P V) (hs : SnAt V E N l) : Kp w (fun V => P V ∧ SnAt V E N l) V :=
  ⟨h.bel, ⟨h.now, hs⟩, fun h1 hb => ⟨h.fix h1.1 hb, h1.2.below hb⟩⟩
theorem Kp.box {w V : World} {P : World → Prop} (h : Kp w P V) (x y : Value) (t : TypeId) : Kp w (fun W => P W ∧ W.cell? ⟨V.heap.size, 0, none⟩ = some x ∧ W.cell? ⟨V.heap.size, 1, none⟩ = some y) (V.alloc (.cells #[x, y] t)) :=
  ⟨bsa h.bel _, ⟨h.fix h.now (nbl _ _), by simp, by simp⟩, fun h1 hb => ⟨h.fix h1.1 hb, (hb.cell (World.block_lt_of_cell? _ _ h1.2.1)).trans h1.2.1, (hb.cell (World.block_lt_of_cell? _ _ h1.2.2)).trans h1.2.2⟩⟩
theorem Kp.drewN {w V : World} {P : World → Prop} (h : Kp w P V) (n : Nat) : Kp w P (V.drewN n) := h.keep ⟨rfl, rfl, rfl, Nat.le_refl _, fun _ _ => rfl⟩
theorem spList2 (s0 s1 : ByteArray) (V : World) (g : Nat) (hg : g = V.heap.size) : Calls Try.prog 21 #[.slice (some ⟨g, 0, none⟩) 2 2] (V.alloc (.cells #[.string s0, .string s1] 9)) fun e w' => ∃ E C, e = .returned (.slice E 1 C) ∧ SnAt w' E 1 [⟨s0, s1⟩] ∧ Below V.heap.size V w' :=
  by
  subst hg
  exact (spList _ 2 2 [s0, s1] _ (StAt.lit (l := [s0, s1]) (heap_alloc_new V _)) (by omega)).mono fun e w' ⟨E, C, h1, h2, _, h4⟩ => ⟨E, C, h1, h2, bst (nbl V _) h4⟩
theorem spIs2 (A : Option Addr) (n c : Nat) (a : List Sn) (s0 s1 : ByteArray) (V : World) (g : Nat) (hg : g = V.heap.size) (ha : SnAt V A n a) (hn : n ≤ 9223372036854775807) : Calls Try.prog 22 #[.slice A n c, .int .i64 0, .slice (some ⟨g, 0, none⟩) 2 2] (V.alloc (.cells #[.string s0, .string s1] 9)) fun e w' => e = .returned (.bool (decide (a = [⟨s0, s1⟩]))) ∧ Below V.heap.size V w' :=
  by
  subst hg
  exact (spIs A _ n 2 c 2 a [s0, s1] _ (ha.below (nbl V _)) (StAt.lit (l := [s0, s1]) (heap_alloc_new V _)) hn (by omega) (by omega)).mono fun e w' ⟨h1, h2⟩ => ⟨h1, bst (nbl V _) h2⟩
theorem spList4 (s0 s1 s2 s3 : ByteArray) (V : World) (g : Nat) (hg : g = V.heap.size) : Calls Try.prog 21 #[.slice (some ⟨g, 0, none⟩) 4 4] (V.alloc (.cells #[.string s0, .string s1, .string s2, .string s3] 9)) fun e w' => ∃ E C, e = .returned (.slice E 2 C) ∧ SnAt w' E 2 [⟨s0, s1⟩, ⟨s2, s3⟩] ∧ Below V.heap.size V w' :=
  by
  subst hg
  exact (spList _ 4 4 [s0, s1, s2, s3] _ (StAt.lit (l := [s0, s1, s2, s3]) (heap_alloc_new V _)) (by omega)).mono fun e w' ⟨E, C, h1, h2, _, h4⟩ => ⟨E, C, h1, h2, bst (nbl V _) h4⟩
theorem spIs4 (A : Option Addr) (n c : Nat) (a : List Sn) (s0 s1 s2 s3 : ByteArray) (V : World) (g : Nat) (hg : g = V.heap.size) (ha : SnAt V A n a) (hn : n ≤ 9223372036854775807) : Calls Try.prog 22 #[.slice A n c, .int .i64 0, .slice (some ⟨g, 0, none⟩) 4 4] (V.alloc (.cells #[.string s0, .string s1, .string s2, .string s3] 9)) fun e w' => e = .returned (.bool (decide (a = [⟨s0, s1⟩, ⟨s2, s3⟩]))) ∧ Below V.heap.size V w' :=
  by
  subst hg
  exact (spIs A _ n 4 c 4 a [s0, s1, s2, s3] _ (ha.below (nbl V _)) (StAt.lit (l := [s0, s1, s2, s3]) (heap_alloc_new V _)) hn (by omega) (by omega)).mono fun e w' ⟨h1, h2⟩ => ⟨h1, bst (nbl V _) h2⟩
theorem spList8 (s0 s1 s2 s3 s4 s5 s6 s7 : ByteArray) (V : World) (g : Nat) (hg : g = V.heap.size) : Calls Try.prog 21 #[.slice (some ⟨g, 0, none⟩) 8 8] (V.alloc (.cells #[.string s0, .string s1, .string s2, .string s3, .string s4, .string s5, .string s6, .string s7] 9)) fun e w' => ∃ E C, e = .returned (.slice E 4 C) ∧ SnAt w' E 4 [⟨s0, s1⟩, ⟨s2, s3⟩, ⟨s4, s5⟩, ⟨s6, s7⟩] ∧ Below V.heap.size V w' :=
  by
  subst hg
  exact (spList _ 8 8 [s0, s1, s2, s3, s4, s5, s6, s7] _ (StAt.lit (l := [s0, s1, s2, s3, s4, s5, s6, s7]) (heap_alloc_new V _)) (by omega)).mono fun e w' ⟨E, C, h1, h2, _, h4⟩ => ⟨E, C, h1, h2, bst (nbl V _) h4⟩
theorem spIs8 (A : Option Addr) (n c : Nat) (a : List Sn) (s0 s1 s2 s3 s4 s5 s6 s7 : ByteArray) (V : World) (g : Nat) (hg : g = V.heap.size) (ha : SnAt V A n a) (hn : n ≤ 9223372036854775807) : Calls Try.prog 22 #[.slice A n c, .int .i64 0, .slice (some ⟨g, 0, none⟩) 8 8] (V.alloc (.cells #[.string s0, .string s1, .string s2, .string s3, .string s4, .string s5, .string s6, .string s7] 9)) fun e w' => e = .returned (.bool (decide (a = [⟨s0, s1⟩, ⟨s2, s3⟩, ⟨s4, s5⟩, ⟨s6, s7⟩]))) ∧ Below V.heap.size V w' :=
  by
  subst hg
  exact (spIs A _ n 8 c 8 a [s0, s1, s2, s3, s4, s5, s6, s7] _ (ha.below (nbl V _)) (StAt.lit (l := [s0, s1, s2, s3, s4, s5, s6, s7]) (heap_alloc_new V _)) hn (by omega) (by omega)).mono fun e w' ⟨h1, h2⟩ => ⟨h1, bst (nbl V _) h2⟩
theorem k_lt (x y : UInt8) (h : x < y) (k : ByteArray) (hk : kl k ⟨#[x]⟩ = true) : kl k ⟨#[y]⟩ = true := kl_trans hk (by
  unfold kl
  rw [Lib.toList_data, Lib.toList_data]
  simp [Op.bytesLess, h])
set_option maxHeartbeats 2000000 in
theorem ex_all (k : ByteArray) : inI [⟨⟨#[97]⟩, ⟨#[100]⟩⟩, ⟨⟨#[101]⟩, ⟨#[102]⟩⟩] k = wJ (inI [⟨⟨#[99]⟩, ⟨#[100]⟩⟩, ⟨⟨#[97]⟩, ⟨#[98]⟩⟩, ⟨⟨#[98]⟩, ⟨#[99]⟩⟩, ⟨⟨#[101]⟩, ⟨#[102]⟩⟩] k) (inI [] k) ∧ inI [⟨⟨#[98]⟩, ⟨#[100]⟩⟩, ⟨⟨#[101]⟩, ⟨#[102]⟩⟩] k = wB (inI [⟨⟨#[97]⟩, ⟨#[100]⟩⟩, ⟨⟨#[101]⟩, ⟨#[103]⟩⟩] k) (inI [⟨⟨#[98]⟩, ⟨#[102]⟩⟩] k) ∧ inI [⟨⟨#[97]⟩, ⟨#[98]⟩⟩, ⟨⟨#[102]⟩, ⟨#[103]⟩⟩] k = wL (inI [⟨⟨#[97]⟩, ⟨#[100]⟩⟩, ⟨⟨#[101]⟩, ⟨#[103]⟩⟩] k) (inI [⟨⟨#[98]⟩, ⟨#[102]⟩⟩] k) := by
  have h1 := k_lt 97 98 (by decide) k
  have h2 := k_lt 98 99 (by decide) k
  have h3 := k_lt 99 100 (by decide) k
  have h4 := k_lt 100 101 (by decide) k
  have h5 := k_lt 101 102 (by decide) k
  have h6 := k_lt 102 103 (by decide) k
  unfold inI ihas wJ wB wL
  simp only [List.any_cons, List.any_nil]
  generalize kl k ⟨#[97]⟩ = a at *
  generalize kl k ⟨#[98]⟩ = b at *
  generalize kl k ⟨#[99]⟩ = c at *
  generalize kl k ⟨#[100]⟩ = d at *
  generalize kl k ⟨#[101]⟩ = e at *
  generalize kl k ⟨#[102]⟩ = f at *
  generalize kl k ⟨#[103]⟩ = g at *
  cases a <;> cases b <;> cases c <;> cases d <;> cases e <;> cases f <;> cases g <;> simp_all
theorem ordS_two {a b c d : ByteArray} (h1 : kl a b = true) (h2 : kl b c = true) (h3 : kl c d = true) : OrdS [⟨a, b⟩, ⟨c, d⟩] :=
  ⟨h1, fun u hu => by obtain rfl : u = ⟨c, d⟩ := by simpa using hu
                      exact h2, h3, fun u hu => (by cases hu), trivial⟩
theorem ex1 : Spe wJ [⟨⟨#[99]⟩, ⟨#[100]⟩⟩, ⟨⟨#[97]⟩, ⟨#[98]⟩⟩, ⟨⟨#[98]⟩, ⟨#[99]⟩⟩, ⟨⟨#[101]⟩, ⟨#[102]⟩⟩] [] [⟨⟨#[97]⟩, ⟨#[100]⟩⟩, ⟨⟨#[101]⟩, ⟨#[102]⟩⟩] := ⟨ordS_two (by kernel_rfl) (by kernel_rfl) (by kernel_rfl), fun k => (ex_all k).1, by decide, by decide⟩
theorem ex2 : Spe wB [⟨⟨#[97]⟩, ⟨#[100]⟩⟩, ⟨⟨#[101]⟩, ⟨#[103]⟩⟩] [⟨⟨#[98]⟩, ⟨#[102]⟩⟩] [⟨⟨#[98]⟩, ⟨#[100]⟩⟩, ⟨⟨#[101]⟩, ⟨#[102]⟩⟩] := ⟨ordS_two (by kernel_rfl) (by kernel_rfl) (by kernel_rfl), fun k => (ex_all k).2.1, by decide, by decide⟩
theorem ex3 : Spe wL [⟨⟨#[97]⟩, ⟨#[100]⟩⟩, ⟨⟨#[101]⟩, ⟨#[103]⟩⟩] [⟨⟨#[98]⟩, ⟨#[102]⟩⟩] [⟨⟨#[97]⟩, ⟨#[98]⟩⟩, ⟨⟨#[102]⟩, ⟨#[103]⟩⟩] := ⟨ordS_two (by kernel_rfl) (by kernel_rfl) (by kernel_rfl), fun k => (ex_all k).2.2, by decide, by decide⟩
theorem exm1 : MaySp [⟨⟨#[99]⟩, ⟨#[100]⟩⟩, ⟨⟨#[97]⟩, ⟨#[98]⟩⟩, ⟨⟨#[98]⟩, ⟨#[99]⟩⟩, ⟨⟨#[101]⟩, ⟨#[102]⟩⟩] := by unfold MaySp; intro s hs; simp at hs; rcases hs with rfl | rfl | rfl | rfl <;> kernel_rfl
theorem exm2 : MaySp [⟨⟨#[97]⟩, ⟨#[100]⟩⟩, ⟨⟨#[101]⟩, ⟨#[103]⟩⟩] := by unfold MaySp; intro s hs; simp at hs; rcases hs with rfl | rfl <;> kernel_rfl
theorem exm3 : MaySp [⟨⟨#[98]⟩, ⟨#[102]⟩⟩] := by unfold MaySp; intro s hs; simp at hs; subst hs; kernel_rfl
end Go.Proofs.Ytdpdokgbockmbaa
