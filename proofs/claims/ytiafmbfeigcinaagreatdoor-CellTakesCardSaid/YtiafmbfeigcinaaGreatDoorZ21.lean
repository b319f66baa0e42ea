/-
  Layer 11, the document's answers: TakeRecord.
  Layer 11, the document's Same, SameRecord: of one and the same.
  Layer 11, the code: TakeNumber. What the takers answer, in one form each.
-/
import Derived.Test.YtiafmbfeigcinaaGreatDoorZ15
import Derived.Test.YtiafmbfeigcinaaGreatDoorZ18
import Derived.Test.YtiafmbfeigcinaaGreatDoorZ19
import Derived.Test.YtiafmbfeigcinaaGreatDoorZ20
import Derived.Deep.AppendLies
import Derived.Test.YtiafmbfeigcinaaGreatDoorZ13
import Derived.BigQuiet
import Derived.Deep.QuietTactic
set_option linter.unusedVariables false
set_option linter.unusedSimpArgs false
set_option maxRecDepth 100000
namespace Go.Proofs.YtiafmbfeigcinaaGreatDoor
open Go.RowKit


theorem step_appR {w : World} {ops : Array Oper} {o : Oper} {a : Act} {K : Act → World → Prop} {Q : Exit → Act → World → Prop} {E : Prop} (hgd : o.guard = none) (s x : Operand)
    (ho : o.op = .call { callee := .builtin .append, args := #[s, x], argTypes := #[104, 104] })
    (v : Value) (l : List Wt) (hs : a.eval s = v) (hown : w.ownsRow 0 159 2 v l.length (l.flatMap wtc))
    (g c : Nat) (y : Wt) (hx : a.eval x = .slice (some ⟨g, 0, none⟩) 1 c) (hb : w.heap[g]? = some (.cells (wtc y).toArray 159)) (hl : l.length ≤ 4096)
    (h : ∀ v' w', w'.ownsRow 0 159 2 v' (l.length + 1) (l.flatMap wtc ++ wtc y) → w.grownBy w' v.ownBlock → (v'.ownBlock = v.ownBlock ∨ v'.ownBlock = some w.heap.size) → (∃ A n c, v' = .slice A n c) → K (a.put o.dst v') w') :
    if Region.wanted o (yielded ops a.tmps) = true then Oper.wp Tryz.prog o a w K Q else E := by
  obtain ⟨i0, hi0, hz0, hz1, hz2⟩ := info_parts infoWt
  refine step_append_lies (w := w) hgd s x 104 ho 0 159 i0 _ 2 24 Tryz.underlying104 hi0 hz0 hz1 hz2 rfl (by decide) v l.length (l.flatMap wtc) hs hown ⟨g, 0, none⟩ 1 c (wtc y) hx (by rfl)
    (fun j u hj => ?_) (fun u hu => ?_) (by omega) (by unfold maxLen; omega) (by omega) (Nat.zero_le _) _ rfl (fun g' cap w' hr hg hob _ => ?_)
  · rw [Go.WideShapes.add_plain, Nat.zero_add, cell_of_row w g j _ _ _ hb]; simpa using hj
  · simp [wtc] at hu
    rcases hu with rfl | rfl <;> rfl
  · exact h _ w' hr hg (hob.elim (fun e => .inl e.symm) (fun e => .inr (by rw [e]; rfl))) ⟨_, _, _, rfl⟩

theorem may_topR {x : Rc} (h : mayR x = true) : x.l.length ≤ 32 := by
  simp only [mayR, Bool.and_eq_true] at h
  exact (areW_all h.2).1

set_option maxHeartbeats 4000000 in
theorem rTakeR_c (t : ByteArray) (w : World) (ht : t.size ≤ 225000000000000) :
    Calls Tryz.prog 47 #[.string t] w fun e w' => AnsR (tkR (sb t)) w e w' ∧ Below w.heap.size w w' := by
  have hz0 : (w.alloc (.cells (#[.int .i64 0, .int .i64 0, .int .i64 0, .int .i64 0, .string ⟨#[]⟩, .int .i64 0, .int .i64 0, .int .i64 0, .int .i64 0, .slice none 0 0] : Array Value) 106)).heap.size = w.heap.size + 1 := by simp
  have h1 := ((Has.nil (Below.refl w.heap.size w)).newBlk 106 (#[.int .i64 0, .int .i64 0, .int .i64 0, .int .i64 0, .string ⟨#[]⟩, .int .i64 0, .int .i64 0, .int .i64 0, .int .i64 0, .slice none 0 0] : Array Value)).join (dkNew t (w.alloc (.cells (#[.int .i64 0, .int .i64 0, .int .i64 0, .int .i64 0, .string ⟨#[]⟩, .int .i64 0, .int .i64 0, .int .i64 0, .int .i64 0, .slice none 0 0] : Array Value) 106)) ht)
  have kc := dkKc (w.alloc (.cells (#[.int .i64 0, .int .i64 0, .int .i64 0, .int .i64 0, .string ⟨#[]⟩, .int .i64 0, .int .i64 0, .int .i64 0, .int .i64 0, .slice none 0 0] : Array Value) 106)) t
  have hsz : (Lib.bytesWorld (w.alloc (.cells (#[.int .i64 0, .int .i64 0, .int .i64 0, .int .i64 0, .string ⟨#[]⟩, .int .i64 0, .int .i64 0, .int .i64 0, .int .i64 0, .slice none 0 0] : Array Value) 106)) 5 t).heap.size = w.heap.size + 1 + 1 := by rw [Lib.bytesWorld_size, hz0]
  rw [hz0] at h1 kc
  have hz3 : ((Lib.bytesWorld (w.alloc (.cells (#[.int .i64 0, .int .i64 0, .int .i64 0, .int .i64 0, .string ⟨#[]⟩, .int .i64 0, .int .i64 0, .int .i64 0, .int .i64 0, .slice none 0 0] : Array Value) 106)) 5 t).alloc (.cells #[.slice (some ⟨w.heap.size + 1, 0, none⟩) t.size (grownCap (w.alloc (.cells (#[.int .i64 0, .int .i64 0, .int .i64 0, .int .i64 0, .string ⟨#[]⟩, .int .i64 0, .int .i64 0, .int .i64 0, .int .i64 0, .slice none 0 0] : Array Value) 106)) t.size 0 5), .bool false] 150)).heap.size = w.heap.size + 1 + 1 + 1 := by rw [World.size_alloc, hsz]
  have h2 := ((show Has w [dkA (w.heap.size + 1 + 1) (some (sb t)), blkA w.heap.size 106 (#[.int .i64 0, .int .i64 0, .int .i64 0, .int .i64 0, .string ⟨#[]⟩, .int .i64 0, .int .i64 0, .int .i64 0, .int .i64 0, .slice none 0 0] : Array Value)] ((Lib.bytesWorld (w.alloc (.cells (#[.int .i64 0, .int .i64 0, .int .i64 0, .int .i64 0, .string ⟨#[]⟩, .int .i64 0, .int .i64 0, .int .i64 0, .int .i64 0, .slice none 0 0] : Array Value) 106)) 5 t).alloc (.cells #[.slice (some ⟨w.heap.size + 1, 0, none⟩) t.size (grownCap (w.alloc (.cells (#[.int .i64 0, .int .i64 0, .int .i64 0, .int .i64 0, .string ⟨#[]⟩, .int .i64 0, .int .i64 0, .int .i64 0, .int .i64 0, .slice none 0 0] : Array Value) 106)) t.size 0 5), .bool false] 150)) from h1).newBlk 106 (#[.int .i64 0, .int .i64 0, .int .i64 0, .int .i64 0, .string ⟨#[]⟩, .int .i64 0, .int .i64 0, .int .i64 0, .int .i64 0, .slice none 0 0] : Array Value)).swap
  rw [hz3] at h2
  have H0 := Lib.hid h2
  rcases e1 : pn (some (sb t)) with ⟨v1, s1⟩
  rcases e2 : pn s1 with ⟨v2, s2⟩
  rcases e3 : pn s2 with ⟨v0, s3⟩
  rcases e4 : pn s3 with ⟨v3, s4⟩
  rcases e5 : ps s4 with ⟨u4, s5⟩
  rcases e6 : pn s5 with ⟨v5, s6⟩
  rcases e7 : pn s6 with ⟨v6, s7⟩
  rcases e8 : pn s7 with ⟨v7, s8⟩
  rcases e9 : pn s8 with ⟨v8, s9⟩
  rcases e10 : pn s9 with ⟨v9, s10⟩
  have hk : rdR (sb t) = (⟨(v1 : Int), (v2 : Int), (v0 : Int), (v3 : Int), u4, (v5 : Int), (v6 : Int), (v7 : Int), (v8 : Int), (many pW v9 s10).1⟩, (many pW v9 s10).2) := by
    unfold rdR
    simp only [e1, e2, e3, e4, e5, e6, e7, e8, e9, e10]
  have hk2 : tkR (sb t) = if (many pW v9 s10).2 = some [] ∧ mayR ⟨(v1 : Int), (v2 : Int), (v0 : Int), (v3 : Int), u4, (v5 : Int), (v6 : Int), (v7 : Int), (v8 : Int), (many pW v9 s10).1⟩ = true then some ⟨(v1 : Int), (v2 : Int), (v0 : Int), (v3 : Int), u4, (v5 : Int), (v6 : Int), (v7 : Int), (v8 : Int), (many pW v9 s10).1⟩ else none := by unfold tkR; rw [hk]
  rw [hk2]
  obtain ⟨res, hres⟩ : ∃ res : Option Rc, (if (many pW v9 s10).2 = some [] ∧ mayR ⟨(v1 : Int), (v2 : Int), (v0 : Int), (v3 : Int), u4, (v5 : Int), (v6 : Int), (v7 : Int), (v8 : Int), (many pW v9 s10).1⟩ = true then some ⟨(v1 : Int), (v2 : Int), (v0 : Int), (v3 : Int), u4, (v5 : Int), (v6 : Int), (v7 : Int), (v8 : Int), (many pW v9 s10).1⟩ else none) = res := ⟨_, rfl⟩
  rw [hres]
  have HRES := Lib.hid hres
  clear hres
  have N1 := Lib.hid e1
  have N2 := Lib.hid e2
  have N3 := Lib.hid e3
  have N4 := Lib.hid e4
  have N5 := Lib.hid e5
  have N6 := Lib.hid e6
  have N7 := Lib.hid e7
  have N8 := Lib.hid e8
  have N9 := Lib.hid e9
  have N10 := Lib.hid e10
  clear h1 h2 hz0 hz3 hk hk2 e1 e2 e3 e4 e5 e6 e7 e8 e9 e10
  go_enter Tryz.func47, Tryz.ntmps47
  go_wp2_with (first
    | (go_at_call 83; first
      | (refine (H7.out.dkNumE N10.out).mono ?_; rintro e w8 ⟨rfl, h1⟩
         have H8 := Lib.hid h1
         clear h1 H7 N10)
      | (refine (H3.out.dkNumE N4.out).mono ?_; rintro e w4 ⟨rfl, h1⟩
         have z0 := h1.swap.blk.1.cell 3
         have zf0 := h1.swap.blk.1.frozen 3
         simp at z0
         have h1 := (h1.swap.setBlk 3 (.int .i64 (v3 : Int))).swap
         have H4 := Lib.hid h1
         clear h1 H3 N4)
      | (refine (H2.out.dkNumE N3.out).mono ?_; rintro e w3 ⟨rfl, h1⟩
         have z0 := h1.swap.blk.1.cell 2
         have zf0 := h1.swap.blk.1.frozen 2
         simp at z0
         have h1 := (h1.swap.setBlk 2 (.int .i64 (v0 : Int))).swap
         have H3 := Lib.hid h1
         clear h1 H2 N3)
      | (refine (H1.out.dkNumE N2.out).mono ?_; rintro e w2 ⟨rfl, h1⟩
         have z0 := h1.swap.blk.1.cell 1
         have zf0 := h1.swap.blk.1.frozen 1
         simp at z0
         have h1 := (h1.swap.setBlk 1 (.int .i64 (v2 : Int))).swap
         have H2 := Lib.hid h1
         clear h1 H1 N2)
      | (refine (H0.out.dkNumE N1.out).mono ?_; rintro e w1 ⟨rfl, h1⟩
         have z0 := h1.swap.blk.1.cell 0
         have zf0 := h1.swap.blk.1.frozen 0
         simp at z0
         have h1 := (h1.swap.setBlk 0 (.int .i64 (v1 : Int))).swap
         have H1 := Lib.hid h1
         clear h1 H0 N1))
    | (go_at_call 91; first
      | (refine (H4.out.dkStrE N5.out).mono ?_; rintro e w5 ⟨rfl, h1⟩
         have z0 := h1.swap.blk.1.cell 4
         have zf0 := h1.swap.blk.1.frozen 4
         simp at z0
         have h1 := (h1.swap.setBlk 4 (.string u4)).swap
         have H5 := Lib.hid h1
         clear h1 H4 N5))
    | (go_at_call 87; first
      | (refine (H6.out.dkStampE N8.out N9.out).mono ?_; rintro e w7 ⟨rfl, h1⟩
         have z0 := h1.swap.blk.1.cell 7
         have zf0 := h1.swap.blk.1.frozen 7
         simp at z0
         have z1 := h1.swap.blk.1.cell 8
         have zf1 := h1.swap.blk.1.frozen 8
         simp at z1
         have h1 := ((h1.swap.setBlk 7 (.int .i64 (v7 : Int))).setBlk 8 (.int .i64 (v8 : Int))).swap
         have H7 := Lib.hid h1
         clear h1 H6 N8 N9)
      | (refine (H5.out.dkStampE N6.out N7.out).mono ?_; rintro e w6 ⟨rfl, h1⟩
         have z0 := h1.swap.blk.1.cell 5
         have zf0 := h1.swap.blk.1.frozen 5
         simp at z0
         have z1 := h1.swap.blk.1.cell 6
         have zf1 := h1.swap.blk.1.frozen 6
         simp at z1
         have h1 := ((h1.swap.setBlk 5 (.int .i64 (v5 : Int))).setBlk 6 (.int .i64 (v6 : Int))).swap
         have H6 := Lib.hid h1
         clear h1 H5 N6 N7)))
  have h1 := H8.out
  have exy : (((((((((((#[.int .i64 0, .int .i64 0, .int .i64 0, .int .i64 0, .string ⟨#[]⟩, .int .i64 0, .int .i64 0, .int .i64 0, .int .i64 0, .slice none 0 0] : Array Value).setIfInBounds 0 (.int .i64 (v1 : Int))).setIfInBounds 1 (.int .i64 (v2 : Int))).setIfInBounds 2 (.int .i64 (v0 : Int))).setIfInBounds 3 (.int .i64 (v3 : Int))).setIfInBounds 4 (.string u4)).setIfInBounds 5 (.int .i64 (v5 : Int))).setIfInBounds 6 (.int .i64 (v6 : Int))).setIfInBounds 7 (.int .i64 (v7 : Int))).setIfInBounds 8 (.int .i64 (v8 : Int))) : Array Value) = rcc ⟨(v1 : Int), (v2 : Int), (v0 : Int), (v3 : Int), u4, (v5 : Int), (v6 : Int), (v7 : Int), (v8 : Int), []⟩ (.slice none 0 0) := by simp
  rw [exy] at h1
  have h2 := h1.rowNil 159 2
  have h3 : Has w (dkA (w.heap.size + 1 + 1) s10 :: blkA (w.heap.size + 1 + 1 + 1) 106 (rcc ⟨(v1 : Int), (v2 : Int), (v0 : Int), (v3 : Int), u4, (v5 : Int), (v6 : Int), (v7 : Int), (v8 : Int), []⟩ (.slice none 0 0)) :: rowA 159 2 (.slice none 0 0) ([] : List Wt).length (([] : List Wt).flatMap wtc) :: [blkA w.heap.size 106 (#[.int .i64 0, .int .i64 0, .int .i64 0, .int .i64 0, .string ⟨#[]⟩, .int .i64 0, .int .i64 0, .int .i64 0, .int .i64 0, .slice none 0 0] : Array Value)]) w8 := h2.perm (List.perm_middle (l₁ := [_, _])).symm
  have HT0 := Lib.hid h3
  clear h1 h2 h3 exy H8
  go_loopw [7] (fun i wr => ∃ (j : Nat), j ≤ v9 ∧ j ≤ 33 ∧ i = .int .i64 j ∧ Hid (∃ (l : List Wt) (v : Value) (s : Rst), many pW j s10 = (l, s) ∧ Has w (dkA (w.heap.size + 1 + 1) s :: blkA (w.heap.size + 1 + 1 + 1) 106 (rcc ⟨(v1 : Int), (v2 : Int), (v0 : Int), (v3 : Int), u4, (v5 : Int), (v6 : Int), (v7 : Int), (v8 : Int), []⟩ v) :: rowA 159 2 v l.length (l.flatMap wtc) :: [blkA w.heap.size 106 (#[.int .i64 0, .int .i64 0, .int .i64 0, .int .i64 0, .string ⟨#[]⟩, .int .i64 0, .int .i64 0, .int .i64 0, .int .i64 0, .slice none 0 0] : Array Value)]) wr)) (fun i _ => 33 - (intOf i).toNat)
  case atStart => exact ⟨0, Nat.zero_le _, Nat.zero_le _, rfl, [], .slice none 0 0, s10, rfl, HT0.out⟩
  case round =>
    obtain ⟨j, hj, hj2, rfl, HH⟩ := hrel
    obtain ⟨l, v, s, hm, h⟩ := HH.out
    have y1 := h.dkCell
    have x8 := (h.blkIn (g := w.heap.size + 1 + 1 + 1) (t := 106) (cs := rcc ⟨(v1 : Int), (v2 : Int), (v0 : Int), (v3 : Int), u4, (v5 : Int), (v6 : Int), (v7 : Int), (v8 : Int), []⟩ v) (by simp)).cell 9
    have xf := (h.blkIn (g := w.heap.size + 1 + 1 + 1) (t := 106) (cs := rcc ⟨(v1 : Int), (v2 : Int), (v0 : Int), (v3 : Int), u4, (v5 : Int), (v6 : Int), (v7 : Int), (v8 : Int), []⟩ v) (by simp)).frozen 9
    simp at x8
    have hll : l.length ≤ j := by have := (many_len pW j s10).1; rw [hm] at this; exact this
    have HR := Lib.hid h
    have HM := Lib.hid hm
    clear HH HT0 h hm
    by_cases c1 : j < v9
    case neg =>
      have hx : j = v9 ∨ (j = 32 + 1 ∧ 32 + 1 < v9) ∨ s = none := .inl (by omega)
      by_cases hok : s = some [] ∧ v9 = l.length
      · have hfin := (many_end pW v9 32 j s10 s l HM.out hj hx).1 hok
        obtain ⟨rfl, hvl⟩ := hok
        have hres := HRES.out
        rw [hfin] at hres
        have HD := Lib.hid (show decide ((some [] : Rst) = some ([] : List UInt8)) = true from rfl)
        obtain ⟨Av, cv, rfl, hat, hnc, hcm, hav⟩ := wtRow (HR.out.perm (List.perm_middle (l₁ := [_, _]))).rowOf
        have hap : ∀ a, Av = some a → a.block ≠ w.heap.size := (HR.out.perm (List.perm_middle (l₁ := [_, _]))).apart (g := w.heap.size) (t := 106) (cs := (#[.int .i64 0, .int .i64 0, .int .i64 0, .int .i64 0, .string ⟨#[]⟩, .int .i64 0, .int .i64 0, .int .i64 0, .int .i64 0, .slice none 0 0] : Array Value)) (by simp)
        have kx := HR.out.blkIn (g := w.heap.size + 1 + 1 + 1) (t := 106) (cs := rcc ⟨(v1 : Int), (v2 : Int), (v0 : Int), (v3 : Int), u4, (v5 : Int), (v6 : Int), (v7 : Int), (v8 : Int), []⟩ (.slice Av l.length cv)) (by simp)
        have ky := HR.out.blkIn (g := w.heap.size) (t := 106) (cs := (#[.int .i64 0, .int .i64 0, .int .i64 0, .int .i64 0, .string ⟨#[]⟩, .int .i64 0, .int .i64 0, .int .i64 0, .int .i64 0, .slice none 0 0] : Array Value)) (by simp)
        have hvi : ((v9 : Int) != (l.length : Int)) = false := by rw [hvl]; simp
        have q0 := kx.cell 0
        have q1 := kx.cell 1
        have q2 := kx.cell 2
        have q3 := kx.cell 3
        have q4 := kx.cell 4
        have q5 := kx.cell 5
        have q6 := kx.cell 6
        have q7 := kx.cell 7
        have q8 := kx.cell 8
        have q9 := kx.cell 9
        simp at q0 q1 q2 q3 q4 q5 q6 q7 q8 q9
        have HKX := Lib.hid kx
        have HKY := Lib.hid ky
        have HAT := Lib.hid hat
        have HAP := Lib.hid hap
        have HAV := Lib.hid hav
        cases hmy : mayR ⟨(v1 : Int), (v2 : Int), (v0 : Int), (v3 : Int), u4, (v5 : Int), (v6 : Int), (v7 : Int), (v8 : Int), l⟩
        · have HMY := Lib.hid (rMayR_c ⟨(v1 : Int), (v2 : Int), (v0 : Int), (v3 : Int), u4, (v5 : Int), (v6 : Int), (v7 : Int), (v8 : Int), l⟩ false hmy Av l.length cv wr hat (by omega))
          rw [if_neg (by rw [hmy]; simp)] at hres
          subst hres
          clear hmy kx ky hat hap hav hfin hvl hx
          go_wp2_with (first
            | (go_at_call 84; refine HR.out.dkDone.mono ?_; rintro e w6 ⟨rfl, rfl⟩; rw [HD.out])
            | (go_at_call 98; refine HMY.out.mono ?_; rintro e w7 ⟨rfl, hb7⟩
               have kx := HKX.out.below hb7 HKX.out.lt
               have ky := HKY.out.below hb7 HKY.out.lt
               have bel := HR.out.bel.trans (hb7.mono HR.out.bel.size)
               have q0 := kx.cell 0
               have q1 := kx.cell 1
               have q2 := kx.cell 2
               have q3 := kx.cell 3
               have q4 := kx.cell 4
               have q5 := kx.cell 5
               have q6 := kx.cell 6
               have q7 := kx.cell 7
               have q8 := kx.cell 8
               have q9 := kx.cell 9
               have p0 := ky.cell 0
               have f0 := ky.frozen 0
               have p1 := ky.cell 1
               have f1 := ky.frozen 1
               have p2 := ky.cell 2
               have f2 := ky.frozen 2
               have p3 := ky.cell 3
               have f3 := ky.frozen 3
               have p4 := ky.cell 4
               have f4 := ky.frozen 4
               have p5 := ky.cell 5
               have f5 := ky.frozen 5
               have p6 := ky.cell 6
               have f6 := ky.frozen 6
               have p7 := ky.cell 7
               have f7 := ky.frozen 7
               have p8 := ky.cell 8
               have f8 := ky.frozen 8
               have p9 := ky.cell 9
               have f9 := ky.frozen 9
               simp at q0 q1 q2 q3 q4 q5 q6 q7 q8 q9 p0 p1 p2 p3 p4 p5 p6 p7 p8 p9))
          refine ret_rc rfl rfl ky.all10 rfl rfl ⟨rfl, ((((((((((bel).setCell (by exact Nat.le_refl _) _).setCell (by exact Nat.le_refl _) _).setCell (by exact Nat.le_refl _) _).setCell (by exact Nat.le_refl _) _).setCell (by exact Nat.le_refl _) _).setCell (by exact Nat.le_refl _) _).setCell (by exact Nat.le_refl _) _).setCell (by exact Nat.le_refl _) _).setCell (by exact Nat.le_refl _) _).setCell (by exact Nat.le_refl _) _⟩
        · have HMY := Lib.hid (rMayR_c ⟨(v1 : Int), (v2 : Int), (v0 : Int), (v3 : Int), u4, (v5 : Int), (v6 : Int), (v7 : Int), (v8 : Int), l⟩ true hmy Av l.length cv wr hat (by omega))
          rw [if_pos ⟨rfl, hmy⟩] at hres
          subst hres
          clear hmy kx ky hat hap hav hfin hvl hx
          go_wp2_with (first
            | (go_at_call 84; refine HR.out.dkDone.mono ?_; rintro e w6 ⟨rfl, rfl⟩; rw [HD.out])
            | (go_at_call 98; refine HMY.out.mono ?_; rintro e w7 ⟨rfl, hb7⟩
               have kx := HKX.out.below hb7 HKX.out.lt
               have ky := HKY.out.below hb7 HKY.out.lt
               have bel := HR.out.bel.trans (hb7.mono HR.out.bel.size)
               have q0 := kx.cell 0
               have q1 := kx.cell 1
               have q2 := kx.cell 2
               have q3 := kx.cell 3
               have q4 := kx.cell 4
               have q5 := kx.cell 5
               have q6 := kx.cell 6
               have q7 := kx.cell 7
               have q8 := kx.cell 8
               have q9 := kx.cell 9
               have p0 := ky.cell 0
               have f0 := ky.frozen 0
               have p1 := ky.cell 1
               have f1 := ky.frozen 1
               have p2 := ky.cell 2
               have f2 := ky.frozen 2
               have p3 := ky.cell 3
               have f3 := ky.frozen 3
               have p4 := ky.cell 4
               have f4 := ky.frozen 4
               have p5 := ky.cell 5
               have f5 := ky.frozen 5
               have p6 := ky.cell 6
               have f6 := ky.frozen 6
               have p7 := ky.cell 7
               have f7 := ky.frozen 7
               have p8 := ky.cell 8
               have f8 := ky.frozen 8
               have p9 := ky.cell 9
               have f9 := ky.frozen 9
               simp at q0 q1 q2 q3 q4 q5 q6 q7 q8 q9 p0 p1 p2 p3 p4 p5 p6 p7 p8 p9))
          have hat7 := HAT.out.below hb7
          refine ret_rc rfl rfl ky.all10 rfl rfl ⟨?_, ((((((((((bel).setCell (by exact Nat.le_refl _) _).setCell (by exact Nat.le_refl _) _).setCell (by exact Nat.le_refl _) _).setCell (by exact Nat.le_refl _) _).setCell (by exact Nat.le_refl _) _).setCell (by exact Nat.le_refl _) _).setCell (by exact Nat.le_refl _) _).setCell (by exact Nat.le_refl _) _).setCell (by exact Nat.le_refl _) _).setCell (by exact Nat.le_refl _) _⟩
          refine ⟨Av, l.length, cv, rfl, ?_, hnc, hcm, fun p hp => by have := HAV.out p hp; have := hb7.size; simp [World.setCell]; omega⟩
          refine hat7.keep fun a ha j z hz => ?_
          have hne := HAP.out a ha
          simp only [World.cell?, World.setCell, Array.getElem?_modify] at hz ⊢
          simpa [hne, hne.symm] using hz
      · have hfin := (many_end pW v9 32 j s10 s l HM.out hj hx).2 hok
        obtain rfl : res = none := by rw [← HRES.out, if_neg (fun h => hfin ⟨h.1, may_topR h.2⟩)]
        by_cases hs : s = some []
        · have hvi : ((v9 : Int) != (l.length : Int)) = true := by
            have : ¬ v9 = l.length := fun e => hok ⟨hs, e⟩
            simp; omega
          obtain ⟨A8, n8, c8, rfl⟩ := slice_form (HR.out.perm (List.perm_middle (l₁ := [_, _]))).rowOf
          have hn8 : n8 = l.length := by
            have := wtRow (HR.out.perm (List.perm_middle (l₁ := [_, _]))).rowOf
            obtain ⟨Av, cv, e, _⟩ := this
            cases e
            rfl
          subst hn8
          have HD := Lib.hid (show decide (s = some ([] : List UInt8)) = true from decide_eq_true hs)
          clear hs hok hfin hx
          have ky := HR.out.blkIn (g := w.heap.size) (t := 106) (cs := (#[.int .i64 0, .int .i64 0, .int .i64 0, .int .i64 0, .string ⟨#[]⟩, .int .i64 0, .int .i64 0, .int .i64 0, .int .i64 0, .slice none 0 0] : Array Value)) (by simp)
          have p0 := ky.cell 0
          have f0 := ky.frozen 0
          have p1 := ky.cell 1
          have f1 := ky.frozen 1
          have p2 := ky.cell 2
          have f2 := ky.frozen 2
          have p3 := ky.cell 3
          have f3 := ky.frozen 3
          have p4 := ky.cell 4
          have f4 := ky.frozen 4
          have p5 := ky.cell 5
          have f5 := ky.frozen 5
          have p6 := ky.cell 6
          have f6 := ky.frozen 6
          have p7 := ky.cell 7
          have f7 := ky.frozen 7
          have p8 := ky.cell 8
          have f8 := ky.frozen 8
          have p9 := ky.cell 9
          have f9 := ky.frozen 9
          simp at p0 p1 p2 p3 p4 p5 p6 p7 p8 p9
          have HKY := Lib.hid ky
          clear ky
          have bel := HR.out.bel
          go_wp2_with (go_at_call 84; refine HR.out.dkDone.mono ?_; rintro e w6 ⟨rfl, rfl⟩; rw [HD.out])
          refine ret_rc rfl rfl HKY.out.all10 rfl rfl ⟨rfl, ((((((((((bel).setCell (by exact Nat.le_refl _) _).setCell (by exact Nat.le_refl _) _).setCell (by exact Nat.le_refl _) _).setCell (by exact Nat.le_refl _) _).setCell (by exact Nat.le_refl _) _).setCell (by exact Nat.le_refl _) _).setCell (by exact Nat.le_refl _) _).setCell (by exact Nat.le_refl _) _).setCell (by exact Nat.le_refl _) _).setCell (by exact Nat.le_refl _) _⟩
        · have HD := Lib.hid (show decide (s = some ([] : List UInt8)) = false from decide_eq_false hs)
          clear hs hok hfin hx
          have ky := HR.out.blkIn (g := w.heap.size) (t := 106) (cs := (#[.int .i64 0, .int .i64 0, .int .i64 0, .int .i64 0, .string ⟨#[]⟩, .int .i64 0, .int .i64 0, .int .i64 0, .int .i64 0, .slice none 0 0] : Array Value)) (by simp)
          have p0 := ky.cell 0
          have f0 := ky.frozen 0
          have p1 := ky.cell 1
          have f1 := ky.frozen 1
          have p2 := ky.cell 2
          have f2 := ky.frozen 2
          have p3 := ky.cell 3
          have f3 := ky.frozen 3
          have p4 := ky.cell 4
          have f4 := ky.frozen 4
          have p5 := ky.cell 5
          have f5 := ky.frozen 5
          have p6 := ky.cell 6
          have f6 := ky.frozen 6
          have p7 := ky.cell 7
          have f7 := ky.frozen 7
          have p8 := ky.cell 8
          have f8 := ky.frozen 8
          have p9 := ky.cell 9
          have f9 := ky.frozen 9
          simp at p0 p1 p2 p3 p4 p5 p6 p7 p8 p9
          have HKY := Lib.hid ky
          clear ky
          have bel := HR.out.bel
          go_wp2_with (go_at_call 84; refine HR.out.dkDone.mono ?_; rintro e w6 ⟨rfl, rfl⟩; rw [HD.out])
          refine ret_rc rfl rfl HKY.out.all10 rfl rfl ⟨rfl, ((((((((((bel).setCell (by exact Nat.le_refl _) _).setCell (by exact Nat.le_refl _) _).setCell (by exact Nat.le_refl _) _).setCell (by exact Nat.le_refl _) _).setCell (by exact Nat.le_refl _) _).setCell (by exact Nat.le_refl _) _).setCell (by exact Nat.le_refl _) _).setCell (by exact Nat.le_refl _) _).setCell (by exact Nat.le_refl _) _).setCell (by exact Nat.le_refl _) _⟩
    by_cases c2 : j < 33
    case neg =>
      have hx : j = v9 ∨ (j = 32 + 1 ∧ 32 + 1 < v9) ∨ s = none := .inr (.inl (by omega))
      by_cases hok : s = some [] ∧ v9 = l.length
      · have hfin := (many_end pW v9 32 j s10 s l HM.out hj hx).1 hok
        obtain ⟨rfl, hvl⟩ := hok
        have hres := HRES.out
        rw [hfin] at hres
        have HD := Lib.hid (show decide ((some [] : Rst) = some ([] : List UInt8)) = true from rfl)
        obtain ⟨Av, cv, rfl, hat, hnc, hcm, hav⟩ := wtRow (HR.out.perm (List.perm_middle (l₁ := [_, _]))).rowOf
        have hap : ∀ a, Av = some a → a.block ≠ w.heap.size := (HR.out.perm (List.perm_middle (l₁ := [_, _]))).apart (g := w.heap.size) (t := 106) (cs := (#[.int .i64 0, .int .i64 0, .int .i64 0, .int .i64 0, .string ⟨#[]⟩, .int .i64 0, .int .i64 0, .int .i64 0, .int .i64 0, .slice none 0 0] : Array Value)) (by simp)
        have kx := HR.out.blkIn (g := w.heap.size + 1 + 1 + 1) (t := 106) (cs := rcc ⟨(v1 : Int), (v2 : Int), (v0 : Int), (v3 : Int), u4, (v5 : Int), (v6 : Int), (v7 : Int), (v8 : Int), []⟩ (.slice Av l.length cv)) (by simp)
        have ky := HR.out.blkIn (g := w.heap.size) (t := 106) (cs := (#[.int .i64 0, .int .i64 0, .int .i64 0, .int .i64 0, .string ⟨#[]⟩, .int .i64 0, .int .i64 0, .int .i64 0, .int .i64 0, .slice none 0 0] : Array Value)) (by simp)
        have hvi : ((v9 : Int) != (l.length : Int)) = false := by rw [hvl]; simp
        have q0 := kx.cell 0
        have q1 := kx.cell 1
        have q2 := kx.cell 2
        have q3 := kx.cell 3
        have q4 := kx.cell 4
        have q5 := kx.cell 5
        have q6 := kx.cell 6
        have q7 := kx.cell 7
        have q8 := kx.cell 8
        have q9 := kx.cell 9
        simp at q0 q1 q2 q3 q4 q5 q6 q7 q8 q9
        have HKX := Lib.hid kx
        have HKY := Lib.hid ky
        have HAT := Lib.hid hat
        have HAP := Lib.hid hap
        have HAV := Lib.hid hav
        cases hmy : mayR ⟨(v1 : Int), (v2 : Int), (v0 : Int), (v3 : Int), u4, (v5 : Int), (v6 : Int), (v7 : Int), (v8 : Int), l⟩
        · have HMY := Lib.hid (rMayR_c ⟨(v1 : Int), (v2 : Int), (v0 : Int), (v3 : Int), u4, (v5 : Int), (v6 : Int), (v7 : Int), (v8 : Int), l⟩ false hmy Av l.length cv wr hat (by omega))
          rw [if_neg (by rw [hmy]; simp)] at hres
          subst hres
          clear hmy kx ky hat hap hav hfin hvl hx
          go_wp2_with (first
            | (go_at_call 84; refine HR.out.dkDone.mono ?_; rintro e w6 ⟨rfl, rfl⟩; rw [HD.out])
            | (go_at_call 98; refine HMY.out.mono ?_; rintro e w7 ⟨rfl, hb7⟩
               have kx := HKX.out.below hb7 HKX.out.lt
               have ky := HKY.out.below hb7 HKY.out.lt
               have bel := HR.out.bel.trans (hb7.mono HR.out.bel.size)
               have q0 := kx.cell 0
               have q1 := kx.cell 1
               have q2 := kx.cell 2
               have q3 := kx.cell 3
               have q4 := kx.cell 4
               have q5 := kx.cell 5
               have q6 := kx.cell 6
               have q7 := kx.cell 7
               have q8 := kx.cell 8
               have q9 := kx.cell 9
               have p0 := ky.cell 0
               have f0 := ky.frozen 0
               have p1 := ky.cell 1
               have f1 := ky.frozen 1
               have p2 := ky.cell 2
               have f2 := ky.frozen 2
               have p3 := ky.cell 3
               have f3 := ky.frozen 3
               have p4 := ky.cell 4
               have f4 := ky.frozen 4
               have p5 := ky.cell 5
               have f5 := ky.frozen 5
               have p6 := ky.cell 6
               have f6 := ky.frozen 6
               have p7 := ky.cell 7
               have f7 := ky.frozen 7
               have p8 := ky.cell 8
               have f8 := ky.frozen 8
               have p9 := ky.cell 9
               have f9 := ky.frozen 9
               simp at q0 q1 q2 q3 q4 q5 q6 q7 q8 q9 p0 p1 p2 p3 p4 p5 p6 p7 p8 p9))
          refine ret_rc rfl rfl ky.all10 rfl rfl ⟨rfl, ((((((((((bel).setCell (by exact Nat.le_refl _) _).setCell (by exact Nat.le_refl _) _).setCell (by exact Nat.le_refl _) _).setCell (by exact Nat.le_refl _) _).setCell (by exact Nat.le_refl _) _).setCell (by exact Nat.le_refl _) _).setCell (by exact Nat.le_refl _) _).setCell (by exact Nat.le_refl _) _).setCell (by exact Nat.le_refl _) _).setCell (by exact Nat.le_refl _) _⟩
        · have HMY := Lib.hid (rMayR_c ⟨(v1 : Int), (v2 : Int), (v0 : Int), (v3 : Int), u4, (v5 : Int), (v6 : Int), (v7 : Int), (v8 : Int), l⟩ true hmy Av l.length cv wr hat (by omega))
          rw [if_pos ⟨rfl, hmy⟩] at hres
          subst hres
          clear hmy kx ky hat hap hav hfin hvl hx
          go_wp2_with (first
            | (go_at_call 84; refine HR.out.dkDone.mono ?_; rintro e w6 ⟨rfl, rfl⟩; rw [HD.out])
            | (go_at_call 98; refine HMY.out.mono ?_; rintro e w7 ⟨rfl, hb7⟩
               have kx := HKX.out.below hb7 HKX.out.lt
               have ky := HKY.out.below hb7 HKY.out.lt
               have bel := HR.out.bel.trans (hb7.mono HR.out.bel.size)
               have q0 := kx.cell 0
               have q1 := kx.cell 1
               have q2 := kx.cell 2
               have q3 := kx.cell 3
               have q4 := kx.cell 4
               have q5 := kx.cell 5
               have q6 := kx.cell 6
               have q7 := kx.cell 7
               have q8 := kx.cell 8
               have q9 := kx.cell 9
               have p0 := ky.cell 0
               have f0 := ky.frozen 0
               have p1 := ky.cell 1
               have f1 := ky.frozen 1
               have p2 := ky.cell 2
               have f2 := ky.frozen 2
               have p3 := ky.cell 3
               have f3 := ky.frozen 3
               have p4 := ky.cell 4
               have f4 := ky.frozen 4
               have p5 := ky.cell 5
               have f5 := ky.frozen 5
               have p6 := ky.cell 6
               have f6 := ky.frozen 6
               have p7 := ky.cell 7
               have f7 := ky.frozen 7
               have p8 := ky.cell 8
               have f8 := ky.frozen 8
               have p9 := ky.cell 9
               have f9 := ky.frozen 9
               simp at q0 q1 q2 q3 q4 q5 q6 q7 q8 q9 p0 p1 p2 p3 p4 p5 p6 p7 p8 p9))
          have hat7 := HAT.out.below hb7
          refine ret_rc rfl rfl ky.all10 rfl rfl ⟨?_, ((((((((((bel).setCell (by exact Nat.le_refl _) _).setCell (by exact Nat.le_refl _) _).setCell (by exact Nat.le_refl _) _).setCell (by exact Nat.le_refl _) _).setCell (by exact Nat.le_refl _) _).setCell (by exact Nat.le_refl _) _).setCell (by exact Nat.le_refl _) _).setCell (by exact Nat.le_refl _) _).setCell (by exact Nat.le_refl _) _).setCell (by exact Nat.le_refl _) _⟩
          refine ⟨Av, l.length, cv, rfl, ?_, hnc, hcm, fun p hp => by have := HAV.out p hp; have := hb7.size; simp [World.setCell]; omega⟩
          refine hat7.keep fun a ha j z hz => ?_
          have hne := HAP.out a ha
          simp only [World.cell?, World.setCell, Array.getElem?_modify] at hz ⊢
          simpa [hne, hne.symm] using hz
      · have hfin := (many_end pW v9 32 j s10 s l HM.out hj hx).2 hok
        obtain rfl : res = none := by rw [← HRES.out, if_neg (fun h => hfin ⟨h.1, may_topR h.2⟩)]
        by_cases hs : s = some []
        · have hvi : ((v9 : Int) != (l.length : Int)) = true := by
            have : ¬ v9 = l.length := fun e => hok ⟨hs, e⟩
            simp; omega
          obtain ⟨A8, n8, c8, rfl⟩ := slice_form (HR.out.perm (List.perm_middle (l₁ := [_, _]))).rowOf
          have hn8 : n8 = l.length := by
            have := wtRow (HR.out.perm (List.perm_middle (l₁ := [_, _]))).rowOf
            obtain ⟨Av, cv, e, _⟩ := this
            cases e
            rfl
          subst hn8
          have HD := Lib.hid (show decide (s = some ([] : List UInt8)) = true from decide_eq_true hs)
          clear hs hok hfin hx
          have ky := HR.out.blkIn (g := w.heap.size) (t := 106) (cs := (#[.int .i64 0, .int .i64 0, .int .i64 0, .int .i64 0, .string ⟨#[]⟩, .int .i64 0, .int .i64 0, .int .i64 0, .int .i64 0, .slice none 0 0] : Array Value)) (by simp)
          have p0 := ky.cell 0
          have f0 := ky.frozen 0
          have p1 := ky.cell 1
          have f1 := ky.frozen 1
          have p2 := ky.cell 2
          have f2 := ky.frozen 2
          have p3 := ky.cell 3
          have f3 := ky.frozen 3
          have p4 := ky.cell 4
          have f4 := ky.frozen 4
          have p5 := ky.cell 5
          have f5 := ky.frozen 5
          have p6 := ky.cell 6
          have f6 := ky.frozen 6
          have p7 := ky.cell 7
          have f7 := ky.frozen 7
          have p8 := ky.cell 8
          have f8 := ky.frozen 8
          have p9 := ky.cell 9
          have f9 := ky.frozen 9
          simp at p0 p1 p2 p3 p4 p5 p6 p7 p8 p9
          have HKY := Lib.hid ky
          clear ky
          have bel := HR.out.bel
          go_wp2_with (go_at_call 84; refine HR.out.dkDone.mono ?_; rintro e w6 ⟨rfl, rfl⟩; rw [HD.out])
          refine ret_rc rfl rfl HKY.out.all10 rfl rfl ⟨rfl, ((((((((((bel).setCell (by exact Nat.le_refl _) _).setCell (by exact Nat.le_refl _) _).setCell (by exact Nat.le_refl _) _).setCell (by exact Nat.le_refl _) _).setCell (by exact Nat.le_refl _) _).setCell (by exact Nat.le_refl _) _).setCell (by exact Nat.le_refl _) _).setCell (by exact Nat.le_refl _) _).setCell (by exact Nat.le_refl _) _).setCell (by exact Nat.le_refl _) _⟩
        · have HD := Lib.hid (show decide (s = some ([] : List UInt8)) = false from decide_eq_false hs)
          clear hs hok hfin hx
          have ky := HR.out.blkIn (g := w.heap.size) (t := 106) (cs := (#[.int .i64 0, .int .i64 0, .int .i64 0, .int .i64 0, .string ⟨#[]⟩, .int .i64 0, .int .i64 0, .int .i64 0, .int .i64 0, .slice none 0 0] : Array Value)) (by simp)
          have p0 := ky.cell 0
          have f0 := ky.frozen 0
          have p1 := ky.cell 1
          have f1 := ky.frozen 1
          have p2 := ky.cell 2
          have f2 := ky.frozen 2
          have p3 := ky.cell 3
          have f3 := ky.frozen 3
          have p4 := ky.cell 4
          have f4 := ky.frozen 4
          have p5 := ky.cell 5
          have f5 := ky.frozen 5
          have p6 := ky.cell 6
          have f6 := ky.frozen 6
          have p7 := ky.cell 7
          have f7 := ky.frozen 7
          have p8 := ky.cell 8
          have f8 := ky.frozen 8
          have p9 := ky.cell 9
          have f9 := ky.frozen 9
          simp at p0 p1 p2 p3 p4 p5 p6 p7 p8 p9
          have HKY := Lib.hid ky
          clear ky
          have bel := HR.out.bel
          go_wp2_with (go_at_call 84; refine HR.out.dkDone.mono ?_; rintro e w6 ⟨rfl, rfl⟩; rw [HD.out])
          refine ret_rc rfl rfl HKY.out.all10 rfl rfl ⟨rfl, ((((((((((bel).setCell (by exact Nat.le_refl _) _).setCell (by exact Nat.le_refl _) _).setCell (by exact Nat.le_refl _) _).setCell (by exact Nat.le_refl _) _).setCell (by exact Nat.le_refl _) _).setCell (by exact Nat.le_refl _) _).setCell (by exact Nat.le_refl _) _).setCell (by exact Nat.le_refl _) _).setCell (by exact Nat.le_refl _) _).setCell (by exact Nat.le_refl _) _⟩
    cases s with
    | none =>
      have hx : j = v9 ∨ (j = 32 + 1 ∧ 32 + 1 < v9) ∨ (none : Rst) = none := .inr (.inr rfl)
      have hok : ¬ ((none : Rst) = some [] ∧ v9 = l.length) := fun h => nomatch h.1
      have hfin := (many_end pW v9 32 j s10 none l HM.out hj hx).2 hok
      obtain rfl : res = none := by rw [← HRES.out, if_neg (fun h => hfin ⟨h.1, may_topR h.2⟩)]
      have HD := Lib.hid (show decide ((none : Rst) = some ([] : List UInt8)) = false from rfl)
      clear hx hfin hok
      have ky := HR.out.blkIn (g := w.heap.size) (t := 106) (cs := (#[.int .i64 0, .int .i64 0, .int .i64 0, .int .i64 0, .string ⟨#[]⟩, .int .i64 0, .int .i64 0, .int .i64 0, .int .i64 0, .slice none 0 0] : Array Value)) (by simp)
      have p0 := ky.cell 0
      have f0 := ky.frozen 0
      have p1 := ky.cell 1
      have f1 := ky.frozen 1
      have p2 := ky.cell 2
      have f2 := ky.frozen 2
      have p3 := ky.cell 3
      have f3 := ky.frozen 3
      have p4 := ky.cell 4
      have f4 := ky.frozen 4
      have p5 := ky.cell 5
      have f5 := ky.frozen 5
      have p6 := ky.cell 6
      have f6 := ky.frozen 6
      have p7 := ky.cell 7
      have f7 := ky.frozen 7
      have p8 := ky.cell 8
      have f8 := ky.frozen 8
      have p9 := ky.cell 9
      have f9 := ky.frozen 9
      simp at p0 p1 p2 p3 p4 p5 p6 p7 p8 p9
      have HKY := Lib.hid ky
      clear ky
      have bel := HR.out.bel
      go_wp2_with (go_at_call 84; refine HR.out.dkDone.mono ?_; rintro e w6 ⟨rfl, rfl⟩; rw [HD.out])
      refine ret_rc rfl rfl HKY.out.all10 rfl rfl ⟨rfl, ((((((((((bel).setCell (by exact Nat.le_refl _) _).setCell (by exact Nat.le_refl _) _).setCell (by exact Nat.le_refl _) _).setCell (by exact Nat.le_refl _) _).setCell (by exact Nat.le_refl _) _).setCell (by exact Nat.le_refl _) _).setCell (by exact Nat.le_refl _) _).setCell (by exact Nat.le_refl _) _).setCell (by exact Nat.le_refl _) _).setCell (by exact Nat.le_refl _) _⟩
    | some b =>
      rcases e20 : ps (some b) with ⟨u, sA⟩
      rcases e21 : pn sA with ⟨q, sC⟩
      have hpc : pW (some b) = (⟨u, (q : Int)⟩, sC) := by unfold pW; simp only [e20, e21]
      have hm2 := many_snoc pW j s10 l b HM.out
      rw [hpc] at hm2
      have HM2 := Lib.hid hm2
      have N20 := Lib.hid e20
      have N21 := Lib.hid e21
      clear hpc hm2 HM e20 e21
      go_wp2_with (first
        | (go_at_call 91; refine (HR.out.dkStrE N20.out).mono ?_; rintro e wa0 ⟨rfl, h1⟩
           have x8 := (h1.blkIn (g := w.heap.size + 1 + 1 + 1) (t := 106) (cs := rcc ⟨(v1 : Int), (v2 : Int), (v0 : Int), (v3 : Int), u4, (v5 : Int), (v6 : Int), (v7 : Int), (v8 : Int), []⟩ v) (by simp)).cell 9
           have xf := (h1.blkIn (g := w.heap.size + 1 + 1 + 1) (t := 106) (cs := rcc ⟨(v1 : Int), (v2 : Int), (v0 : Int), (v3 : Int), u4, (v5 : Int), (v6 : Int), (v7 : Int), (v8 : Int), []⟩ v) (by simp)).frozen 9
           simp at x8
           have HA0 := Lib.hid h1
           clear h1 HR))
      have h1 := HA0.out.drew
      have HAd := Lib.hid h1
      clear h1 HA0
      go_region_law (first
        | (go_simp; go_at_call 83; refine (HAd.out.dkNumE N21.out).mono ?_; rintro e wc ⟨rfl, h1⟩
           have x8 := (h1.blkIn (g := w.heap.size + 1 + 1 + 1) (t := 106) (cs := rcc ⟨(v1 : Int), (v2 : Int), (v0 : Int), (v3 : Int), u4, (v5 : Int), (v6 : Int), (v7 : Int), (v8 : Int), []⟩ v) (by simp)).cell 9
           have xf := (h1.blkIn (g := w.heap.size + 1 + 1 + 1) (t := 106) (cs := rcc ⟨(v1 : Int), (v2 : Int), (v0 : Int), (v3 : Int), u4, (v5 : Int), (v6 : Int), (v7 : Int), (v8 : Int), []⟩ v) (by simp)).frozen 9
           simp at x8
           have HB := Lib.hid (h1.alloc (.cells #[.string u, .int .i64 (q : Int)] 159))
           have hbl := Blk.new wc 159 #[.string u, .int .i64 (q : Int)]
           have x9 := (HB.out.blkIn (g := w.heap.size + 1 + 1 + 1) (t := 106) (cs := rcc ⟨(v1 : Int), (v2 : Int), (v0 : Int), (v3 : Int), u4, (v5 : Int), (v6 : Int), (v7 : Int), (v8 : Int), []⟩ v) (by simp)).cell 9
           simp at x9
           clear h1 HAd)
        | (refine step_appR rfl _ _ rfl v l (by first | rfl | assumption) (HB.out.perm (List.perm_middle (l₁ := [_, _]))).rowOf wc.heap.size 1 ⟨u, (q : Int)⟩ (by first | rfl | (simp; rfl)) hbl (by omega) ?_; intro v5 w5 hr5 hg5 hob5 hf5; obtain ⟨A5, n5, c5, rfl⟩ := hf5
           have h6 := ((HB.out.perm (List.perm_middle (l₁ := [_, _]))).rowTurn hr5 hg5 hob5).perm (List.perm_middle (l₁ := [_, _])).symm
           have x8 := (h6.blkIn (g := w.heap.size + 1 + 1 + 1) (t := 106) (cs := rcc ⟨(v1 : Int), (v2 : Int), (v0 : Int), (v3 : Int), u4, (v5 : Int), (v6 : Int), (v7 : Int), (v8 : Int), []⟩ v) (by simp)).cell 9
           have xf := (h6.blkIn (g := w.heap.size + 1 + 1 + 1) (t := 106) (cs := rcc ⟨(v1 : Int), (v2 : Int), (v0 : Int), (v3 : Int), u4, (v5 : Int), (v6 : Int), (v7 : Int), (v8 : Int), []⟩ v) (by simp)).frozen 9
           simp at x8
           have h7 := (h6.swap.setBlk 9 (.slice A5 n5 c5)).swap
           have H7 := Lib.hid h7
           clear h6 h7 hr5 hg5 hob5))
      all_goals (try go_wp2_with fail)
      all_goals go_roundw
      all_goals try (case rel => exact ⟨j + 1, by omega, by omega, by go_num, l ++ [⟨u, (q : Int)⟩], .slice A5 n5 c5, sC, HM2.out, by have := H7.out; simpa using this⟩)
      all_goals (simp [intOf]; omega)

end Go.Proofs.YtiafmbfeigcinaaGreatDoor
set_option linter.unusedVariables false
set_option linter.unusedSimpArgs false
set_option maxRecDepth 100000
namespace Go.Proofs.YtiafmbfeigcinaaGreatDoor
open Go.RowKit

theorem self_eq (s : ByteArray) : (s.toList == s.toList) = true := by simp

set_option maxHeartbeats 1000000 in
theorem rSame_refl (x : It) (A1 A2 : Option Addr) (n1 n2 c1 c2 : Nat) (w : World) (h1 : ChAt w A1 n1 x.l) (h2 : ChAt w A2 n2 x.l) (hn1 : n1 ≤ 9223372036854775807) :
    Calls Tryz.prog 26 #[itv x (.slice A1 n1 c1), itv x (.slice A2 n2 c2)] w fun e w' => e = .returned (.bool true) ∧ Below w.heap.size w w' := by
  obtain rfl : n1 = n2 := h1.1.symm.trans h2.1
  obtain ⟨id, ep, pr, an, sw, sl, bw, bl, l⟩ := x
  simp only at h1 h2
  have hs := self_eq an
  have hbel := (nbl w (.cells (itc ⟨id, ep, pr, an, sw, sl, bw, bl, l⟩ (.slice A1 n1 c1)) 37)).alloc (by simp) (.cells (itc ⟨id, ep, pr, an, sw, sl, bw, bl, l⟩ (.slice A2 n1 c2)) 37)
  have H1 := Lib.hid (h1.below hbel)
  have H2 := Lib.hid (h2.below hbel)
  have HL := Lib.hid h1.1
  have HB := Lib.hid hbel
  have kx := (Blk.new w 37 (itc ⟨id, ep, pr, an, sw, sl, bw, bl, l⟩ (.slice A1 n1 c1))).below (nbl _ (.cells (itc ⟨id, ep, pr, an, sw, sl, bw, bl, l⟩ (.slice A2 n1 c2)) 37)) (by simp)
  have ky := Blk.new (w.alloc (.cells (itc ⟨id, ep, pr, an, sw, sl, bw, bl, l⟩ (.slice A1 n1 c1)) 37)) 37 (itc ⟨id, ep, pr, an, sw, sl, bw, bl, l⟩ (.slice A2 n1 c2))
  have hz : (w.alloc (.cells (itc ⟨id, ep, pr, an, sw, sl, bw, bl, l⟩ (.slice A1 n1 c1)) 37)).heap.size = w.heap.size + 1 := by simp
  rw [hz] at ky
  obtain ⟨V, hV⟩ : ∃ V, V = (w.alloc (.cells (itc ⟨id, ep, pr, an, sw, sl, bw, bl, l⟩ (.slice A1 n1 c1)) 37)).alloc (.cells (itc ⟨id, ep, pr, an, sw, sl, bw, bl, l⟩ (.slice A2 n1 c2)) 37) := ⟨_, rfl⟩
  have x8 := kx.cell 8
  have y8 := ky.cell 8
  rw [← hV] at x8 y8
  simp at x8 y8
  rw [← hV] at H1 H2 HB
  have HV := Lib.hid hV
  clear h1 h2 hbel kx ky hz hV
  go_enter Tryz.func26, Tryz.ntmps26
  go_wp2_with fail
  rw [← HV.out]
  go_loopw [5] (fun i wr => ∃ (j : Nat), j ≤ n1 ∧ i = .int .i64 j ∧ Hid (∀ p, wr.cell? p = V.cell? p) ∧ Hid (Below w.heap.size w wr)) (fun i _ => n1 - (intOf i).toNat)
  case atStart => exact ⟨0, Nat.zero_le _, rfl, Lib.hid fun _ => rfl, HB⟩
  case round =>
    obtain ⟨j, hj, rfl, HC, HBW⟩ := hrel
    have x9 := (HC.out _).trans x8
    have y9 := (HC.out _).trans y8
    by_cases hlt : j < n1
    · have hjl : j < l.length := by rw [HL.out]; exact hlt
      obtain ⟨b1, o1, rfl, hc1⟩ := H1.out.2 (by omega)
      obtain ⟨b2, o2, rfl, hc2⟩ := H2.out.2 (by omega)
      have p := hc1 j hjl
      have q := hc2 j hjl
      obtain ⟨cc, hcc⟩ : ∃ cc, l[j]'hjl = cc := ⟨_, rfl⟩
      rw [hcc] at p q
      obtain ⟨u0, u1, u2⟩ := cc
      obtain ⟨p0, p1, p2⟩ := p
      obtain ⟨q0, q1, q2⟩ := q
      have P0 := (HC.out _).trans p0
      have Q0 := (HC.out _).trans q0
      have P1 := (HC.out _).trans p1
      have Q1 := (HC.out _).trans q1
      have P2 := (HC.out _).trans p2
      have Q2 := (HC.out _).trans q2
      clear hc1 hc2 hcc
      go_wp2_with fail
      go_quiet (fail)
      have x7 : (wr.drewN nq).cell? ⟨w.heap.size, 8, none⟩ = _ := x9
      go_wp2
      go_roundw
      case rel => exact ⟨j + 1, by omega, by go_num, Lib.hid fun p => HC.out p, Lib.hid (below_drewN HBW.out nq)⟩
      case measure => simp [intOf]; omega
    · go_wp2
      go_ret
      exact ⟨rfl, HBW.out⟩

set_option maxHeartbeats 1000000 in
theorem rSameW_refl (l : List Wt) (A1 A2 : Option Addr) (n1 n2 c1 c2 : Nat) (w : World) (h1 : WtAt w A1 n1 l) (h2 : WtAt w A2 n2 l) (hn1 : n1 ≤ 9223372036854775807) :
    Calls Tryz.prog 99 #[.slice A1 n1 c1, .slice A2 n2 c2] w fun e w' => e = .returned (.bool true) ∧ Below w.heap.size w w' := by
  obtain rfl : n1 = n2 := h1.1.symm.trans h2.1
  have H1 := Lib.hid h1
  have H2 := Lib.hid h2
  have HL := Lib.hid h1.1
  clear h1 h2
  go_enter Tryz.func99, Tryz.ntmps99
  go_wp2_with fail
  go_loopw [5] (fun i wr => ∃ (j : Nat), j ≤ n1 ∧ i = .int .i64 j ∧ Hid (∀ p, wr.cell? p = w.cell? p) ∧ Hid (Below w.heap.size w wr)) (fun i _ => n1 - (intOf i).toNat)
  case atStart => exact ⟨0, Nat.zero_le _, rfl, Lib.hid fun _ => rfl, Lib.hid (Below.refl _ _)⟩
  case round =>
    obtain ⟨j, hj, rfl, HC, HBW⟩ := hrel
    by_cases hlt : j < n1
    · have hjl : j < l.length := by rw [HL.out]; exact hlt
      obtain ⟨b1, o1, rfl, hc1⟩ := H1.out.2 (by omega)
      obtain ⟨b2, o2, rfl, hc2⟩ := H2.out.2 (by omega)
      have p := hc1 j hjl
      have q := hc2 j hjl
      obtain ⟨cc, hcc⟩ : ∃ cc, l[j]'hjl = cc := ⟨_, rfl⟩
      rw [hcc] at p q
      obtain ⟨u0, u1⟩ := cc
      obtain ⟨p0, p1⟩ := p
      obtain ⟨q0, q1⟩ := q
      have P0 := (HC.out _).trans p0
      have Q0 := (HC.out _).trans q0
      have P1 := (HC.out _).trans p1
      have Q1 := (HC.out _).trans q1
      clear hc1 hc2 hcc
      go_wp2_with fail
      go_quiet (fail)
      go_wp2
      go_roundw
      case rel => exact ⟨j + 1, by omega, by go_num, Lib.hid fun p => HC.out p, Lib.hid (below_drewN HBW.out nq)⟩
      case measure => simp [intOf]; omega
    · go_wp2
      go_ret
      exact ⟨rfl, HBW.out⟩
set_option maxHeartbeats 1000000 in
theorem rSameR_refl (x : Rc) (A1 A2 : Option Addr) (n1 n2 c1 c2 : Nat) (w : World) (h1 : WtAt w A1 n1 x.l) (h2 : WtAt w A2 n2 x.l) (hn1 : n1 ≤ 9223372036854775807) :
    Calls Tryz.prog 48 #[rcv x (.slice A1 n1 c1), rcv x (.slice A2 n2 c2)] w fun e w' => e = .returned (.bool true) ∧ Below w.heap.size w w' := by
  obtain ⟨id, ep, st, pr, an, sw, sl, bw, bl, l⟩ := x
  simp only at h1 h2
  have hs := self_eq an
  have hbel := (nbl w (.cells (rcc ⟨id, ep, st, pr, an, sw, sl, bw, bl, l⟩ (.slice A1 n1 c1)) 106)).alloc (by simp) (.cells (rcc ⟨id, ep, st, pr, an, sw, sl, bw, bl, l⟩ (.slice A2 n2 c2)) 106)
  have HS := Lib.hid (rSameW_refl l A1 A2 n1 n2 c1 c2 _ (h1.below hbel) (h2.below hbel) hn1)
  have HB := Lib.hid hbel
  clear h1 h2 hbel
  go_enter Tryz.func48, Tryz.ntmps48
  go_wp2_with (go_at_call 99; refine HS.out.mono ?_; rintro e w1 ⟨rfl, hb1⟩; have hb2 := HB.out.trans (hb1.mono (by simp; omega)))
  go_ret
  exact ⟨rfl, hb2⟩
end Go.Proofs.YtiafmbfeigcinaaGreatDoor
set_option linter.unusedVariables false
set_option linter.unusedSimpArgs false
set_option maxRecDepth 100000
namespace Go.Proofs.YtiafmbfeigcinaaGreatDoor
open Go.RowKit

set_option maxHeartbeats 1000000 in
theorem takeN_c (t : ByteArray) (w : World) (ht : t.size ≤ 225000000000000) :
    Calls Tryz.prog 38 #[.string t] w fun e w' => e = AnsN (tkN (sb t)) ∧ Below w.heap.size w w' := by
  have h0 := ((Has.nil (Below.refl w.heap.size w)).newBlk 3 #[.int .i64 0])
  have HN := Lib.hid (h0.rdNew t ht)
  obtain ⟨s0, hs0⟩ : ∃ s0 : Rst, (if t.size ≤ 2048 then some (sb t) else none) = s0 := ⟨_, rfl⟩
  rw [hs0] at HN
  have hk : tkN (sb t) = if (pn s0).2 = some [] then some ((pn s0).1 : Int) else none := by
    rcases s0_long t hs0 with rfl | ⟨rfl, hl⟩
    · rfl
    · rw [tkN_long hl]; rfl
  rw [hk]
  generalize e1 : (pn s0).1 = a
  generalize e2 : (pn s0).2 = s1
  have N1 := Lib.hid e1
  have N2 := Lib.hid e2
  clear hs0 h0 hk e1 e2
  by_cases hd : s1 = some []
  · rw [if_pos hd]
    have HD := Lib.hid (show decide (s1 = some []) = true from decide_eq_true hd)
    have HNE := Lib.hid (show s1 ≠ none from by rw [hd]; simp)
    clear hd
    go_enter Tryz.func38, Tryz.ntmps38
    go_wp2_with (first
      | (go_at_call 80; refine HN.out.mono ?_; rintro e w1 ⟨g, rfl, h1⟩; have H1 := Lib.hid h1; clear h1 HN)
      | (go_at_call 81; refine (H1.out.rdNums [0] (by simp) rfl rfl (by simp) (fun i hi => by simp at hi; subst hi; exact ⟨0, rfl⟩)).mono ?_; rintro e w2 ⟨vs, ⟨rfl, hvl, hvb, hvs⟩, h2⟩
         obtain ⟨q, rfl⟩ : ∃ u, vs = [u] := by
           match vs, hvl with
           | [u], _ => exact ⟨u, rfl⟩
         have e1 : sets #[Value.int .i64 0] (ivs [0] [q]) = #[.int .i64 (q : Int)] := by simp [sets, ivs]
         rw [e1] at h2
         have h3 : Has w (rdA g (pn s0).2 :: _) w2 := h2
         rw [N2.out] at h3
         have hq : q = a := by
           have hne : (pns [0].length s0).2 ≠ none := by show (pn s0).2 ≠ none; rw [N2.out]; exact HNE.out
           have := hvs hne
           have h4 : [q] = [(pn s0).1] := this
           rw [N1.out] at h4
           simpa using h4
         subst hq
         have x0 := h3.swap.blk.1.cell 0
         simp at x0
         have H3 := Lib.hid h3
         have bel := h3.bel
         clear h2 h3 H1 e1 hvs)
      | (go_at_call 82; refine H3.out.rdDone.mono ?_; rintro e w6 ⟨rfl, rfl⟩; rw [HD.out]))
    go_ret2
    exact ⟨rfl, bel⟩
  · rw [if_neg hd]
    have HD := Lib.hid (show decide (s1 = some []) = false from decide_eq_false hd)
    clear hd
    go_enter Tryz.func38, Tryz.ntmps38
    go_wp2_with (first
      | (go_at_call 80; refine HN.out.mono ?_; rintro e w1 ⟨g, rfl, h1⟩; have H1 := Lib.hid h1; clear h1 HN)
      | (go_at_call 81; refine (H1.out.rdNums [0] (by simp) rfl rfl (by simp) (fun i hi => by simp at hi; subst hi; exact ⟨0, rfl⟩)).mono ?_; rintro e w2 ⟨vs, ⟨rfl, hvl, hvb, hvs⟩, h2⟩
         have h3 : Has w (rdA g (pn s0).2 :: _) w2 := h2
         rw [N2.out] at h3
         have H3 := Lib.hid h3
         have bel := h3.bel
         clear h2 h3 H1 hvs)
      | (go_at_call 82; refine H3.out.rdDone.mono ?_; rintro e w6 ⟨rfl, rfl⟩; rw [HD.out]))
    go_ret2
    exact ⟨rfl, bel⟩
theorem AnsN_two (o : Option Int) : ∃ a k : Int, AnsN o = .returned (.tuple #[.int .i64 a, .int .i64 k]) := by
  cases o with
  | none => exact ⟨0, 4, rfl⟩
  | some x => exact ⟨x, 0, rfl⟩
theorem AnsS_two (o : Option (Int × Int)) : ∃ a b k : Int, AnsS o = .returned (.tuple #[.agg #[.int .i64 a, .int .i64 b], .int .i64 k]) := by
  cases o with
  | none => exact ⟨0, 0, 4, rfl⟩
  | some x => exact ⟨x.1, x.2, 0, rfl⟩
theorem AnsV_two (o : Option (ByteArray × Bool)) : ∃ (s : ByteArray) (d : Bool) (k : Int), AnsV o = .returned (.tuple #[.string s, .bool d, .int .i64 k]) := by
  cases o with
  | none => exact ⟨⟨#[]⟩, false, 4, rfl⟩
  | some x => exact ⟨x.1, x.2, 0, rfl⟩
theorem AnsI_two (o : Option It) : ∃ (x : It) (k : Int), ∀ w e w', AnsI o w e w' → ∃ A n c, e = .returned (.tuple #[itv x (.slice A n c), .int .i64 k]) ∧ ChAt w' A n x.l ∧ n ≤ 9223372036854775807 := by
  cases o with
  | none => exact ⟨zI, 4, fun w e w' h => ⟨none, 0, 0, h, ChAt.nil _ _, by omega⟩⟩
  | some x => exact ⟨x, 0, fun w e w' ⟨A, n, c, h1, h2, h3, h4, _⟩ => ⟨A, n, c, h1, h2, by omega⟩⟩
theorem AnsR_two (o : Option Rc) : ∃ (x : Rc) (k : Int), ∀ w e w', AnsR o w e w' → ∃ A n c, e = .returned (.tuple #[rcv x (.slice A n c), .int .i64 k]) ∧ WtAt w' A n x.l ∧ n ≤ 9223372036854775807 := by
  cases o with
  | none => exact ⟨zR, 4, fun w e w' h => ⟨none, 0, 0, h, WtAt.nil _ _, by omega⟩⟩
  | some x => exact ⟨x, 0, fun w e w' ⟨A, n, c, h1, h2, h3, h4, _⟩ => ⟨A, n, c, h1, h2, by omega⟩⟩
end Go.Proofs.YtiafmbfeigcinaaGreatDoor
