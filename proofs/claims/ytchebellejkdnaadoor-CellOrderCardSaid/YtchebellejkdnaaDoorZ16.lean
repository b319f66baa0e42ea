/-
  Layer 11: the statements' own examples.
  Layer 11, the code: the function literals of TakeIntent, TakeRecord.
  Layer 11, the code: TakeIntent, TakeRecord.
-/
import Derived.Test.YtchebellejkdnaaDoorZ15
import Derived.Test.YtchebellejkdnaaDoorZ13
set_option linter.unusedVariables false
set_option linter.unusedSimpArgs false
set_option maxRecDepth 100000
namespace Go.Proofs.YtchebellejkdnaaDoor
open Go.RowKit

theorem aw_rk : rk 105 (sb ⟨#[105, 97, 0, 0]⟩) = some ([97], []) := by
  unfold rk
  rw [if_pos (show (sb ⟨#[105, 97, 0, 0]⟩).head? = some 105 from rfl), show (sb ⟨#[105, 97, 0, 0]⟩).drop 1 = esc [97] ++ 0 :: 0 :: [] by rfl, tkey_okey [97] 1000 [] (by decide)]
  rfl
set_option maxHeartbeats 400000 in
theorem awake_c (w : World) (hM : MaxL w) :
    Calls Tryd.prog 16 #[] w fun e w' => e = .returned (.bool true) ∧ Below w.heap.size w w' := by
  have hT2 := threshold_c 2 (by decide) (by decide) w
  rw [show ((2 : Nat) : Int) = 2 from rfl] at hT2
  have T2 := Lib.hid hT2
  clear hT2
  have e2 : str2 [103, UInt8.ofNat 2] 0 = .returned (.tuple #[.string ⟨#[103, 2]⟩, .int .i64 0]) := rfl
  rw [e2] at T2
  have e7 : str2 [] 2 = .returned (.tuple #[.string ⟨#[]⟩, .int .i64 2]) := rfl
  have eK : markK [105] ⟨#[97]⟩ [] = .returned (.tuple #[.string ⟨#[105, 97, 0, 0]⟩, .int .i64 0]) := by kernel_rfl
  have eR : str2 [97] 0 = .returned (.tuple #[.string ⟨#[97]⟩, .int .i64 0]) := rfl
  have v1 : isV ⟨#[120]⟩ true = true := by decide
  have v2 : isV ⟨#[120]⟩ false = false := by decide
  have v3 : isV ⟨#[]⟩ false = true := by decide
  obtain ⟨vx, hvx⟩ : ∃ vx : ByteArray, ⟨(txV ⟨#[120]⟩ true).toArray⟩ = vx := ⟨_, rfl⟩
  obtain ⟨vg, hvg⟩ : ∃ vg : ByteArray, ⟨(txV ⟨#[]⟩ false).toArray⟩ = vg := ⟨_, rfl⟩
  have eV1 : ansT (isV ⟨#[120]⟩ true) (txV ⟨#[120]⟩ true) = .returned (.tuple #[.string vx, .int .i64 0]) := by rw [v1, ← hvx]; rfl
  have eV2 : ansT (isV ⟨#[120]⟩ false) (txV ⟨#[120]⟩ false) = .returned (.tuple #[.string ⟨#[]⟩, .int .i64 2]) := by rw [v2]; rfl
  have eV3 : ansT (isV ⟨#[]⟩ false) (txV ⟨#[]⟩ false) = .returned (.tuple #[.string vg, .int .i64 0]) := by rw [v3, ← hvg]; rfl
  have eT1 : AnsV (tkV (sb vx)) = .returned (.tuple #[.string ⟨#[120]⟩, .bool true, .int .i64 0]) := by
    rw [← hvx]
    show AnsV (tkV (txV ⟨#[120]⟩ true)) = _
    rw [tkV_tx _ _ v1]
    rfl
  have eT2 : AnsV (tkV (sb vg)) = .returned (.tuple #[.string ⟨#[]⟩, .bool false, .int .i64 0]) := by
    rw [← hvg]
    show AnsV (tkV (txV ⟨#[]⟩ false)) = _
    rw [tkV_tx _ _ v3]
    rfl
  have z1 : vx.size ≤ 225000000000000 := by
    rw [← hvx]
    show (txV ⟨#[120]⟩ true).length ≤ _
    have := txV_len _ _ v1
    omega
  have z2 : vg.size ≤ 225000000000000 := by
    rw [← hvg]
    show (txV ⟨#[]⟩ false).length ≤ _
    have := txV_len _ _ v3
    omega
  clear hvx hvg v1 v2 v3 e2
  have z3 : (⟨#[105, 97, 0, 0]⟩ : ByteArray).size ≤ 150000000000000 := by decide
  have E7 := Lib.hid e7
  have EK := Lib.hid eK
  have ER := Lib.hid eR
  have EV1 := Lib.hid eV1
  have EV2 := Lib.hid eV2
  have EV3 := Lib.hid eV3
  have ET1 := Lib.hid eT1
  have ET2 := Lib.hid eT2
  clear e7 eK eR eV1 eV2 eV3 eT1 eT2
  go_enter Tryd.func16, Tryd.ntmps16
  go_wp2_with (first
    | (go_at_call 40; with_reducible refine T2.out.mono ?_; rintro e w1 ⟨rfl, b1⟩; clear T2)
    | (go_at_call 40; with_reducible refine (threshold_no 7 (.inr (by decide)) _).mono ?_; rintro e w2 ⟨he, b2⟩; rw [E7.out] at he; subst he; have b2 := b1.trans (b2.mono b1.size); have m2 := hM.below b2)
    | (go_at_call 37; with_reducible refine (intentKey_c ⟨#[97]⟩ _ m2).mono ?_; rintro e w3 ⟨he, b3⟩; rw [EK.out] at he; subst he; have b3 := b2.trans (b3.mono b2.size))
    | (go_at_call 43; with_reducible refine (readIntent_c ⟨#[105, 97, 0, 0]⟩ _ z3 _ aw_rk).mono ?_; rintro e w4 ⟨he, b4⟩; rw [ER.out] at he; subst he; have b4 := b3.trans (b4.mono b3.size))
    | (go_at_call 28; with_reducible refine (version_c ⟨#[120]⟩ true _).mono ?_; rintro e w5 ⟨he, b5⟩; rw [EV1.out] at he; subst he; have b5 := b4.trans (b5.mono b4.size))
    | (go_at_call 28; with_reducible refine (version_c ⟨#[120]⟩ false _).mono ?_; rintro e w6 ⟨he, b6⟩; rw [EV2.out] at he; subst he; have b6 := b5.trans (b6.mono b5.size))
    | (go_at_call 28; with_reducible refine (version_c ⟨#[]⟩ false _).mono ?_; rintro e w7 ⟨he, b7⟩; rw [EV3.out] at he; subst he; have b7 := b6.trans (b7.mono b6.size))
    | (go_at_call 32; with_reducible refine (takeV_c vx _ z1).mono ?_; rintro e w8 ⟨he, b8⟩; rw [ET1.out] at he; subst he; have b8 := b7.trans (b8.mono b7.size))
    | (go_at_call 32; with_reducible refine (takeV_c vg _ z2).mono ?_; rintro e w9 ⟨he, b9⟩; rw [ET2.out] at he; subst he; have b9 := b8.trans (b9.mono b8.size))
    | (go_at_call 41; with_reducible refine (bound_c _).mono ?_; rintro e w10 ⟨rfl, rfl⟩))
  go_ret
  exact ⟨rfl, b9⟩
end Go.Proofs.YtchebellejkdnaaDoor
set_option linter.unusedVariables false
set_option linter.unusedSimpArgs false
set_option maxRecDepth 100000
namespace Go.Proofs.YtchebellejkdnaaDoor
open Go.RowKit

section
variable {w V V' : World} {l T : List As} {A : As} {F : Nat → Prop} {g : Nat}
theorem Sep.memL (h : Sep V l F) (hm : A ∈ l) : ∃ F1, A.p V F1 ∧ ∀ k, F1 k → F k := by
  induction l generalizing F with
  | nil => cases hm
  | cons B l ih =>
    obtain ⟨F1, F2, h1, h2, h3, h4⟩ := h
    rcases List.mem_cons.1 hm with rfl | hm
    · exact ⟨F1, h1, fun k e => (h4 k).2 (.inl e)⟩
    · obtain ⟨F3, h5, h6⟩ := ih h2 hm
      exact ⟨F3, h5, fun k e => (h4 k).2 (.inr (h6 k e))⟩
theorem Has.blkIn {t : TypeId} {cs : Array Value} (h : Has w l V) (hm : blkA g t cs ∈ l) : Blk V g t cs := by
  obtain ⟨⟨F, h1, h2⟩, _⟩ := h
  obtain ⟨F1, h3, h4⟩ := h1.memL hm
  exact h3.1
end
theorem infoCh : (Tryd.prog.info? 77).map (fun i => (i.zero, i.size, i.bytes)) = some (some (.agg #[.int .i64 0, .string ⟨#[]⟩, .bool false]), 3, 32) := by kernel_rfl
theorem infoWt : (Tryd.prog.info? 89).map (fun i => (i.zero, i.size, i.bytes)) = some (some (.agg #[.string ⟨#[]⟩, .int .i64 0]), 2, 24) := by kernel_rfl
theorem chc_len : ∀ l : List Ch, (l.flatMap chc).length = l.length * 3
  | [] => rfl
  | c :: l => by rw [List.flatMap_cons, List.length_append, chc_len l, List.length_cons]; show 3 + _ = _; omega
theorem wtc_len : ∀ l : List Wt, (l.flatMap wtc).length = l.length * 2
  | [] => rfl
  | c :: l => by rw [List.flatMap_cons, List.length_append, wtc_len l, List.length_cons]; show 2 + _ = _; omega
theorem lay_new (W : World) (cs : Array Value) (t : TypeId) : ∀ j u, cs.toList[j]? = some u → (W.alloc (.cells cs t)).cell? ((⟨W.heap.size, 0, none⟩ : Addr).add j) = some u := by
  intro j u hj
  rw [Go.WideShapes.add_plain, Nat.zero_add, (Blk.new W t cs).cell j]
  simpa using hj

/-- The intent that is read, its record; beside it: the reader's variable, the row of changes. -/
def xI (x rb g : Nat) (y : It) (v : Value) (l : List Ch) : List As := [blkA x 26 (itc y v), blkA rb 95 #[pt g], rowA 77 3 v l.length (l.flatMap chc)]
def xR (x rb g : Nat) (y : Rc) (v : Value) (l : List Wt) : List As := [blkA x 37 (rcc y v), blkA rb 95 #[pt g], rowA 89 2 v l.length (l.flatMap wtc)]

set_option maxHeartbeats 1000000 in
theorem closI (x rb g : Nat) (y : It) (w : World) (T : List As) (V : World) (s : Rst) (v : Value) (l : List Ch) (hl : l.length ≤ 2048) (h : Has w (rdA g s :: (xI x rb g y v l ++ T)) V) :
    Calls Tryd.prog 74 #[pt rb, pt x] V fun e w' => e = .returned (.tuple #[]) ∧ ∃ (a : Ch) (v' : Value), ((pC s).2 ≠ none → a = (pC s).1) ∧ Has w (rdA g (pC s).2 :: (xI x rb g y v' (l ++ [a]) ++ T)) w' := by
  obtain ⟨i0, hi0, hz0, hz1, hz2⟩ := info_parts infoCh
  have h1 : Has w (rdA g s :: blkA V.heap.size 77 #[.int .i64 0, .string ⟨#[]⟩, .bool false] :: blkA x 26 (itc y v) :: blkA rb 95 #[pt g] :: rowA 77 3 v l.length (l.flatMap chc) :: T) (V.alloc (.cells #[.int .i64 0, .string ⟨#[]⟩, .bool false] 77)) := (h.newBlk _ _).swap
  have r1 := (h1.blkIn (g := rb) (t := 95) (cs := #[pt g]) (by simp)).cell 0
  simp at r1
  have H1 := Lib.hid h1
  have HXr := Lib.hid (h1.perm (List.perm_middle (l₁ := [_, _, _, _]))).rowOf
  clear h h1
  go_enter Tryd.func74, Tryd.ntmps74
  go_wp2_with (first
    | (go_at_call 70; refine (H1.out.rdNums [0] (by simp) rfl rfl (by simp) (fun i hi => by simp at hi; subst hi; exact ⟨0, rfl⟩)).mono ?_; rintro e w1 ⟨vs, ⟨rfl, hvl, hvb, hvs⟩, h2⟩
       obtain ⟨q, rfl⟩ : ∃ u, vs = [u] := by
         match vs, hvl with
         | [u], _ => exact ⟨u, rfl⟩
       have e1 : sets #[.int .i64 0, .string ⟨#[]⟩, .bool false] (ivs [0] [q]) = #[.int .i64 (q : Int), .string ⟨#[]⟩, .bool false] := by simp [sets, ivs]
       rw [e1] at h2
       have r2 := (h2.blkIn (g := rb) (t := 95) (cs := #[pt g]) (by simp)).cell 0
       simp at r2
       have H2 := Lib.hid h2
       clear h2 e1 H1 r1)
    | (go_at_call 75; refine H2.out.rdFlag.mono ?_; rintro e w2 ⟨d, ⟨rfl, hd⟩, h3⟩
       have z2 := h3.swap.blk.1.cell 2
       have zf := h3.swap.blk.1.frozen 2
       simp at z2
       have h3 := (h3.swap.setBlk 2 (.bool d)).swap
       have r3 := (h3.blkIn (g := rb) (t := 95) (cs := #[pt g]) (by simp)).cell 0
       simp at r3
       have H3 := Lib.hid h3
       clear h3 H2 r2)
    | (go_at_call 71; refine H3.out.rdStr.mono ?_; rintro e w3 ⟨u, ⟨rfl, hu⟩, h4⟩
       have z1 := h4.swap.blk.1.cell 1
       have zg := h4.swap.blk.1.frozen 1
       simp at z1
       have h4 := (h4.swap.setBlk 1 (.string u)).swap
       have c0 := h4.swap.blk.1.cell 0
       have c1 := h4.swap.blk.1.cell 1
       have c2 := h4.swap.blk.1.cell 2
       have x0 := (h4.blkIn (g := x) (t := 26) (cs := itc y v) (by simp)).cell 8
       simp at c0 c1 c2 x0
       have H5 := Lib.hid (h4.alloc (.cells #[.int .i64 (q : Int), .string u, .bool d] 77))
       clear h4 H3 r3)
    | (at_builtin; refine wpList_append_own_at _ rfl _ _ 24 rfl 0 77 i0 _ 3 32 Tryd.underlying24 hi0 hz0 hz1 hz2 rfl (by decide) v l.length (l.flatMap chc) rfl ?ho ⟨w3.heap.size, 0, none⟩ 1 1 (chc (⟨(q : Int), u, d⟩ : Ch)) ?hx ?hl ?hn ?h1 ?h2 ?h3 (Nat.zero_le _) ?_))
  case ho => exact (H5.out.perm (List.perm_middle (l₁ := [_, _, _, _]))).rowOf
  case hx => first | rfl | (simp [World.setCell]; rfl)
  case hl => rfl
  case hn => have := lay_new (w3.setCell ⟨V.heap.size, 1, none⟩ (.string u)) #[.int .i64 (q : Int), .string u, .bool d] 77; simpa [World.setCell, chc] using this
  case h1 => intro u hu; simp [chc] at hu; rcases hu with rfl | rfl | rfl <;> rfl
  case h2 => unfold maxLen; omega
  case h3 => omega
  intro v' w5 hown hg _ hob
  obtain ⟨Av, nv, cv, hve⟩ := slice_form hown
  have h6 := (H5.out.perm (List.perm_middle (l₁ := [_, _, _, _]))).rowTurn hown hg (by simpa [World.setCell] using hob)
  have h7 := h6.perm (List.perm_middle (l₁ := [_, _, _]))
  subst hve
  have x8 := h7.blk.1.cell 8
  have xf := h7.blk.1.frozen 8
  simp at x8
  have H8 := Lib.hid (h7.setBlk 8 (.slice Av nv cv))
  clear hown hg hob h6 h7
  go_wp2
  go_end0
  refine ⟨rfl, (⟨(q : Int), u, d⟩ : Ch), .slice Av nv cv, fun hne => ?_, ?_⟩
  · have k3 : (ps (pf (pn s).2).2).2 ≠ none := hne
    have k2 : (pf (pn s).2).2 ≠ none := fun e => k3 (by rw [e]; rfl)
    have k1 : (pn s).2 ≠ none := fun e => k2 (by rw [e]; rfl)
    have j1 : [q] = [(pn s).1] := hvs k1
    have j2 := hd k2
    have j3 := hu k3
    unfold pC
    simp only at j1 j2 j3 ⊢
    rw [j2, j3]
    simp at j1
    rw [j1]
    rfl
  have h9 := H8.out
  have hlen : (l ++ [(⟨(q : Int), u, d⟩ : Ch)]).length = l.length + 1 := by simp
  have hfl : (l ++ [(⟨(q : Int), u, d⟩ : Ch)]).flatMap chc = l.flatMap chc ++ chc (⟨(q : Int), u, d⟩ : Ch) := by simp
  unfold xI
  rw [hlen, hfl]
  have h10 := ((h9.perm (List.perm_middle (l₁ := [_, _, _]))).tail).perm (List.perm_middle (l₁ := [_, _]))
  exact h10.perm (List.Perm.cons _ (List.Perm.cons _ (List.Perm.swap _ _ _)))

set_option maxHeartbeats 1000000 in
theorem closR (x rb g : Nat) (y : Rc) (w : World) (T : List As) (V : World) (s : Rst) (v : Value) (l : List Wt) (hl : l.length ≤ 2048) (h : Has w (rdA g s :: (xR x rb g y v l ++ T)) V) :
    Calls Tryd.prog 77 #[pt rb, pt x] V fun e w' => e = .returned (.tuple #[]) ∧ ∃ (a : Wt) (v' : Value), ((pW s).2 ≠ none → a = (pW s).1) ∧ Has w (rdA g (pW s).2 :: (xR x rb g y v' (l ++ [a]) ++ T)) w' := by
  obtain ⟨i0, hi0, hz0, hz1, hz2⟩ := info_parts infoWt
  have h1 : Has w (rdA g s :: blkA V.heap.size 89 #[.string ⟨#[]⟩, .int .i64 0] :: blkA x 37 (rcc y v) :: blkA rb 95 #[pt g] :: rowA 89 2 v l.length (l.flatMap wtc) :: T) (V.alloc (.cells #[.string ⟨#[]⟩, .int .i64 0] 89)) := (h.newBlk _ _).swap
  have r1 := (h1.blkIn (g := rb) (t := 95) (cs := #[pt g]) (by simp)).cell 0
  simp at r1
  have H1 := Lib.hid h1
  have HXr := Lib.hid (h1.perm (List.perm_middle (l₁ := [_, _, _, _]))).rowOf
  clear h h1
  go_enter Tryd.func77, Tryd.ntmps77
  go_wp2_with (first
    | (go_at_call 71; refine H1.out.rdStr.mono ?_; rintro e w2 ⟨u, ⟨rfl, hu⟩, h3⟩
       have z2 := h3.swap.blk.1.cell 0
       have zf := h3.swap.blk.1.frozen 0
       simp at z2
       have h3 := (h3.swap.setBlk 0 (.string u)).swap
       have r3 := (h3.blkIn (g := rb) (t := 95) (cs := #[pt g]) (by simp)).cell 0
       simp at r3
       have H3 := Lib.hid h3
       clear h3 H1 r1)
    | (go_at_call 70; refine (H3.out.rdNums [1] (by simp [World.setCell]) rfl rfl (by simp) (fun i hi => by simp at hi; subst hi; exact ⟨0, rfl⟩)).mono ?_; rintro e w3 ⟨vs, ⟨rfl, hvl, hvb, hvs⟩, h4⟩
       obtain ⟨q, rfl⟩ : ∃ u, vs = [u] := by
         match vs, hvl with
         | [u], _ => exact ⟨u, rfl⟩
       have e1 : sets (#[Value.string ⟨#[]⟩, Value.int .i64 0].setIfInBounds 0 (.string u)) (ivs [1] [q]) = #[.string u, .int .i64 (q : Int)] := by simp [sets, ivs]
       rw [e1] at h4
       have c0 := h4.swap.blk.1.cell 0
       have c1 := h4.swap.blk.1.cell 1
       have x0 := (h4.blkIn (g := x) (t := 37) (cs := rcc y v) (by simp)).cell 9
       simp at c0 c1 x0
       have H5 := Lib.hid (h4.alloc (.cells #[.string u, .int .i64 (q : Int)] 89))
       clear h4 H3 r3)
    | (at_builtin; refine wpList_append_own_at _ rfl _ _ 35 rfl 0 89 i0 _ 2 24 Tryd.underlying35 hi0 hz0 hz1 hz2 rfl (by decide) v l.length (l.flatMap wtc) rfl ?ho ⟨w3.heap.size, 0, none⟩ 1 1 (wtc (⟨u, (q : Int)⟩ : Wt)) ?hx ?hl ?hn ?h1 ?h2 ?h3 (Nat.zero_le _) ?_))
  case ho => exact (H5.out.perm (List.perm_middle (l₁ := [_, _, _, _]))).rowOf
  case hx => first | rfl | (simp [World.setCell]; rfl)
  case hl => rfl
  case hn => have := lay_new w3 #[.string u, .int .i64 (q : Int)] 89; simpa [World.setCell, wtc] using this
  case h1 => intro u hu; simp [wtc] at hu; rcases hu with rfl | rfl <;> rfl
  case h2 => unfold maxLen; omega
  case h3 => omega
  intro v' w5 hown hg _ hob
  obtain ⟨Av, nv, cv, hve⟩ := slice_form hown
  have h6 := (H5.out.perm (List.perm_middle (l₁ := [_, _, _, _]))).rowTurn hown hg (by simpa [World.setCell] using hob)
  have h7 := h6.perm (List.perm_middle (l₁ := [_, _, _]))
  subst hve
  have x8 := h7.blk.1.cell 9
  have xf := h7.blk.1.frozen 9
  simp at x8
  have H8 := Lib.hid (h7.setBlk 9 (.slice Av nv cv))
  clear hown hg hob h6 h7
  go_wp2
  go_end0
  refine ⟨rfl, (⟨u, (q : Int)⟩ : Wt), .slice Av nv cv, fun hne => ?_, ?_⟩
  · have k3 : (pn (ps s).2).2 ≠ none := hne
    have k2 : (ps s).2 ≠ none := fun e => k3 (by rw [e]; rfl)
    have j1 : [q] = [(pn (ps s).2).1] := hvs k3
    have j3 := hu k2
    unfold pW
    simp only at j1 j3 ⊢
    rw [j3]
    simp at j1
    rw [j1]
  have h9 := H8.out
  have hlen : (l ++ [(⟨u, (q : Int)⟩ : Wt)]).length = l.length + 1 := by simp
  have hfl : (l ++ [(⟨u, (q : Int)⟩ : Wt)]).flatMap wtc = l.flatMap wtc ++ wtc (⟨u, (q : Int)⟩ : Wt) := by simp
  unfold xR
  rw [hlen, hfl]
  have h10 := ((h9.perm (List.perm_middle (l₁ := [_, _, _]))).tail).perm (List.perm_middle (l₁ := [_, _]))
  exact h10.perm (List.Perm.cons _ (List.Perm.cons _ (List.Perm.swap _ _ _)))
end Go.Proofs.YtchebellejkdnaaDoor
set_option linter.unusedVariables false
set_option linter.unusedSimpArgs false
set_option maxRecDepth 100000
namespace Go.Proofs.YtchebellejkdnaaDoor
open Go.RowKit

theorem pC_eats (b r : List UInt8) (h : (pC (some b)).2 = some r) : r.length < b.length := by
  rcases e : pC (some b) with ⟨c, o⟩
  rw [e] at h
  simp only at h
  subst h
  obtain ⟨e2, _⟩ := pC_back e
  injection e2 with e2
  rw [e2, List.length_append]
  have := enc_pos c.q.toNat
  unfold txC nbs
  rw [List.length_append]
  omega
theorem pW_eats (b r : List UInt8) (h : (pW (some b)).2 = some r) : r.length < b.length := by
  rcases e : pW (some b) with ⟨c, o⟩
  rw [e] at h
  simp only at h
  subst h
  obtain ⟨e2, _⟩ := pW_back e
  injection e2 with e2
  rw [e2, List.length_append]
  have := enc_pos c.k.size
  unfold txW tbs
  rw [List.length_append, List.length_append]
  omega
theorem chc_get : ∀ (l : List Ch) (i : Nat) (h : i < l.length), (l.flatMap chc)[i * 3]? = some (.int .i64 (l[i]'h).q) ∧ (l.flatMap chc)[i * 3 + 1]? = some (.string (l[i]'h).s) ∧ (l.flatMap chc)[i * 3 + 2]? = some (.bool (l[i]'h).d)
  | [], i, h => absurd h (by simp)
  | c :: l, 0, h => ⟨rfl, rfl, rfl⟩
  | c :: l, i + 1, h => by
    have := chc_get l i (by simpa using h)
    have e1 : (i + 1) * 3 = i * 3 + 3 := by omega
    rw [e1]
    simpa [chc] using this
theorem wtc_get : ∀ (l : List Wt) (i : Nat) (h : i < l.length), (l.flatMap wtc)[i * 2]? = some (.string (l[i]'h).k) ∧ (l.flatMap wtc)[i * 2 + 1]? = some (.int .i64 (l[i]'h).q)
  | [], i, h => absurd h (by simp)
  | c :: l, 0, h => ⟨rfl, rfl⟩
  | c :: l, i + 1, h => by
    have := wtc_get l i (by simpa using h)
    have e1 : (i + 1) * 2 = i * 2 + 2 := by omega
    rw [e1]
    simpa [wtc] using this
theorem chRow {w : World} {B n : Nat} {v : Value} {l : List Ch} (h : w.ownsRow B 77 3 v n (l.flatMap chc)) : ∃ A c, v = .slice A n c ∧ ChAt w A n l ∧ n ≤ c ∧ c ≤ 9223372036854775807 ∧ ∀ p, A = some p → p.block < w.heap.size := by
  have hl : l.length = n := by have := h.1; rw [chc_len] at this; omega
  rcases h.2 with ⟨rfl, h0⟩ | ⟨g, cap, cur, rfl, hb, hg, hnc, hcm, _⟩
  · exact ⟨none, 0, by rw [h0], ⟨hl, fun hm => by omega⟩, by omega, by omega, fun p hp => nomatch hp⟩
  · refine ⟨_, cap, rfl, ⟨hl, fun hm => ⟨g, 0, rfl, fun i hi => ?_⟩⟩, hnc, hcm, fun p hp => by cases hp; exact (Array.getElem?_eq_some_iff.1 hg).1⟩
    obtain ⟨h1, h2, h3⟩ := chc_get l i hi
    have c1 := World.ownsRow.cells h (g := g) rfl _ _ h1
    have c2 := World.ownsRow.cells h (g := g) rfl _ _ h2
    have c3 := World.ownsRow.cells h (g := g) rfl _ _ h3
    rw [Go.WideShapes.add_plain] at c1 c2 c3
    exact ⟨c1, by rw [Nat.add_assoc]; exact c2, by rw [Nat.add_assoc]; exact c3⟩
theorem wtRow {w : World} {B n : Nat} {v : Value} {l : List Wt} (h : w.ownsRow B 89 2 v n (l.flatMap wtc)) : ∃ A c, v = .slice A n c ∧ WtAt w A n l ∧ n ≤ c ∧ c ≤ 9223372036854775807 ∧ ∀ p, A = some p → p.block < w.heap.size := by
  have hl : l.length = n := by have := h.1; rw [wtc_len] at this; omega
  rcases h.2 with ⟨rfl, h0⟩ | ⟨g, cap, cur, rfl, hb, hg, hnc, hcm, _⟩
  · exact ⟨none, 0, by rw [h0], ⟨hl, fun hm => by omega⟩, by omega, by omega, fun p hp => nomatch hp⟩
  · refine ⟨_, cap, rfl, ⟨hl, fun hm => ⟨g, 0, rfl, fun i hi => ?_⟩⟩, hnc, hcm, fun p hp => by cases hp; exact (Array.getElem?_eq_some_iff.1 hg).1⟩
    obtain ⟨h1, h2⟩ := wtc_get l i hi
    have c1 := World.ownsRow.cells h (g := g) rfl _ _ h1
    have c2 := World.ownsRow.cells h (g := g) rfl _ _ h2
    rw [Go.WideShapes.add_plain] at c1 c2
    exact ⟨c1, by rw [Nat.add_assoc]; exact c2⟩
theorem Has.apart {w V : World} {l : List As} {A : Option Addr} {n c s m g : Nat} {E t : TypeId} {xs : List Value} {cs : Array Value} (h : Has w (rowA E s (.slice A n c) m xs :: l) V) (hm : blkA g t cs ∈ l) : ∀ a, A = some a → a.block ≠ g := by
  obtain ⟨⟨F, ⟨F1, F2, h1, h2, h3, h4⟩, _⟩, _⟩ := h
  obtain ⟨F3, a1, a2⟩ := h2.memL hm
  intro a ha e
  subst ha
  exact h3 g ((h1.2 g).2 (by rw [← e]; rfl)) (a2 g ((a1.2 g).2 rfl))
def zI : It := ⟨0, 0, 0, ⟨#[]⟩, 0, 0, 0, 0, []⟩
def zR : Rc := ⟨0, 0, 0, 0, ⟨#[]⟩, 0, 0, 0, 0, []⟩
/-- What TakeIntent, TakeRecord answer. -/
def AnsI (o : Option It) (w : World) (e : Ending) (w' : World) : Prop :=
  match o with
  | none => e = .returned (.tuple #[itv zI (.slice none 0 0), .int .i64 4])
  | some x => ∃ A n c, e = .returned (.tuple #[itv x (.slice A n c), .int .i64 0]) ∧ ChAt w' A n x.l ∧ n ≤ c ∧ c ≤ 9223372036854775807 ∧ ∀ p, A = some p → p.block < w'.heap.size
def AnsR (o : Option Rc) (w : World) (e : Ending) (w' : World) : Prop :=
  match o with
  | none => e = .returned (.tuple #[rcv zR (.slice none 0 0), .int .i64 4])
  | some x => ∃ A n c, e = .returned (.tuple #[rcv x (.slice A n c), .int .i64 0]) ∧ WtAt w' A n x.l ∧ n ≤ c ∧ c ≤ 9223372036854775807 ∧ ∀ p, A = some p → p.block < w'.heap.size
theorem four_ {α : Type} {l : List α} (h : l.length = 4) : ∃ a b c d, l = [a, b, c, d] := by
  match l, h with
  | [a, b, c, d], _ => exact ⟨a, b, c, d, rfl⟩
theorem three3 {α : Type} {l : List α} (h : l.length = 3) : ∃ a b c, l = [a, b, c] := by
  match l, h with
  | [a, b, c], _ => exact ⟨a, b, c, rfl⟩
theorem Blk.all9 {w : World} {g : Nat} {t : TypeId} {c0 c1 c2 c3 c4 c5 c6 c7 c8 v0 v1 v2 v3 v4 v5 v6 v7 v8 : Value} (h : Blk w g t #[c0, c1, c2, c3, c4, c5, c6, c7, c8]) : Blk (((((((((w.setCell ⟨g, 0, none⟩ v0).setCell ⟨g, 1, none⟩ v1).setCell ⟨g, 2, none⟩ v2).setCell ⟨g, 3, none⟩ v3).setCell ⟨g, 4, none⟩ v4).setCell ⟨g, 5, none⟩ v5).setCell ⟨g, 6, none⟩ v6).setCell ⟨g, 7, none⟩ v7).setCell ⟨g, 8, none⟩ v8) g t #[v0, v1, v2, v3, v4, v5, v6, v7, v8] := by
  have := (((((((((h.set_ 0 v0).set_ 1 v1).set_ 2 v2).set_ 3 v3).set_ 4 v4).set_ 5 v5).set_ 6 v6).set_ 7 v7).set_ 8 v8)
  simpa using this
theorem Blk.all10 {w : World} {g : Nat} {t : TypeId} {c0 c1 c2 c3 c4 c5 c6 c7 c8 c9 v0 v1 v2 v3 v4 v5 v6 v7 v8 v9 : Value} (h : Blk w g t #[c0, c1, c2, c3, c4, c5, c6, c7, c8, c9]) : Blk ((((((((((w.setCell ⟨g, 0, none⟩ v0).setCell ⟨g, 1, none⟩ v1).setCell ⟨g, 2, none⟩ v2).setCell ⟨g, 3, none⟩ v3).setCell ⟨g, 4, none⟩ v4).setCell ⟨g, 5, none⟩ v5).setCell ⟨g, 6, none⟩ v6).setCell ⟨g, 7, none⟩ v7).setCell ⟨g, 8, none⟩ v8).setCell ⟨g, 9, none⟩ v9) g t #[v0, v1, v2, v3, v4, v5, v6, v7, v8, v9] := by
  have := ((((((((((h.set_ 0 v0).set_ 1 v1).set_ 2 v2).set_ 3 v3).set_ 4 v4).set_ 5 v5).set_ 6 v6).set_ 7 v7).set_ 8 v8).set_ 9 v9)
  simpa using this

/-- How far the reader is behind it all. -/
def finI (s : Rst) : Rst := (many pC (pn (pns 4 (ps (pns 3 s).2).2).2).1 (pn (pns 4 (ps (pns 3 s).2).2).2).2).2
theorem finI_some (b : List UInt8) : finI (some b) = (rdI b).2 := rfl
theorem finI_none : finI none = none := rfl
theorem rdI_parts (b : List UInt8) {a0 a1 a2 b0 b1 b2 b3 : Nat} {u : ByteArray} {l : List Ch} (h1 : (pns 3 (some b)).2 ≠ none → [a0, a1, a2] = (pns 3 (some b)).1) (h2 : (ps (pns 3 (some b)).2).2 ≠ none → u = (ps (pns 3 (some b)).2).1)
    (h3 : (pns 4 (ps (pns 3 (some b)).2).2).2 ≠ none → [b0, b1, b2, b3] = (pns 4 (ps (pns 3 (some b)).2).2).1) (h4 : finI (some b) ≠ none → l = (many pC (pn (pns 4 (ps (pns 3 (some b)).2).2).2).1 (pn (pns 4 (ps (pns 3 (some b)).2).2).2).2).1)
    (hf : finI (some b) ≠ none) : (⟨a0, a1, a2, u, b0, b1, b2, b3, l⟩ : It) = (rdI b).1 := by
  have k4 : (pn (pns 4 (ps (pns 3 (some b)).2).2).2).2 ≠ none := fun e => hf (by unfold finI; rw [e, many_none])
  have k3 : (pns 4 (ps (pns 3 (some b)).2).2).2 ≠ none := fun e => k4 (by rw [e]; rfl)
  have k2 : (ps (pns 3 (some b)).2).2 ≠ none := pns_noneR k3
  have k1 : (pns 3 (some b)).2 ≠ none := fun e => k2 (by rw [e]; rfl)
  have j1 := h1 k1
  have j2 := h2 k2
  have j3 := h3 k3
  have j4 := h4 hf
  simp only [pns, List.cons.injEq, and_true] at j1 j3
  obtain ⟨e0, e1, e2⟩ := j1
  obtain ⟨e3, e4, e5, e6⟩ := j3
  subst e0 e1 e2 e3 e4 e5 e6 j2 j4
  rfl

theorem ret_it {fn : Func} {R : Ending → World → Prop} {a : Act} {w : World} {p u : Tmp} {g : Nat} {cs : Array Value} (hr : fn.results = #[.cell p 26, .tmp u]) (hp : a.tmps.getD p undef = .pointer (some ⟨g, 0, none⟩))
    (hB : Blk w g 26 cs) (hs : cs.size = 9) (hd : a.defers = []) (hR : R (.returned (.tuple #[.agg cs, a.tmps.getD u undef])) w) : bodyPost Tryd.prog fn R .ret a w := by
  refine bodyPost_ret ?_ hd hR
  have hp' : a.tmps[p]?.getD undef = .pointer (some ⟨g, 0, none⟩) := by simpa using hp
  simp [results, hr, hp', asAddr, run_loadVar_row w g 26 26 _ (0, 0) _ hB Tryd.underlying26 rfl (by rw [hs]; kernel_rfl)]
theorem checkI2 (x : It) (A : Option Addr) (n c : Nat) (w : World) (hx : ChAt w A n x.l) (hA : ∀ p, A = some p → p.block < w.heap.size) (hn : n ≤ 9223372036854775807) :
    ∃ (k : Int) (b : Bool), (k != 0) = b ∧ b = !mayI x ∧ Calls Tryd.prog 12 #[itv x (.slice A n c)] w fun e w' => e = .returned (.int .i64 k) ∧ Below w.heap.size w w' :=
  ⟨_, _, rfl, by cases mayI x <;> rfl, checkI x A n c w hx hA hn⟩
set_option maxHeartbeats 2000000 in
theorem takeI_c (t : ByteArray) (w : World) (ht : t.size ≤ 225000000000000) :
    Calls Tryd.prog 30 #[.string t] w fun e w' => AnsI (tkI (sb t)) w e w' ∧ Below w.heap.size w w' := by
  have h0 := ((Has.nil (Below.refl w.heap.size w)).newBlk 26 (itc zI (.slice none 0 0))).newBlk 26 (itc zI (.slice none 0 0))
  rw [show (w.alloc (.cells (itc zI (.slice none 0 0)) 26)).heap.size = w.heap.size + 1 by simp] at h0
  have HN := Lib.hid (h0.rdNew t ht)
  obtain ⟨s0, hs0⟩ : ∃ s0 : Rst, (if t.size ≤ 2048 then some (sb t) else none) = s0 := ⟨_, rfl⟩
  rw [hs0] at HN
  have hfi : tkI (sb t) = if finI s0 = some [] ∧ mayI (rdI (sb t)).1 = true then some (rdI (sb t)).1 else none := by
    by_cases hz : t.size ≤ 2048
    · rw [if_pos hz] at hs0
      subst hs0
      rw [finI_some]
      rfl
    · rw [if_neg hz] at hs0
      subst hs0
      rw [finI_none, if_neg (by simp), tkI_long (by rw [sb_len]; omega)]
  have hs1 : s0 ≠ none → s0 = some (sb t) := by
    intro hne
    by_cases hz : t.size ≤ 2048
    · rw [if_pos hz] at hs0; exact hs0.symm
    · rw [if_neg hz] at hs0; exact absurd hs0.symm hne
  have HFI := Lib.hid hfi
  have HS1 := Lib.hid hs1
  clear h0 hs0 hfi hs1
  go_enter Tryd.func30, Tryd.ntmps30
  go_wp2_with (first
    | (go_at_call 69; refine HN.out.mono ?_; rintro e w1 ⟨g, rfl, h1⟩
       have h2 := ((h1.newBlk 95 #[pt g]).perm (List.perm_middle (l₁ := [_]))).perm (List.Perm.cons _ (List.Perm.swap _ _ _))
       have h3 : Has w (rdA g s0 :: blkA (w.heap.size + 1) 26 (itc zI (.slice none 0 0)) :: blkA w1.heap.size 95 #[pt g] :: blkA w.heap.size 26 (itc zI (.slice none 0 0)) :: []) (w1.alloc (.cells #[pt g] 95)) := h2
       have r1 := (h3.blkIn (g := w1.heap.size) (t := 95) (cs := #[pt g]) (by simp)).cell 0
       simp at r1
       have H3 := Lib.hid h3
       clear h1 h2 h3 HN)
    | (go_at_call 70; refine (H3.out.rdNums [0, 1, 2] (by simp) rfl rfl (by simp) (fun i hi => by simp at hi; rcases hi with rfl | rfl | rfl <;> exact ⟨0, rfl⟩)).mono ?_; rintro e w2 ⟨vs, ⟨rfl, hvl, hvb, hvs⟩, h4⟩
       obtain ⟨a0, a1, a2, rfl⟩ := three3 hvl
       have e1 : sets (itc zI (.slice none 0 0)) (ivs [0, 1, 2] [a0, a1, a2]) = itc ⟨(a0 : Int), (a1 : Int), (a2 : Int), ⟨#[]⟩, 0, 0, 0, 0, []⟩ (.slice none 0 0) := by simp [sets, ivs, zI]
       rw [e1] at h4
       have r2 := (h4.blkIn (g := w1.heap.size) (t := 95) (cs := #[pt g]) (by simp)).cell 0
       simp at r2
       have H4 := Lib.hid h4
       clear h4 e1 H3 r1)
    | (go_at_call 71; refine H4.out.rdStr.mono ?_; rintro e w3 ⟨u, ⟨rfl, hu⟩, h5⟩
       have z1 := h5.swap.blk.1.cell 3
       have zf := h5.swap.blk.1.frozen 3
       simp at z1
       have h5 := (h5.swap.setBlk 3 (.string u)).swap
       have r3 := (h5.blkIn (g := w1.heap.size) (t := 95) (cs := #[pt g]) (by simp)).cell 0
       simp at r3
       have H5 := Lib.hid h5
       clear h5 H4 r2)
    | (go_at_call 72; refine (H5.out.rdStamps [4, 6] (by simp [World.setCell]) rfl rfl (by simp) (fun i hi => by simp at hi; rcases hi with rfl | rfl <;> exact ⟨⟨0, rfl⟩, ⟨0, rfl⟩⟩)).mono ?_; rintro e w4 ⟨vt, ⟨rfl, htl, htb, hts⟩, h6⟩
       obtain ⟨b0, b1, b2, b3, rfl⟩ := four_ htl
       have e2 : sets ((itc ⟨(a0 : Int), (a1 : Int), (a2 : Int), ⟨#[]⟩, 0, 0, 0, 0, []⟩ (.slice none 0 0)).setIfInBounds 3 (.string u)) (ivs (dbl [4, 6]) [b0, b1, b2, b3]) = itc ⟨(a0 : Int), (a1 : Int), (a2 : Int), u, b0, b1, b2, b3, []⟩ (.slice none 0 0) := by simp [sets, ivs, dbl]
       rw [e2] at h6
       have r4 := (h6.blkIn (g := w1.heap.size) (t := 95) (cs := #[pt g]) (by simp)).cell 0
       simp at r4
       have h7 := (h6.rowNil 77 3).perm ((List.perm_middle (l₁ := [_, _, _]) (a := rowA 77 3 (.slice none 0 0) 0 [])).symm)
       have HM := Lib.hid (many_c pC 74 #[pt w1.heap.size, pt (w.heap.size + 1)] g (xI (w.heap.size + 1) w1.heap.size g ⟨(a0 : Int), (a1 : Int), (a2 : Int), u, b0, b1, b2, b3, []⟩) w
         (fun args W => by rfl) pC_eats (fun T V s v l hl h => closI (w.heap.size + 1) w1.heap.size g _ w T V s v l hl h) w4 _ (.slice none 0 0) [blkA w.heap.size 26 (itc zI (.slice none 0 0))] h7)
       clear h6 h7 e2 H5 r3)
    | (go_at_call 73; refine HM.out.mono ?_; rintro e w5 ⟨rfl, l, v', hl, h8⟩
       have h8 : Has w (rdA g (finI s0) :: (xI (w.heap.size + 1) w1.heap.size g ⟨(a0 : Int), (a1 : Int), (a2 : Int), u, b0, b1, b2, b3, []⟩ v' l ++ [blkA w.heap.size 26 (itc zI (.slice none 0 0))])) w5 := h8
       have r5 := (h8.blkIn (g := w1.heap.size) (t := 95) (cs := #[pt g]) (by simp [xI])).cell 0
       simp at r5
       obtain ⟨Av, cv, rfl, hat, hnc, hcm, hav⟩ := chRow (h8.perm (List.perm_middle (l₁ := [_, _, _]))).rowOf
       have hap : ∀ a, Av = some a → a.block ≠ w.heap.size := (h8.perm (List.perm_middle (l₁ := [_, _, _]))).apart (g := w.heap.size) (t := 26) (cs := itc zI (.slice none 0 0)) (by simp [xI])
       have kx := h8.blkIn (g := w.heap.size + 1) (t := 26) (cs := itc ⟨(a0 : Int), (a1 : Int), (a2 : Int), u, b0, b1, b2, b3, l⟩ (.slice Av l.length cv)) (by simp [xI])
       have ky := h8.blkIn (g := w.heap.size) (t := 26) (cs := itc zI (.slice none 0 0)) (by simp [xI])
       obtain ⟨kk, bb, hk, hbb, hCK⟩ := checkI2 ⟨(a0 : Int), (a1 : Int), (a2 : Int), u, b0, b1, b2, b3, l⟩ Av l.length cv w5 hat hav (by omega)
       have q0 := kx.cell 0
       have p0 := ky.cell 0
       have f0 := ky.frozen 0
       have q1 := kx.cell 1
       have p1 := ky.cell 1
       have f1 := ky.frozen 1
       have q2 := kx.cell 2
       have p2 := ky.cell 2
       have f2 := ky.frozen 2
       have q3 := kx.cell 3
       have p3 := ky.cell 3
       have f3 := ky.frozen 3
       have q4 := kx.cell 4
       have p4 := ky.cell 4
       have f4 := ky.frozen 4
       have q5 := kx.cell 5
       have p5 := ky.cell 5
       have f5 := ky.frozen 5
       have q6 := kx.cell 6
       have p6 := ky.cell 6
       have f6 := ky.frozen 6
       have q7 := kx.cell 7
       have p7 := ky.cell 7
       have f7 := ky.frozen 7
       have q8 := kx.cell 8
       have p8 := ky.cell 8
       have f8 := ky.frozen 8
       simp at q0 p0 q1 p1 q2 p2 q3 p3 q4 p4 q5 p5 q6 p6 q7 p7 q8 p8
       have hbel := h8.bel
       have HCK := Lib.hid hCK
       have HKX := Lib.hid kx
       have HKY := Lib.hid ky
       have HAT := Lib.hid hat
       have H8 := Lib.hid h8
       have HLL := Lib.hid (show finI s0 ≠ none → l = (many pC (pn (pns 4 (ps (pns 3 s0).2).2).2).1 (pn (pns 4 (ps (pns 3 s0).2).2).2).2).1 from hl)
       clear h8 HM r4 kx ky hCK hat hl)
    | (go_at_call 76; refine H8.out.rdDone.mono ?_; rintro e w6 ⟨rfl, rfl⟩
       obtain ⟨bd, hbd⟩ : ∃ bd, decide (finI s0 = some []) = bd := ⟨_, rfl⟩
       rw [hbd]
       have HBD := Lib.hid hbd
       clear hbd)
    | (go_at_call 12; refine HCK.out.mono ?_; rintro e w7 ⟨rfl, hb7⟩
       have kx7 := HKX.out.below hb7 HKX.out.lt
       have ky7 := HKY.out.below hb7 HKY.out.lt
       have j0 := kx7.cell 0
       have m0 := ky7.cell 0
       have n0 := ky7.frozen 0
       have j1 := kx7.cell 1
       have m1 := ky7.cell 1
       have n1 := ky7.frozen 1
       have j2 := kx7.cell 2
       have m2 := ky7.cell 2
       have n2 := ky7.frozen 2
       have j3 := kx7.cell 3
       have m3 := ky7.cell 3
       have n3 := ky7.frozen 3
       have j4 := kx7.cell 4
       have m4 := ky7.cell 4
       have n4 := ky7.frozen 4
       have j5 := kx7.cell 5
       have m5 := ky7.cell 5
       have n5 := ky7.frozen 5
       have j6 := kx7.cell 6
       have m6 := ky7.cell 6
       have n6 := ky7.frozen 6
       have j7 := kx7.cell 7
       have m7 := ky7.cell 7
       have n7 := ky7.frozen 7
       have j8 := kx7.cell 8
       have m8 := ky7.cell 8
       have n8 := ky7.frozen 8
       simp at j0 m0 j1 m1 j2 m2 j3 m3 j4 m4 j5 m5 j6 m6 j7 m7 j8 m8))
  all_goals
    have hy : finI s0 = some [] → (⟨(a0 : Int), (a1 : Int), (a2 : Int), u, b0, b1, b2, b3, l⟩ : It) = (rdI (sb t)).1 := by
      intro hf
      have hs := HS1.out (fun e => by rw [e] at hf; cases hf)
      subst hs
      exact rdI_parts (sb t) hvs hu hts HLL.out (by rw [hf]; simp)
  · rename_i hbd hm
    rw [hbd] at HBD
    have hf : finI s0 = some [] := of_decide_eq_true HBD.out
    have hm' : mayI ⟨(a0 : Int), (a1 : Int), (a2 : Int), u, b0, b1, b2, b3, l⟩ = false := by simpa using hm
    have hW : Blk _ w.heap.size 26 (itc zI (.slice none 0 0)) := ky7.all9
    refine ret_it rfl rfl hW rfl rfl ⟨?_, (((((((((hbel.trans (hb7.mono hbel.size)).setCell (by exact Nat.le_refl _) _).setCell (by exact Nat.le_refl _) _).setCell (by exact Nat.le_refl _) _).setCell (by exact Nat.le_refl _) _).setCell (by exact Nat.le_refl _) _).setCell (by exact Nat.le_refl _) _).setCell (by exact Nat.le_refl _) _).setCell (by exact Nat.le_refl _) _).setCell (by exact Nat.le_refl _) _⟩
    rw [HFI.out, if_neg (by rw [← hy hf, hm']; simp)]
    rfl
  · rename_i hbd hm
    rw [hbd] at HBD
    have hf : finI s0 = some [] := of_decide_eq_true HBD.out
    have hm' : mayI ⟨(a0 : Int), (a1 : Int), (a2 : Int), u, b0, b1, b2, b3, l⟩ = true := by simpa using hm
    have hW : Blk _ w.heap.size 26 (itc ⟨(a0 : Int), (a1 : Int), (a2 : Int), u, b0, b1, b2, b3, l⟩ (.slice Av l.length cv)) := ky7.all9
    have hat7 := HAT.out.below hb7
    refine ret_it rfl rfl hW rfl rfl ⟨?_, (((((((((hbel.trans (hb7.mono hbel.size)).setCell (by exact Nat.le_refl _) _).setCell (by exact Nat.le_refl _) _).setCell (by exact Nat.le_refl _) _).setCell (by exact Nat.le_refl _) _).setCell (by exact Nat.le_refl _) _).setCell (by exact Nat.le_refl _) _).setCell (by exact Nat.le_refl _) _).setCell (by exact Nat.le_refl _) _).setCell (by exact Nat.le_refl _) _⟩
    rw [HFI.out, if_pos ⟨hf, by rw [← hy hf, hm']⟩, ← hy hf]
    refine ⟨Av, l.length, cv, rfl, ?_, hnc, hcm, fun p hp => by have := hav p hp; have := hb7.size; simp [World.setCell]; omega⟩
    refine hat7.keep fun a ha j z hz => ?_
    have hne := hap a ha
    simp only [World.cell?, World.setCell, Array.getElem?_modify] at hz ⊢
    simpa [hne, hne.symm] using hz
  · rename_i hbd
    have hf : ¬ finI s0 = some [] := by
      have := HBD.out
      intro h
      rw [decide_eq_true h] at this
      exact hbd this.symm
    have hW : Blk _ w.heap.size 26 (itc zI (.slice none 0 0)) := HKY.out.all9
    refine ret_it rfl rfl hW rfl rfl ⟨?_, (((((((((hbel).setCell (by exact Nat.le_refl _) _).setCell (by exact Nat.le_refl _) _).setCell (by exact Nat.le_refl _) _).setCell (by exact Nat.le_refl _) _).setCell (by exact Nat.le_refl _) _).setCell (by exact Nat.le_refl _) _).setCell (by exact Nat.le_refl _) _).setCell (by exact Nat.le_refl _) _).setCell (by exact Nat.le_refl _) _⟩
    rw [HFI.out, if_neg (fun h => hf h.1)]
    rfl

/-- How far the reader is behind it all. -/
def finR (s : Rst) : Rst := (many pW (pn (pns 4 (ps (pns 4 s).2).2).2).1 (pn (pns 4 (ps (pns 4 s).2).2).2).2).2
theorem finR_some (b : List UInt8) : finR (some b) = (rdR b).2 := rfl
theorem finR_none : finR none = none := rfl
theorem rdR_parts (b : List UInt8) {a0 a1 a2 a3 b0 b1 b2 b3 : Nat} {u : ByteArray} {l : List Wt} (h1 : (pns 4 (some b)).2 ≠ none → [a0, a1, a2, a3] = (pns 4 (some b)).1) (h2 : (ps (pns 4 (some b)).2).2 ≠ none → u = (ps (pns 4 (some b)).2).1)
    (h3 : (pns 4 (ps (pns 4 (some b)).2).2).2 ≠ none → [b0, b1, b2, b3] = (pns 4 (ps (pns 4 (some b)).2).2).1) (h4 : finR (some b) ≠ none → l = (many pW (pn (pns 4 (ps (pns 4 (some b)).2).2).2).1 (pn (pns 4 (ps (pns 4 (some b)).2).2).2).2).1)
    (hf : finR (some b) ≠ none) : (⟨a0, a1, a2, a3, u, b0, b1, b2, b3, l⟩ : Rc) = (rdR b).1 := by
  have k4 : (pn (pns 4 (ps (pns 4 (some b)).2).2).2).2 ≠ none := fun e => hf (by unfold finR; rw [e, many_none])
  have k3 : (pns 4 (ps (pns 4 (some b)).2).2).2 ≠ none := fun e => k4 (by rw [e]; rfl)
  have k2 : (ps (pns 4 (some b)).2).2 ≠ none := pns_noneR k3
  have k1 : (pns 4 (some b)).2 ≠ none := fun e => k2 (by rw [e]; rfl)
  have j1 := h1 k1
  have j2 := h2 k2
  have j3 := h3 k3
  have j4 := h4 hf
  simp only [pns, List.cons.injEq, and_true] at j1 j3
  obtain ⟨e0, e1, e2, e7⟩ := j1
  obtain ⟨e3, e4, e5, e6⟩ := j3
  subst e0 e1 e2 e7 e3 e4 e5 e6 j2 j4
  rfl

theorem ret_rc {fn : Func} {R : Ending → World → Prop} {a : Act} {w : World} {p u : Tmp} {g : Nat} {cs : Array Value} (hr : fn.results = #[.cell p 37, .tmp u]) (hp : a.tmps.getD p undef = .pointer (some ⟨g, 0, none⟩))
    (hB : Blk w g 37 cs) (hs : cs.size = 10) (hd : a.defers = []) (hR : R (.returned (.tuple #[.agg cs, a.tmps.getD u undef])) w) : bodyPost Tryd.prog fn R .ret a w := by
  refine bodyPost_ret ?_ hd hR
  have hp' : a.tmps[p]?.getD undef = .pointer (some ⟨g, 0, none⟩) := by simpa using hp
  simp [results, hr, hp', asAddr, run_loadVar_row w g 37 37 _ (0, 0) _ hB Tryd.underlying37 rfl (by rw [hs]; kernel_rfl)]
theorem checkR2 (x : Rc) (A : Option Addr) (n c : Nat) (w : World) (hx : WtAt w A n x.l) (hA : ∀ p, A = some p → p.block < w.heap.size) (hn : n ≤ 9223372036854775807) :
    ∃ (k : Int) (b : Bool), (k != 0) = b ∧ b = !mayR x ∧ Calls Tryd.prog 20 #[rcv x (.slice A n c)] w fun e w' => e = .returned (.int .i64 k) ∧ Below w.heap.size w w' :=
  ⟨_, _, rfl, by cases mayR x <;> rfl, checkR x A n c w hx hA hn⟩
set_option maxHeartbeats 2000000 in
theorem takeR_c (t : ByteArray) (w : World) (ht : t.size ≤ 225000000000000) :
    Calls Tryd.prog 31 #[.string t] w fun e w' => AnsR (tkR (sb t)) w e w' ∧ Below w.heap.size w w' := by
  have h0 := ((Has.nil (Below.refl w.heap.size w)).newBlk 37 (rcc zR (.slice none 0 0))).newBlk 37 (rcc zR (.slice none 0 0))
  rw [show (w.alloc (.cells (rcc zR (.slice none 0 0)) 37)).heap.size = w.heap.size + 1 by simp] at h0
  have HN := Lib.hid (h0.rdNew t ht)
  obtain ⟨s0, hs0⟩ : ∃ s0 : Rst, (if t.size ≤ 2048 then some (sb t) else none) = s0 := ⟨_, rfl⟩
  rw [hs0] at HN
  have hfi : tkR (sb t) = if finR s0 = some [] ∧ mayR (rdR (sb t)).1 = true then some (rdR (sb t)).1 else none := by
    by_cases hz : t.size ≤ 2048
    · rw [if_pos hz] at hs0
      subst hs0
      rw [finR_some]
      rfl
    · rw [if_neg hz] at hs0
      subst hs0
      rw [finR_none, if_neg (by simp), tkR_long (by rw [sb_len]; omega)]
  have hs1 : s0 ≠ none → s0 = some (sb t) := by
    intro hne
    by_cases hz : t.size ≤ 2048
    · rw [if_pos hz] at hs0; exact hs0.symm
    · rw [if_neg hz] at hs0; exact absurd hs0.symm hne
  have HFI := Lib.hid hfi
  have HS1 := Lib.hid hs1
  clear h0 hs0 hfi hs1
  go_enter Tryd.func31, Tryd.ntmps31
  go_wp2_with (first
    | (go_at_call 69; refine HN.out.mono ?_; rintro e w1 ⟨g, rfl, h1⟩
       have h2 := ((h1.newBlk 95 #[pt g]).perm (List.perm_middle (l₁ := [_]))).perm (List.Perm.cons _ (List.Perm.swap _ _ _))
       have h3 : Has w (rdA g s0 :: blkA (w.heap.size + 1) 37 (rcc zR (.slice none 0 0)) :: blkA w1.heap.size 95 #[pt g] :: blkA w.heap.size 37 (rcc zR (.slice none 0 0)) :: []) (w1.alloc (.cells #[pt g] 95)) := h2
       have r1 := (h3.blkIn (g := w1.heap.size) (t := 95) (cs := #[pt g]) (by simp)).cell 0
       simp at r1
       have H3 := Lib.hid h3
       clear h1 h2 h3 HN)
    | (go_at_call 70; refine (H3.out.rdNums [0, 1, 2, 3] (by simp) rfl rfl (by simp) (fun i hi => by simp at hi; rcases hi with rfl | rfl | rfl | rfl <;> exact ⟨0, rfl⟩)).mono ?_; rintro e w2 ⟨vs, ⟨rfl, hvl, hvb, hvs⟩, h4⟩
       obtain ⟨a0, a1, a2, a3, rfl⟩ := four_ hvl
       have e1 : sets (rcc zR (.slice none 0 0)) (ivs [0, 1, 2, 3] [a0, a1, a2, a3]) = rcc ⟨(a0 : Int), (a1 : Int), (a2 : Int), (a3 : Int), ⟨#[]⟩, 0, 0, 0, 0, []⟩ (.slice none 0 0) := by simp [sets, ivs, zR]
       rw [e1] at h4
       have r2 := (h4.blkIn (g := w1.heap.size) (t := 95) (cs := #[pt g]) (by simp)).cell 0
       simp at r2
       have H4 := Lib.hid h4
       clear h4 e1 H3 r1)
    | (go_at_call 71; refine H4.out.rdStr.mono ?_; rintro e w3 ⟨u, ⟨rfl, hu⟩, h5⟩
       have z1 := h5.swap.blk.1.cell 4
       have zf := h5.swap.blk.1.frozen 4
       simp at z1
       have h5 := (h5.swap.setBlk 4 (.string u)).swap
       have r3 := (h5.blkIn (g := w1.heap.size) (t := 95) (cs := #[pt g]) (by simp)).cell 0
       simp at r3
       have H5 := Lib.hid h5
       clear h5 H4 r2)
    | (go_at_call 72; refine (H5.out.rdStamps [5, 7] (by simp [World.setCell]) rfl rfl (by simp) (fun i hi => by simp at hi; rcases hi with rfl | rfl <;> exact ⟨⟨0, rfl⟩, ⟨0, rfl⟩⟩)).mono ?_; rintro e w4 ⟨vt, ⟨rfl, htl, htb, hts⟩, h6⟩
       obtain ⟨b0, b1, b2, b3, rfl⟩ := four_ htl
       have e2 : sets ((rcc ⟨(a0 : Int), (a1 : Int), (a2 : Int), (a3 : Int), ⟨#[]⟩, 0, 0, 0, 0, []⟩ (.slice none 0 0)).setIfInBounds 4 (.string u)) (ivs (dbl [5, 7]) [b0, b1, b2, b3]) = rcc ⟨(a0 : Int), (a1 : Int), (a2 : Int), (a3 : Int), u, b0, b1, b2, b3, []⟩ (.slice none 0 0) := by simp [sets, ivs, dbl]
       rw [e2] at h6
       have r4 := (h6.blkIn (g := w1.heap.size) (t := 95) (cs := #[pt g]) (by simp)).cell 0
       simp at r4
       have h7 := (h6.rowNil 89 2).perm ((List.perm_middle (l₁ := [_, _, _]) (a := rowA 89 2 (.slice none 0 0) 0 [])).symm)
       have HM := Lib.hid (many_c pW 77 #[pt w1.heap.size, pt (w.heap.size + 1)] g (xR (w.heap.size + 1) w1.heap.size g ⟨(a0 : Int), (a1 : Int), (a2 : Int), (a3 : Int), u, b0, b1, b2, b3, []⟩) w
         (fun args W => by rfl) pW_eats (fun T V s v l hl h => closR (w.heap.size + 1) w1.heap.size g _ w T V s v l hl h) w4 _ (.slice none 0 0) [blkA w.heap.size 37 (rcc zR (.slice none 0 0))] h7)
       clear h6 h7 e2 H5 r3)
    | (go_at_call 73; refine HM.out.mono ?_; rintro e w5 ⟨rfl, l, v', hl, h8⟩
       have h8 : Has w (rdA g (finR s0) :: (xR (w.heap.size + 1) w1.heap.size g ⟨(a0 : Int), (a1 : Int), (a2 : Int), (a3 : Int), u, b0, b1, b2, b3, []⟩ v' l ++ [blkA w.heap.size 37 (rcc zR (.slice none 0 0))])) w5 := h8
       have r5 := (h8.blkIn (g := w1.heap.size) (t := 95) (cs := #[pt g]) (by simp [xR])).cell 0
       simp at r5
       obtain ⟨Av, cv, rfl, hat, hnc, hcm, hav⟩ := wtRow (h8.perm (List.perm_middle (l₁ := [_, _, _]))).rowOf
       have hap : ∀ a, Av = some a → a.block ≠ w.heap.size := (h8.perm (List.perm_middle (l₁ := [_, _, _]))).apart (g := w.heap.size) (t := 37) (cs := rcc zR (.slice none 0 0)) (by simp [xR])
       have kx := h8.blkIn (g := w.heap.size + 1) (t := 37) (cs := rcc ⟨(a0 : Int), (a1 : Int), (a2 : Int), (a3 : Int), u, b0, b1, b2, b3, l⟩ (.slice Av l.length cv)) (by simp [xR])
       have ky := h8.blkIn (g := w.heap.size) (t := 37) (cs := rcc zR (.slice none 0 0)) (by simp [xR])
       obtain ⟨kk, bb, hk, hbb, hCK⟩ := checkR2 ⟨(a0 : Int), (a1 : Int), (a2 : Int), (a3 : Int), u, b0, b1, b2, b3, l⟩ Av l.length cv w5 hat hav (by omega)
       have q0 := kx.cell 0
       have p0 := ky.cell 0
       have f0 := ky.frozen 0
       have q1 := kx.cell 1
       have p1 := ky.cell 1
       have f1 := ky.frozen 1
       have q2 := kx.cell 2
       have p2 := ky.cell 2
       have f2 := ky.frozen 2
       have q3 := kx.cell 3
       have p3 := ky.cell 3
       have f3 := ky.frozen 3
       have q4 := kx.cell 4
       have p4 := ky.cell 4
       have f4 := ky.frozen 4
       have q5 := kx.cell 5
       have p5 := ky.cell 5
       have f5 := ky.frozen 5
       have q6 := kx.cell 6
       have p6 := ky.cell 6
       have f6 := ky.frozen 6
       have q7 := kx.cell 7
       have p7 := ky.cell 7
       have f7 := ky.frozen 7
       have q8 := kx.cell 8
       have p8 := ky.cell 8
       have f8 := ky.frozen 8
       have q9 := kx.cell 9
       have p9 := ky.cell 9
       have f9 := ky.frozen 9
       simp at q0 p0 q1 p1 q2 p2 q3 p3 q4 p4 q5 p5 q6 p6 q7 p7 q8 p8 q9 p9
       have hbel := h8.bel
       have HCK := Lib.hid hCK
       have HKX := Lib.hid kx
       have HKY := Lib.hid ky
       have HAT := Lib.hid hat
       have H8 := Lib.hid h8
       have HLL := Lib.hid (show finR s0 ≠ none → l = (many pW (pn (pns 4 (ps (pns 4 s0).2).2).2).1 (pn (pns 4 (ps (pns 4 s0).2).2).2).2).1 from hl)
       clear h8 HM r4 kx ky hCK hat hl)
    | (go_at_call 76; refine H8.out.rdDone.mono ?_; rintro e w6 ⟨rfl, rfl⟩
       obtain ⟨bd, hbd⟩ : ∃ bd, decide (finR s0 = some []) = bd := ⟨_, rfl⟩
       rw [hbd]
       have HBD := Lib.hid hbd
       clear hbd)
    | (go_at_call 20; refine HCK.out.mono ?_; rintro e w7 ⟨rfl, hb7⟩
       have kx7 := HKX.out.below hb7 HKX.out.lt
       have ky7 := HKY.out.below hb7 HKY.out.lt
       have j0 := kx7.cell 0
       have m0 := ky7.cell 0
       have n0 := ky7.frozen 0
       have j1 := kx7.cell 1
       have m1 := ky7.cell 1
       have n1 := ky7.frozen 1
       have j2 := kx7.cell 2
       have m2 := ky7.cell 2
       have n2 := ky7.frozen 2
       have j3 := kx7.cell 3
       have m3 := ky7.cell 3
       have n3 := ky7.frozen 3
       have j4 := kx7.cell 4
       have m4 := ky7.cell 4
       have n4 := ky7.frozen 4
       have j5 := kx7.cell 5
       have m5 := ky7.cell 5
       have n5 := ky7.frozen 5
       have j6 := kx7.cell 6
       have m6 := ky7.cell 6
       have n6 := ky7.frozen 6
       have j7 := kx7.cell 7
       have m7 := ky7.cell 7
       have n7 := ky7.frozen 7
       have j8 := kx7.cell 8
       have m8 := ky7.cell 8
       have n8 := ky7.frozen 8
       have j9 := kx7.cell 9
       have m9 := ky7.cell 9
       have n9 := ky7.frozen 9
       simp at j0 m0 j1 m1 j2 m2 j3 m3 j4 m4 j5 m5 j6 m6 j7 m7 j8 m8 j9 m9))
  all_goals
    have hy : finR s0 = some [] → (⟨(a0 : Int), (a1 : Int), (a2 : Int), (a3 : Int), u, b0, b1, b2, b3, l⟩ : Rc) = (rdR (sb t)).1 := by
      intro hf
      have hs := HS1.out (fun e => by rw [e] at hf; cases hf)
      subst hs
      exact rdR_parts (sb t) hvs hu hts HLL.out (by rw [hf]; simp)
  · rename_i hbd hm
    rw [hbd] at HBD
    have hf : finR s0 = some [] := of_decide_eq_true HBD.out
    have hm' : mayR ⟨(a0 : Int), (a1 : Int), (a2 : Int), (a3 : Int), u, b0, b1, b2, b3, l⟩ = false := by simpa using hm
    have hW : Blk _ w.heap.size 37 (rcc zR (.slice none 0 0)) := ky7.all10
    refine ret_rc rfl rfl hW rfl rfl ⟨?_, ((((((((((hbel.trans (hb7.mono hbel.size)).setCell (by exact Nat.le_refl _) _).setCell (by exact Nat.le_refl _) _).setCell (by exact Nat.le_refl _) _).setCell (by exact Nat.le_refl _) _).setCell (by exact Nat.le_refl _) _).setCell (by exact Nat.le_refl _) _).setCell (by exact Nat.le_refl _) _).setCell (by exact Nat.le_refl _) _).setCell (by exact Nat.le_refl _) _).setCell (by exact Nat.le_refl _) _⟩
    rw [HFI.out, if_neg (by rw [← hy hf, hm']; simp)]
    rfl
  · rename_i hbd hm
    rw [hbd] at HBD
    have hf : finR s0 = some [] := of_decide_eq_true HBD.out
    have hm' : mayR ⟨(a0 : Int), (a1 : Int), (a2 : Int), (a3 : Int), u, b0, b1, b2, b3, l⟩ = true := by simpa using hm
    have hW : Blk _ w.heap.size 37 (rcc ⟨(a0 : Int), (a1 : Int), (a2 : Int), (a3 : Int), u, b0, b1, b2, b3, l⟩ (.slice Av l.length cv)) := ky7.all10
    have hat7 := HAT.out.below hb7
    refine ret_rc rfl rfl hW rfl rfl ⟨?_, ((((((((((hbel.trans (hb7.mono hbel.size)).setCell (by exact Nat.le_refl _) _).setCell (by exact Nat.le_refl _) _).setCell (by exact Nat.le_refl _) _).setCell (by exact Nat.le_refl _) _).setCell (by exact Nat.le_refl _) _).setCell (by exact Nat.le_refl _) _).setCell (by exact Nat.le_refl _) _).setCell (by exact Nat.le_refl _) _).setCell (by exact Nat.le_refl _) _).setCell (by exact Nat.le_refl _) _⟩
    rw [HFI.out, if_pos ⟨hf, by rw [← hy hf, hm']⟩, ← hy hf]
    refine ⟨Av, l.length, cv, rfl, ?_, hnc, hcm, fun p hp => by have := hav p hp; have := hb7.size; simp [World.setCell]; omega⟩
    refine hat7.keep fun a ha j z hz => ?_
    have hne := hap a ha
    simp only [World.cell?, World.setCell, Array.getElem?_modify] at hz ⊢
    simpa [hne, hne.symm] using hz
  · rename_i hbd
    have hf : ¬ finR s0 = some [] := by
      have := HBD.out
      intro h
      rw [decide_eq_true h] at this
      exact hbd this.symm
    have hW : Blk _ w.heap.size 37 (rcc zR (.slice none 0 0)) := HKY.out.all10
    refine ret_rc rfl rfl hW rfl rfl ⟨?_, ((((((((((hbel).setCell (by exact Nat.le_refl _) _).setCell (by exact Nat.le_refl _) _).setCell (by exact Nat.le_refl _) _).setCell (by exact Nat.le_refl _) _).setCell (by exact Nat.le_refl _) _).setCell (by exact Nat.le_refl _) _).setCell (by exact Nat.le_refl _) _).setCell (by exact Nat.le_refl _) _).setCell (by exact Nat.le_refl _) _).setCell (by exact Nat.le_refl _) _⟩
    rw [HFI.out, if_neg (fun h => hf h.1)]
    rfl
end Go.Proofs.YtchebellejkdnaaDoor
