/-
  Layer 16, the code: Join, Both, Less, In, Of.
-/
import Derived.Test.YtdpdokgbockmbaaSpReck
import Derived.Shelf.SlicesQ.IndexFunc
set_option linter.unusedVariables false
set_option linter.unusedSimpArgs false
set_option maxRecDepth 100000
namespace Go.Proofs.Ytdpdokgbockmbaa
open Go.RowKit Go.Shelf

def wJ (x _ : Bool) : Bool := x
def wB (x y : Bool) : Bool := x && y
def wL (x y : Bool) : Bool := x && !y
theorem Spe.uni {W : Bool → Bool → Bool} {a b X Y : List Sn} (h1 : Spe W a b X) (h2 : Spe W a b Y) : X = Y := ordS_one h1.ord h2.ord (fun k => by rw [h1.has, h2.has])
/-- There is one. -/
theorem spe_ex (W : Bool → Bool → Bool) (hW : W false false = false) {a b : List Sn} (ha : MaySp a) (hb : MaySp b) : ∃ X, Spe W a b X := by
  have hs : SorE ((endsAB a b).mergeSort (fun x y => !kl y.k x.k)) := by
    have h := List.pairwise_mergeSort (le := fun x y : En => !kl y.k x.k) (fun x y z h1 h2 => by
      simp only [Bool.not_eq_true'] at *
      exact kl_le_le h1 h2) (fun x y => by
      simp only [Bool.or_eq_true, Bool.not_eq_true']
      cases h : kl y.k x.k with
      | false => exact .inl rfl
      | true => exact .inr (klf h)) (endsAB a b)
    exact h.imp (fun h => by simpa using h)
  exact ⟨_, reck_spec W hW ha hb (List.mergeSort_perm _ _) hs⟩
theorem chkL_ok {a b : List Sn} (ha : MaySp a) (hb : MaySp b) (h1 : a.length ≤ 1000) (h2 : b.length ≤ 1000) : chkL a b = 0 := by
  unfold chkL
  rw [if_neg (by omega), fstE_ok ha, if_pos rfl, fstE_ok hb]
theorem Spe.may {W : Bool → Bool → Bool} {a b X : List Sn} (h : Spe W a b X) : MaySp X := fun s hs => chkS_ok (ordS_all h.ord s hs) (h.siz s hs).1 (h.siz s hs).2
/-- What is answered. -/
def AnsS (X : List Sn) (N : Nat) (w : World) (e : Ending) (w' : World) : Prop := ∃ E C, e = .returned (.tuple #[.slice E N C, .int .i64 0]) ∧ SnAt w' E N X ∧ N ≤ C ∧ C ≤ 9223372036854775807 ∧ Below w.heap.size w w'
section
variable {A B : Option Addr} {n m c d N : Nat} {a b X : List Sn} {w : World}
theorem spJoin (ha : SnAt w A n a) (hn : n ≤ 1000) (hm : MaySp a) (hX : Spe wJ a [] X) (hN : X.length = N) : Calls Try.prog 10 #[.slice A n c] w (AnsS X N w) := by
  subst hN
  have eg : ∀ args w, (callFunc 24 args).run Try.prog w = .ok (.enter 24 args) w := enters_of Try.func24 (by kernel_rfl) rfl
  have hl := ha.1
  have HR := Lib.hid (spReck wJ rfl 24 eg (fun x y V => spJoin1 x y V) A none n 0 c 0 a [] w ha (SnAt.nil _ _) (by omega) (by omega) (chkL_ok hm (fun s hs => by cases hs) (by omega) (by simp)))
  have HX := Lib.hid hX
  clear ha hX hl eg hm
  unfold AnsS
  go_enter Try.func10, Try.ntmps10
  go_wp2_with (go_at_call 23; refine HR.out.mono ?_; rintro e w1 ⟨out, v, h1, rfl, h2, h3⟩; obtain rfl := h1.uni HX.out; obtain ⟨E, C, rfl, h4, h5, h6⟩ := h2.form)
  go_ret2
  exact ⟨E, C, rfl, h4, h5, h6, h3⟩
theorem spBoth (ha : SnAt w A n a) (hb : SnAt w B m b) (hn : n ≤ 1000) (hm : m ≤ 1000) (h1 : MaySp a) (h2 : MaySp b) (hX : Spe wB a b X) (hN : X.length = N) : Calls Try.prog 11 #[.slice A n c, .slice B m d] w (AnsS X N w) := by
  subst hN
  have eg : ∀ args w, (callFunc 25 args).run Try.prog w = .ok (.enter 25 args) w := enters_of Try.func25 (by kernel_rfl) rfl
  have hl := ha.1
  have hl2 := hb.1
  have HR := Lib.hid (spReck wB rfl 25 eg (fun x y V => spBoth1 x y V) A B n m c d a b w ha hb (by omega) (by omega) (chkL_ok h1 h2 (by omega) (by omega)))
  have HX := Lib.hid hX
  clear ha hb hX hl hl2 eg h1 h2
  unfold AnsS
  go_enter Try.func11, Try.ntmps11
  go_wp2_with (go_at_call 23; refine HR.out.mono ?_; rintro e w1 ⟨out, v, h1, rfl, h2, h3⟩; obtain rfl := h1.uni HX.out; obtain ⟨E, C, rfl, h4, h5, h6⟩ := h2.form)
  go_ret2
  exact ⟨E, C, rfl, h4, h5, h6, h3⟩
theorem spLess (ha : SnAt w A n a) (hb : SnAt w B m b) (hn : n ≤ 1000) (hm : m ≤ 1000) (h1 : MaySp a) (h2 : MaySp b) (hX : Spe wL a b X) (hN : X.length = N) : Calls Try.prog 12 #[.slice A n c, .slice B m d] w (AnsS X N w) := by
  subst hN
  have eg : ∀ args w, (callFunc 26 args).run Try.prog w = .ok (.enter 26 args) w := enters_of Try.func26 (by kernel_rfl) rfl
  have hl := ha.1
  have hl2 := hb.1
  have HR := Lib.hid (spReck wL rfl 26 eg (fun x y V => spLess1 x y V) A B n m c d a b w ha hb (by omega) (by omega) (chkL_ok h1 h2 (by omega) (by omega)))
  have HX := Lib.hid hX
  clear ha hb hX hl hl2 eg h1 h2
  unfold AnsS
  go_enter Try.func12, Try.ntmps12
  go_wp2_with (go_at_call 23; refine HR.out.mono ?_; rintro e w1 ⟨out, v, h1, rfl, h2, h3⟩; obtain rfl := h1.uni HX.out; obtain ⟨E, C, rfl, h4, h5, h6⟩ := h2.form)
  go_ret2
  exact ⟨E, C, rfl, h4, h5, h6, h3⟩
end
/-! ### In -/
theorem spIn1 (key : ByteArray) (g : Nat) (w : World) (hg : g < w.heap.size) (hc : w.cell? ⟨g, 0, none⟩ = some (.string key)) :
    PredBelow Try.prog 28 #[.pointer (some ⟨g, 0, none⟩)] (fun s : Sn => .agg [Value.string s.f, Value.string s.t].toArray) (fun s => hasS s key) w := fun V s hb => by
  have HH := Lib.hid (fun W => spHas s key W)
  obtain ⟨f, t⟩ := s
  have HH := Lib.hid (show ∀ W, Calls Try.prog 19 #[.agg #[.string f, .string t], .string key] W fun e w' => e = .returned (.bool (hasS ⟨f, t⟩ key)) ∧ Below W.heap.size W w' from fun W => HH.out W)
  have hc1 : V.cell? ⟨g, 0, none⟩ = some (.string key) := (hb.cell (p := ⟨g, 0, none⟩) hg).trans hc
  have hgV : g < V.heap.size := Nat.lt_of_lt_of_le hg hb.size
  have hne : g ≠ V.heap.size := by omega
  have HB := Lib.hid (hb.alloc hb.size (.cells #[.string f, .string t] 30))
  show Calls Try.prog 28 #[.agg #[.string f, .string t], .pointer (some ⟨g, 0, none⟩)] V _
  simp only
  generalize hasS ⟨f, t⟩ key = x at *
  clear hb hg hc
  go_enter Try.func28, Try.ntmps28
  go_wp2_with (go_at_call 19; refine (HH.out _).mono ?_; rintro e w1 ⟨rfl, hb1⟩)
  go_ret
  exact ⟨rfl, HB.out.trans (hb1.mono HB.out.size)⟩
theorem spIn (A : Option Addr) (n c : Nat) (a : List Sn) (key : ByteArray) (w : World) (ha : SnAt w A n a) (hn : n ≤ 9223372036854775807) :
    Calls Try.prog 14 #[.slice A n c, .string key] w fun e w' => e = .returned (.bool (inL a key)) ∧ Below w.heap.size w w' := by
  rcases Nat.eq_zero_or_pos n with h0 | h0
  · subst h0
    obtain rfl : a = [] := List.eq_nil_of_length_eq_zero ha.1
    have HB := Lib.hid (nbl w (.cells #[.string key] 9))
    clear ha
    have hx : inL [] key = false := rfl
    rw [hx]
    have e38 : ∀ args w, (callFunc 38 args).run Try.prog w = .ok (.enter 38 args) w := enters_of Try.func38 (by kernel_rfl) rfl
    have H2 : ∀ W fv, Calls Try.prog 38 #[.slice A 0 c, fv] W fun e w' => e = .returned (.int .i64 (-1)) ∧ w' = W := fun W fv => by
      go_enter Try.func38, Try.ntmps38
      go_wp2
      refine wp_loop_rounds 1 ?_
      rw [rounds_succ]
      go_wp2
      (try simp only [Exit.inBlock, Exit.then])
      go_ret
      exact ⟨rfl, rfl⟩
    have H3 : ∀ W fv, Calls Try.prog 27 #[.slice A 0 c, fv] W fun e w' => e = .returned (.bool false) ∧ w' = W := fun W fv => by
      go_enter Try.func27, Try.ntmps27
      go_wp2_with (go_at_call 38; refine (H2 _ _).mono ?_; rintro e w1 ⟨rfl, rfl⟩)
      go_ret
      exact ⟨rfl, rfl⟩
    clear H2
    go_enter Try.func14, Try.ntmps14
    go_wp2_with (go_at_call 27; refine (H3 _ _).mono ?_; rintro e w1 ⟨rfl, rfl⟩)
    go_ret
    exact ⟨rfl, HB.out⟩
  · obtain ⟨b, o, rfl, hcc⟩ := ha.2 h0
    have hb : b < w.heap.size := World.block_lt_of_cell? w _ (hcc 0 (by rw [ha.1]; exact h0)).1
    have eg : ∀ args w, (callFunc 28 args).run Try.prog w = .ok (.enter 28 args) w := enters_of Try.func28 (by kernel_rfl) rfl
    have hcon := AnyQ.slices_ContainsFunc Try.contSn 2 Try.isAgg30 Try.sizeOf30 (fun s : Sn => [Value.string s.f, Value.string s.t]) (fun _ => rfl) (fun s => hasS s key) 28 #[.pointer (some ⟨w.heap.size, 0, none⟩)] eg b o n c a (w.alloc (.cells #[.string key] 9))
      (spIn1 key w.heap.size _ (by simp) (by simp)) (by rw [ha.1]; exact Nat.le_refl _) hn (by simp; omega) (fun j hj i v hi => by
        refine Lib.cell?_alloc_some _ ?_
        have h1 := hcc j hj
        have e1 : a[j]! = a[j] := getElem!_pos a j hj
        rw [e1] at hi
        match i, hi with
        | 0, hi => simp at hi; rw [← hi]; exact h1.1
        | 1, hi => simp at hi; rw [← hi]; exact h1.2
        | i + 2, hi => simp at hi)
    change Calls Try.prog 27 _ _ _ at hcon
    rw [List.take_of_length_le (by rw [ha.1]; exact Nat.le_refl _)] at hcon
    have hx : a.any (fun s => hasS s key) = inL a key := rfl
    rw [hx] at hcon
    have HB := Lib.hid (nbl w (.cells #[.string key] 9))
    clear hcc eg hx ha
    generalize inL a key = r at hcon ⊢
    have HC := Lib.hid hcon
    clear hcon
    go_enter Try.func14, Try.ntmps14
    go_wp2_with (go_at_call 27; refine HC.out.mono ?_; rintro e w1 ⟨rfl, hb1⟩)
    go_ret
    exact ⟨rfl, HB.out.trans (hb1.mono HB.out.size)⟩
/-! ### Of -/
def ofS (k : ByteArray) : Sn := ⟨k, k ++ ⟨#[0]⟩⟩
theorem ret_sn2 {fn : Func} {Q : Ending → World → Prop} {a : Act} {w : World} {p u : Tmp} {g : Nat} {cs : Array Value} (hr : fn.results = #[.cell p 30, .tmp u]) (hp : a.tmps.getD p undef = .pointer (some ⟨g, 0, none⟩))
    (hB : Blk w g 30 cs) (hs : cs.size = 2) (hd : a.defers = []) (hR : Q (.returned (.tuple #[.agg cs, a.tmps.getD u undef])) w) : bodyPost Try.prog fn Q .ret a w := by
  refine bodyPost_ret ?_ hd hR
  have hp' : a.tmps[p]?.getD undef = .pointer (some ⟨g, 0, none⟩) := by simpa using hp
  simp [results, hr, hp', asAddr, run_loadVar_row w g 30 30 _ (0, 0) _ hB Try.underlying30 rfl (by rw [hs]; kernel_rfl)]
theorem Blk.all2 {w : World} {g : Nat} {t : TypeId} {c0 c1 v0 v1 : Value} (h : Blk w g t #[c0, c1]) : Blk ((w.setCell ⟨g, 0, none⟩ v0).setCell ⟨g, 1, none⟩ v1) g t #[v0, v1] := by
  have := (h.set_ 0 v0).set_ 1 v1
  simpa using this
theorem spOf (k : ByteArray) (w : World) (hk : k.size ≤ 32) : Calls Try.prog 17 #[.string k] w fun e w' => e = .returned (.tuple #[snv (ofS k), .int .i64 0]) ∧ Below w.heap.size w w' := by
  have HC := Lib.hid (fun V => spClone k V (by omega))
  have hki : ¬ (32 : Int) < (k.size : Int) := by omega
  have hsz : ¬ 9223372036854775807 < k.size + (⟨#[0]⟩ : ByteArray).size := by
    have : (⟨#[0]⟩ : ByteArray).size = 1 := rfl
    omega
  have HB := Lib.hid (nbl w (.cells #[.string ⟨#[]⟩, .string ⟨#[]⟩] 30))
  have HZ := Lib.hid (Blk.new w 30 #[.string ⟨#[]⟩, .string ⟨#[]⟩])
  unfold ofS
  go_enter Try.func17, Try.ntmps17
  go_wp2_with (go_at_call 29; refine (HC.out _).mono ?_; rintro e w1 ⟨rfl, hb1⟩; have hz := HZ.out.below hb1 (by simp); have c0 := hz.cell 0; have c1 := hz.cell 1; have f0 := hz.frozen 0; have f1 := hz.frozen 1; simp at c0 c1; have HZ1 := Lib.hid hz; have HB1 := Lib.hid (bst HB.out hb1); clear hz hb1)
  exact ret_sn2 rfl rfl (Blk.all2 HZ1.out) rfl rfl ⟨rfl, (((Grow.refl (fun i => i = w.heap.size) w1).set (.inl rfl) _).set (.inl rfl) _).below HB1.out HB1.out.size (fun i e => Nat.le_of_eq e.symm)⟩
end Go.Proofs.Ytdpdokgbockmbaa
