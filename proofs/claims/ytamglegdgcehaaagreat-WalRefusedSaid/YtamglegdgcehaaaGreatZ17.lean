/-
  Layer 8, the code: bytes of numbers, of texts, of a record.
  Layer 8, the code: bytes of texts, of a record.
  Layer 8, the code: the reader: what it takes off.
  Layer 8: 'append(v, ..)' of pieces where a region draws its order.
  Layer 8, the code: a batch's bytes.
-/
import Derived.Test.YtamglegdgcehaaaGreatZ10
import Derived.Test.YtamglegdgcehaaaGreatZ16
import Derived.Test.YtamglegdgcehaaaGreatZ02
import Derived.Test.YtamglegdgcehaaaGreatZ03
import Derived.Lib.MinMax
import Derived.Deep.AppendLies
import Derived.Deep.RegionHeld3
set_option linter.unusedVariables false
namespace Go.Proofs.YtamglegdgcehaaaGreat
open Go.RowKit

theorem take_map_succ {α β : Type} (f : α → β) (xs : List α) (k : Nat) (h : k < xs.length) : (xs.take (k + 1)).map f = (xs.take k).map f ++ [f xs[k]] := by
  rw [List.take_succ_eq_append_getElem h, List.map_append]; rfl
theorem flat_enc_le (xs : List Nat) (h : ∀ x ∈ xs, x ≤ 9007199254740991) : (xs.map enc).flatten.length ≤ xs.length * 8 := by
  induction xs with
  | nil => simp
  | cons x xs ih =>
    have := enc_len x (h x (by simp))
    have := ih (fun y hy => h y (by simp [hy]))
    simp only [List.map_cons, List.flatten_cons, List.length_append, List.length_cons]
    omega
set_option maxRecDepth 100000 in
set_option maxHeartbeats 4000000 in
theorem wNums (A : Option Addr) (n c : Nat) (xs : List Nat) (w : World) (hx : IAt w A n (xs.map Int.ofNat)) (hn : n ≤ 1000) (hm : ∀ x ∈ xs, x ≤ 9007199254740991) :
    Calls Tryz.prog 129 #[.slice A n c] w fun e w' => ∃ v, e = .returned v ∧ Own w' w.heap.size v (xs.map enc).flatten ∧ Below w.heap.size w w' := by
  have hxl : xs.length = n := by simpa using hx.1
  have HX := Lib.hid hx
  have hflat := flat_enc_le xs hm
  clear hx
  go_enter Tryz.func129, Tryz.ntmps129
  go_wp2
  go_loopw [3, 10] (fun v i wr => ∃ k : Nat, k ≤ n ∧ i = .int .i64 k ∧ Hid (LO wr w.heap.size v ((xs.take k).map enc)) ∧ Hid (Below w.heap.size w wr)) (fun _ i _ => n - (intOf i).toNat)
  case atStart => exact ⟨0, Nat.zero_le _, rfl, Lib.hid (LO.nil _ _), Lib.hid (Below.refl _ _)⟩
  case round =>
    obtain ⟨k, hk, rfl, HL, HB⟩ := hrel
    by_cases hlt : k < n
    · obtain ⟨b, o, rfl, hc⟩ := HX.out.2 (by omega)
      have hcell : wr.cell? ⟨b, o + k, none⟩ = some (.int .i64 ((xs[k]'(by omega) : Nat) : Int)) := by
        have h1 := hc k (by simp; omega)
        rw [HB.out.cell (World.block_lt_of_cell? w _ h1), h1]
        simp
      have hnum := Lib.hid (fun V => num (xs[k]'(by omega)) V (hm _ (List.getElem_mem _)))
      have ht := take_map_succ enc xs k (by omega)
      have HT := Lib.hid ht
      generalize hx : xs[k]'(by omega) = x at *
      have hsz := HB.out.size
      have hk24 : ((xs.take k).map enc).length = k := by simp; omega
      have HK := Lib.hid hk24
      clear hc hk24 ht
      go_wp2_with (first
        | (go_at_call 128; refine (hnum.out _).mono ?_; rintro e w2 ⟨v2, rfl, ho2, hb2⟩; obtain ⟨A2, c2, rfl, _⟩ := ho2.form; have HO2 := Lib.hid ho2; have HB2 := Lib.hid hb2; have hs2 := hb2.size; clear ho2 hb2)
        | (at_builtin; go_loud (refine wpList_appL rfl _ _ rfl w.heap.size u3 ((xs.take k).map enc) rfl ((HL.out.below HB2.out).below (nba _ _)) w2.heap.size 1 1 [.slice A2 (enc x).length c2] [enc x] rfl rfl (fun j u hj => by cases j with | zero => simp at hj; subst hj; simp | succ j => simp at hj) (Pcs.one ((HO2.out.base (by omega)).below (nba _ _))) (by rw [HK.out]; omega) (by simp; omega) ?_; intro v5 w5 h5 hg5; rw [← HT.out] at h5; have H5 := Lib.hid h5; have HG := Lib.hid (LO.grown ((HL.out.below HB2.out).below (nba _ _)) ((HB.out.trans (HB2.out.mono hsz)).alloc (by omega) _) (by simp; omega) hg5); clear h5 hg5)))
      go_roundw
      case rel => exact ⟨k + 1, by omega, by go_num, H5, HG⟩
      case measure => simp [intOf]; omega
    · obtain rfl : k = n := by omega
      have hl := HL.out
      rw [List.take_of_length_le (by omega)] at hl
      obtain ⟨L, hL⟩ : ∃ L, L = xs.map enc := ⟨_, rfl⟩
      rw [← hL] at hl hflat
      have hml : L.length ≤ 1000 := by rw [hL]; simp; omega
      have HLL := Lib.hid hL
      obtain ⟨A', c', rfl, hli, hle, hcm⟩ := hl.form
      have HLI := Lib.hid hli
      clear hl hli hL
      go_wp2_with (first
        | (go_at_call 92; go_loud (refine (join _ _ _ _ _ HLI.out (by omega) (by omega)).mono ?_; rintro e w2 ⟨v2, rfl, ho2, hb2⟩; have hs := HB.out.size)))
      go_ret
      exact ⟨v2, rfl, by rw [← HLL.out]; exact ho2.base hs, HB.out.trans (hb2.mono hs)⟩
end Go.Proofs.YtamglegdgcehaaaGreat
set_option linter.unusedVariables false
namespace Go.Proofs.YtamglegdgcehaaaGreat
open Go.RowKit

theorem sx_txt (s : ByteArray) (h : s.size ≤ 4096) : sx s 4096 = (txt s, 0) := by
  unfold sx txt
  rw [if_neg (by omega), if_neg (by omega)]
theorem txt_len (s : ByteArray) (h : s.size ≤ 4096) : (txt s).length ≤ 4104 := by
  have := enc_len s.size (by omega)
  unfold txt
  rw [List.length_append]
  have : (sb s).length = s.size := rfl
  omega
theorem flat_txt_le (xs : List ByteArray) (h : ∀ x ∈ xs, x.size ≤ 4096) : (xs.map txt).flatten.length ≤ xs.length * 4104 := by
  induction xs with
  | nil => simp
  | cons x xs ih =>
    have := txt_len x (h x (by simp))
    have := ih (fun y hy => h y (by simp [hy]))
    simp only [List.map_cons, List.flatten_cons, List.length_append, List.length_cons]
    omega
set_option maxRecDepth 100000 in
set_option maxHeartbeats 4000000 in
theorem wTexts (A : Option Addr) (n c : Nat) (xs : List ByteArray) (w : World) (hx : TAt w A n xs) (hn : n ≤ 1000) (hm : ∀ x ∈ xs, x.size ≤ 4096) :
    Calls Tryz.prog 130 #[.slice A n c] w fun e w' => ∃ v, e = .returned v ∧ Own w' w.heap.size v (xs.map txt).flatten ∧ Below w.heap.size w w' := by
  have hxl : xs.length = n := hx.1
  have HX := Lib.hid hx
  have hflat := flat_txt_le xs hm
  clear hx
  go_enter Tryz.func130, Tryz.ntmps130
  go_wp2
  go_loopw [3, 10] (fun v i wr => ∃ k : Nat, k ≤ n ∧ i = .int .i64 k ∧ Hid (LO wr w.heap.size v ((xs.take k).map txt)) ∧ Hid (Below w.heap.size w wr)) (fun _ i _ => n - (intOf i).toNat)
  case atStart => exact ⟨0, Nat.zero_le _, rfl, Lib.hid (LO.nil _ _), Lib.hid (Below.refl _ _)⟩
  case round =>
    obtain ⟨k, hk, rfl, HL, HB⟩ := hrel
    by_cases hlt : k < n
    · obtain ⟨b, o, rfl, hc⟩ := HX.out.2 (by omega)
      have hcell : wr.cell? ⟨b, o + k, none⟩ = some (.string (xs[k]'(by omega))) := by
        have h1 := hc k (by omega)
        rw [HB.out.cell (World.block_lt_of_cell? w _ h1), h1]
      have hnum := Lib.hid (fun V => str_any (xs[k]'(by omega)) 4096 _ _ V (by have := hm _ (List.getElem_mem (l := xs) (show k < xs.length by omega)); omega) (sx_txt _ (hm _ (List.getElem_mem _))))
      have ht := take_map_succ txt xs k (by omega)
      have HT := Lib.hid ht
      generalize hx : xs[k]'(by omega) = x at *
      have hsz := HB.out.size
      have hk24 : ((xs.take k).map txt).length = k := by simp; omega
      have HK := Lib.hid hk24
      clear hc hk24 ht
      go_wp2_with (first
        | (go_at_call 165; refine (hnum.out _).mono ?_; rintro e w2 ⟨A2, m2, c2, rfl, ho2, hm2, hc2, hb2⟩; have hl2 := ho2.len; obtain rfl : m2 = (txt x).length := hl2.symm; clear hl2; have HO2 := Lib.hid ho2; have HB2 := Lib.hid hb2; have hs2 := hb2.size; clear ho2 hb2)
        | (at_builtin; go_loud (refine wpList_appL rfl _ _ rfl w.heap.size u3 ((xs.take k).map txt) rfl ((HL.out.below HB2.out).below (nba _ _)) w2.heap.size 1 1 [.slice A2 (txt x).length c2] [txt x] rfl rfl (fun j u hj => by cases j with | zero => simp at hj; subst hj; simp | succ j => simp at hj) (Pcs.one ((HO2.out.base (by omega)).below (nba _ _))) (by rw [HK.out]; omega) (by simp; omega) ?_; intro v5 w5 h5 hg5; rw [← HT.out] at h5; have H5 := Lib.hid h5; have HG := Lib.hid (LO.grown ((HL.out.below HB2.out).below (nba _ _)) ((HB.out.trans (HB2.out.mono hsz)).alloc (by omega) _) (by simp; omega) hg5); clear h5 hg5)))
      go_roundw
      case rel => exact ⟨k + 1, by omega, by go_num, H5, HG⟩
      case measure => simp [intOf]; omega
    · obtain rfl : k = n := by omega
      have hl := HL.out
      rw [List.take_of_length_le (by omega)] at hl
      obtain ⟨L, hL⟩ : ∃ L, L = xs.map txt := ⟨_, rfl⟩
      rw [← hL] at hl hflat
      have hml : L.length ≤ 1000 := by rw [hL]; simp; omega
      have HLL := Lib.hid hL
      obtain ⟨A', c', rfl, hli, hle, hcm⟩ := hl.form
      have HLI := Lib.hid hli
      clear hl hli hL
      go_wp2_with (first
        | (go_at_call 92; go_loud (refine (join _ _ _ _ _ HLI.out (by omega) (by omega)).mono ?_; rintro e w2 ⟨v2, rfl, ho2, hb2⟩; have hs := HB.out.size)))
      go_ret
      exact ⟨v2, rfl, by rw [← HLL.out]; exact ho2.base hs, HB.out.trans (hb2.mono hs)⟩

set_option maxRecDepth 100000 in
theorem wRec (A : Option Addr) (n c : Nat) (xs : List UInt8) (w : World) (hx : At w A n xs) (hnc : n ≤ c) (hc : c ≤ 9223372036854775807) (hn : n ≤ 65536) :
    Calls Tryz.prog 132 #[.slice A n c] w fun e w' => ∃ v, e = .returned v ∧ Own w' w.heap.size v (fr xs) ∧ Below w.heap.size w w' := by
  have HF := Lib.hid (frame_ok A n c xs w hx hnc hc (by omega))
  rw [if_neg (by omega), if_neg (by omega)] at HF
  clear hx
  go_enter Tryz.func132, Tryz.ntmps132
  go_wp2_with (first
    | (go_at_call 69; go_loud (refine HF.out.mono ?_; rintro e w2 ⟨v2, rfl, ho2, hb2⟩)))
  go_ret
  exact ⟨v2, rfl, ho2, hb2⟩
end Go.Proofs.YtamglegdgcehaaaGreat
set_option linter.unusedVariables false
namespace Go.Proofs.YtamglegdgcehaaaGreat
open Go.RowKit

/-- A reader in memory. -/
def RdAt (w : World) (q : Nat) (x : Rd) : Prop :=
  ∃ A n c, w.heap[q]? = some (.cells #[.slice A n c, .bool x.bad] 183 (0, 0)) ∧ At w A n x.left ∧ n ≤ c ∧ c ≤ 9223372036854775807 ∧ (0 < n → InF (fun k => k < q) A)
theorem RdAt.below {w w' : World} {q : Nat} {x : Rd} (h : RdAt w q x) (hb : Below w.heap.size w w') : RdAt w' q x := by
  obtain ⟨A, n, c, h1, h2, h3, h4, h5⟩ := h
  exact ⟨A, n, c, (hb.block q (Array.getElem?_eq_some_iff.1 h1).1).trans h1, h2.below' hb, h3, h4, h5⟩
theorem RdAt.lt {w : World} {q : Nat} {x : Rd} (h : RdAt w q x) : q < w.heap.size := by
  obtain ⟨A, n, c, h1, _⟩ := h
  exact (Array.getElem?_eq_some_iff.1 h1).1
set_option maxRecDepth 100000 in
set_option maxHeartbeats 4000000 in
theorem wFirst (w : World) (q : Nat) (x : Rd) (most : Nat) (hm : most ≤ 100000) (hR : RdAt w q x) :
    Calls Tryz.prog 175 #[pt q, .int .i64 (most : Int)] w fun e w' => ∃ A m c, e = .returned (.slice A m c) ∧ At w' A m (x.left.take most) ∧ m ≤ c ∧ c ≤ 9223372036854775807 ∧ Below w.heap.size w w' := by
  obtain ⟨A, n, c, h1, h2, h3, h4, h5⟩ := hR
  have c0 := cell_of_row w q 0 _ _ (0, 0) h1
  have hl := h2.1
  obtain ⟨k, hk⟩ : ∃ k : Nat, (min (most : Int) (n : Int)) = (k : Int) ∧ k = min most n := ⟨min most n, by omega, rfl⟩
  obtain ⟨hk, hk'⟩ := hk
  have hs := fun W => slb_h A n c .i64 (min (most : Int) (n : Int)) W (by omega) (by omega)
  rw [hk, Int.toNat_natCast] at hs
  have hat := h2.cut (l := 0) (k := k) (m := c) (Nat.zero_le _) (by omega) (by omega)
  rw [cutA_zero, List.drop_zero, Nat.sub_zero, hk'] at hat
  have htk : x.left.take (min most n) = x.left.take most := by rw [← hl]; simp [List.take_eq_take_iff]
  rw [htk, ← hk'] at hat
  have m1 : min (most : Int) (n : Int) ≤ most := by omega
  have HA := Lib.hid hat
  have HK := Lib.hid hk'
  clear h1 h2 h5 hat hk' htk
  go_enter Tryz.func175, Tryz.ntmps175
  go_wp2
  go_quiet (fail)
  go_wp2
  go_ret
  exact ⟨A, k, c, rfl, HA.out.drewN _, by have := HK.out; omega, h4, below_drewN (Below.refl _ _) _⟩
abbrev Only (q : Nat) (w w' : World) : Prop := Grow (fun k => k = q) w w'
theorem Only.set {q : Nat} {w V : World} (h : Only q w V) (i : Nat) (u : Value) : Only q w (V.setCell ⟨q, i, none⟩ u) := Grow.set (F := fun k => k = q) h (p := ⟨q, i, none⟩) (.inl rfl) u
theorem Only.refl (q : Nat) (w : World) : Only q w w := Grow.refl _ _
theorem rd_frozen {w : World} {q : Nat} {cs : Array Value} {t : TypeId} (h : w.heap[q]? = some (.cells cs t (0, 0))) (i : Nat) : w.frozen? ⟨q, i, none⟩ = false := by simp [World.frozen?, h]
theorem set_row {w : World} {q : Nat} {cs : Array Value} {t : TypeId} (h : w.heap[q]? = some (.cells cs t (0, 0))) (i : Nat) (u : Value) : (w.setCell ⟨q, i, none⟩ u).heap[q]? = some (.cells (cs.setIfInBounds i u) t (0, 0)) := by
  simp [World.setCell, Array.getElem?_modify, h]
theorem RdAt.put {w V : World} {q : Nat} {A : Option Addr} {n c : Nat} {ys : List UInt8} {b : Bool} (hobj : V.heap[q]? = some (.cells #[.slice A n c, .bool b] 183 (0, 0))) (hat : At w A n ys) (hk : ∀ k, k ≠ q → V.heap[k]? = w.heap[k]?) (hs : w.heap.size ≤ V.heap.size)
    (hnc : n ≤ c) (hc : c ≤ 9223372036854775807) (hF : 0 < n → InF (fun k => k < q) A) : RdAt V q ⟨ys, b⟩ := by
  refine ⟨A, n, c, hobj, ?_, hnc, hc, hF⟩
  rcases Nat.eq_zero_or_pos n with h0 | h0
  · subst h0
    obtain rfl : ys = [] := List.eq_nil_of_length_eq_zero hat.1
    exact ⟨rfl, fun h => absurd h (by omega)⟩
  · exact hat.on (F := fun k => k ≠ q) (fun a e => Nat.ne_of_lt (hF h0 a e)) hk
theorem InF.cutA {P : Nat → Prop} {A : Option Addr} (h : InF P A) (c k : Nat) : InF P (Go.Proofs.YtamglegdgcehaaaGreat.cutA A c k) := by
  intro a e
  unfold Go.Proofs.YtamglegdgcehaaaGreat.cutA at e
  split at e
  · exact h a e
  · cases A with
    | none => cases e
    | some a' =>
      have := h a' rfl
      simp at e
      subst e
      obtain ⟨b, o, p⟩ := a'
      unfold Addr.add
      cases p <;> simp only <;> (try split) <;> exact this
/-- What 'pass' leaves. -/
def rPass (x : Rd) (k : Nat) (e : Nat) : Rd := if e = 0 then ⟨x.left.drop k, x.bad⟩ else ⟨[], true⟩
set_option maxRecDepth 100000 in
set_option maxHeartbeats 4000000 in
theorem wPass (w : World) (q : Nat) (x : Rd) (k e : Nat) (hk : e = 0 → k ≤ x.left.length) (hR : RdAt w q x) :
    Calls Tryz.prog 176 #[pt q, .int .i64 (k : Int), .int .i64 (e : Int)] w fun y w' => y = .returned (.tuple #[]) ∧ RdAt w' q (rPass x k e) ∧ Only q w w' := by
  obtain ⟨A, n, c, h1, h2, h3, h4, h5⟩ := hR
  have c0 := cell_of_row w q 0 _ _ (0, 0) h1
  have z0 := rd_frozen h1 0
  have z1 := rd_frozen h1 1
  have hl := h2.1
  by_cases he : e = 0
  · subst he
    have hk := hk rfl
    have hs := fun W => slb_l A n c .i64 (k : Int) W (by omega) (by omega)
    rw [Int.toNat_natCast] at hs
    have hat := h2.cut (l := k) (k := n) (m := c) (by omega) (by omega) h3
    rw [List.take_of_length_le (by omega)] at hat
    have H := Lib.hid (show RdAt (w.setCell ⟨q, 0, none⟩ (.slice (cutA A c k) (n - k) (c - k))) q (rPass x k 0) from
      RdAt.put (w := w) (set_row h1 0 _) hat (fun b hb => set_blk _ _ _ _ hb) (by rw [set_size]; exact Nat.le_refl _) (by omega) (by omega) (fun h0 => (h5 (by omega)).cutA c k))
    clear hat h1 h2 h5
    go_enter Tryz.func176, Tryz.ntmps176
    go_wp2
    first | go_end0 | (refine bodyPost_ret (results_none rfl _ _ _) rfl ?_)
    exact ⟨rfl, H.out, (Only.refl q w).set 0 _⟩
  · have he' : ((e : Int) != 0) = true := by simp; omega
    have hr : rPass x k e = ⟨[], true⟩ := by unfold rPass; rw [if_neg he]
    have h6 := set_row h1 1 (.bool true)
    have z3 := rd_frozen h6 0
    have c1 := cell_of_row w q 1 _ _ (0, 0) h1
    have c2 := cell_of_row _ q 0 _ _ (0, 0) h6
    have H := Lib.hid (show RdAt ((w.setCell ⟨q, 1, none⟩ (.bool true)).setCell ⟨q, 0, none⟩ (.slice none 0 0)) q ⟨[], true⟩ from
      RdAt.put (w := w) (set_row h6 0 _) (At.nil w none) (fun b hb => (set_blk _ _ _ _ hb).trans (set_blk _ _ _ _ hb)) (by rw [set_size, set_size]; exact Nat.le_refl _) (by omega) (by omega) (fun h0 => absurd h0 (by omega)))
    rw [← hr] at H
    clear h1 h2 h5 h6 hk he hr
    go_enter Tryz.func176, Tryz.ntmps176
    go_wp2
    first | go_end0 | (refine bodyPost_ret (results_none rfl _ _ _) rfl ?_)
    exact ⟨rfl, H.out, ((Only.refl q w).set 1 _).set 0 _⟩
theorem RdAt.room {w : World} {q : Nat} {x : Rd} (h : RdAt w q x) : q < w.heap.size := h.lt
set_option maxRecDepth 100000 in
set_option maxHeartbeats 4000000 in
theorem wDone (w : World) (q : Nat) (x : Rd) (hR : RdAt w q x) :
    Calls Tryz.prog 157 #[pt q] w fun y w' => y = .returned (.bool (rDone x)) ∧ Below w.heap.size w w' := by
  obtain ⟨A, n, c, h1, h2, h3, h4, h5⟩ := hR
  have c0 := cell_of_row w q 0 _ _ (0, 0) h1
  have c1 := cell_of_row w q 1 _ _ (0, 0) h1
  have hl := h2.1
  have hr : rDone x = (!x.bad && decide (n = 0)) := by
    unfold rDone
    rw [← hl]
    cases x.left <;> simp
  rw [hr]
  clear h1 h2 h5 hr hl
  generalize x.bad = b at *
  cases b with
  | true =>
    go_enter Tryz.func157, Tryz.ntmps157
    go_wp2
    go_ret
    exact ⟨rfl, Below.refl _ _⟩
  | false =>
    go_enter Tryz.func157, Tryz.ntmps157
    go_wp2
    go_ret
    refine ⟨?_, Below.refl _ _⟩
    cases n <;> simp <;> omega

theorem rNum_take (x : Rd) : ∃ r : List UInt8, tk (x.left.take 8) = ((tk x.left).1, r, (tk x.left).2.2) ∧ r.length ≤ (x.left.take 8).length ∧
    ((tk x.left).2.2 = 0 → (x.left.take 8).length - r.length ≤ x.left.length) ∧ rPass x ((x.left.take 8).length - r.length) (tk x.left).2.2 = (rNum x).2 ∧ (tk x.left).1 ≤ 9007199254740991 := by
  obtain ⟨r, h1, h2, h3, h4, h5⟩ := tk_take8 (b := x.left) (rest := (tk x.left).2.1) (v := (tk x.left).1) (x := (tk x.left).2.2) rfl
  refine ⟨r, h1, h2, fun h0 => by have := h5 h0; omega, ?_, h4⟩
  unfold rPass rNum
  by_cases h0 : (tk x.left).2.2 = 0
  · obtain ⟨h6, h7, _, _⟩ := h5 h0
    rw [if_pos h0, h7, ← h6, h0]
    simp
  · rw [if_neg h0]
    have hb : (tk x.left).2.1 = [] := by
      rcases tk_cases x.left with h | h | ⟨l, s, hb, hl, hh, hv, h⟩
      · rw [h]
      · rw [h]
      · rw [h] at h0; exact absurd rfl h0
    rw [hb]
    simp [h0]
set_option maxRecDepth 100000 in
set_option maxHeartbeats 4000000 in
theorem wNumber (w : World) (q : Nat) (x : Rd) (hR : RdAt w q x) :
    Calls Tryz.prog 156 #[pt q] w fun y w' => y = .returned (.int .i64 ((rNum x).1 : Nat)) ∧ RdAt w' q (rNum x).2 ∧ Only q w w' := by
  obtain ⟨r, h1, h2, h3, h4, h5⟩ := rNum_take x
  have HF := Lib.hid (wFirst w q x 8 (by omega) hR)
  have HP := Lib.hid (fun V k => wPass V q x k (tk x.left).2.2)
  have hlen : (x.left.take 8).length ≤ 8 := by rw [List.length_take]; omega
  have HR := Lib.hid hR
  have H1 := Lib.hid h1
  have hv : (rNum x).1 = (tk x.left).1 := rfl
  rw [hv]
  rw [← h4]
  generalize (tk x.left).1 = v at *
  generalize (tk x.left).2.2 = e at *
  generalize hh : x.left.take 8 = hd at *
  clear hR h1 h4 hv
  go_enter Tryz.func156, Tryz.ntmps156
  go_wp2_with (first
    | (go_at_call 175; go_loud (refine HF.out.mono ?_; rintro e w1 ⟨A, m, c, rfl, hat, hmc, hc, hb⟩; have hm := hat.1))
    | (go_at_call 89; go_loud (refine (takeNum_any A m c hd r v e w1 hat hmc hc (by omega) H1.out).mono ?_; rintro e w2 ⟨A2, m2, c2, rfl, hown, hm2, hc2, hb2⟩; have hr2 := hown.len))
    | (go_at_call 176; go_loud (rw [show ((m : Int) - (m2 : Int)) = ((hd.length - r.length : Nat) : Int) from by omega]; refine (HP.out _ _ h3 (HR.out.below (hb.trans (hb2.mono hb.size)))).mono ?_; rintro _ w3 ⟨rfl, hR3, hO⟩)))
  go_ret
  exact ⟨rfl, hR3, (Grow.of_below (hb.trans (hb2.mono hb.size))).trans (hO.mono fun _ e => .inl e)⟩

theorem tk_takeN (b : List UInt8) (N : Nat) (hN : 8 ≤ N) : ∃ r, tk (b.take N) = ((tk b).1, r, (tk b).2.2) ∧ ((tk b).2.2 = 0 → ∃ k, 1 ≤ k ∧ k ≤ 8 ∧ k ≤ b.length ∧ (tk b).2.1 = b.drop k ∧ r = (b.take N).drop k) := by
  obtain ⟨r1, h1, h2, h3, h4, h5⟩ := tk_take8 (b := b) (rest := (tk b).2.1) (v := (tk b).1) (x := (tk b).2.2) rfl
  obtain ⟨r2, g1, g2, g3, g4, g5⟩ := tk_take8 (b := b.take N) (rest := (tk (b.take N)).2.1) (v := (tk (b.take N)).1) (x := (tk (b.take N)).2.2) rfl
  have he : (b.take N).take 8 = b.take 8 := by rw [List.take_take]; congr 1; omega
  rw [he, h1] at g1
  injection g1 with e1 e2
  injection e2 with e2 e3
  refine ⟨(tk (b.take N)).2.1, by rw [e1, e3], fun h0 => ?_⟩
  obtain ⟨a1, a2, a3, a4⟩ := h5 h0
  obtain ⟨c1, c2, c3, c4⟩ := g5 (by rw [← e3]; exact h0)
  rw [he, ← e2, a2] at c2
  exact ⟨b.length - (tk b).2.1.length, a3, a4, by omega, a1, by rw [c1, ← c2]⟩
theorem rStr_take (x : Rd) : ∃ r : List UInt8, tsx (x.left.take 4104) 4096 = ((tsx x.left 4096).1, r, (tsx x.left 4096).2.2) ∧ r.length ≤ (x.left.take 4104).length ∧
    ((tsx x.left 4096).2.2 = 0 → (x.left.take 4104).length - r.length ≤ x.left.length) ∧ rPass x ((x.left.take 4104).length - r.length) (tsx x.left 4096).2.2 = (rStr x).2 := by
  obtain ⟨r, h1, h2⟩ := tk_takeN x.left 4104 (by omega)
  have hbig : ¬ ((4096 : Int) < 0) := by omega
  unfold rPass rStr
  have hts : ∀ b : List UInt8, tsx b 4096 = ts b 4096 := fun b => by unfold tsx; rw [if_neg hbig]
  simp only [hts]
  have hd : ∀ b : List UInt8, ts b 4096 = if (tk b).2.2 ≠ 0 then ([], [], (tk b).2.2) else if (4096 : Int) < (tk b).1 then ([], [], 5) else if (tk b).2.1.length < (tk b).1 then ([], [], 3) else ((tk b).2.1.take (tk b).1, (tk b).2.1.drop (tk b).1, 0) := fun b => rfl
  rw [hd (x.left.take 4104), hd x.left, h1]
  simp only
  by_cases h0 : (tk x.left).2.2 = 0
  · obtain ⟨k, k1, k8, kl, e1, e2⟩ := h2 h0
    simp only [h0, ne_eq, not_true_eq_false, ↓reduceIte]
    by_cases hv : (4096 : Int) < (tk x.left).1
    · simp only [hv, ↓reduceIte]
      exact ⟨[], rfl, by simp, fun h => by simp at h, by simp⟩
    · simp only [hv, ↓reduceIte]
      rw [e1, e2]
      have hll : ((x.left.take 4104).drop k).length = min 4104 x.left.length - k := by simp
      have hlr : (x.left.drop k).length = x.left.length - k := by simp
      by_cases hr : (x.left.drop k).length < (tk x.left).1
      · have hr2 : ((x.left.take 4104).drop k).length < (tk x.left).1 := by omega
        simp only [hr, hr2, ↓reduceIte]
        exact ⟨[], rfl, by simp, fun h => by simp at h, by simp⟩
      · have hr2 : ¬ ((x.left.take 4104).drop k).length < (tk x.left).1 := by omega
        simp only [hr, hr2, ↓reduceIte]
        refine ⟨((x.left.take 4104).drop k).drop (tk x.left).1, ?_, ?_, fun _ => ?_, ?_⟩
        · congr 1
          rw [List.drop_take, List.take_take]
          congr 1
          omega
        · simp
        · simp; omega
        · have hc : (x.left.take 4104).length - (((x.left.take 4104).drop k).drop (tk x.left).1).length = k + (tk x.left).1 := by simp; omega
          rw [hc, List.drop_drop]
          simp
  · simp only [h0, ne_eq, not_false_eq_true, ↓reduceIte]
    exact ⟨[], rfl, by simp, fun h => h.elim, by simp⟩
set_option maxRecDepth 100000 in
set_option maxHeartbeats 4000000 in
theorem wText (w : World) (q : Nat) (x : Rd) (hR : RdAt w q x) :
    Calls Tryz.prog 158 #[pt q] w fun y w' => y = .returned (.string (rStr x).1) ∧ RdAt w' q (rStr x).2 ∧ Only q w w' := by
  obtain ⟨r, h1, h2, h3, h4⟩ := rStr_take x
  have HF := Lib.hid (wFirst w q x 4104 (by omega) hR)
  have HP := Lib.hid (fun V k => wPass V q x k (tsx x.left 4096).2.2)
  have hlen : (x.left.take 4104).length ≤ 4104 := by rw [List.length_take]; omega
  have HR := Lib.hid hR
  have H1 := Lib.hid h1
  have hv : (rStr x).1 = ⟨(tsx x.left 4096).1.toArray⟩ := rfl
  rw [hv]
  rw [← h4]
  generalize (tsx x.left 4096).1 = v at *
  generalize (tsx x.left 4096).2.2 = e at *
  generalize hh : x.left.take 4104 = hd at *
  clear hR h1 h4 hv
  go_enter Tryz.func158, Tryz.ntmps158
  go_wp2_with (first
    | (go_at_call 175; go_loud (refine HF.out.mono ?_; rintro e w1 ⟨A, m, c, rfl, hat, hmc, hc, hb⟩; have hm := hat.1))
    | (go_at_call 177; go_loud (refine (takeStr_any A m c 4096 hd v r e w1 hat hmc hc (by omega) H1.out).mono ?_; rintro e w2 ⟨A2, m2, c2, rfl, hown, hm2, hc2, hb2⟩; have hr2 := hown.len))
    | (go_at_call 176; go_loud (rw [show ((m : Int) - (m2 : Int)) = ((hd.length - r.length : Nat) : Int) from by omega]; refine (HP.out _ _ h3 (HR.out.below (hb.trans (hb2.mono hb.size)))).mono ?_; rintro _ w3 ⟨rfl, hR3, hO⟩)))
  go_ret
  exact ⟨rfl, hR3, (Grow.of_below (hb.trans (hb2.mono hb.size))).trans (hO.mono fun _ e => .inl e)⟩
end Go.Proofs.YtamglegdgcehaaaGreat
set_option linter.unusedVariables false
namespace Go.Proofs.YtamglegdgcehaaaGreat
open Go.RowKit

theorem step_appL {w : World} {ops : Array Oper} {o : Oper} {a : Act} {K : Act → World → Prop} {Q : Exit → Act → World → Prop} {E : Prop} (hgd : o.guard = none) (s x : Operand)
    (ho : o.op = .call { callee := .builtin .append, args := #[s, x], argTypes := #[42, 42] })
    (B : Nat) (v : Value) (ls : List (List UInt8)) (hs : a.eval s = v) (hown : LO w B v ls)
    (g m c : Nat) (news : List Value) (ls2 : List (List UInt8)) (hx : a.eval x = .slice (some ⟨g, 0, none⟩) m c) (hm : ls2.length = m) (hm0 : 0 < m) (hn : ∀ j u, news[j]? = some u → w.cell? ⟨g, j, none⟩ = some u) (hP : Pcs w B news ls2)
    (hsz : (ls.length + m) * 24 ≤ 140737488355328) (hbase : B ≤ w.heap.size)
    (h : ∀ v' w', LO w' B v' (ls ++ ls2) → w.grownBy w' v.ownBlock → K (a.put o.dst v') w') :
    if Region.wanted o (yielded ops a.tmps) = true then Oper.wp Tryz.prog o a w K Q else E := by
  obtain ⟨z, hinfo, hzc⟩ := infoB
  obtain ⟨i, hi, hz, hsz1, hby⟩ := info_parts hinfo
  obtain ⟨us, h1, h2⟩ := hown
  have hnl : news.length = m := by rw [hP.1, hm]
  refine step_append_lies (w := w) hgd s x 42 ho B 40 i z 1 24 Tryz.underlying42 hi hz hsz1 hby hzc (by omega) v ls.length us hs h1 ⟨g, 0, none⟩ m c news hx (by omega)
    (fun j u hj => ?_) (fun u hu => ?_) hm0 (by unfold maxLen; omega) hsz hbase _ rfl (fun g' cap w' hr hg _ _ => ?_)
  · rw [Go.WideShapes.add_plain, Nat.zero_add]; exact hn j u hj
  · obtain ⟨j, hj⟩ := List.mem_iff_getElem?.1 hu
    have hjl : j < ls2.length := by
      rcases Nat.lt_or_ge j news.length with h | h
      · omega
      · rw [List.getElem?_eq_none h] at hj; cases hj
    obtain ⟨A, c', rfl, _⟩ := (hP.2 j u _ hj (List.getElem?_eq_getElem hjl)).form
    rfl
  · have hon : ∀ u l, Own w B u l → Own w' B u l := fun u l ho => ho.onS fun k hk => hg.block k (World.ownsRow.lt ho k hk).2 (fun e => own_apart h1 ho hk e.symm)
    refine h _ w' ⟨us ++ news, by rw [List.length_append, hm]; exact hr, ?_⟩ hg
    exact (h2.on fun _ u l ho _ => hon u l ho).append (hP.on fun _ u l ho _ => hon u l ho)
end Go.Proofs.YtamglegdgcehaaaGreat
set_option linter.unusedVariables false
namespace Go.Proofs.YtamglegdgcehaaaGreat
open Go.RowKit

def flag (o : Op_) : Nat := if o.del then 1 else 0
def opP (o : Op_) : List (List UInt8) := [([flag o].map enc).flatten, ([o.key, o.value].map txt).flatten]
def batP (k n : Nat) (l : List Op_) : List (List UInt8) := ([k, n].map enc).flatten :: (l.map opP).flatten
theorem batP_succ (k n : Nat) (l : List Op_) (i : Nat) (h : i < l.length) : batP k n (l.take (i + 1)) = batP k n (l.take i) ++ opP (l[i]'h) := by
  unfold batP
  rw [List.take_succ_eq_append_getElem h, List.map_append, List.flatten_append]
  simp
theorem batP_len (k n : Nat) (l : List Op_) : (batP k n l).length = 1 + l.length * 2 := by
  unfold batP
  induction l with
  | nil => simp
  | cons o l ih =>
    simp only [List.map_cons, List.flatten_cons, List.length_cons, List.length_append] at ih ⊢
    have : (opP o).length = 2 := rfl
    omega
theorem batP_flat (k : Nat) (l : List Op_) : (batP k l.length l).flatten = batB k l := by
  unfold batP batB
  have : ∀ l : List Op_, ((l.map opP).flatten).flatten = (l.map opB).flatten := by
    intro l
    induction l with
    | nil => rfl
    | cons o l ih =>
      rw [List.map_cons, List.flatten_cons, List.flatten_append, ih, List.map_cons, List.flatten_cons]
      congr 1
      simp [opP, opB, flag]
  simp [this]
theorem lo_lit {V : World} {B : Nat} {A : Option Addr} {m c : Nat} {l : List UInt8} (h : Own V B (.slice A m c) l) (hB : B ≤ V.heap.size) : LO (V.alloc (.cells #[.slice A m c] 40)) B (.slice (some ⟨V.heap.size, 0, none⟩) 1 1) [l] := by
  refine ⟨[.slice A m c], ?_, Pcs.one (h.below (nba V _))⟩
  exact World.ownsRow_lit (base := B) (e := 40) (size := 1) V #[.slice A m c] 1 hB (by unfold maxLen; omega) rfl
theorem opB_le (o : Op_) (h : o.key.size ≤ 4096 ∧ o.value.size ≤ 4096) : (opB o).length ≤ 8216 := by
  unfold opB
  have h1 := txt_len o.key h.1
  have h2 := txt_len o.value h.2
  have h3 := enc_len (if o.del then 1 else 0) (by split <;> omega)
  rw [List.length_append, List.length_append]
  omega
theorem batB_le (k : Nat) (l : List Op_) (hk : k ≤ 9007199254740991) (hn : l.length ≤ 128) (hs : ∀ o ∈ l, o.key.size ≤ 4096 ∧ o.value.size ≤ 4096) : (batB k l).length ≤ 2000000 := by
  unfold batB
  have h1 := enc_len k hk
  have h2 := enc_len l.length (by omega)
  have h3 : ∀ l : List Op_, (∀ o ∈ l, o.key.size ≤ 4096 ∧ o.value.size ≤ 4096) → (l.map opB).flatten.length ≤ l.length * 8216 := by
    intro l
    induction l with
    | nil => intro _; simp
    | cons o l ih =>
      intro h
      have := ih (fun x hx => h x (by simp [hx]))
      have := opB_le o (h o (by simp))
      simp only [List.map_cons, List.flatten_cons, List.length_append, List.length_cons]
      omega
  have := h3 l hs
  rw [List.length_append, List.length_append]
  omega
theorem lit_i (V : World) (q x : Nat) (t : TypeId) (hq : q = V.heap.size) : IAt (V.alloc (.cells #[.int .i64 (x : Int)] t)) (some ⟨q, 0, none⟩) 1 ([x].map Int.ofNat) := by
  subst hq
  refine ⟨rfl, fun _ => ⟨_, 0, rfl, fun i hi => ?_⟩⟩
  simp at hi
  subst hi
  simp
theorem lit_t (V : World) (q : Nat) (s u : ByteArray) (t : TypeId) (hq : q = V.heap.size) : TAt (V.alloc (.cells #[.string s, .string u] t)) (some ⟨q, 0, none⟩) 2 [s, u] := by
  subst hq
  refine ⟨rfl, fun _ => ⟨_, 0, rfl, fun i hi => ?_⟩⟩
  match i, hi with
  | 0, _ => simp
  | 1, _ => simp
theorem lit_two (V : World) (x y : Nat) (t : TypeId) : IAt (V.alloc (.cells #[.int .i64 (x : Int), .int .i64 (y : Int)] t)) (some ⟨V.heap.size, 0, none⟩) 2 ([x, y].map Int.ofNat) := by
  refine ⟨rfl, fun _ => ⟨_, 0, rfl, fun i hi => ?_⟩⟩
  match i, hi with
  | 0, _ => simp
  | 1, _ => simp
section
variable {V X z : World} {A : Option Addr} {n : Nat} {xs : List Int} {ts : List ByteArray}
theorem iat_of (hb : Below V.heap.size V z) (h : IAt V A n xs) : IAt z A n xs := by
  refine ⟨h.1, fun h0 => ?_⟩
  obtain ⟨b, o, e, hc⟩ := h.2 h0
  exact ⟨b, o, e, fun i hi => by rw [hb.cell (World.block_lt_of_cell? V _ (hc i hi)), hc i hi]⟩
theorem tat_of (hb : Below V.heap.size V z) (h : TAt V A n ts) : TAt z A n ts := h.below hb
theorem ial (h : IAt V A n xs) (o : Obj) : IAt (V.alloc o) A n xs := iat_of (nba V o) h
theorem idr (h : IAt V A n xs) : IAt V.drew A n xs := h
theorem idrN (h : IAt V A n xs) (k : Nat) : IAt (V.drewN k) A n xs := iat_of (below_drewN (Below.refl _ _) k) h
theorem tal (h : TAt V A n ts) (o : Obj) : TAt (V.alloc o) A n ts := h.below (nba V o)
theorem tdr (h : TAt V A n ts) : TAt V.drew A n ts := h
theorem tdrN (h : TAt V A n ts) (k : Nat) : TAt (V.drewN k) A n ts := h.below (below_drewN (Below.refl _ _) k)
theorem bal (h : Below X.heap.size X V) (o : Obj) : Below X.heap.size X (V.alloc o) := h.alloc h.size o
theorem bdr (h : Below X.heap.size X V) : Below X.heap.size X V.drew := h.drew
theorem bdrN (h : Below X.heap.size X V) (k : Nat) : Below X.heap.size X (V.drewN k) := below_drewN h k
theorem jstep (h : Below X.heap.size X V) (hb : Below V.heap.size V z) : Below X.heap.size X z := h.trans (hb.mono h.size)
theorem bcell (h : Below X.heap.size X V) {a : Addr} {v : Value} (hc : X.cell? a = some v) : V.cell? a = some v := by rw [h.cell (World.block_lt_of_cell? X _ hc), hc]
theorem bsz (h : Below X.heap.size X V) : X.heap.size ≤ V.heap.size := h.size
theorem tat_later (hb : Below V.heap.size V z) (q : Nat) (s u : ByteArray) (h0 : V.cell? ⟨q, 0, none⟩ = some (.string s)) (h1 : V.cell? ⟨q, 1, none⟩ = some (.string u)) : TAt z (some ⟨q, 0, none⟩) 2 [s, u] := by
  refine ⟨rfl, fun _ => ⟨_, 0, rfl, fun i hi => ?_⟩⟩
  match i, hi with
  | 0, _ => exact bcell hb h0
  | 1, _ => exact bcell hb h1
theorem gcell {gb j : Nat} {v u : Value} (hg : V.grownBy z v.ownBlock) (h : Below X.heap.size X V) (hc : X.cell? ⟨gb, j, none⟩ = some u) (hne : v.ownBlock ≠ some gb) : z.cell? ⟨gb, j, none⟩ = some u := hg.cell (bcell h hc) (fun e => hne e.symm)
theorem own_of {B : Nat} {u : Value} {l : List UInt8} (h : Below X.heap.size X V) (ho : Own X B u l) : Own V B u l := ho.below h
end
set_option maxRecDepth 100000 in
set_option maxHeartbeats 16000000 in
theorem wBatch (k : Nat) (A : Option Addr) (n c : Nat) (l : List Op_) (w : World) (hx : OAt w A n l) (hn : n ≤ 128) (hk : k ≤ 9007199254740991) (hs : ∀ o ∈ l, o.key.size ≤ 4096 ∧ o.value.size ≤ 4096) :
    Calls Tryz.prog 70 #[.int .i64 (k : Int), .slice A n c] w fun e w' => ∃ v, e = .returned v ∧ Own w' w.heap.size v (batB k l) ∧ Below w.heap.size w w' := by
  have hl := hx.1
  have HX := Lib.hid hx
  have HS := Lib.hid hs
  obtain ⟨L0, hL0⟩ : ∃ L0, L0 = ([k, n].map enc).flatten := ⟨_, rfl⟩
  have HL0 := Lib.hid hL0
  have HP0 := Lib.hid (show batP k n (l.take 0) = [L0] from by rw [hL0]; simp [batP])
  clear hx hs hL0
  go_enter Tryz.func70, Tryz.ntmps70
  go_wp2_with (first
    | (go_at_call 129; go_loud (refine (wNums _ 2 2 [k, n] _ (lit_two w k n _) (by omega) (by intro x hx; simp at hx; rcases hx with rfl | rfl <;> omega)).mono ?_; rintro e w2 ⟨v2, rfl, ho2, hb2⟩; rw [← HL0.out] at ho2; obtain ⟨A2, c2, rfl, _⟩ := ho2.form; have HO2 := Lib.hid (ho2.base (B' := w.heap.size) (by simp)); have HB2 := Lib.hid ((nba w _).trans (hb2.mono (by simp))); clear ho2 hb2)))
  go_loopw [5, 7, 17] (fun v _ i wr => ∃ j : Nat, j ≤ n ∧ i = .int .i64 j ∧ Hid (LO wr w.heap.size v (batP k n (l.take j))) ∧ Hid (Below w.heap.size w wr)) (fun _ _ i _ => n - (intOf i).toNat)
  case atStart => exact ⟨0, Nat.zero_le _, rfl, Lib.hid (by rw [HP0.out]; exact lo_lit HO2.out HB2.out.size), Lib.hid (HB2.out.alloc HB2.out.size _)⟩
  case round =>
    clear HO2 HB2
    obtain ⟨j, hj, rfl, HL, HB⟩ := hrel
    by_cases hlt : j < n
    · obtain ⟨b, o, rfl, hc⟩ := (HX.out.below HB.out).2 (by omega)
      obtain ⟨c0, c1, c2'⟩ := hc j (by omega)
      have hsj := HS.out _ (List.getElem_mem (l := l) (n := j) (by omega))
      have hsucc := batP_succ k n l j (by omega)
      obtain ⟨⟨key, value, del⟩, hg⟩ : ∃ q, l[j]'(by omega) = q := ⟨_, rfl⟩
      rw [hg] at c0 c1 c2' hsj hsucc
      obtain ⟨hs1, hs2⟩ := hsj
      have HSU := Lib.hid hsucc
      have hbs := HB.out.size
      obtain ⟨A5, m5, c5, rfl⟩ : ∃ A m c, u5 = .slice A m c := by obtain ⟨A, c, h, _⟩ := HL.out.form; exact ⟨A, _, c, h⟩
      clear hc hsucc
      cases del with
      | true =>
        go_upto_region 8 with fail
        have q0 : (wr.alloc (.cells #[.string key, .string value, .bool true] 73)).cell? ⟨wr.heap.size, 0, none⟩ = some (.string key) := by simp
        have q1 : (wr.alloc (.cells #[.string key, .string value, .bool true] 73)).cell? ⟨wr.heap.size, 1, none⟩ = some (.string value) := by simp
        have hLX := HL.out.below (nba wr (.cells #[.string key, .string value, .bool true] 73))
        have hBX := HB.out.alloc hbs (.cells #[.string key, .string value, .bool true] 73)
        have hne : (Value.slice A5 m5 c5).ownBlock ≠ some wr.heap.size := fun e => absurd (HL.out.own _ e).2 (Nat.lt_irrefl _)
        generalize wr.alloc (.cells #[.string key, .string value, .bool true] 73) = X at *
        generalize wr.heap.size = gb at *
        have hwX := hBX.size
        have HLX := Lib.hid hLX
        have HBX := Lib.hid hBX
        obtain ⟨LA, hLA⟩ : ∃ L, L = ([1].map enc).flatten := ⟨_, rfl⟩
        obtain ⟨LB, hLB⟩ : ∃ L, L = ([key, value].map txt).flatten := ⟨_, rfl⟩
        have HLA := Lib.hid hLA
        have HLB := Lib.hid hLB
        clear hLX hBX HL HB c0 c1 c2' hLA hLB
        go_region_held3 (fun V => V.cell? ⟨gb, 0, none⟩ = some (.string key) ∧ V.cell? ⟨gb, 1, none⟩ = some (.string value)) (first | with_reducible assumption | go_keep)
          (first
            | (go_at_call 129; go_loud (refine (wNums _ 1 1 [1] _ (by repeat (first | assumption | exact lit_i _ _ _ _ (by simp) | with_reducible refine ial ?_ _ | with_reducible refine idr ?_ | with_reducible refine idrN ?_ _)) (by omega) (by intro x hx; simp at hx; omega)).mono ?_; rintro e z1 ⟨v1, rfl, ho1, hb1⟩; rw [← HLA.out] at ho1; obtain ⟨A1, m1, rfl, _⟩ := ho1.form; have BX1 := jstep (X := X) (by repeat (first | assumption | exact Below.refl _ _ | with_reducible refine bal ?_ _ | with_reducible refine bdr ?_ | with_reducible refine bdrN ?_ _)) hb1; have S1 : z1.cell? ⟨gb, 0, none⟩ = some (.string key) ∧ z1.cell? ⟨gb, 1, none⟩ = some (.string value) := ⟨bcell BX1 q0, bcell BX1 q1⟩; have O1 := ho1.base (B' := w.heap.size) (Nat.le_trans hwX (bsz (X := X) (by repeat (first | assumption | exact Below.refl _ _ | with_reducible refine bal ?_ _ | with_reducible refine bdr ?_ | with_reducible refine bdrN ?_ _)))); have LS := tat_later hb1))
            | (go_at_call 130; go_loud (refine (wTexts _ 2 2 [key, value] _ ?lt (by omega) (by intro x hx; simp at hx; rcases hx with rfl | rfl <;> assumption)).mono ?_; (case lt => (first | exact lit_t _ _ _ _ _ rfl | exact tdr (lit_t _ _ _ _ _ rfl) | exact tdrN (lit_t _ _ _ _ _ rfl) _ | exact LS _ _ _ (by simp) (by simp) | exact tdr (LS _ _ _ (by simp) (by simp)) | exact tdrN (LS _ _ _ (by simp) (by simp)) _)); rintro e z2 ⟨v2, rfl, ho2, hb2⟩; rw [← HLB.out] at ho2; obtain ⟨A2, m2, rfl, _⟩ := ho2.form; have BZ2 := jstep (X := z1) (by repeat (first | assumption | exact Below.refl _ _ | with_reducible refine bal ?_ _ | with_reducible refine bdr ?_ | with_reducible refine bdrN ?_ _)) hb2; have BX2 := jstep BX1 BZ2; have S2 : z2.cell? ⟨gb, 0, none⟩ = some (.string key) ∧ z2.cell? ⟨gb, 1, none⟩ = some (.string value) := ⟨bcell BX2 q0, bcell BX2 q1⟩; have O2 := ho2.base (B' := w.heap.size) (Nat.le_trans hwX (bsz (jstep BX1 (z := _) (by repeat (first | assumption | exact Below.refl _ _ | with_reducible refine bal ?_ _ | with_reducible refine bdr ?_ | with_reducible refine bdrN ?_ _))))); have O1 := own_of BZ2 O1))
            | (have hO2_ := O2; have hO1_ := O1; go_loud (refine step_appL ?a1 (.tmp 23) (.tmp 33) ?a2 w.heap.size (.slice A5 m5 c5) (batP k n (l.take j)) ?a3 ?a4 z2.heap.size 2 2 [.slice A1 LA.length m1, .slice A2 LB.length m2] [LA, LB] ?a5 ?a6 ?a7 ?hc ?hP ?hz ?hb ?_; (case a1 => rfl); (case a2 => rfl); (case a3 => rfl); (case a4 => (refine HLX.out.below ?_; (first | exact bal BX2 _ | exact bdr (bal BX2 _) | exact bdrN (bal BX2 _) _))); (case a5 => rfl); (case a6 => rfl); (case a7 => omega); (case hc => (intro i u hi; match i with | 0 => simp at hi; subst hi; simp | 1 => simp at hi; subst hi; simp | (i + 2) => simp at hi)); (case hP => (refine Pcs.two (own_of (X := z2) ?_ O1) (own_of (X := z2) ?_ O2) <;> (first | exact bal (Below.refl _ _) _ | exact bdr (bal (Below.refl _ _) _) | exact bdrN (bal (Below.refl _ _) _) _))); (case hz => (rw [batP_len, List.length_take]; omega)); (case hb => (refine Nat.le_trans hwX (bsz (X := X) ?_); (first | exact bal BX2 _ | exact bdr (bal BX2 _) | exact bdrN (bal BX2 _) _))); intro v5 w5 h5 hg5; have S5 : w5.cell? ⟨gb, 0, none⟩ = some (.string key) ∧ w5.cell? ⟨gb, 1, none⟩ = some (.string value) := ⟨gcell hg5 (by (first | exact bal BX2 _ | exact bdr (bal BX2 _) | exact bdrN (bal BX2 _) _)) q0 hne, gcell hg5 (by (first | exact bal BX2 _ | exact bdr (bal BX2 _) | exact bdrN (bal BX2 _) _)) q1 hne⟩; have H5 := Lib.hid h5; have HG5 := Lib.hid (LO.grown (HLX.out.below (by (first | exact bal BX2 _ | exact bdr (bal BX2 _) | exact bdrN (bal BX2 _) _))) (HBX.out.trans ((show Below X.heap.size X _ from (by (first | exact bal BX2 _ | exact bdr (bal BX2 _) | exact bdrN (bal BX2 _) _))).mono hwX)) (Nat.le_trans hwX (bsz (X := X) (by (first | exact bal BX2 _ | exact bdr (bal BX2 _) | exact bdrN (bal BX2 _) _)))) hg5); clear h5 hg5)))
        all_goals
          go_wp2_with fail
          go_roundw
          case rel => exact ⟨j + 1, by omega, by go_num, Lib.hid (by rw [HSU.out]; have h := H5.out; rw [HLA.out, HLB.out] at h; exact h), HG5⟩
          case measure => simp [intOf]; omega
      | false =>
        go_upto_region 8 with fail
        have q0 : (wr.alloc (.cells #[.string key, .string value, .bool false] 73)).cell? ⟨wr.heap.size, 0, none⟩ = some (.string key) := by simp
        have q1 : (wr.alloc (.cells #[.string key, .string value, .bool false] 73)).cell? ⟨wr.heap.size, 1, none⟩ = some (.string value) := by simp
        have hLX := HL.out.below (nba wr (.cells #[.string key, .string value, .bool false] 73))
        have hBX := HB.out.alloc hbs (.cells #[.string key, .string value, .bool false] 73)
        have hne : (Value.slice A5 m5 c5).ownBlock ≠ some wr.heap.size := fun e => absurd (HL.out.own _ e).2 (Nat.lt_irrefl _)
        generalize wr.alloc (.cells #[.string key, .string value, .bool false] 73) = X at *
        generalize wr.heap.size = gb at *
        have hwX := hBX.size
        have HLX := Lib.hid hLX
        have HBX := Lib.hid hBX
        obtain ⟨LA, hLA⟩ : ∃ L, L = ([0].map enc).flatten := ⟨_, rfl⟩
        obtain ⟨LB, hLB⟩ : ∃ L, L = ([key, value].map txt).flatten := ⟨_, rfl⟩
        have HLA := Lib.hid hLA
        have HLB := Lib.hid hLB
        clear hLX hBX HL HB c0 c1 c2' hLA hLB
        go_region_held3 (fun V => V.cell? ⟨gb, 0, none⟩ = some (.string key) ∧ V.cell? ⟨gb, 1, none⟩ = some (.string value)) (first | with_reducible assumption | go_keep)
          (first
            | (go_at_call 129; go_loud (refine (wNums _ 1 1 [0] _ (by repeat (first | assumption | exact lit_i _ _ _ _ (by simp) | with_reducible refine ial ?_ _ | with_reducible refine idr ?_ | with_reducible refine idrN ?_ _)) (by omega) (by intro x hx; simp at hx; omega)).mono ?_; rintro e z1 ⟨v1, rfl, ho1, hb1⟩; rw [← HLA.out] at ho1; obtain ⟨A1, m1, rfl, _⟩ := ho1.form; have BX1 := jstep (X := X) (by repeat (first | assumption | exact Below.refl _ _ | with_reducible refine bal ?_ _ | with_reducible refine bdr ?_ | with_reducible refine bdrN ?_ _)) hb1; have S1 : z1.cell? ⟨gb, 0, none⟩ = some (.string key) ∧ z1.cell? ⟨gb, 1, none⟩ = some (.string value) := ⟨bcell BX1 q0, bcell BX1 q1⟩; have O1 := ho1.base (B' := w.heap.size) (Nat.le_trans hwX (bsz (X := X) (by repeat (first | assumption | exact Below.refl _ _ | with_reducible refine bal ?_ _ | with_reducible refine bdr ?_ | with_reducible refine bdrN ?_ _)))); have LS := tat_later hb1))
            | (go_at_call 130; go_loud (refine (wTexts _ 2 2 [key, value] _ ?lt (by omega) (by intro x hx; simp at hx; rcases hx with rfl | rfl <;> assumption)).mono ?_; (case lt => (first | exact lit_t _ _ _ _ _ rfl | exact tdr (lit_t _ _ _ _ _ rfl) | exact tdrN (lit_t _ _ _ _ _ rfl) _ | exact LS _ _ _ (by simp) (by simp) | exact tdr (LS _ _ _ (by simp) (by simp)) | exact tdrN (LS _ _ _ (by simp) (by simp)) _)); rintro e z2 ⟨v2, rfl, ho2, hb2⟩; rw [← HLB.out] at ho2; obtain ⟨A2, m2, rfl, _⟩ := ho2.form; have BZ2 := jstep (X := z1) (by repeat (first | assumption | exact Below.refl _ _ | with_reducible refine bal ?_ _ | with_reducible refine bdr ?_ | with_reducible refine bdrN ?_ _)) hb2; have BX2 := jstep BX1 BZ2; have S2 : z2.cell? ⟨gb, 0, none⟩ = some (.string key) ∧ z2.cell? ⟨gb, 1, none⟩ = some (.string value) := ⟨bcell BX2 q0, bcell BX2 q1⟩; have O2 := ho2.base (B' := w.heap.size) (Nat.le_trans hwX (bsz (jstep BX1 (z := _) (by repeat (first | assumption | exact Below.refl _ _ | with_reducible refine bal ?_ _ | with_reducible refine bdr ?_ | with_reducible refine bdrN ?_ _))))); have O1 := own_of BZ2 O1))
            | (have hO2_ := O2; have hO1_ := O1; go_loud (refine step_appL ?a1 (.tmp 23) (.tmp 33) ?a2 w.heap.size (.slice A5 m5 c5) (batP k n (l.take j)) ?a3 ?a4 z2.heap.size 2 2 [.slice A1 LA.length m1, .slice A2 LB.length m2] [LA, LB] ?a5 ?a6 ?a7 ?hc ?hP ?hz ?hb ?_; (case a1 => rfl); (case a2 => rfl); (case a3 => rfl); (case a4 => (refine HLX.out.below ?_; (first | exact bal BX2 _ | exact bdr (bal BX2 _) | exact bdrN (bal BX2 _) _))); (case a5 => rfl); (case a6 => rfl); (case a7 => omega); (case hc => (intro i u hi; match i with | 0 => simp at hi; subst hi; simp | 1 => simp at hi; subst hi; simp | (i + 2) => simp at hi)); (case hP => (refine Pcs.two (own_of (X := z2) ?_ O1) (own_of (X := z2) ?_ O2) <;> (first | exact bal (Below.refl _ _) _ | exact bdr (bal (Below.refl _ _) _) | exact bdrN (bal (Below.refl _ _) _) _))); (case hz => (rw [batP_len, List.length_take]; omega)); (case hb => (refine Nat.le_trans hwX (bsz (X := X) ?_); (first | exact bal BX2 _ | exact bdr (bal BX2 _) | exact bdrN (bal BX2 _) _))); intro v5 w5 h5 hg5; have S5 : w5.cell? ⟨gb, 0, none⟩ = some (.string key) ∧ w5.cell? ⟨gb, 1, none⟩ = some (.string value) := ⟨gcell hg5 (by (first | exact bal BX2 _ | exact bdr (bal BX2 _) | exact bdrN (bal BX2 _) _)) q0 hne, gcell hg5 (by (first | exact bal BX2 _ | exact bdr (bal BX2 _) | exact bdrN (bal BX2 _) _)) q1 hne⟩; have H5 := Lib.hid h5; have HG5 := Lib.hid (LO.grown (HLX.out.below (by (first | exact bal BX2 _ | exact bdr (bal BX2 _) | exact bdrN (bal BX2 _) _))) (HBX.out.trans ((show Below X.heap.size X _ from (by (first | exact bal BX2 _ | exact bdr (bal BX2 _) | exact bdrN (bal BX2 _) _))).mono hwX)) (Nat.le_trans hwX (bsz (X := X) (by (first | exact bal BX2 _ | exact bdr (bal BX2 _) | exact bdrN (bal BX2 _) _)))) hg5); clear h5 hg5)))
        all_goals
          go_wp2_with fail
          go_roundw
          case rel => exact ⟨j + 1, by omega, by go_num, Lib.hid (by rw [HSU.out]; have h := H5.out; rw [HLA.out, HLB.out] at h; exact h), HG5⟩
          case measure => simp [intOf]; omega
    · obtain rfl : j = n := by omega
      have hl2 := HL.out
      rw [List.take_of_length_le (by omega)] at hl2
      have hfl : (batP k j l).flatten = batB k l := by rw [← batP_flat k l, hl]
      have hflat : (batP k j l).flatten.length ≤ 2000000 := by
        rw [hfl]; exact batB_le k l hk (by omega) HS.out
      generalize batP k j l = LL at *
      obtain ⟨A', m', c', rfl, hm', hli, hle, hcm⟩ : ∃ A m c, u5 = .slice A m c ∧ m = LL.length ∧ Lists wr A m LL ∧ m ≤ c ∧ c ≤ 9223372036854775807 := by obtain ⟨A, c, h1, h2, h3, h4⟩ := hl2.form; exact ⟨A, _, c, h1, rfl, h2, h3, h4⟩
      have HLI := Lib.hid hli
      have HFL := Lib.hid hfl
      have hs := HB.out.size
      clear hl2 hli hfl HL hm' hl
      go_wp2_with (first
        | (go_at_call 92; go_loud (refine (join _ _ _ _ _ HLI.out (by omega) (by omega)).mono ?_; rintro e w2 ⟨v2, rfl, ho2, hb2⟩)))
      go_ret
      exact ⟨v2, rfl, by rw [← HFL.out]; exact ho2.base hs, HB.out.trans (hb2.mono hs)⟩
end Go.Proofs.YtamglegdgcehaaaGreat
