/-
  Layer 9, the code: the search.
  Layer 9, the code: what a list's calls answer.
-/
import Derived.Test.YtgccichmdddbpaaGreatDoorPL03
import Derived.Deep.LoopGhost
import Derived.Handy
import Derived.Lib.Hide
set_option linter.unusedVariables false
namespace Go.Proofs.YtgccichmdddbpaaGreatDoor
open Go.RowKit

abbrev zeroW : Array Value := #[.pointer none, .pointer none, .pointer none, .pointer none, .pointer none, .pointer none, .pointer none, .pointer none, .pointer none, .pointer none, .pointer none, .pointer none, .pointer none, .pointer none, .pointer none, .pointer none]
/-- What the search has found so far. -/
def laW (h : Nat) (L : List Nd) (p k : Nat) : Array Value := waysC (fun m => if k ≤ m then pt (la m (sh h (L.take p))) else .pointer none)
theorem laW_16 (h : Nat) (L : List Nd) (p : Nat) : laW h L p 16 = zeroW := waysC_congr (g := fun _ => .pointer none) (fun m hm => if_neg (by omega))
theorem laW_0 (h : Nat) (L : List Nd) (p : Nat) : laW h L p 0 = waysC (fun m => pt (la m (sh h (L.take p)))) := waysC_congr (fun m hm => if_pos (Nat.zero_le _))
theorem waysC_all {f : Nat → Value} (h : ∀ m, m < 16 → (f m).oneCell' = true) : (waysC f).all (·.oneCell') = true := by
  refine Array.all_eq_true_iff_forall_mem.2 (fun x hx => ?_)
  obtain ⟨i, hi, rfl⟩ := Array.mem_iff_getElem.1 hx
  have hs : (waysC f).size = 16 := rfl
  have := waysC_get f (i := i) (by omega)
  rw [Array.getElem?_eq_getElem hi] at this
  injection this with this
  rw [this]
  exact h i (by omega)
theorem laW_all (h : Nat) (L : List Nd) (p k : Nat) : (laW h L p k).all (·.oneCell') = true := waysC_all (fun m _ => by split <;> rfl)
theorem laW_set (h : Nat) (L : List Nd) (p : Nat) {k : Nat} (hk : k < 16) : (laW h L p (k + 1)).setIfInBounds k (pt (la k (sh h (L.take p)))) = laW h L p k := by
  unfold laW
  rw [waysC_set _ hk]
  refine waysC_congr (fun m hm => ?_)
  by_cases e : m = k
  · subst e
    rw [if_pos rfl, if_pos (Nat.le_refl _)]
  · rw [if_neg e]
    by_cases e2 : k + 1 ≤ m
    · rw [if_pos e2, if_pos (by omega)]
    · rw [if_neg e2, if_neg (by omega)]
/-- Where the search stands: the head, or a key; and what it sees from there on the step m. -/
structure At9 (h : Nat) (L : List Nd) (p j : Nat) (a : Nat) : Prop where
  le : j ≤ p
  lt : j < (sh h L).length
  a : ((sh h L)[j]'lt).1 = a
theorem At9.mem {h : Nat} {L : List Nd} {p j a : Nat} (hA : At9 h L p j a) : a = h ∨ a ∈ L.map (·.1) := by
  have := List.getElem_mem hA.lt
  have h2 : ((sh h L)[j]'hA.lt).1 ∈ (sh h L).map (·.1) := List.mem_map.2 ⟨_, this, rfl⟩
  rw [hA.a] at h2
  have e : (sh h L).map (·.1) = h :: L.map (·.1) := by simp [sh]
  rw [e] at h2
  exact List.mem_cons.1 h2
section
variable {TL TI : TypeId} {z : Value} {V : World} {q h : Nat} {L : List Nd} {g : Nat → Nat → Option Nat} {p j a m : Nat}
/-- The next one on the step. -/
theorem At9.next (hA : At9 h L p j a) (hR : SkR TL TI z V q h L g) (hm : m < 16) (ho : m < ((sh h L)[j]'hA.lt).2) (hp : p ≤ L.length) :
    (g m a = none ∧ la m (sh h (L.take p)) = a) ∨
      ∃ i, ∃ hi : i < L.length, g m a = some (L[i]'hi).1 ∧ m < (L[i]'hi).2.st ∧ j < i + 1 ∧ (i < p → At9 h L p (i + 1) (L[i]'hi).1 ∧ ∃ h2 : i + 1 < (sh h L).length, m < ((sh h L)[i + 1]'h2).2) ∧ (p ≤ i → la m (sh h (L.take p)) = a) := by
  have hg := ck_get (hR.ck m hm) hA.lt ho
  rw [hA.a, sh_drop] at hg
  have hl := sh_len h L
  cases hx : g m a with
  | none =>
    refine .inl ⟨rfl, ?_⟩
    rw [hx] at hg
    have h0 := nx_none hg.symm
    rw [← sh_take, ← hA.a]
    refine la_at hA.lt hA.le ho (fun i hi h1 h2 h3 => ?_)
    unfold on at h0
    rw [List.any_eq_false] at h0
    rw [← sh_drop] at h0
    have hd : i - (j + 1) < ((sh h L).drop (j + 1)).length := by rw [List.length_drop]; omega
    have hm2 : (sh h L)[i]'hi ∈ (sh h L).drop (j + 1) := by
      have e : ((sh h L).drop (j + 1))[i - (j + 1)]'hd = (sh h L)[i]'hi := by
        rw [List.getElem_drop]
        simp only [show j + 1 + (i - (j + 1)) = i from by omega]
      rw [← e]
      exact List.getElem_mem hd
    exact h0 _ hm2 (decide_eq_true h3)
  | some b =>
    rw [hx] at hg
    obtain ⟨i, hi, e1, e2, e3⟩ := nx_some hg.symm
    rw [List.length_map, List.length_drop] at hi
    have hi2 : j + i < L.length := by omega
    have ei : ((L.drop j).map (fun x => (x.1, x.2.st)))[i]'(by rw [List.length_map, List.length_drop]; omega) = ((L[j + i]'hi2).1, (L[j + i]'hi2).2.st) := by simp
    rw [ei] at e1 e2
    refine .inr ⟨j + i, hi2, by rw [← e1], e2, by omega, fun hip => ⟨⟨by omega, by rw [hl]; omega, by rw [sh_get h L hi2]⟩, by rw [hl]; omega, by rw [sh_get h L hi2]; exact e2⟩, fun hip => ?_⟩
    rw [← sh_take, ← hA.a]
    refine la_at hA.lt hA.le ho (fun i2 hi2' h1 h2 h3 => ?_)
    have hk : i2 - (j + 1) < i := by omega
    refine e3 (i2 - (j + 1)) (by rw [List.length_map, List.length_drop]; omega) hk ?_
    have e4 : ((L.drop j).map (fun x => (x.1, x.2.st)))[i2 - (j + 1)]'(by rw [List.length_map, List.length_drop]; omega) = (sh h L)[i2]'hi2' := by
      obtain ⟨r, rfl⟩ : ∃ r, i2 = r + 1 := ⟨i2 - 1, by omega⟩
      rw [sh_get h L (by omega)]
      simp
      constructor <;> congr <;> omega
    rw [e4]
    exact h3
end

theorem Blk.row {w : World} {g : Nat} {t : TypeId} {old : Array Value} (h : Blk w g t old) (cells : Array Value) : Blk (w.setRow g cells) g t cells := setRow_heap w g old cells t (0, 0) h
theorem brow {B g : Nat} {a w : World} (h : Below B a w) (hg : B ≤ g) (cells : Array Value) : Below B a (w.setRow g cells) :=
  h.trans ⟨rfl, rfl, rfl, by simp [World.setRow], fun k hk => setRow_other w g k cells (fun e => by omega)⟩
set_option maxRecDepth 100000 in
set_option maxHeartbeats 8000000 in
theorem sk_lastOf (z : Value) (q h : Nat) (L : List Nd) (g : Nat → Nat → Option Nat) (w : World) (hR : SkR 195 186 z w q h L g) (p : Nat) (hp : p ≤ L.length) (fid : Nat) (c : Value) (meant : ByteArray → Bool)
    (hent : ∀ args W, (callFunc fid args).run Tryz.prog W = .ok (.enter fid args) W)
    (hcl : ∀ (k : ByteArray) (W : World), Below w.heap.size w W → Calls Tryz.prog fid #[.string k, c] W fun e w' => e = .returned (.bool (meant k)) ∧ w' = W)
    (h1 : ∀ i (hi : i < L.length), i < p → meant (L[i]'hi).2.key = true) (h2 : ∀ i (hi : i < L.length), p ≤ i → meant (L[i]'hi).2.key = false) :
    Calls Tryz.prog 198 #[pt q, .func (.func fid) #[] #[c]] w fun e w' => e = .returned (.agg (waysC (fun m => pt (la m (sh h (L.take p)))))) ∧ Below w.heap.size w w' := by
  have HR := Lib.hid hR
  have kq := (hR.mem.obj.below (nbl w (.cells zeroW 182)) hR.mem.obj.lt).below (nbl (w.alloc (.cells zeroW 182)) (.cells zeroW 182)) (by have := hR.mem.obj.lt; simp; omega)
  have k0 := kq.cell 0
  have HCL := Lib.hid hcl
  have H1 := Lib.hid h1
  have H2 := Lib.hid h2
  have HP := Lib.hid hp
  clear hR hcl h1 h2 hp kq
  go_enter Tryz.func198, Tryz.ntmps198
  go_wp2_with fail
  have HB := Lib.hid ((nbl w (.cells zeroW 182)).trans ((nbl (w.alloc (.cells zeroW 182)) (.cells zeroW 182)).mono (by simp)))
  have HZ1 := Lib.hid ((Blk.new w 182 zeroW).below (nbl (w.alloc (.cells zeroW 182)) (.cells zeroW 182)) (by simp))
  have HZ2 := Lib.hid (show Blk ((w.alloc (.cells zeroW 182)).alloc (.cells zeroW 182)) (w.heap.size + 1) 182 zeroW from by have := Blk.new (w.alloc (.cells zeroW 182)) 182 zeroW; simp only [World.alloc, Array.size_push] at this; exact this)
  generalize (w.alloc (.cells zeroW 182)).alloc (.cells zeroW 182) = X at *
  clear k0
  go_loopw [6, 7] (fun at_ i wr => ∃ (k j a : Nat), k ≤ 16 ∧ i = .int .i64 ((k : Int) - 1) ∧ at_ = pt a ∧ Hid (At9 h L p j a ∧ ∀ hl : j < (sh h L).length, ∀ m, m < k → m < ((sh h L)[j]'hl).2) ∧ Hid (Below w.heap.size w wr) ∧ Hid (Blk wr w.heap.size 182 zeroW) ∧ Hid (Blk wr (w.heap.size + 1) 182 (laW h L p k))) (fun _ i _ => (intOf i + 1).toNat)
  case atStart => exact ⟨16, 0, h, Nat.le_refl _, rfl, rfl, Lib.hid ⟨⟨Nat.zero_le _, by rw [sh_len]; omega, rfl⟩, fun hl m hm => hm⟩, HB, HZ1, by rw [laW_16]; exact HZ2⟩
  case round =>
    obtain ⟨k, j, a, hk, rfl, rfl, HA, HBr, HZ, HL⟩ := hrel
    cases k with
    | zero =>
      go_wp2_with (first
        | (refine wpList_load_row rfl 182 _ rfl (w.heap.size + 1) rfl 182 (laW h L p 0) (0, 0) _ HL.out Tryz.underlying182 rfl (by kernel_rfl) ?_)
        | (refine wpList_store_row rfl 182 _ _ rfl w.heap.size (laW h L p 0) rfl rfl 182 zeroW HZ.out (by kernel_rfl) rfl (laW_all h L p 0) ?_))
      refine bodyPost_ret (v := .agg (laW h L p 0)) (results_cell_row (p := 4) (ty := 182) rfl _ _ w.heap.size 182 (laW h L p 0) (0, 0) _ rfl (HZ.out.row _) Tryz.underlying182 rfl (by kernel_rfl)) rfl ⟨by rw [laW_0], brow HBr.out (Nat.le_refl _) _⟩
    | succ k =>
      rw [show (((k + 1 : Nat) : Int) - 1) = (k : Int) from by omega]
      go_wp2_with fail
      go_loopg [6] (p - j) (fun r at_ wr2 => wr2 = wr ∧ ∃ (j a : Nat), at_ = pt a ∧ j + r = p ∧ Hid (At9 h L p j a ∧ ∀ hl : j < (sh h L).length, ∀ m, m < k + 1 → m < ((sh h L)[j]'hl).2))
      case atStart =>
        have hle := HA.out.1.le
        exact ⟨rfl, j, a, rfl, by omega, HA⟩
      case round =>
        obtain ⟨rfl, j, a, rfl, hjr, HA⟩ := hrel
        obtain ⟨hA, hst⟩ := HA.out
        have hst2 := hst hA.lt
        have hR := HR.out
        have hBr := HBr.out
        have hmem := hA.mem
        have halt : a < w.heap.size := hR.mem.lt (hmem.elim (fun e => .inr (.inl e)) (fun e => .inr (.inr e)))
        have c1 := (hBr.cell (p := ⟨a, 3 + k, none⟩) halt).trans (hR.mem.next hmem (show k < 16 by omega))
        have d1 := HL.out.cell k
        have d2 := HL.out.frozen k
        have hset := laW_set h L p (show k < 16 by omega)
        have d0 : (laW h L p (k + 1))[k]? = some (.pointer none) := (waysC_get _ (show k < 16 by omega)).trans (by rw [if_neg (by omega)])
        rw [d0] at d1
        have HZ' := Lib.hid (HZ.out.cell)
        have HNX := hA.next hR (show k < 16 by omega) (hst2 k (by omega)) HP.out
        have HL' := Lib.hid (HL.out.set_ k (pt (la k (sh h (L.take p)))))
        rw [hset] at HL'
        have HBl := Lib.hid (hBr.setCell (p := ⟨w.heap.size + 1, k, none⟩) (Nat.le_succ _) (pt (la k (sh h (L.take p)))))
        have HZl := Lib.hid (show Blk (wr.setCell ⟨w.heap.size + 1, k, none⟩ (pt (la k (sh h (L.take p))))) w.heap.size 182 zeroW from (heap_setNe (by show w.heap.size ≠ w.heap.size + 1; omega) _).trans HZ.out)
        have HAn := Lib.hid (show At9 h L p j a ∧ ∀ hl : j < (sh h L).length, ∀ m, m < k → m < ((sh h L)[j]'hl).2 from ⟨hA, fun hl m hm => hst hl m (by omega)⟩)
        rcases HNX with ⟨hn, hla⟩ | ⟨i, hi, hn, hsi, hji, hin, hout⟩
        · rw [hn] at c1
          rw [hla] at HL' HBl HZl
          have c1' : wr.cell? ⟨a, 3 + k, none⟩ = some (.pointer none) := c1
          clear hA hst hst2 hR hBr hmem halt c1 hset d0 hn hla HA HZ'
          go_wp2_with fail
          go_roundw
          case rel => exact ⟨k, j, a, by omega, by go_num, rfl, HAn, HBl, HZl, HL'⟩
          case measure => simp [intOf]
        · rw [hn] at c1
          have hmi : (L[i]'hi).1 ∈ L.map (·.1) := List.mem_map.2 ⟨_, List.getElem_mem hi, rfl⟩
          have hblt : (L[i]'hi).1 < w.heap.size := hR.mem.lt (.inr (.inr hmi))
          have c2 := (hBr.cell (p := ⟨(L[i]'hi).1, 0, none⟩) hblt).trans (hR.mem.key (List.getElem_mem hi))
          by_cases hip : i < p
          · have hme := H1.out i hi hip
            obtain ⟨hAi, hl2, hs2⟩ := hin hip
            have HAi := Lib.hid (show At9 h L p (i + 1) (L[i]'hi).1 ∧ ∀ hl : i + 1 < (sh h L).length, ∀ m, m < k + 1 → m < ((sh h L)[i + 1]'hl).2 from ⟨hAi, fun hl m hm => by omega⟩)
            generalize (L[i]'hi).1 = b at *
            generalize (L[i]'hi).2.key = key at *
            have c1' : wr.cell? ⟨a, 3 + k, none⟩ = some (pt b) := c1
            have HC := Lib.hid (HCL.out key wr hBr)
            rw [hme] at HC
            clear hA hst hst2 hR hBr hmem halt c1 hset d0 hn hin hout HA HZ' HL' HBl HZl HAn d1 d2 hme hAi hs2 hmi hblt hsi
            go_wp2_with (first
              | (refine HC.out.mono ?_; rintro e w2 ⟨rfl, rfl⟩))
            go_roundg (p - (i + 1))
            case measure => omega
            case rel => exact ⟨rfl, i + 1, b, rfl, by omega, HAi⟩
          · have hme := H2.out i hi (by omega)
            have hla := hout (by omega)
            rw [hla] at HL' HBl HZl
            generalize (L[i]'hi).1 = b at *
            generalize (L[i]'hi).2.key = key at *
            have c1' : wr.cell? ⟨a, 3 + k, none⟩ = some (pt b) := c1
            have HC := Lib.hid (HCL.out key wr hBr)
            rw [hme] at HC
            clear hA hst hst2 hR hBr hmem halt c1 hset d0 hn hin hout HA HZ' hla hme hmi hblt hsi
            go_wp2_with (first
              | (refine HC.out.mono ?_; rintro e w2 ⟨rfl, rfl⟩))
            go_roundw
            case rel => exact ⟨k, j, a, by omega, by go_num, rfl, HAn, HBl, HZl, HL'⟩
            case measure => simp [intOf]
end Go.Proofs.YtgccichmdddbpaaGreatDoor
set_option linter.unusedVariables false
namespace Go.Proofs.YtgccichmdddbpaaGreatDoor
open Go.RowKit

section
variable {TL TI : TypeId} {z : Value} {V V' w : World} {q h cnt : Nat} {L : List Nd} {g : Nat → Nat → Option Nat}
def kvs (L : List Nd) : List Kv := L.map (·.2)
theorem kvs_len (L : List Nd) : (kvs L).length = L.length := by simp [kvs]
theorem kvs_get {L : List Nd} {i : Nat} (hi : i < L.length) : (kvs L)[i]'(by rw [kvs_len]; exact hi) = (L[i]'hi).2 := by simp [kvs]
theorem SkR.below (hR : SkR TL TI z V q h L g) (hb : Below V.heap.size V V') : SkR TL TI z V' q h L g :=
  ⟨hR.mem.on (fun k e => hb.block k (hR.mem.lt e)), hR.ck, hR.st, hR.sor⟩
end
set_option maxRecDepth 100000 in
theorem sk_below1 (a : Nat) (k key : ByteArray) (w : World) (hc : w.cell? ⟨a, 0, none⟩ = some (.string key)) :
    Calls Tryz.prog 199 #[.string k, pt a] w fun e w' => e = .returned (.bool (kl k key)) ∧ w' = w := by
  go_enter Tryz.func199, Tryz.ntmps199
  go_wp2_with fail
  go_ret
  exact ⟨rfl, rfl⟩
/-- Where the items that are below a key end. -/
theorem sk_pos {TL TI : TypeId} {z : Value} {V : World} {q h : Nat} {L : List Nd} {g : Nat → Nat → Option Nat} (hR : SkR TL TI z V q h L g) (key : ByteArray) :
    kpos (kvs L) key ≤ L.length ∧ (∀ i (hi : i < L.length), i < kpos (kvs L) key → kl (L[i]'hi).2.key key = true) ∧ (∀ i (hi : i < L.length), kpos (kvs L) key ≤ i → kl (L[i]'hi).2.key key = false) := by
  have hl := kvs_len L
  refine ⟨by have := kpos_le (kvs L) key; omega, fun i hi hp => ?_, fun i hi hp => ?_⟩
  · obtain ⟨_, h2⟩ := kpos_lt hp
    rw [kvs_get hi] at h2
    exact h2
  · have h2 := kpos_ge hR.sor (k := key) hp (by simpa [kvs] using hi)
    have e := kvs_get hi
    unfold kvs at e h2
    rw [e] at h2
    exact h2
set_option maxRecDepth 100000 in
set_option maxHeartbeats 4000000 in
theorem sk_below (z : Value) (q h : Nat) (L : List Nd) (g : Nat → Nat → Option Nat) (key : ByteArray) (w : World) (hR : SkR 195 186 z w q h L g) :
    Calls Tryz.prog 163 #[pt q, .string key] w fun e w' => e = .returned (.agg (waysC (fun m => pt (la m (sh h (L.take (kpos (kvs L) key))))))) ∧ Below w.heap.size w w' := by
  obtain ⟨p1, p2, p3⟩ := sk_pos hR key
  have hb1 := nbl w (.cells #[.string key] 9)
  have hb2 := bst hb1 (nbl _ (.cells zeroW 182))
  have hc : ((w.alloc (.cells #[.string key] 9)).alloc (.cells zeroW 182)).cell? ⟨w.heap.size, 0, none⟩ = some (.string key) := by simp
  have hs : ((w.alloc (.cells #[.string key] 9)).alloc (.cells zeroW 182)).heap.size = w.heap.size + 2 := by simp
  have hz : Blk ((w.alloc (.cells #[.string key] 9)).alloc (.cells zeroW 182)) (w.heap.size + 1) 182 zeroW := by
    have := Blk.new (w.alloc (.cells #[.string key] 9)) 182 zeroW
    simp only [World.alloc, Array.size_push] at this
    exact this
  have HZ := Lib.hid hz
  have LO := Lib.hid (sk_lastOf z q h L g _ (hR.below hb2) (kpos (kvs L) key) p1 199 (pt w.heap.size) (fun k => kl k key) (fun _ _ => rfl)
    (fun k W hW => sk_below1 w.heap.size k key W ((hW.cell (p := ⟨w.heap.size, 0, none⟩) (by show w.heap.size < _; rw [hs]; omega)).trans hc)) p2 p3)
  clear hR p1 p2 p3 hz hc hb1
  have HS := Lib.hid hs
  have HB := Lib.hid hb2
  clear hs hb2
  go_enter Tryz.func163, Tryz.ntmps163
  go_wp2_with (first
    | (go_at_call 198; refine LO.out.mono ?_; rintro e w2 ⟨rfl, hb⟩; have HZ2 := Lib.hid (HZ.out.below hb (by rw [HS.out]; omega)); have HB2 := Lib.hid (bst HB.out hb))
    | (refine wpList_store_row rfl 182 _ _ rfl (w.heap.size + 1) (waysC (fun m => pt (la m (sh h (L.take (kpos (kvs L) key)))))) rfl rfl 182 zeroW HZ2.out (by kernel_rfl) rfl (waysC_all (fun _ _ => rfl)) ?_))
  refine bodyPost_ret (v := .agg (waysC (fun m => pt (la m (sh h (L.take (kpos (kvs L) key))))))) (results_cell_row (p := 4) (ty := 182) rfl _ _ (w.heap.size + 1) 182 _ (0, 0) _ rfl (HZ2.out.row _) Tryz.underlying182 rfl (by kernel_rfl)) rfl ⟨rfl, brow HB2.out (Nat.le_succ _) _⟩
set_option maxRecDepth 100000 in
theorem sk_isNone (z : Value) (q h cnt : Nat) (L : List Nd) (g : Nat → Nat → Option Nat) (w : World) (hR : SkW 195 186 z w q h cnt L g) :
    Calls Tryz.prog 162 #[pt q] w fun e w' => e = .returned (.bool false) ∧ w' = w := by
  have k0 : w.cell? ⟨q, 0, none⟩ = some (pt h) := hR.obj.cell 0
  clear hR
  go_enter Tryz.func162, Tryz.ntmps162
  go_wp2_with fail
  go_ret
  exact ⟨rfl, rfl⟩
set_option maxRecDepth 100000 in
theorem sk_isStep (n : Int) (w : World) (h1 : -9223372036854775808 ≤ n) (h2 : n ≤ 9223372036854775807) :
    Calls Tryz.prog 200 #[.int .i64 n] w fun e w' => e = .returned (.bool (decide (1 ≤ n ∧ n ≤ 16))) ∧ w' = w := by
  by_cases a : 1 ≤ n
  · by_cases b : n ≤ 16
    · go_enter Tryz.func200, Tryz.ntmps200
      go_wp2_with fail
      go_ret
      exact ⟨by simp [a, b], rfl⟩
    · go_enter Tryz.func200, Tryz.ntmps200
      go_wp2_with fail
      go_ret
      exact ⟨by simp [b], rfl⟩
  · go_enter Tryz.func200, Tryz.ntmps200
    go_wp2_with fail
    go_ret
    exact ⟨by simp; omega, rfl⟩
end Go.Proofs.YtgccichmdddbpaaGreatDoor
