/-
  Layer 10: the chapter's table ('chapter', 'works').
-/
import Derived.Test.YtgakkeeeadndkaaTbWords
set_option linter.unusedVariables false
namespace Go.Proofs.Ytgakkeeeadndkaa
open Go.RowKit Go.Shelf

/-! ### reckoned by bytes -/
theorem toE (s : ByteArray) : s.toList = s.data.toList := Lib.toList_data s
def rposQ (r : List Rw) (k : ByteArray) : Nat := (r.takeWhile (fun x => Op.bytesLess x.key.data.toList k.data.toList)).length
theorem rpos_Q (r : List Rw) (k : ByteArray) : rpos r k = rposQ r k := by
  unfold rpos rposQ
  congr 1
  induction r with
  | nil => rfl
  | cons a r ih => rw [List.takeWhile_cons, List.takeWhile_cons, ih]; unfold kl; rw [toE, toE]
def rhasQ (r : List Rw) (k : ByteArray) : Bool := match r[rposQ r k]? with | some x => decide (x.key.data.toList = k.data.toList) | none => false
theorem key_Q (a b : ByteArray) : decide (a = b) = decide (a.data.toList = b.data.toList) := by
  refine decide_eq_decide.2 ⟨fun e => by rw [e], fun e => ?_⟩
  exact ByteArray.ext (Array.toList_inj.1 e)
theorem rhas_Q (r : List Rw) (k : ByteArray) : rhas r k = rhasQ r k := by
  unfold rhas rhasQ
  rw [rpos_Q]
  cases r[rposQ r k]? with
  | none => rfl
  | some x => exact key_Q _ _
def rvalQ (r : List Rw) (k : ByteArray) : ByteArray := if rhasQ r k then (r[rposQ r k]?.map Rw.value).getD ⟨#[]⟩ else ⟨#[]⟩
theorem rval_Q (r : List Rw) (k : ByteArray) : rval r k = rvalQ r k := by unfold rval rvalQ; rw [rhas_Q, rpos_Q]
def roneQ (r : List Rw) (o : Op_) : List Rw := r.take (rposQ r o.key) ++ (if o.del then [] else [⟨o.key, o.value⟩]) ++ r.drop (rposQ r o.key + if rhasQ r o.key then 1 else 0)
theorem rone_Q : rone = roneQ := by
  funext r o
  unfold rone rrest roneQ
  rw [rpos_Q, rhas_Q]
def chkQ (l : List Op_) : Nat := if 128 < l.length then 5 else if l.any (fun o => o.key.data.toList.isEmpty || (o.del && !o.value.data.toList.isEmpty)) then 2 else 0
theorem chk_Q (l : List Op_) : chk l = chkQ l := by
  have e : opBad = (fun o => o.key.data.toList.isEmpty || (o.del && !o.value.data.toList.isEmpty)) := by
    funext o
    unfold opBad
    rw [toE, toE]
  unfold chk chkQ
  rw [e]
def rappQ (r : List Rw) (l : List Op_) : List Rw := if chkQ l = 0 then l.foldl roneQ r else r
theorem rapp_Q (r : List Rw) (l : List Op_) : rapp r l = rappQ r l := by unfold rapp rappQ; rw [chk_Q, rone_Q]
def rendQ (r : List Rw) (k : ByteArray) : Nat := if k.data.toList = [] then r.length else rposQ r k
theorem rend_Q (r : List Rw) (k : ByteArray) : rend r k = rendQ r k := by unfold rend rendQ; rw [toE, rpos_Q]
theorem btw_Q (r : List Rw) (f t : ByteArray) : btw r f t = (r.take (rendQ r t)).drop (rposQ r f) := by unfold btw; rw [rend_Q, rpos_Q]

/-! ### changes in a literal -/
def ofl (l : List Op_) : List Value := l.flatMap fun o => [.string o.key, .string o.value, .bool o.del]
theorem ofl_cons (o : Op_) (l : List Op_) : ofl (o :: l) = .string o.key :: .string o.value :: .bool o.del :: ofl l := by simp [ofl]
theorem ofl_app (l r : List Op_) : ofl (l ++ r) = ofl l ++ ofl r := by simp [ofl]
theorem ofl_len : ∀ l : List Op_, (ofl l).length = l.length * 3
  | [] => rfl
  | x :: l => by rw [ofl_cons, List.length_cons, List.length_cons, List.length_cons, ofl_len l, List.length_cons]; omega
theorem ofl_get : ∀ (l : List Op_) (i : Nat) (h : i < l.length), (ofl l)[i * 3]? = some (.string (l[i]'h).key) ∧ (ofl l)[i * 3 + 1]? = some (.string (l[i]'h).value) ∧ (ofl l)[i * 3 + 2]? = some (.bool (l[i]'h).del)
  | x :: l, 0, _ => by rw [ofl_cons]; exact ⟨rfl, rfl, rfl⟩
  | x :: l, i + 1, h => by
    have ih := ofl_get l i (by simpa using h)
    rw [ofl_cons, show (i + 1) * 3 = i * 3 + 1 + 1 + 1 by omega]
    simpa using ih
theorem OAt.lit {w : World} {b : Nat} {l : List Op_} {t : TypeId} {f : Nat × Nat} (h : w.heap[b]? = some (.cells (ofl l).toArray t f)) : OAt w (some ⟨b, 0, none⟩) l.length l :=
  ⟨rfl, fun _ => ⟨b, 0, rfl, fun i hi => by
    obtain ⟨h1, h2, h3⟩ := ofl_get l i hi
    exact ⟨by rw [cell_of_row w b _ _ t f h, Nat.zero_add]; simpa using h1, by rw [cell_of_row w b _ _ t f h, Nat.zero_add]; simpa using h2, by rw [cell_of_row w b _ _ t f h, Nat.zero_add]; simpa using h3⟩⟩⟩
section
variable {w V : World} {T : List As} {p : Nat} {r : List Rw}
/-- Apply of changes in a literal that lies there. -/
theorem Has.tbApplyL {g : Nat} {N : Nat} (ops : List Op_) (h : Has w (tbA p r :: blkA g 32 (ofl ops).toArray :: T) V) (hr : ROk N r) (hN : N ≤ 999999000) (hs : OSz ops) (n : Nat) (hn : n = ops.length) (hn2 : n ≤ 9223372036854775807) :
    Calls Try.prog 14 #[pt p, .slice (some ⟨g, 0, none⟩) n n] V fun e w' => e = .returned (.int .i64 (chk ops)) ∧ Has w (tbA p (rapp r ops) :: T) w' ∧ ∀ n, KeepsFrom n V w' := by
  subst hn
  refine (h.tbApplyB hr hN (some ⟨g, 0, none⟩) ops.length ops.length ops (fun W F2 h2 => OAt.lit h2.1) hn2 hs).mono ?_
  rintro e w' ⟨h1, h2, h3⟩
  exact ⟨h1, h2.swap.tail, h3⟩
end
abbrev nE : ByteArray := ⟨#[]⟩
abbrev nA : ByteArray := ⟨#[97]⟩
abbrev nB : ByteArray := ⟨#[98]⟩
abbrev nC : ByteArray := ⟨#[99]⟩
abbrev nD : ByteArray := ⟨#[100]⟩
abbrev n1 : ByteArray := ⟨#[49]⟩
abbrev n2 : ByteArray := ⟨#[50]⟩
abbrev n3 : ByteArray := ⟨#[51]⟩
abbrev n4 : ByteArray := ⟨#[52]⟩
abbrev n5 : ByteArray := ⟨#[53]⟩
def T1 : List Rw := [⟨nA, n1⟩, ⟨nB, n2⟩, ⟨nD, n4⟩]
def T2 : List Rw := [⟨nB, n2⟩, ⟨nC, n5⟩, ⟨nD, n4⟩]
def O1 : List Op_ := [⟨nD, n4, false⟩, ⟨nA, n1, false⟩, ⟨nB, n2, false⟩]
def O2 : List Op_ := [⟨nA, nE, true⟩, ⟨nC, n3, false⟩, ⟨nC, n5, false⟩]
def O3 : List Op_ := [⟨⟨#[101]⟩, n1, false⟩, ⟨nE, nE, false⟩]
theorem aq1 : rapp [] O1 = T1 := by rw [rapp_Q]; rfl
theorem aq2 : rapp T1 O2 = T2 := by rw [rapp_Q]; rfl
theorem aq3 : rapp T2 O3 = T2 := by rw [rapp_Q]; rfl
theorem cq1 : chk O1 = 0 := by rw [chk_Q]; rfl
theorem cq2 : chk O2 = 0 := by rw [chk_Q]; rfl
theorem cq3 : chk O3 = 2 := by rw [chk_Q]; rfl
theorem gq1 : rval T1 nB = n2 ∧ rhas T1 nB = true := by rw [rval_Q, rhas_Q]; exact ⟨rfl, rfl⟩
theorem gq2 : rval T1 nC = nE ∧ rhas T1 nC = false := by rw [rval_Q, rhas_Q]; exact ⟨rfl, rfl⟩
theorem bq1 : btw T1 nE nE = T1 := btw_all T1
theorem bq2 : btw T1 nB nD = [⟨nB, n2⟩] := by rw [btw_Q]; rfl
theorem bq3 : btw T1 ⟨#[98, 98]⟩ nE = [⟨nD, n4⟩] := by rw [btw_Q]; rfl
theorem bq4 : btw T1 nD nB = [] := by rw [btw_Q]; rfl
theorem bq5 : btw T1 nA nD = [⟨nA, n1⟩, ⟨nB, n2⟩] := by rw [btw_Q]; rfl
theorem osz_of {l : List Op_} (h : l.all (fun o => decide (o.key.size ≤ 140737488351232) && decide (o.value.size ≤ 140737488351232)) = true) : OSz l := fun o ho => by
  have := List.all_eq_true.1 h o ho
  simpa using this
theorem so1 : OSz O1 := osz_of (by decide)
theorem so2 : OSz O2 := osz_of (by decide)
theorem so3 : OSz O3 := osz_of (by decide)
theorem ok1 : ROk 128 T1 := aq1 ▸ ROk.app ROk.nil so1
theorem ok2 : ROk 256 T2 := aq2 ▸ ROk.app ok1 so2
theorem ks1 : ∀ x ∈ T1, x.key.size ≤ 100 := by
  intro x hx
  simp only [T1, List.mem_cons, List.not_mem_nil, or_false] at hx
  rcases hx with rfl | rfl | rfl <;> decide
section
variable {w V : World} {T : List As} {p : Nat} {r : List Rw}
set_option maxRecDepth 100000 in
set_option maxHeartbeats 4000000 in
theorem tb_chapter (w : World) : Calls Try.prog 31 #[] w fun e w' => ∃ p, e = .returned (pt p) ∧ Has w [tbA p T1] w' := by
  have h0 : Has w [] w := Has.nil (Below.refl _ _)
  go_enter Try.func31, Try.ntmps31
  go_wp2_with (first
    | (go_at_call 12; refine (h0.tbNew 3).mono ?_; rintro e w1 ⟨p, rfl, h1⟩; have H1 := Lib.hid ((h1.newBlk 32 (ofl O1).toArray).swap); clear h1 h0)
    | (go_at_call 14; refine (Has.tbApplyL O1 H1.out ROk.nil (by omega) so1 3 rfl (by omega)).mono ?_; rintro e w2 ⟨rfl, h2, -⟩; rw [aq1] at h2; rw [cq1]; clear H1))
  go_ret
  exact ⟨_, rfl, h2⟩
theorem Has.tbChapter (h : Has w T V) : Calls Try.prog 31 #[] V fun e w' => ∃ p, e = .returned (pt p) ∧ Has w (tbA p T1 :: T) w' := by
  refine (tb_chapter V).mono ?_
  rintro e w' ⟨p, rfl, h2⟩
  obtain ⟨F2, h3, h4⟩ := h2.get
  exact ⟨p, rfl, h.new h2.bel h3 h4⟩
abbrev sABD : ByteArray := ⟨#[97, 98, 100]⟩
abbrev sDBA : ByteArray := ⟨#[100, 98, 97]⟩
abbrev sBA : ByteArray := ⟨#[98, 97]⟩
theorem kq1 : catK T1 = sABD := by rfl
theorem kq2 : catK [⟨nB, n2⟩] = nB := by rfl
theorem kq3 : catK [⟨nD, n4⟩] = nD := by rfl
theorem kq4 : catK [] = nE := by rfl
theorem kq5 : catK T1.reverse = sDBA := by rfl
theorem kq6 : catK [⟨nB, n2⟩, ⟨nA, n1⟩] = sBA := by rfl
set_option maxRecDepth 100000 in
set_option maxHeartbeats 8000000 in
theorem tb_works (w : World) : Calls Try.prog 20 #[] w fun e w' => e = .returned (.bool true) ∧ Below w.heap.size w w' := by
  have b0 : ((nE.toList == nE.toList)) = true := by simp
  have b1 : ((n2.toList == n2.toList)) = true := by simp
  have b2 : ((sABD.toList == sABD.toList)) = true := by simp
  have b3 : ((nB.toList == nB.toList)) = true := by simp
  have b4 : ((nD.toList == nD.toList)) = true := by simp
  have b5 : ((sDBA.toList == sDBA.toList)) = true := by simp
  have b6 : ((sBA.toList == sBA.toList)) = true := by simp
  have CH := Lib.hid (tb_chapter w)
  have hz := ok1.szs
  have hl : T1.length ≤ 1000 := by decide
  have hk := ks1
  have K1 := Lib.hid (fun (V : World) (p : Nat) (h : Has w [tbA p T1] V) => (show Calls Try.prog 32 #[pt p, .string nE, .string nE, .bool false] V fun e w' => e = .returned (.string sABD) ∧ Has w [tbA p T1] w' from by have := tb_keys false h hz hl hk nE nE T1 (by rw [if_neg (by decide)]; exact bq1); rw [kq1] at this; exact this))
  have K2 := Lib.hid (fun (V : World) (p : Nat) (h : Has w [tbA p T1] V) => (show Calls Try.prog 32 #[pt p, .string nB, .string nD, .bool false] V fun e w' => e = .returned (.string nB) ∧ Has w [tbA p T1] w' from by have := tb_keys false h hz hl hk nB nD [⟨nB, n2⟩] (by rw [if_neg (by decide)]; exact bq2); rw [kq2] at this; exact this))
  have K3 := Lib.hid (fun (V : World) (p : Nat) (h : Has w [tbA p T1] V) => (show Calls Try.prog 32 #[pt p, .string ⟨#[98, 98]⟩, .string nE, .bool false] V fun e w' => e = .returned (.string nD) ∧ Has w [tbA p T1] w' from by have := tb_keys false h hz hl hk ⟨#[98, 98]⟩ nE [⟨nD, n4⟩] (by rw [if_neg (by decide)]; exact bq3); rw [kq3] at this; exact this))
  have K4 := Lib.hid (fun (V : World) (p : Nat) (h : Has w [tbA p T1] V) => (show Calls Try.prog 32 #[pt p, .string nD, .string nB, .bool false] V fun e w' => e = .returned (.string nE) ∧ Has w [tbA p T1] w' from by have := tb_keys false h hz hl hk nD nB [] (by rw [if_neg (by decide)]; exact bq4); rw [kq4] at this; exact this))
  have K5 := Lib.hid (fun (V : World) (p : Nat) (h : Has w [tbA p T1] V) => (show Calls Try.prog 32 #[pt p, .string nE, .string nE, .bool true] V fun e w' => e = .returned (.string sDBA) ∧ Has w [tbA p T1] w' from by have := tb_keys true h hz hl hk nE nE T1.reverse (by rw [if_pos rfl, bq1]); rw [kq5] at this; exact this))
  have K6 := Lib.hid (fun (V : World) (p : Nat) (h : Has w [tbA p T1] V) => (show Calls Try.prog 32 #[pt p, .string nA, .string nD, .bool true] V fun e w' => e = .returned (.string sBA) ∧ Has w [tbA p T1] w' from by have := tb_keys true h hz hl hk nA nD [⟨nB, n2⟩, ⟨nA, n1⟩] (by rw [if_pos rfl, bq5]; rfl); rw [kq6] at this; exact this))
  clear hz hl hk
  go_enter Try.func20, Try.ntmps20
  go_wp2_with (first
    | (go_at_call 31; refine CH.out.mono ?_; rintro e w1 ⟨p, rfl, h1⟩)
    | (go_at_call 21; refine (h1.tbGet nB).mono ?_; rintro e w2 ⟨rfl, h2⟩; rw [gq1.1, gq1.2]; clear h1)
    | (go_at_call 21; refine (h2.tbGet nC).mono ?_; rintro e w3 ⟨rfl, h3⟩; rw [gq2.1, gq2.2]; clear h2)
    | (go_at_call 16; refine h3.tbLen.mono ?_; rintro e w4 ⟨rfl, h4⟩; rw [show (T1.length : Int) = 3 from rfl]; clear h3)
    | (go_at_call 32; (with_reducible refine (K1.out _ p h4).mono ?_); rintro e w5 ⟨rfl, h5⟩; clear h4)
    | (go_at_call 32; (with_reducible refine (K2.out _ p h5).mono ?_); rintro e w6 ⟨rfl, h6⟩; clear h5)
    | (go_at_call 32; (with_reducible refine (K3.out _ p h6).mono ?_); rintro e w7 ⟨rfl, h7⟩; clear h6)
    | (go_at_call 32; (with_reducible refine (K4.out _ p h7).mono ?_); rintro e w8 ⟨rfl, h8⟩; clear h7)
    | (go_at_call 32; (with_reducible refine (K5.out _ p h8).mono ?_); rintro e w9 ⟨rfl, h9⟩; clear h8)
    | (go_at_call 32; (with_reducible refine (K6.out _ p h9).mono ?_); rintro e w10 ⟨rfl, h10⟩; have H10 := Lib.hid ((h10.newBlk 32 (ofl O2).toArray).swap); clear h9 h10)
    | (go_at_call 14; refine (Has.tbApplyL O2 H10.out ok1 (by omega) so2 3 rfl (by omega)).mono ?_; rintro e w11 ⟨rfl, h11, -⟩; rw [aq2] at h11; rw [cq2]; have H11 := Lib.hid ((h11.newBlk 32 (ofl O3).toArray).swap); clear H10 h11)
    | (go_at_call 14; refine (Has.tbApplyL O3 H11.out ok2 (by omega) so3 2 rfl (by omega)).mono ?_; rintro e w12 ⟨rfl, h12, -⟩; rw [aq3] at h12; rw [cq3]; clear H11)
    | (go_at_call 18; refine (h12.tbRows ok2.szs (by decide)).mono ?_; rintro e w13 ⟨u, rfl, h13⟩; obtain ⟨A, c, rfl, hat, hc1, hc2⟩ := h13.rwForm (v := u) (L := T2) (by simp); have HAT := Lib.hid (hat.below (nbl w13 (.cells (rfl2 T2).toArray 39))); have HLT := Lib.hid (WAt.lit (l := T2) (heap_alloc_new w13 (.cells (rfl2 T2).toArray 39))); have HB := Lib.hid (bsa h13.bel (.cells (rfl2 T2).toArray 39)); clear h12 h13 hat)
    | (go_at_call 19; refine (same10 A (some ⟨w13.heap.size, 0, none⟩) 3 3 c 3 T2 T2 _ HAT.out HLT.out (by decide) (by decide)).mono ?_; rintro e w14 ⟨rfl, h14⟩; rw [decide_eq_true rfl]))
  go_ret
  exact ⟨rfl, bst HB.out h14⟩
theorem Has.tbWorks {w V : World} {T : List As} (h : Has w T V) : Calls Try.prog 20 #[] V fun e w' => e = .returned (.bool true) ∧ Has w T w' := by
  refine (tb_works V).mono ?_
  rintro e w' ⟨rfl, hb⟩
  exact ⟨rfl, h.keep hb⟩
end
end Go.Proofs.Ytgakkeeeadndkaa
