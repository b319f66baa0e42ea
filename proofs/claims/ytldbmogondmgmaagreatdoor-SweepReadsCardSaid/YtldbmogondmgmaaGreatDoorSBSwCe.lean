/-
  Layer 15, the statements' helpers: cells laid into both tables (written by wip/genswce.py).
-/
import Derived.Test.YtldbmogondmgmaaGreatDoorSB27
import Derived.Test.YtldbmogondmgmaaGreatDoorSB01
set_option linter.unusedVariables false
set_option linter.unusedSimpArgs false
set_option maxRecDepth 100000
namespace Go.Proofs.YtldbmogondmgmaaGreatDoor
open Go.RowKit

structure Ce where
  k : Int
  key : ByteArray
  sw : Int
  sl : Int
  gone : Bool
  value : ByteArray
abbrev cec (x : Ce) : Array Value := #[.int .i64 x.k, .string x.key, .int .i64 x.sw, .int .i64 x.sl, .bool x.gone, .string x.value]
/-- What a cell's texts must keep. -/
def CeSz (x : Ce) : Prop := x.key.size ≤ 140737488351232 ∧ x.value.size ≤ 140737488351232
def CeAt (w : World) (A : Option Addr) (n : Nat) (l : List Ce) : Prop :=
  l.length = n ∧ (0 < n → ∃ b o, A = some ⟨b, o, none⟩ ∧ ∀ i (h : i < l.length), ∀ j u, (cec (l[i]'h))[j]? = some u → w.cell? ⟨b, o + i * 6 + j, none⟩ = some u)
theorem CeAt.below {w w' : World} {A : Option Addr} {n : Nat} {l : List Ce} (h : CeAt w A n l) (hb : Below w.heap.size w w') : CeAt w' A n l := by
  refine ⟨h.1, fun hn => ?_⟩
  obtain ⟨b, o, e, hc⟩ := h.2 hn
  exact ⟨b, o, e, fun i hi j u hu => kept_below hb _ _ (hc i hi j u hu)⟩
def v5 (s : ByteArray) : ByteArray := ⟨#[118]⟩ ++ s
def gv (x : Ce) : ByteArray := if x.gone then ⟨#[]⟩ else x.value
def ceKE (x : Ce) : ByteArray × Int := if x.k % 6 = 4 then (ikS x.key, ikE x.key) else if x.k % 6 = 5 then (v5 x.key, 0) else (vkS x.key x.sw x.sl, vkE x.key x.sw x.sl)
def vtxt (s : ByteArray) (d : Bool) : ByteArray := if isV s d then bs (txV s d) else ⟨#[]⟩
def verr (s : ByteArray) (d : Bool) : Int := if isV s d then 0 else 2
def ceVF (x : Ce) : ByteArray × Int := if x.k % 6 = 4 then (x.value, 0) else if x.k % 6 = 5 then (x.value, 0) else (vtxt (gv x) (!x.gone), verr (gv x) (!x.gone))
/-- A cell's change, if it can stand there. -/
def opKV (a b : ByteArray × Int) : Option Op_ := if a.2 = 0 ∧ b.2 = 0 then some ⟨a.1, b.1, false⟩ else none
def opCe (x : Ce) : Option Op_ := opKV (ceKE x) (ceVF x)
def ceSt (r : List Rw) (x : Ce) : List Rw := match opCe x with | some o => rapp r [o] | none => r
def ctab (l : List Ce) : List Rw := (l.take 100).foldl ceSt []
theorem ctab_succ (l : List Ce) (j : Nat) (h : j < l.length) : (l.take (j + 1)).foldl ceSt [] = ceSt ((l.take j).foldl ceSt []) (l[j]'h) := by
  rw [List.take_succ_eq_append_getElem h, List.foldl_append]
  rfl
theorem opCe_sz {x : Ce} (h : CeSz x) {o : Op_} (ho : opCe x = some o) : o.key.size ≤ 140737488351233 ∧ o.value.size ≤ 140737488351233 := by
  unfold opCe opKV at ho
  split at ho
  · rename_i hz
    cases ho
    simp only
    have hv : (vtxt (gv x) (!x.gone)).size ≤ 140737488351232 := by
      unfold vtxt
      split
      · rename_i hi
        have := txV_len _ _ hi
        show (txV _ _).length ≤ _
        omega
      · exact Nat.zero_le _
    constructor
    · unfold ceKE
      split
      · unfold ikS
        split
        · rename_i h1
          have := okey_le (sb x.key) (by rw [sb_len]; exact h1)
          show (ikey _).length ≤ _
          simp only [ikey, List.length_cons]
          omega
        · exact Nat.zero_le _
      · split
        · show (v5 x.key).size ≤ _
          unfold v5
          rw [ByteArray.size_append]
          have := h.1
          have e : (⟨#[118]⟩ : ByteArray).size = 1 := rfl
          omega
        · unfold vkS
          split
          · rename_i h1
            have := okey_le (sb x.key) (by rw [sb_len]; exact h1.1)
            have h2 := odown_le x.sw x.sl
            show (vkey _ _ _).length ≤ _
            simp only [vkey, List.length_cons, List.length_append]
            omega
          · exact Nat.zero_le _
    · unfold ceVF
      split
      · exact Nat.le_trans h.2 (by decide)
      · split
        · exact Nat.le_trans h.2 (by decide)
        · exact Nat.le_trans hv (by decide)
  · cases ho
theorem ceSt_ok {N : Nat} {r : List Rw} (h : ROk N r) {x : Ce} (hx : CeSz x) : ROk (N + 128) (ceSt r x) := by
  unfold ceSt
  split
  · rename_i o ho
    exact h.app (fun y hy => by rw [List.mem_singleton.1 hy]; exact opCe_sz hx ho)
  · exact h.mono (by omega)
theorem ctab_fold {l : List Ce} : ∀ {N : Nat} {r : List Rw}, ROk N r → (∀ x ∈ l, CeSz x) → ROk (N + 128 * l.length) (l.foldl ceSt r) := by
  induction l with
  | nil => intro N r h _; exact h
  | cons x l ih =>
    intro N r h h1
    have := ih (ceSt_ok h (h1 x (by simp))) (fun y hy => h1 y (by simp [hy]))
    rw [List.length_cons, List.foldl_cons]
    exact this.mono (by omega)
theorem ctab_ok {l : List Ce} (h : ∀ x ∈ l, CeSz x) : ROk 12800 (ctab l) := (ctab_fold ROk.nil (fun x hx => h x (List.mem_of_mem_take hx))).mono (by rw [List.length_take]; omega)
theorem blk_op {W : World} {F : Nat → Prop} {g : Nat} {k v : ByteArray} {d : Bool} (h : (blkA g 98 #[.string k, .string v, .bool d]).p W F) : OAt W (some ⟨g, 0, none⟩) 1 [⟨k, v, d⟩] := by
  refine ⟨rfl, fun _ => ⟨g, 0, rfl, fun i hi => ?_⟩⟩
  have : i = 0 := by simp at hi; omega
  subst this
  exact ⟨h.1.cell 0, h.1.cell 1, h.1.cell 2⟩
theorem perm3 (a b c d : As) : [a, b, c, d].Perm [c, a, d, b] := by
  refine ((List.Perm.cons a (List.Perm.swap c b [d])).trans (List.Perm.swap c a [b, d])).trans (List.Perm.cons c (List.Perm.cons a (List.Perm.swap d b [])))
theorem perm3b (c a d b : As) : [c, a, d, b].Perm [d, a, c, b] := by
  refine ((List.Perm.cons c (List.Perm.swap d a [b])).trans (List.Perm.swap d c [a, b])).trans (List.Perm.cons d (List.Perm.swap a c [b]))
theorem perm3c (d a c b : As) : [d, a, c, b].Perm [a, b, c, d] := by
  refine ((List.Perm.swap a d [c, b])).trans (List.Perm.cons a ?_)
  refine ((List.Perm.cons d (List.Perm.swap b c [])).trans (List.Perm.swap b d [c])).trans (List.Perm.cons b (List.Perm.swap c d []))
theorem vers (s : ByteArray) (d : Bool) (w : World) : Calls Tryz.prog 77 #[.string s, .bool d] w fun e w' => e = .returned (.tuple #[.string (vtxt s d), .int .i64 (verr s d)]) ∧ Below w.heap.size w w' :=
  (rVersion s d w).mono fun e w' h => ⟨h.1.trans (ansT_form _ _), h.2⟩
set_option maxHeartbeats 16000000 in
theorem claid (A : Option Addr) (n c : Nat) (l : List Ce) (w : World) (hx : CeAt w A n l) (hn : n ≤ 9223372036854775807) (hz : ∀ x ∈ l, CeSz x) :
    Calls Tryz.prog 23 #[.slice A n c] w fun e w' => ∃ p b, e = .returned (.tuple #[pt p, pt b]) ∧ Has w (tbA p (ctab l) :: rtA b (ctab l) :: []) w' := by
  have HX := Lib.hid hx
  have HZ := Lib.hid hz
  have hlen := hx.1
  have HLN := Lib.hid hlen
  clear hx hz hlen
  go_enter Tryz.func23, Tryz.ntmps23
  go_wp2_with (first
    | (go_at_call 34; refine ((Has.nil (Below.refl w.heap.size w)).tbNew 1).mono ?_; rintro e w1 ⟨p, rfl, h1⟩
       have H1 := Lib.hid h1
       clear h1)
    | (go_at_call 75; refine (H1.out.rtNew 1).mono ?_; rintro e w2 ⟨b, rfl, h2⟩
       have H2 := Lib.hid h2.swap
       clear h2))
  go_loopw [6] (fun i wr => ∃ j : Nat, j ≤ n ∧ j ≤ 100 ∧ i = .int .i64 j ∧ Hid (Has w (tbA p ((l.take j).foldl ceSt []) :: rtA b ((l.take j).foldl ceSt []) :: []) wr)) (fun i _ => 100 - (intOf i).toNat)
  case atStart => exact ⟨0, Nat.zero_le _, Nat.zero_le _, rfl, H2⟩
  case round =>
    obtain ⟨j, hj, hj2, rfl, HH⟩ := hrel
    by_cases c1 : j < n
    case neg =>
      have HF := Lib.hid (show ctab l = (l.take j).foldl ceSt [] by unfold ctab; rw [List.take_of_length_le (by have := HLN.out; omega), List.take_of_length_le (by have := HLN.out; omega)])
      go_wp2_with fail
      go_ret2
      rw [HF.out]
      exact ⟨_, _, rfl, HH.out⟩
    by_cases c2 : j < 100
    case neg =>
      have hj60 : j = 100 := by omega
      have HF := Lib.hid (show ctab l = (l.take j).foldl ceSt [] by rw [hj60]; rfl)
      clear hj60
      go_wp2_with fail
      go_ret2
      rw [HF.out]
      exact ⟨_, _, rfl, HH.out⟩
    have hjl : j < l.length := by rw [HLN.out]; exact c1
    obtain ⟨B, o, rfl, hc⟩ := (HX.out.below HH.out.bel).2 (by omega)
    have hcc := hc j hjl
    obtain ⟨x, hxx⟩ : ∃ x, l[j]'hjl = x := ⟨_, rfl⟩
    have hts : CeSz x := hxx ▸ HZ.out _ (List.getElem_mem hjl)
    have htk := ctab_succ l j hjl
    rw [hxx] at hcc htk
    have hok := (ctab_fold ROk.nil (l := l.take j) (fun x hx => HZ.out x (List.mem_of_mem_take hx))).mono (show 0 + 128 * (l.take j).length ≤ 12800 by rw [List.length_take]; omega)
    have HTK0 := Lib.hid htk
    have HH0 := HH.out
    generalize (l.take j).foldl ceSt [] = R at *
    have d0 : wr.cell? ⟨B, o + j * 6, none⟩ = some (.int .i64 x.k) := hcc 0 _ rfl
    have d1 : wr.cell? ⟨B, o + j * 6 + 1, none⟩ = some (.string x.key) := hcc 1 _ rfl
    have d2 : wr.cell? ⟨B, o + j * 6 + 2, none⟩ = some (.int .i64 x.sw) := hcc 2 _ rfl
    have d3 : wr.cell? ⟨B, o + j * 6 + 3, none⟩ = some (.int .i64 x.sl) := hcc 3 _ rfl
    have d4 : wr.cell? ⟨B, o + j * 6 + 4, none⟩ = some (.bool x.gone) := hcc 4 _ rfl
    have d5 : wr.cell? ⟨B, o + j * 6 + 5, none⟩ = some (.string x.value) := hcc 5 _ rfl
    have h0 := HH0.newBlk 144 (cec x)
    have HH0_ := Lib.hid h0
    have HOK := Lib.hid hok
    have hks : x.key.size ≤ 140737488351232 := hts.1
    have HSZ := Lib.hid (fun o => @opCe_sz x hts o)
    clear hc hcc hts hok htk h0 HH0 HH hxx
    obtain ⟨kk, hkk⟩ : ∃ kk, x.k % 6 = kk := ⟨_, rfl⟩
    have HKD := Lib.hid hkk
    cases hgo : x.gone with
    | false =>
      rw [hgo] at d4
      have H0 := Lib.hid (show Has w [blkA wr.heap.size 144 #[.int .i64 x.k, .string x.key, .int .i64 x.sw, .int .i64 x.sl, .bool false, .string x.value], tbA p R, rtA b R] (wr.alloc (.cells #[.int .i64 x.k, .string x.key, .int .i64 x.sw, .int .i64 x.sl, .bool false, .string x.value] 144)) from by have h9 := HH0_.out; rw [show cec x = #[.int .i64 x.k, .string x.key, .int .i64 x.sw, .int .i64 x.sl, .bool false, .string x.value] from by unfold cec; rw [hgo]] at h9; exact h9)
      clear HH0_
      by_cases hk4 : kk = 4
      case pos =>
        subst hk4
        have HVK := Lib.hid (fun W => rVersionKey x.key x.sw x.sl W)
        have HV1 := Lib.hid (fun W => vers x.value true W)
        have HIK := Lib.hid (fun W => rIntentKey x.key W)
        have hke : ceKE x = (ikS x.key, ikE x.key) := by unfold ceKE; rw [HKD.out, if_pos rfl]
        have hvf : ceVF x = (x.value, 0) := by unfold ceVF; rw [HKD.out, if_pos rfl]
        have hop : opCe x = opKV (ikS x.key, ikE x.key) (x.value, 0) := by unfold opCe; rw [hke, hvf]
        clear hke hvf
        generalize vkS x.key x.sw x.sl = kV at *
        generalize vkE x.key x.sw x.sl = eV at *
        generalize vtxt x.value true = v1 at *
        generalize verr x.value true = f1 at *
        generalize ikS x.key = kI at *
        generalize ikE x.key = eI at *
        by_cases he : eI = 0
        case neg =>
          have hop2 : opCe x = none := by rw [hop]; unfold opKV; simp [he]
          have HTK := Lib.hid (show (l.take (j + 1)).foldl ceSt [] = R by rw [HTK0.out]; unfold ceSt; rw [hop2])
          clear hop hop2
          have heb : (eI == 0) = false := by simpa using he
          clear he
          go_wp2_with (first
            | (go_at_call 76; with_reducible refine (HVK.out _).mono ?_; rintro e w1 ⟨rfl, hb1⟩
               have h1 := H0.out.keep hb1
               have zz := h1.blkAt (g := wr.heap.size) (t := 144) (cs := #[.int .i64 x.k, .string x.key, .int .i64 x.sw, .int .i64 x.sl, .bool false, .string x.value]) (by simp)
               have c0 := zz.cell 0
               have c1 := zz.cell 1
               have c2 := zz.cell 2
               have c3 := zz.cell 3
               have c4 := zz.cell 4
               have c5 := zz.cell 5
               simp at c0 c1 c2 c3 c4 c5
               clear zz
               have H1 := Lib.hid h1
               clear h1 hb1)
            | (go_at_call 77; with_reducible refine (HV1.out _).mono ?_; rintro e w2 ⟨rfl, hb2⟩
               have h2 := H1.out.keep hb2
               have zz := h2.blkAt (g := wr.heap.size) (t := 144) (cs := #[.int .i64 x.k, .string x.key, .int .i64 x.sw, .int .i64 x.sl, .bool false, .string x.value]) (by simp)
               have c0 := zz.cell 0
               have c1 := zz.cell 1
               have c2 := zz.cell 2
               have c3 := zz.cell 3
               have c4 := zz.cell 4
               have c5 := zz.cell 5
               simp at c0 c1 c2 c3 c4 c5
               clear zz
               have H2 := Lib.hid h2
               clear h2 hb2)
            | (go_at_call 78; refine (bring x.k 6 _ (by decide) (by decide)).mono ?_; rintro e wq ⟨rfl, hwq⟩; obtain rfl := hwq; rw [HKD.out])
            | (go_at_call 79; with_reducible refine (HIK.out _).mono ?_; rintro e w3 ⟨rfl, hb3⟩
               have h3 := H2.out.keep hb3
               have zz := h3.blkAt (g := wr.heap.size) (t := 144) (cs := #[.int .i64 x.k, .string x.key, .int .i64 x.sw, .int .i64 x.sl, .bool false, .string x.value]) (by simp)
               have c0 := zz.cell 0
               have c1 := zz.cell 1
               have c2 := zz.cell 2
               have c3 := zz.cell 3
               have c4 := zz.cell 4
               have c5 := zz.cell 5
               simp at c0 c1 c2 c3 c4 c5
               clear zz
               have H3 := Lib.hid h3
               clear h3 hb3)
            | fail)
          go_roundw
          case rel => exact ⟨j + 1, by omega, by omega, by go_num, by rw [HTK.out]; exact H3.out.tail⟩
          case measure => simp [intOf]; omega
        have hop2 : opCe x = some ⟨kI, x.value, false⟩ := by rw [hop]; unfold opKV; simp [he]
        have HTK := Lib.hid (show (l.take (j + 1)).foldl ceSt [] = rapp R [⟨kI, x.value, false⟩] by rw [HTK0.out]; unfold ceSt; rw [hop2])
        have HOSZ := Lib.hid (show OSz [⟨kI, x.value, false⟩] from fun y hy => by rw [List.mem_singleton.1 hy]; exact HSZ.out _ hop2)
        clear hop hop2
        subst he
        go_wp2_with (first
          | (go_at_call 76; with_reducible refine (HVK.out _).mono ?_; rintro e w1 ⟨rfl, hb1⟩
             have h1 := H0.out.keep hb1
             have zz := h1.blkAt (g := wr.heap.size) (t := 144) (cs := #[.int .i64 x.k, .string x.key, .int .i64 x.sw, .int .i64 x.sl, .bool false, .string x.value]) (by simp)
             have c0 := zz.cell 0
             have c1 := zz.cell 1
             have c2 := zz.cell 2
             have c3 := zz.cell 3
             have c4 := zz.cell 4
             have c5 := zz.cell 5
             simp at c0 c1 c2 c3 c4 c5
             clear zz
             have H1 := Lib.hid h1
             clear h1 hb1)
          | (go_at_call 77; with_reducible refine (HV1.out _).mono ?_; rintro e w2 ⟨rfl, hb2⟩
             have h2 := H1.out.keep hb2
             have zz := h2.blkAt (g := wr.heap.size) (t := 144) (cs := #[.int .i64 x.k, .string x.key, .int .i64 x.sw, .int .i64 x.sl, .bool false, .string x.value]) (by simp)
             have c0 := zz.cell 0
             have c1 := zz.cell 1
             have c2 := zz.cell 2
             have c3 := zz.cell 3
             have c4 := zz.cell 4
             have c5 := zz.cell 5
             simp at c0 c1 c2 c3 c4 c5
             clear zz
             have H2 := Lib.hid h2
             clear h2 hb2)
          | (go_at_call 78; refine (bring x.k 6 _ (by decide) (by decide)).mono ?_; rintro e wq ⟨rfl, hwq⟩; obtain rfl := hwq; rw [HKD.out])
          | (go_at_call 79; with_reducible refine (HIK.out _).mono ?_; rintro e w3 ⟨rfl, hb3⟩
             have h3 := H2.out.keep hb3
             have zz := h3.blkAt (g := wr.heap.size) (t := 144) (cs := #[.int .i64 x.k, .string x.key, .int .i64 x.sw, .int .i64 x.sl, .bool false, .string x.value]) (by simp)
             have c0 := zz.cell 0
             have c1 := zz.cell 1
             have c2 := zz.cell 2
             have c3 := zz.cell 3
             have c4 := zz.cell 4
             have c5 := zz.cell 5
             simp at c0 c1 c2 c3 c4 c5
             clear zz
             have H3 := Lib.hid h3
             clear h3 hb3)
          | (go_at_call 27
             have ho := ((H3.out.newBlk 98 #[.string kI, .string x.value, .bool false]).perm (perm3 _ _ _ _))
             refine (Has.tbApplyB ho HOK.out (by omega) _ 1 1 [⟨kI, x.value, false⟩] (fun W F2 => blk_op) (by omega) HOSZ.out).mono ?_; rintro e wa ⟨rfl, ha, -⟩
             have HA := Lib.hid (ha.perm (perm3b _ _ _ _))
             clear ho ha)
          | (go_at_call 36
             refine (Has.rtApplyB HA.out (by have := HOK.out.len; omega) _ 1 1 [⟨kI, x.value, false⟩] (fun W F2 => blk_op) (by omega)).mono ?_; rintro e wb ⟨rfl, hbb⟩
             have HB := Lib.hid (hbb.perm (perm3c _ _ _ _)).tail.tail
             clear hbb HA)
          | fail)
        go_roundw
        case rel => exact ⟨j + 1, by omega, by omega, by go_num, by rw [HTK.out]; exact HB.out⟩
        case measure => simp [intOf]; omega
      by_cases hk5 : kk = 5
      case pos =>
        subst hk5
        have HVK := Lib.hid (fun W => rVersionKey x.key x.sw x.sl W)
        have HV1 := Lib.hid (fun W => vers x.value true W)
        have hke : ceKE x = (v5 x.key, 0) := by unfold ceKE; rw [HKD.out, if_neg hk4, if_pos rfl]
        have hvf : ceVF x = (x.value, 0) := by unfold ceVF; rw [HKD.out, if_neg hk4, if_pos rfl]
        have hop : opCe x = opKV (v5 x.key, 0) (x.value, 0) := by unfold opCe; rw [hke, hvf]
        clear hke hvf
        generalize vkS x.key x.sw x.sl = kV at *
        generalize vkE x.key x.sw x.sl = eV at *
        generalize vtxt x.value true = v1 at *
        generalize verr x.value true = f1 at *
        have hq5 : ¬ 9223372036854775807 < (⟨#[118]⟩ : ByteArray).size + x.key.size := by have : (⟨#[118]⟩ : ByteArray).size = 1 := rfl; omega
        unfold v5 at hop
        obtain ⟨k5, hk5e⟩ : ∃ k5, (⟨#[118]⟩ : ByteArray) ++ x.key = k5 := ⟨_, rfl⟩
        rw [hk5e] at hop
        have hop2 : opCe x = some ⟨k5, x.value, false⟩ := by rw [hop]; unfold opKV; simp
        have HTK := Lib.hid (show (l.take (j + 1)).foldl ceSt [] = rapp R [⟨k5, x.value, false⟩] by rw [HTK0.out]; unfold ceSt; rw [hop2])
        have HOSZ := Lib.hid (show OSz [⟨k5, x.value, false⟩] from fun y hy => by rw [List.mem_singleton.1 hy]; exact HSZ.out _ hop2)
        clear hop hop2
        go_wp2_with (first
          | (go_at_call 76; with_reducible refine (HVK.out _).mono ?_; rintro e w1 ⟨rfl, hb1⟩
             have h1 := H0.out.keep hb1
             have zz := h1.blkAt (g := wr.heap.size) (t := 144) (cs := #[.int .i64 x.k, .string x.key, .int .i64 x.sw, .int .i64 x.sl, .bool false, .string x.value]) (by simp)
             have c0 := zz.cell 0
             have c1 := zz.cell 1
             have c2 := zz.cell 2
             have c3 := zz.cell 3
             have c4 := zz.cell 4
             have c5 := zz.cell 5
             simp at c0 c1 c2 c3 c4 c5
             clear zz
             have H1 := Lib.hid h1
             clear h1 hb1)
          | (go_at_call 77; with_reducible refine (HV1.out _).mono ?_; rintro e w2 ⟨rfl, hb2⟩
             have h2 := H1.out.keep hb2
             have zz := h2.blkAt (g := wr.heap.size) (t := 144) (cs := #[.int .i64 x.k, .string x.key, .int .i64 x.sw, .int .i64 x.sl, .bool false, .string x.value]) (by simp)
             have c0 := zz.cell 0
             have c1 := zz.cell 1
             have c2 := zz.cell 2
             have c3 := zz.cell 3
             have c4 := zz.cell 4
             have c5 := zz.cell 5
             simp at c0 c1 c2 c3 c4 c5
             clear zz
             have H2 := Lib.hid h2
             clear h2 hb2)
          | (go_at_call 78; refine (bring x.k 6 _ (by decide) (by decide)).mono ?_; rintro e wq ⟨rfl, hwq⟩; obtain rfl := hwq; rw [HKD.out])
          | (go_at_call 27
             have ho := ((H2.out.newBlk 98 #[.string k5, .string x.value, .bool false]).perm (perm3 _ _ _ _))
             refine (Has.tbApplyB ho HOK.out (by omega) _ 1 1 [⟨k5, x.value, false⟩] (fun W F2 => blk_op) (by omega) HOSZ.out).mono ?_; rintro e wa ⟨rfl, ha, -⟩
             have HA := Lib.hid (ha.perm (perm3b _ _ _ _))
             clear ho ha)
          | (go_at_call 36
             refine (Has.rtApplyB HA.out (by have := HOK.out.len; omega) _ 1 1 [⟨k5, x.value, false⟩] (fun W F2 => blk_op) (by omega)).mono ?_; rintro e wb ⟨rfl, hbb⟩
             have HB := Lib.hid (hbb.perm (perm3c _ _ _ _)).tail.tail
             clear hbb HA)
          | fail)
        go_roundw
        case rel => exact ⟨j + 1, by omega, by omega, by go_num, by rw [HTK.out]; exact HB.out⟩
        case measure => simp [intOf]; omega
      have hb4 : (kk == 4) = false := by simpa using hk4
      have hb5 : (kk == 5) = false := by simpa using hk5
      have HVK := Lib.hid (fun W => rVersionKey x.key x.sw x.sl W)
      have HV1 := Lib.hid (fun W => vers x.value true W)
      have hke : ceKE x = (vkS x.key x.sw x.sl, vkE x.key x.sw x.sl) := by unfold ceKE; rw [HKD.out, if_neg hk4, if_neg hk5]
      have hvf : ceVF x = (vtxt x.value true, verr x.value true) := by unfold ceVF; rw [HKD.out, if_neg hk4, if_neg hk5]; unfold gv; rw [hgo]; rfl
      have hop : opCe x = opKV (vkS x.key x.sw x.sl, vkE x.key x.sw x.sl) (vtxt x.value true, verr x.value true) := by unfold opCe; rw [hke, hvf]
      clear hke hvf
      generalize vkS x.key x.sw x.sl = kV at *
      generalize vkE x.key x.sw x.sl = eV at *
      generalize vtxt x.value true = v1 at *
      generalize verr x.value true = f1 at *
      by_cases he : eV = 0
      case neg =>
        have hop2 : opCe x = none := by rw [hop]; unfold opKV; simp [he]
        have HTK := Lib.hid (show (l.take (j + 1)).foldl ceSt [] = R by rw [HTK0.out]; unfold ceSt; rw [hop2])
        clear hop hop2
        have heb : (eV == 0) = false := by simpa using he
        clear he
        go_wp2_with (first
          | (go_at_call 76; with_reducible refine (HVK.out _).mono ?_; rintro e w1 ⟨rfl, hb1⟩
             have h1 := H0.out.keep hb1
             have zz := h1.blkAt (g := wr.heap.size) (t := 144) (cs := #[.int .i64 x.k, .string x.key, .int .i64 x.sw, .int .i64 x.sl, .bool false, .string x.value]) (by simp)
             have c0 := zz.cell 0
             have c1 := zz.cell 1
             have c2 := zz.cell 2
             have c3 := zz.cell 3
             have c4 := zz.cell 4
             have c5 := zz.cell 5
             simp at c0 c1 c2 c3 c4 c5
             clear zz
             have H1 := Lib.hid h1
             clear h1 hb1)
          | (go_at_call 77; with_reducible refine (HV1.out _).mono ?_; rintro e w2 ⟨rfl, hb2⟩
             have h2 := H1.out.keep hb2
             have zz := h2.blkAt (g := wr.heap.size) (t := 144) (cs := #[.int .i64 x.k, .string x.key, .int .i64 x.sw, .int .i64 x.sl, .bool false, .string x.value]) (by simp)
             have c0 := zz.cell 0
             have c1 := zz.cell 1
             have c2 := zz.cell 2
             have c3 := zz.cell 3
             have c4 := zz.cell 4
             have c5 := zz.cell 5
             simp at c0 c1 c2 c3 c4 c5
             clear zz
             have H2 := Lib.hid h2
             clear h2 hb2)
          | (go_at_call 78; refine (bring x.k 6 _ (by decide) (by decide)).mono ?_; rintro e wq ⟨rfl, hwq⟩; obtain rfl := hwq; rw [HKD.out])
          | fail)
        go_roundw
        case rel => exact ⟨j + 1, by omega, by omega, by go_num, by rw [HTK.out]; exact H2.out.tail⟩
        case measure => simp [intOf]; omega
      by_cases hf : f1 = 0
      case neg =>
        have hop2 : opCe x = none := by rw [hop]; unfold opKV; simp [hf]
        have HTK := Lib.hid (show (l.take (j + 1)).foldl ceSt [] = R by rw [HTK0.out]; unfold ceSt; rw [hop2])
        clear hop hop2
        subst he
        have hfb : (f1 == 0) = false := by simpa using hf
        clear hf
        go_wp2_with (first
          | (go_at_call 76; with_reducible refine (HVK.out _).mono ?_; rintro e w1 ⟨rfl, hb1⟩
             have h1 := H0.out.keep hb1
             have zz := h1.blkAt (g := wr.heap.size) (t := 144) (cs := #[.int .i64 x.k, .string x.key, .int .i64 x.sw, .int .i64 x.sl, .bool false, .string x.value]) (by simp)
             have c0 := zz.cell 0
             have c1 := zz.cell 1
             have c2 := zz.cell 2
             have c3 := zz.cell 3
             have c4 := zz.cell 4
             have c5 := zz.cell 5
             simp at c0 c1 c2 c3 c4 c5
             clear zz
             have H1 := Lib.hid h1
             clear h1 hb1)
          | (go_at_call 77; with_reducible refine (HV1.out _).mono ?_; rintro e w2 ⟨rfl, hb2⟩
             have h2 := H1.out.keep hb2
             have zz := h2.blkAt (g := wr.heap.size) (t := 144) (cs := #[.int .i64 x.k, .string x.key, .int .i64 x.sw, .int .i64 x.sl, .bool false, .string x.value]) (by simp)
             have c0 := zz.cell 0
             have c1 := zz.cell 1
             have c2 := zz.cell 2
             have c3 := zz.cell 3
             have c4 := zz.cell 4
             have c5 := zz.cell 5
             simp at c0 c1 c2 c3 c4 c5
             clear zz
             have H2 := Lib.hid h2
             clear h2 hb2)
          | (go_at_call 78; refine (bring x.k 6 _ (by decide) (by decide)).mono ?_; rintro e wq ⟨rfl, hwq⟩; obtain rfl := hwq; rw [HKD.out])
          | fail)
        go_roundw
        case rel => exact ⟨j + 1, by omega, by omega, by go_num, by rw [HTK.out]; exact H2.out.tail⟩
        case measure => simp [intOf]; omega
      have hop2 : opCe x = some ⟨kV, v1, false⟩ := by rw [hop]; unfold opKV; simp [he, hf]
      have HTK := Lib.hid (show (l.take (j + 1)).foldl ceSt [] = rapp R [⟨kV, v1, false⟩] by rw [HTK0.out]; unfold ceSt; rw [hop2])
      have HOSZ := Lib.hid (show OSz [⟨kV, v1, false⟩] from fun y hy => by rw [List.mem_singleton.1 hy]; exact HSZ.out _ hop2)
      clear hop hop2
      subst he
      subst hf
      go_wp2_with (first
        | (go_at_call 76; with_reducible refine (HVK.out _).mono ?_; rintro e w1 ⟨rfl, hb1⟩
           have h1 := H0.out.keep hb1
           have zz := h1.blkAt (g := wr.heap.size) (t := 144) (cs := #[.int .i64 x.k, .string x.key, .int .i64 x.sw, .int .i64 x.sl, .bool false, .string x.value]) (by simp)
           have c0 := zz.cell 0
           have c1 := zz.cell 1
           have c2 := zz.cell 2
           have c3 := zz.cell 3
           have c4 := zz.cell 4
           have c5 := zz.cell 5
           simp at c0 c1 c2 c3 c4 c5
           clear zz
           have H1 := Lib.hid h1
           clear h1 hb1)
        | (go_at_call 77; with_reducible refine (HV1.out _).mono ?_; rintro e w2 ⟨rfl, hb2⟩
           have h2 := H1.out.keep hb2
           have zz := h2.blkAt (g := wr.heap.size) (t := 144) (cs := #[.int .i64 x.k, .string x.key, .int .i64 x.sw, .int .i64 x.sl, .bool false, .string x.value]) (by simp)
           have c0 := zz.cell 0
           have c1 := zz.cell 1
           have c2 := zz.cell 2
           have c3 := zz.cell 3
           have c4 := zz.cell 4
           have c5 := zz.cell 5
           simp at c0 c1 c2 c3 c4 c5
           clear zz
           have H2 := Lib.hid h2
           clear h2 hb2)
        | (go_at_call 78; refine (bring x.k 6 _ (by decide) (by decide)).mono ?_; rintro e wq ⟨rfl, hwq⟩; obtain rfl := hwq; rw [HKD.out])
        | (go_at_call 27
           have ho := ((H2.out.newBlk 98 #[.string kV, .string v1, .bool false]).perm (perm3 _ _ _ _))
           refine (Has.tbApplyB ho HOK.out (by omega) _ 1 1 [⟨kV, v1, false⟩] (fun W F2 => blk_op) (by omega) HOSZ.out).mono ?_; rintro e wa ⟨rfl, ha, -⟩
           have HA := Lib.hid (ha.perm (perm3b _ _ _ _))
           clear ho ha)
        | (go_at_call 36
           refine (Has.rtApplyB HA.out (by have := HOK.out.len; omega) _ 1 1 [⟨kV, v1, false⟩] (fun W F2 => blk_op) (by omega)).mono ?_; rintro e wb ⟨rfl, hbb⟩
           have HB := Lib.hid (hbb.perm (perm3c _ _ _ _)).tail.tail
           clear hbb HA)
        | fail)
      go_roundw
      case rel => exact ⟨j + 1, by omega, by omega, by go_num, by rw [HTK.out]; exact HB.out⟩
      case measure => simp [intOf]; omega
    | true =>
      rw [hgo] at d4
      have H0 := Lib.hid (show Has w [blkA wr.heap.size 144 #[.int .i64 x.k, .string x.key, .int .i64 x.sw, .int .i64 x.sl, .bool true, .string x.value], tbA p R, rtA b R] (wr.alloc (.cells #[.int .i64 x.k, .string x.key, .int .i64 x.sw, .int .i64 x.sl, .bool true, .string x.value] 144)) from by have h9 := HH0_.out; rw [show cec x = #[.int .i64 x.k, .string x.key, .int .i64 x.sw, .int .i64 x.sl, .bool true, .string x.value] from by unfold cec; rw [hgo]] at h9; exact h9)
      clear HH0_
      by_cases hk4 : kk = 4
      case pos =>
        subst hk4
        have HVK := Lib.hid (fun W => rVersionKey x.key x.sw x.sl W)
        have HV1 := Lib.hid (fun W => vers x.value true W)
        have HV2 := Lib.hid (fun W => vers ⟨#[]⟩ false W)
        have HIK := Lib.hid (fun W => rIntentKey x.key W)
        have hke : ceKE x = (ikS x.key, ikE x.key) := by unfold ceKE; rw [HKD.out, if_pos rfl]
        have hvf : ceVF x = (x.value, 0) := by unfold ceVF; rw [HKD.out, if_pos rfl]
        have hop : opCe x = opKV (ikS x.key, ikE x.key) (x.value, 0) := by unfold opCe; rw [hke, hvf]
        clear hke hvf
        generalize vkS x.key x.sw x.sl = kV at *
        generalize vkE x.key x.sw x.sl = eV at *
        generalize vtxt x.value true = v1 at *
        generalize verr x.value true = f1 at *
        generalize vtxt ⟨#[]⟩ false = v2 at *
        generalize verr ⟨#[]⟩ false = f2 at *
        generalize ikS x.key = kI at *
        generalize ikE x.key = eI at *
        by_cases he : eI = 0
        case neg =>
          have hop2 : opCe x = none := by rw [hop]; unfold opKV; simp [he]
          have HTK := Lib.hid (show (l.take (j + 1)).foldl ceSt [] = R by rw [HTK0.out]; unfold ceSt; rw [hop2])
          clear hop hop2
          have heb : (eI == 0) = false := by simpa using he
          clear he
          go_wp2_with (first
            | (go_at_call 76; with_reducible refine (HVK.out _).mono ?_; rintro e w1 ⟨rfl, hb1⟩
               have h1 := H0.out.keep hb1
               have zz := h1.blkAt (g := wr.heap.size) (t := 144) (cs := #[.int .i64 x.k, .string x.key, .int .i64 x.sw, .int .i64 x.sl, .bool true, .string x.value]) (by simp)
               have c0 := zz.cell 0
               have c1 := zz.cell 1
               have c2 := zz.cell 2
               have c3 := zz.cell 3
               have c4 := zz.cell 4
               have c5 := zz.cell 5
               simp at c0 c1 c2 c3 c4 c5
               clear zz
               have H1 := Lib.hid h1
               clear h1 hb1)
            | (go_at_call 77; with_reducible refine (HV1.out _).mono ?_; rintro e w2 ⟨rfl, hb2⟩
               have h2 := H1.out.keep hb2
               have zz := h2.blkAt (g := wr.heap.size) (t := 144) (cs := #[.int .i64 x.k, .string x.key, .int .i64 x.sw, .int .i64 x.sl, .bool true, .string x.value]) (by simp)
               have c0 := zz.cell 0
               have c1 := zz.cell 1
               have c2 := zz.cell 2
               have c3 := zz.cell 3
               have c4 := zz.cell 4
               have c5 := zz.cell 5
               simp at c0 c1 c2 c3 c4 c5
               clear zz
               have H2 := Lib.hid h2
               clear h2 hb2)
            | (go_at_call 77; with_reducible refine (HV2.out _).mono ?_; rintro e w3 ⟨rfl, hb3⟩
               have h3 := H2.out.keep hb3
               have zz := h3.blkAt (g := wr.heap.size) (t := 144) (cs := #[.int .i64 x.k, .string x.key, .int .i64 x.sw, .int .i64 x.sl, .bool true, .string x.value]) (by simp)
               have c0 := zz.cell 0
               have c1 := zz.cell 1
               have c2 := zz.cell 2
               have c3 := zz.cell 3
               have c4 := zz.cell 4
               have c5 := zz.cell 5
               simp at c0 c1 c2 c3 c4 c5
               clear zz
               have H3 := Lib.hid h3
               clear h3 hb3)
            | (go_at_call 78; refine (bring x.k 6 _ (by decide) (by decide)).mono ?_; rintro e wq ⟨rfl, hwq⟩; obtain rfl := hwq; rw [HKD.out])
            | (go_at_call 79; with_reducible refine (HIK.out _).mono ?_; rintro e w4 ⟨rfl, hb4⟩
               have h4 := H3.out.keep hb4
               have zz := h4.blkAt (g := wr.heap.size) (t := 144) (cs := #[.int .i64 x.k, .string x.key, .int .i64 x.sw, .int .i64 x.sl, .bool true, .string x.value]) (by simp)
               have c0 := zz.cell 0
               have c1 := zz.cell 1
               have c2 := zz.cell 2
               have c3 := zz.cell 3
               have c4 := zz.cell 4
               have c5 := zz.cell 5
               simp at c0 c1 c2 c3 c4 c5
               clear zz
               have H4 := Lib.hid h4
               clear h4 hb4)
            | fail)
          go_roundw
          case rel => exact ⟨j + 1, by omega, by omega, by go_num, by rw [HTK.out]; exact H4.out.tail⟩
          case measure => simp [intOf]; omega
        have hop2 : opCe x = some ⟨kI, x.value, false⟩ := by rw [hop]; unfold opKV; simp [he]
        have HTK := Lib.hid (show (l.take (j + 1)).foldl ceSt [] = rapp R [⟨kI, x.value, false⟩] by rw [HTK0.out]; unfold ceSt; rw [hop2])
        have HOSZ := Lib.hid (show OSz [⟨kI, x.value, false⟩] from fun y hy => by rw [List.mem_singleton.1 hy]; exact HSZ.out _ hop2)
        clear hop hop2
        subst he
        go_wp2_with (first
          | (go_at_call 76; with_reducible refine (HVK.out _).mono ?_; rintro e w1 ⟨rfl, hb1⟩
             have h1 := H0.out.keep hb1
             have zz := h1.blkAt (g := wr.heap.size) (t := 144) (cs := #[.int .i64 x.k, .string x.key, .int .i64 x.sw, .int .i64 x.sl, .bool true, .string x.value]) (by simp)
             have c0 := zz.cell 0
             have c1 := zz.cell 1
             have c2 := zz.cell 2
             have c3 := zz.cell 3
             have c4 := zz.cell 4
             have c5 := zz.cell 5
             simp at c0 c1 c2 c3 c4 c5
             clear zz
             have H1 := Lib.hid h1
             clear h1 hb1)
          | (go_at_call 77; with_reducible refine (HV1.out _).mono ?_; rintro e w2 ⟨rfl, hb2⟩
             have h2 := H1.out.keep hb2
             have zz := h2.blkAt (g := wr.heap.size) (t := 144) (cs := #[.int .i64 x.k, .string x.key, .int .i64 x.sw, .int .i64 x.sl, .bool true, .string x.value]) (by simp)
             have c0 := zz.cell 0
             have c1 := zz.cell 1
             have c2 := zz.cell 2
             have c3 := zz.cell 3
             have c4 := zz.cell 4
             have c5 := zz.cell 5
             simp at c0 c1 c2 c3 c4 c5
             clear zz
             have H2 := Lib.hid h2
             clear h2 hb2)
          | (go_at_call 77; with_reducible refine (HV2.out _).mono ?_; rintro e w3 ⟨rfl, hb3⟩
             have h3 := H2.out.keep hb3
             have zz := h3.blkAt (g := wr.heap.size) (t := 144) (cs := #[.int .i64 x.k, .string x.key, .int .i64 x.sw, .int .i64 x.sl, .bool true, .string x.value]) (by simp)
             have c0 := zz.cell 0
             have c1 := zz.cell 1
             have c2 := zz.cell 2
             have c3 := zz.cell 3
             have c4 := zz.cell 4
             have c5 := zz.cell 5
             simp at c0 c1 c2 c3 c4 c5
             clear zz
             have H3 := Lib.hid h3
             clear h3 hb3)
          | (go_at_call 78; refine (bring x.k 6 _ (by decide) (by decide)).mono ?_; rintro e wq ⟨rfl, hwq⟩; obtain rfl := hwq; rw [HKD.out])
          | (go_at_call 79; with_reducible refine (HIK.out _).mono ?_; rintro e w4 ⟨rfl, hb4⟩
             have h4 := H3.out.keep hb4
             have zz := h4.blkAt (g := wr.heap.size) (t := 144) (cs := #[.int .i64 x.k, .string x.key, .int .i64 x.sw, .int .i64 x.sl, .bool true, .string x.value]) (by simp)
             have c0 := zz.cell 0
             have c1 := zz.cell 1
             have c2 := zz.cell 2
             have c3 := zz.cell 3
             have c4 := zz.cell 4
             have c5 := zz.cell 5
             simp at c0 c1 c2 c3 c4 c5
             clear zz
             have H4 := Lib.hid h4
             clear h4 hb4)
          | (go_at_call 27
             have ho := ((H4.out.newBlk 98 #[.string kI, .string x.value, .bool false]).perm (perm3 _ _ _ _))
             refine (Has.tbApplyB ho HOK.out (by omega) _ 1 1 [⟨kI, x.value, false⟩] (fun W F2 => blk_op) (by omega) HOSZ.out).mono ?_; rintro e wa ⟨rfl, ha, -⟩
             have HA := Lib.hid (ha.perm (perm3b _ _ _ _))
             clear ho ha)
          | (go_at_call 36
             refine (Has.rtApplyB HA.out (by have := HOK.out.len; omega) _ 1 1 [⟨kI, x.value, false⟩] (fun W F2 => blk_op) (by omega)).mono ?_; rintro e wb ⟨rfl, hbb⟩
             have HB := Lib.hid (hbb.perm (perm3c _ _ _ _)).tail.tail
             clear hbb HA)
          | fail)
        go_roundw
        case rel => exact ⟨j + 1, by omega, by omega, by go_num, by rw [HTK.out]; exact HB.out⟩
        case measure => simp [intOf]; omega
      by_cases hk5 : kk = 5
      case pos =>
        subst hk5
        have HVK := Lib.hid (fun W => rVersionKey x.key x.sw x.sl W)
        have HV1 := Lib.hid (fun W => vers x.value true W)
        have HV2 := Lib.hid (fun W => vers ⟨#[]⟩ false W)
        have hke : ceKE x = (v5 x.key, 0) := by unfold ceKE; rw [HKD.out, if_neg hk4, if_pos rfl]
        have hvf : ceVF x = (x.value, 0) := by unfold ceVF; rw [HKD.out, if_neg hk4, if_pos rfl]
        have hop : opCe x = opKV (v5 x.key, 0) (x.value, 0) := by unfold opCe; rw [hke, hvf]
        clear hke hvf
        generalize vkS x.key x.sw x.sl = kV at *
        generalize vkE x.key x.sw x.sl = eV at *
        generalize vtxt x.value true = v1 at *
        generalize verr x.value true = f1 at *
        generalize vtxt ⟨#[]⟩ false = v2 at *
        generalize verr ⟨#[]⟩ false = f2 at *
        have hq5 : ¬ 9223372036854775807 < (⟨#[118]⟩ : ByteArray).size + x.key.size := by have : (⟨#[118]⟩ : ByteArray).size = 1 := rfl; omega
        unfold v5 at hop
        obtain ⟨k5, hk5e⟩ : ∃ k5, (⟨#[118]⟩ : ByteArray) ++ x.key = k5 := ⟨_, rfl⟩
        rw [hk5e] at hop
        have hop2 : opCe x = some ⟨k5, x.value, false⟩ := by rw [hop]; unfold opKV; simp
        have HTK := Lib.hid (show (l.take (j + 1)).foldl ceSt [] = rapp R [⟨k5, x.value, false⟩] by rw [HTK0.out]; unfold ceSt; rw [hop2])
        have HOSZ := Lib.hid (show OSz [⟨k5, x.value, false⟩] from fun y hy => by rw [List.mem_singleton.1 hy]; exact HSZ.out _ hop2)
        clear hop hop2
        go_wp2_with (first
          | (go_at_call 76; with_reducible refine (HVK.out _).mono ?_; rintro e w1 ⟨rfl, hb1⟩
             have h1 := H0.out.keep hb1
             have zz := h1.blkAt (g := wr.heap.size) (t := 144) (cs := #[.int .i64 x.k, .string x.key, .int .i64 x.sw, .int .i64 x.sl, .bool true, .string x.value]) (by simp)
             have c0 := zz.cell 0
             have c1 := zz.cell 1
             have c2 := zz.cell 2
             have c3 := zz.cell 3
             have c4 := zz.cell 4
             have c5 := zz.cell 5
             simp at c0 c1 c2 c3 c4 c5
             clear zz
             have H1 := Lib.hid h1
             clear h1 hb1)
          | (go_at_call 77; with_reducible refine (HV1.out _).mono ?_; rintro e w2 ⟨rfl, hb2⟩
             have h2 := H1.out.keep hb2
             have zz := h2.blkAt (g := wr.heap.size) (t := 144) (cs := #[.int .i64 x.k, .string x.key, .int .i64 x.sw, .int .i64 x.sl, .bool true, .string x.value]) (by simp)
             have c0 := zz.cell 0
             have c1 := zz.cell 1
             have c2 := zz.cell 2
             have c3 := zz.cell 3
             have c4 := zz.cell 4
             have c5 := zz.cell 5
             simp at c0 c1 c2 c3 c4 c5
             clear zz
             have H2 := Lib.hid h2
             clear h2 hb2)
          | (go_at_call 77; with_reducible refine (HV2.out _).mono ?_; rintro e w3 ⟨rfl, hb3⟩
             have h3 := H2.out.keep hb3
             have zz := h3.blkAt (g := wr.heap.size) (t := 144) (cs := #[.int .i64 x.k, .string x.key, .int .i64 x.sw, .int .i64 x.sl, .bool true, .string x.value]) (by simp)
             have c0 := zz.cell 0
             have c1 := zz.cell 1
             have c2 := zz.cell 2
             have c3 := zz.cell 3
             have c4 := zz.cell 4
             have c5 := zz.cell 5
             simp at c0 c1 c2 c3 c4 c5
             clear zz
             have H3 := Lib.hid h3
             clear h3 hb3)
          | (go_at_call 78; refine (bring x.k 6 _ (by decide) (by decide)).mono ?_; rintro e wq ⟨rfl, hwq⟩; obtain rfl := hwq; rw [HKD.out])
          | (go_at_call 27
             have ho := ((H3.out.newBlk 98 #[.string k5, .string x.value, .bool false]).perm (perm3 _ _ _ _))
             refine (Has.tbApplyB ho HOK.out (by omega) _ 1 1 [⟨k5, x.value, false⟩] (fun W F2 => blk_op) (by omega) HOSZ.out).mono ?_; rintro e wa ⟨rfl, ha, -⟩
             have HA := Lib.hid (ha.perm (perm3b _ _ _ _))
             clear ho ha)
          | (go_at_call 36
             refine (Has.rtApplyB HA.out (by have := HOK.out.len; omega) _ 1 1 [⟨k5, x.value, false⟩] (fun W F2 => blk_op) (by omega)).mono ?_; rintro e wb ⟨rfl, hbb⟩
             have HB := Lib.hid (hbb.perm (perm3c _ _ _ _)).tail.tail
             clear hbb HA)
          | fail)
        go_roundw
        case rel => exact ⟨j + 1, by omega, by omega, by go_num, by rw [HTK.out]; exact HB.out⟩
        case measure => simp [intOf]; omega
      have hb4 : (kk == 4) = false := by simpa using hk4
      have hb5 : (kk == 5) = false := by simpa using hk5
      have HVK := Lib.hid (fun W => rVersionKey x.key x.sw x.sl W)
      have HV1 := Lib.hid (fun W => vers x.value true W)
      have HV2 := Lib.hid (fun W => vers ⟨#[]⟩ false W)
      have hke : ceKE x = (vkS x.key x.sw x.sl, vkE x.key x.sw x.sl) := by unfold ceKE; rw [HKD.out, if_neg hk4, if_neg hk5]
      have hvf : ceVF x = (vtxt ⟨#[]⟩ false, verr ⟨#[]⟩ false) := by unfold ceVF; rw [HKD.out, if_neg hk4, if_neg hk5]; unfold gv; rw [hgo]; rfl
      have hop : opCe x = opKV (vkS x.key x.sw x.sl, vkE x.key x.sw x.sl) (vtxt ⟨#[]⟩ false, verr ⟨#[]⟩ false) := by unfold opCe; rw [hke, hvf]
      clear hke hvf
      generalize vkS x.key x.sw x.sl = kV at *
      generalize vkE x.key x.sw x.sl = eV at *
      generalize vtxt x.value true = v1 at *
      generalize verr x.value true = f1 at *
      generalize vtxt ⟨#[]⟩ false = v2 at *
      generalize verr ⟨#[]⟩ false = f2 at *
      by_cases he : eV = 0
      case neg =>
        have hop2 : opCe x = none := by rw [hop]; unfold opKV; simp [he]
        have HTK := Lib.hid (show (l.take (j + 1)).foldl ceSt [] = R by rw [HTK0.out]; unfold ceSt; rw [hop2])
        clear hop hop2
        have heb : (eV == 0) = false := by simpa using he
        clear he
        go_wp2_with (first
          | (go_at_call 76; with_reducible refine (HVK.out _).mono ?_; rintro e w1 ⟨rfl, hb1⟩
             have h1 := H0.out.keep hb1
             have zz := h1.blkAt (g := wr.heap.size) (t := 144) (cs := #[.int .i64 x.k, .string x.key, .int .i64 x.sw, .int .i64 x.sl, .bool true, .string x.value]) (by simp)
             have c0 := zz.cell 0
             have c1 := zz.cell 1
             have c2 := zz.cell 2
             have c3 := zz.cell 3
             have c4 := zz.cell 4
             have c5 := zz.cell 5
             simp at c0 c1 c2 c3 c4 c5
             clear zz
             have H1 := Lib.hid h1
             clear h1 hb1)
          | (go_at_call 77; with_reducible refine (HV1.out _).mono ?_; rintro e w2 ⟨rfl, hb2⟩
             have h2 := H1.out.keep hb2
             have zz := h2.blkAt (g := wr.heap.size) (t := 144) (cs := #[.int .i64 x.k, .string x.key, .int .i64 x.sw, .int .i64 x.sl, .bool true, .string x.value]) (by simp)
             have c0 := zz.cell 0
             have c1 := zz.cell 1
             have c2 := zz.cell 2
             have c3 := zz.cell 3
             have c4 := zz.cell 4
             have c5 := zz.cell 5
             simp at c0 c1 c2 c3 c4 c5
             clear zz
             have H2 := Lib.hid h2
             clear h2 hb2)
          | (go_at_call 77; with_reducible refine (HV2.out _).mono ?_; rintro e w3 ⟨rfl, hb3⟩
             have h3 := H2.out.keep hb3
             have zz := h3.blkAt (g := wr.heap.size) (t := 144) (cs := #[.int .i64 x.k, .string x.key, .int .i64 x.sw, .int .i64 x.sl, .bool true, .string x.value]) (by simp)
             have c0 := zz.cell 0
             have c1 := zz.cell 1
             have c2 := zz.cell 2
             have c3 := zz.cell 3
             have c4 := zz.cell 4
             have c5 := zz.cell 5
             simp at c0 c1 c2 c3 c4 c5
             clear zz
             have H3 := Lib.hid h3
             clear h3 hb3)
          | (go_at_call 78; refine (bring x.k 6 _ (by decide) (by decide)).mono ?_; rintro e wq ⟨rfl, hwq⟩; obtain rfl := hwq; rw [HKD.out])
          | fail)
        go_roundw
        case rel => exact ⟨j + 1, by omega, by omega, by go_num, by rw [HTK.out]; exact H3.out.tail⟩
        case measure => simp [intOf]; omega
      by_cases hf : f2 = 0
      case neg =>
        have hop2 : opCe x = none := by rw [hop]; unfold opKV; simp [hf]
        have HTK := Lib.hid (show (l.take (j + 1)).foldl ceSt [] = R by rw [HTK0.out]; unfold ceSt; rw [hop2])
        clear hop hop2
        subst he
        have hfb : (f2 == 0) = false := by simpa using hf
        clear hf
        go_wp2_with (first
          | (go_at_call 76; with_reducible refine (HVK.out _).mono ?_; rintro e w1 ⟨rfl, hb1⟩
             have h1 := H0.out.keep hb1
             have zz := h1.blkAt (g := wr.heap.size) (t := 144) (cs := #[.int .i64 x.k, .string x.key, .int .i64 x.sw, .int .i64 x.sl, .bool true, .string x.value]) (by simp)
             have c0 := zz.cell 0
             have c1 := zz.cell 1
             have c2 := zz.cell 2
             have c3 := zz.cell 3
             have c4 := zz.cell 4
             have c5 := zz.cell 5
             simp at c0 c1 c2 c3 c4 c5
             clear zz
             have H1 := Lib.hid h1
             clear h1 hb1)
          | (go_at_call 77; with_reducible refine (HV1.out _).mono ?_; rintro e w2 ⟨rfl, hb2⟩
             have h2 := H1.out.keep hb2
             have zz := h2.blkAt (g := wr.heap.size) (t := 144) (cs := #[.int .i64 x.k, .string x.key, .int .i64 x.sw, .int .i64 x.sl, .bool true, .string x.value]) (by simp)
             have c0 := zz.cell 0
             have c1 := zz.cell 1
             have c2 := zz.cell 2
             have c3 := zz.cell 3
             have c4 := zz.cell 4
             have c5 := zz.cell 5
             simp at c0 c1 c2 c3 c4 c5
             clear zz
             have H2 := Lib.hid h2
             clear h2 hb2)
          | (go_at_call 77; with_reducible refine (HV2.out _).mono ?_; rintro e w3 ⟨rfl, hb3⟩
             have h3 := H2.out.keep hb3
             have zz := h3.blkAt (g := wr.heap.size) (t := 144) (cs := #[.int .i64 x.k, .string x.key, .int .i64 x.sw, .int .i64 x.sl, .bool true, .string x.value]) (by simp)
             have c0 := zz.cell 0
             have c1 := zz.cell 1
             have c2 := zz.cell 2
             have c3 := zz.cell 3
             have c4 := zz.cell 4
             have c5 := zz.cell 5
             simp at c0 c1 c2 c3 c4 c5
             clear zz
             have H3 := Lib.hid h3
             clear h3 hb3)
          | (go_at_call 78; refine (bring x.k 6 _ (by decide) (by decide)).mono ?_; rintro e wq ⟨rfl, hwq⟩; obtain rfl := hwq; rw [HKD.out])
          | fail)
        go_roundw
        case rel => exact ⟨j + 1, by omega, by omega, by go_num, by rw [HTK.out]; exact H3.out.tail⟩
        case measure => simp [intOf]; omega
      have hop2 : opCe x = some ⟨kV, v2, false⟩ := by rw [hop]; unfold opKV; simp [he, hf]
      have HTK := Lib.hid (show (l.take (j + 1)).foldl ceSt [] = rapp R [⟨kV, v2, false⟩] by rw [HTK0.out]; unfold ceSt; rw [hop2])
      have HOSZ := Lib.hid (show OSz [⟨kV, v2, false⟩] from fun y hy => by rw [List.mem_singleton.1 hy]; exact HSZ.out _ hop2)
      clear hop hop2
      subst he
      subst hf
      go_wp2_with (first
        | (go_at_call 76; with_reducible refine (HVK.out _).mono ?_; rintro e w1 ⟨rfl, hb1⟩
           have h1 := H0.out.keep hb1
           have zz := h1.blkAt (g := wr.heap.size) (t := 144) (cs := #[.int .i64 x.k, .string x.key, .int .i64 x.sw, .int .i64 x.sl, .bool true, .string x.value]) (by simp)
           have c0 := zz.cell 0
           have c1 := zz.cell 1
           have c2 := zz.cell 2
           have c3 := zz.cell 3
           have c4 := zz.cell 4
           have c5 := zz.cell 5
           simp at c0 c1 c2 c3 c4 c5
           clear zz
           have H1 := Lib.hid h1
           clear h1 hb1)
        | (go_at_call 77; with_reducible refine (HV1.out _).mono ?_; rintro e w2 ⟨rfl, hb2⟩
           have h2 := H1.out.keep hb2
           have zz := h2.blkAt (g := wr.heap.size) (t := 144) (cs := #[.int .i64 x.k, .string x.key, .int .i64 x.sw, .int .i64 x.sl, .bool true, .string x.value]) (by simp)
           have c0 := zz.cell 0
           have c1 := zz.cell 1
           have c2 := zz.cell 2
           have c3 := zz.cell 3
           have c4 := zz.cell 4
           have c5 := zz.cell 5
           simp at c0 c1 c2 c3 c4 c5
           clear zz
           have H2 := Lib.hid h2
           clear h2 hb2)
        | (go_at_call 77; with_reducible refine (HV2.out _).mono ?_; rintro e w3 ⟨rfl, hb3⟩
           have h3 := H2.out.keep hb3
           have zz := h3.blkAt (g := wr.heap.size) (t := 144) (cs := #[.int .i64 x.k, .string x.key, .int .i64 x.sw, .int .i64 x.sl, .bool true, .string x.value]) (by simp)
           have c0 := zz.cell 0
           have c1 := zz.cell 1
           have c2 := zz.cell 2
           have c3 := zz.cell 3
           have c4 := zz.cell 4
           have c5 := zz.cell 5
           simp at c0 c1 c2 c3 c4 c5
           clear zz
           have H3 := Lib.hid h3
           clear h3 hb3)
        | (go_at_call 78; refine (bring x.k 6 _ (by decide) (by decide)).mono ?_; rintro e wq ⟨rfl, hwq⟩; obtain rfl := hwq; rw [HKD.out])
        | (go_at_call 27
           have ho := ((H3.out.newBlk 98 #[.string kV, .string v2, .bool false]).perm (perm3 _ _ _ _))
           refine (Has.tbApplyB ho HOK.out (by omega) _ 1 1 [⟨kV, v2, false⟩] (fun W F2 => blk_op) (by omega) HOSZ.out).mono ?_; rintro e wa ⟨rfl, ha, -⟩
           have HA := Lib.hid (ha.perm (perm3b _ _ _ _))
           clear ho ha)
        | (go_at_call 36
           refine (Has.rtApplyB HA.out (by have := HOK.out.len; omega) _ 1 1 [⟨kV, v2, false⟩] (fun W F2 => blk_op) (by omega)).mono ?_; rintro e wb ⟨rfl, hbb⟩
           have HB := Lib.hid (hbb.perm (perm3c _ _ _ _)).tail.tail
           clear hbb HA)
        | fail)
      go_roundw
      case rel => exact ⟨j + 1, by omega, by omega, by go_num, by rw [HTK.out]; exact HB.out⟩
      case measure => simp [intOf]; omega
end Go.Proofs.YtldbmogondmgmaaGreatDoor
