/-
  Layer 15, the statements' helpers: at, all, chapter, takes, works (written by wip/gensw2.py).
-/
import Derived.Test.YtldbmogondmgmaaGreatDoorSBSwS
import Derived.Test.YtldbmogondmgmaaGreatDoorSBSwCe
import Derived.Test.YtldbmogondmgmaaGreatDoorSB24
import Derived.Test.YtldbmogondmgmaaGreatDoorSB06
set_option linter.unusedVariables false
set_option linter.unusedSimpArgs false
set_option maxRecDepth 100000
namespace Go.Proofs.YtldbmogondmgmaaGreatDoor
open Go.RowKit

theorem swSweep {w V : World} {T : List As} {p N : Nat} {r : List Rw} (h : Has w (tbA p r :: T) V) (hr : ROk N r) (hN : N ≤ 999999000) (hM : MaxL w) (F X : ByteArray) (hFs : F.size ≤ 9223372036854775807) (hXs : X.size ≤ 9223372036854775807) (a b : Int) :
    Calls Tryz.prog 24 #[pt p, .agg #[.string F, .string X], sv a b] V fun e w' => ∃ A c, e = .returned (.tuple #[.slice A (swC r F X (a, b)).length c, .int .i64 (swE F X (a, b))]) ∧ Has w (opA (.slice A (swC r F X (a, b)).length c) (swC r F X (a, b)) :: tbA p r :: T) w' ∧ OAt w' A (swC r F X (a, b)).length (swC r F X (a, b)) ∧ (swC r F X (a, b)).length ≤ c ∧ c ≤ 9223372036854775807 ∧ (0 < (swC r F X (a, b)).length → ∃ q, A = some ⟨q, 0, none⟩) := by
  have hq : Calls Tryz.prog 24 #[pt p, .agg #[.string F, .string X], sv a b] V fun e w' => ∃ v, e = .returned (.tuple #[v, .int .i64 (swE F X (a, b))]) ∧ Has w (opA v (swC r F X (a, b)) :: tbA p r :: T) w' := by
    by_cases he : swE F X (a, b) = 0
    · exact swSweep_ok h hr hN hM F X hFs hXs a b he
    · exact swSweep_no h hr hN hM F X hFs hXs a b _ he rfl
  refine hq.mono ?_
  rintro e w' ⟨v, rfl, hh⟩
  obtain ⟨A, c, rfl, h1, h2, h3, h4, -⟩ := OAt.own (show ORow w' 0 v (swC r F X (a, b)).length (swC r F X (a, b)) from hh.rowOf)
  exact ⟨A, c, rfl, hh, h1, h2, h3, h4⟩
theorem ret_span {fn : Func} {Q : Ending → World → Prop} {a : Act} {w : World} {p : Tmp} {g : Nat} {x y : ByteArray} (hr : fn.results = #[.cell p 66]) (hp : a.tmps.getD p undef = .pointer (some ⟨g, 0, none⟩))
    (hB : Blk w g 66 #[.string x, .string y]) (hd : a.defers = []) (hR : Q (.returned (.agg #[.string x, .string y])) w) : bodyPost Tryz.prog fn Q .ret a w := by
  refine bodyPost_ret ?_ hd hR
  have hp' : a.tmps[p]?.getD undef = .pointer (some ⟨g, 0, none⟩) := by simpa using hp
  simp [results, hr, hp', asAddr, run_loadVar_row w g 66 66 _ (0, 0) _ hB Tryz.underlying66 rfl (by kernel_rfl)]
theorem at15 (n : Int) (w : World) : Calls Tryz.prog 32 #[.int .i64 n] w fun e w' => e = .returned (sv n 0) ∧ Below w.heap.size w w' := by
  have hB := Box.new w n 0
  go_enter Tryz.func32, Tryz.ntmps32
  go_wp2
  exact ret_one rfl rfl hB rfl ⟨rfl, nbl w _⟩
theorem rep15 (x : UInt8) (n : Nat) (hn : n ≤ 2000) (V : World) :
    Calls Tryz.prog 33 #[.string ⟨#[x]⟩, .int .i64 (n : Int)] V fun e w' => e = .returned (.string (bs (List.replicate n x))) ∧ Below V.heap.size V w' := by
  refine (Tryz.strings_Repeat ⟨#[x]⟩ n V (by omega) (by show 1 * n ≤ _; omega)).mono fun e w' ⟨h1, h2⟩ => ⟨?_, h2⟩
  rw [h1]
  have e1 : Lib.repeatL [x] n = List.replicate n x := by
    have := Lib.repeatL_replicate x 1 n
    rw [← Nat.mul_one n]
    simpa using this
  show Ending.returned (.string ⟨(Lib.repeatL [x] n).toArray⟩) = _
  rw [e1]
  rfl
def t33 : ByteArray := bs (List.replicate 33 255)
theorem t33_sz : t33.size = 33 := by kernel_rfl
theorem all15 (w : World) : Calls Tryz.prog 25 #[] w fun e w' => e = .returned (.agg #[.string ⟨#[]⟩, .string t33]) ∧ Below w.heap.size w w' := by
  have HB := Lib.hid (Blk.new w 66 #[.string ⟨#[]⟩, .string ⟨#[]⟩])
  have G0 := Lib.hid (nbl w (.cells #[.string ⟨#[]⟩, .string ⟨#[]⟩] 66))
  have HR := Lib.hid (rep15 255 33 (by decide) (w.alloc (.cells #[.string ⟨#[]⟩, .string ⟨#[]⟩] 66)))
  have ht : bs (List.replicate 33 255) = t33 := rfl
  rw [ht] at HR
  generalize t33 = t at *
  go_enter Tryz.func25, Tryz.ntmps25
  go_wp2_with (first
    | (go_at_call 33; refine HR.out.mono ?_; rintro e w1 ⟨rfl, hb1⟩
       have b1 := HB.out.below hb1 HB.out.lt
       have c0 := b1.cell 0
       have c1 := b1.cell 1
       have f0 := b1.frozen 0
       have f1 := b1.frozen 1
       simp at c0 c1
       have G1 := bst G0.out hb1))
  refine ret_span rfl rfl ?_ rfl ⟨rfl, ?_⟩
  · have := (b1.set_ 0 (.string ⟨#[]⟩)).set_ 1 (.string t)
    simpa using this
  · exact (G1.setCell (by exact Nat.le_refl _) _).setCell (by exact Nat.le_refl _) _
def cfl (l : List Ce) : List Value := l.flatMap (fun x => (cec x).toList)
theorem cfl_get : ∀ (l : List Ce) (i : Nat) (h : i < l.length) (j : Nat) (u : Value), (cec (l[i]'h))[j]? = some u → (cfl l)[i * 6 + j]? = some u
  | x :: l, 0, _, j, u, hu => by
    have hj : j < 6 := by
      rcases Nat.lt_or_ge j 6 with h | h
      · exact h
      · rw [Array.getElem?_eq_none (by simpa using h)] at hu; cases hu
    unfold cfl
    rw [List.flatMap_cons, List.getElem?_append_left (by simp; omega)]
    simpa using hu
  | x :: l, i + 1, h, j, u, hu => by
    have ih := cfl_get l i (by simpa using h) j u (by simpa using hu)
    unfold cfl at *
    rw [List.flatMap_cons, List.getElem?_append_right (by simp; omega)]
    have e : (i + 1) * 6 + j - (cec x).toList.length = i * 6 + j := by simp; omega
    rw [e]
    exact ih
theorem CeAt.ofBlk {w : World} {g : Nat} {cs : Array Value} {l : List Ce} (h : Blk w g 144 cs) (hc : cs.toList = cfl l) : CeAt w (some ⟨g, 0, none⟩) l.length l := by
  refine ⟨rfl, fun _ => ⟨g, 0, rfl, fun i hi j u hu => ?_⟩⟩
  have := cfl_get l i hi j u hu
  rw [← hc] at this
  rw [h.cell, Nat.zero_add]
  simpa using this
def bA15 : ByteArray := ⟨#[97]⟩
def chL : List Ce := [⟨0, bA15, 10, 0, false, ⟨#[120]⟩⟩, ⟨0, bA15, 20, 0, false, ⟨#[121]⟩⟩, ⟨0, bA15, 30, 0, true, ⟨#[]⟩⟩, ⟨0, bA15, 40, 0, false, ⟨#[122]⟩⟩, ⟨0, ⟨#[98]⟩, 10, 0, false, ⟨#[120]⟩⟩]
def chR : List Rw := ctab chL
theorem chL_sz : ∀ x ∈ chL, CeSz x := by
  intro x hx
  simp only [chL, List.mem_cons, List.not_mem_nil, or_false] at hx
  rcases hx with rfl | rfl | rfl | rfl | rfl <;> exact ⟨by decide, by decide⟩
theorem chR_ok : ROk 12800 chR := ctab_ok chL_sz
theorem chapter15 (w : World) : Calls Tryz.prog 31 #[] w fun e w' => ∃ p, e = .returned (pt p) ∧ Has w [tbA p chR] w' := by
  have HB := Lib.hid (Below.refl w.heap.size w)
  have HCL := Lib.hid (fun W (hB : Below w.heap.size w W) => claid (some ⟨W.heap.size, 0, none⟩) 5 5 chL (W.alloc (.cells #[.int .i64 0, .string ⟨#[97]⟩, .int .i64 10, .int .i64 0, .bool false, .string ⟨#[120]⟩, .int .i64 0, .string ⟨#[97]⟩, .int .i64 20, .int .i64 0, .bool false, .string ⟨#[121]⟩, .int .i64 0, .string ⟨#[97]⟩, .int .i64 30, .int .i64 0, .bool true, .string ⟨#[]⟩, .int .i64 0, .string ⟨#[97]⟩, .int .i64 40, .int .i64 0, .bool false, .string ⟨#[122]⟩, .int .i64 0, .string ⟨#[98]⟩, .int .i64 10, .int .i64 0, .bool false, .string ⟨#[120]⟩] 144)) (CeAt.ofBlk (Blk.new W 144 #[.int .i64 0, .string ⟨#[97]⟩, .int .i64 10, .int .i64 0, .bool false, .string ⟨#[120]⟩, .int .i64 0, .string ⟨#[97]⟩, .int .i64 20, .int .i64 0, .bool false, .string ⟨#[121]⟩, .int .i64 0, .string ⟨#[97]⟩, .int .i64 30, .int .i64 0, .bool true, .string ⟨#[]⟩, .int .i64 0, .string ⟨#[97]⟩, .int .i64 40, .int .i64 0, .bool false, .string ⟨#[122]⟩, .int .i64 0, .string ⟨#[98]⟩, .int .i64 10, .int .i64 0, .bool false, .string ⟨#[120]⟩]) rfl) (by decide) chL_sz)
  go_enter Tryz.func31, Tryz.ntmps31
  go_wp2_with (first
    | (go_at_call 32; with_reducible refine (at15 _ _).mono ?_; rintro e w1 ⟨rfl, hb1⟩; have HB := Lib.hid (bst HB.out hb1); clear hb1)
    | (go_at_call 23; with_reducible refine (HCL.out _ HB.out).mono ?_; rintro e w2 ⟨p, b, rfl, h2⟩
       have H2 := Lib.hid (h2.base (bsa HB.out (.cells #[.int .i64 0, .string ⟨#[97]⟩, .int .i64 10, .int .i64 0, .bool false, .string ⟨#[120]⟩, .int .i64 0, .string ⟨#[97]⟩, .int .i64 20, .int .i64 0, .bool false, .string ⟨#[121]⟩, .int .i64 0, .string ⟨#[97]⟩, .int .i64 30, .int .i64 0, .bool true, .string ⟨#[]⟩, .int .i64 0, .string ⟨#[97]⟩, .int .i64 40, .int .i64 0, .bool false, .string ⟨#[122]⟩, .int .i64 0, .string ⟨#[98]⟩, .int .i64 10, .int .i64 0, .bool false, .string ⟨#[120]⟩] 144)))
       clear h2))
  go_ret
  exact ⟨_, rfl, H2.out.swap.tail⟩
def delA (n : Int) : Op_ := ⟨bs (vkey (sb ⟨#[97]⟩) n 0), ⟨#[]⟩, true⟩
def WsAt (w : World) (A : Option Addr) (n : Nat) (l : List Int) : Prop := l.length = n ∧ (0 < n → ∃ b o, A = some ⟨b, o, none⟩ ∧ ∀ i (h : i < l.length), w.cell? ⟨b, o + i, none⟩ = some (.int .i64 (l[i]'h)))
theorem WsAt.below {w w' : World} {A : Option Addr} {n : Nat} {l : List Int} (h : WsAt w A n l) (hb : Below w.heap.size w w') : WsAt w' A n l := by
  refine ⟨h.1, fun hn => ?_⟩
  obtain ⟨b, o, e, hc⟩ := h.2 hn
  exact ⟨b, o, e, fun i hi => kept_below hb _ _ (hc i hi)⟩
theorem run_neOp15 (k v : ByteArray) (d : Bool) (V : World) : (binOp .neq 98 (.agg #[.string k, .string v, .bool d]) (.agg #[.string k, .string v, .bool d])).run Tryz.prog V = .ok (.bool false) V := by
  go_simp
set_option maxHeartbeats 4000000 in
theorem takes15 (to_ : Int) (A : Option Addr) (n c : Nat) (ws : List Int) (w : World) (hM : MaxL w) (hw : WsAt w A n ws) (hn : n ≤ 9223372036854775807) (hm : ∀ x ∈ ws, may x 0 = true) (he : swE ⟨#[]⟩ t33 (to_, 0) = 0) (hs : swC chR ⟨#[]⟩ t33 (to_, 0) = ws.map delA) :
    Calls Tryz.prog 74 #[.int .i64 to_, .slice A n c] w fun e w' => e = .returned (.bool true) ∧ Below w.heap.size w w' := by
  have HW := Lib.hid hw
  have HMX := Lib.hid hm
  have HM := Lib.hid hM
  have hlen : (ws.map delA).length = n := by rw [List.length_map, hw.1]
  have HSW := Lib.hid (fun (V : World) (p : Nat) (h : Has w [tbA p chR] V) => swSweep h chR_ok (by decide) hM ⟨#[]⟩ t33 (by decide) (by rw [t33_sz]; decide) to_ 0)
  rw [he, hs, hlen] at HSW
  have HCH := Lib.hid (chapter15 w)
  clear hw hm hM he hs hlen
  go_enter Tryz.func74, Tryz.ntmps74
  go_wp2_with (first
    | (go_at_call 31; refine HCH.out.mono ?_; rintro e w1 ⟨p, rfl, h1⟩; have H1 := Lib.hid h1; clear h1)
    | (go_at_call 25; refine (all15 _).mono ?_; rintro e w2 ⟨rfl, hb2⟩; have H2 := Lib.hid (H1.out.keep hb2); clear hb2)
    | (go_at_call 32; with_reducible refine (at15 to_ _).mono ?_; rintro e w3 ⟨rfl, hb3⟩; have H3 := Lib.hid (H2.out.keep hb3); clear hb3)
    | (go_at_call 24; with_reducible refine (HSW.out _ _ H3.out).mono ?_; rintro e w4 ⟨A2, c2, rfl, h4, -, hnc, hcm, -⟩
       have H4 := Lib.hid h4
       clear h4))
  clear HSW HCH H1 H2 H3
  go_loopw [7] (fun i wr => ∃ j : Nat, j ≤ n ∧ i = .int .i64 j ∧ Hid (Has w (opA (.slice A2 n c2) (ws.map delA) :: tbA p chR :: []) wr)) (fun i _ => n - (intOf i).toNat)
  case atStart => exact ⟨0, Nat.zero_le _, rfl, H4⟩
  case round =>
    obtain ⟨j, hj, rfl, HH⟩ := hrel
    by_cases c1 : j < n
    case neg =>
      go_wp2_with fail
      go_ret
      exact ⟨rfl, HH.out.bel⟩
    have hwl := HW.out.1
    obtain ⟨b1, o1, rfl, hc1⟩ := (HW.out.below HH.out.bel).2 (by omega)
    have hjl : j < ws.length := by omega
    have hd := hc1 j hjl
    obtain ⟨F, hF, -⟩ := HH.out.get
    obtain ⟨b2, o2, rfl, hc2⟩ := (opA_at hF (by rw [List.length_map]; exact hwl.symm)).2 (by omega)
    obtain ⟨e0, e1, e2⟩ := hc2 j (by rw [List.length_map]; exact hjl)
    have hxx : (ws.map delA)[j]'(by rw [List.length_map]; exact hjl) = delA (ws[j]'hjl) := by simp
    rw [hxx] at e0 e1 e2
    have hmx := HMX.out _ (List.getElem_mem hjl)
    generalize ws[j]'hjl = x at *
    have e0 : wr.cell? ⟨b2, o2 + j * 3, none⟩ = some (.string (bs (vkey (sb ⟨#[97]⟩) x 0))) := e0
    have e1 : wr.cell? ⟨b2, o2 + j * 3 + 1, none⟩ = some (.string ⟨#[]⟩) := e1
    have e2 : wr.cell? ⟨b2, o2 + j * 3 + 2, none⟩ = some (.bool true) := e2
    have HVK := Lib.hid (fun W (hB : Below w.heap.size w W) => pkVKey ⟨#[97]⟩ x 0 (by decide) hmx W (HM.out.below hB))
    generalize bs (vkey (sb ⟨#[97]⟩) x 0) = kk at *
    have HNE := run_neOp15 kk ⟨#[]⟩ true
    have E0 := Lib.hid e0
    have E1 := Lib.hid e1
    have E2 := Lib.hid e2
    have jz : (0 : Int) ≤ (j : Int) := by omega
    have jn : (j : Int) < (n : Int) := by omega
    clear hF hc1 hc2 hxx hmx hwl hjl
    go_wp2_with (first
      | (go_at_call 32; with_reducible refine (at15 x _).mono ?_; rintro e w5 ⟨rfl, hb5⟩
         have H5 := Lib.hid (HH.out.keep hb5)
         have g0 := (hb5.cell (World.block_lt_of_cell? _ _ E0.out)).trans E0.out
         have g1 := (hb5.cell (World.block_lt_of_cell? _ _ E1.out)).trans E1.out
         have g2 := (hb5.cell (World.block_lt_of_cell? _ _ E2.out)).trans E2.out
         have E0 := Lib.hid g0
         have E1 := Lib.hid g1
         have E2 := Lib.hid g2
         clear hb5)
      | (go_at_call 130; with_reducible refine (HVK.out _ H5.out.bel).mono ?_; rintro e w6 ⟨rfl, hb6⟩
         have H6 := Lib.hid (H5.out.keep hb6)
         have k0 := (hb6.cell (World.block_lt_of_cell? _ _ E0.out)).trans E0.out
         have k1 := (hb6.cell (World.block_lt_of_cell? _ _ E1.out)).trans E1.out
         have k2 := (hb6.cell (World.block_lt_of_cell? _ _ E2.out)).trans E2.out
         clear hb6))
    go_roundw
    case rel => exact ⟨j + 1, by omega, by go_num, H6⟩
    case measure => simp [intOf]; omega
theorem WsAt.ofBlk {w : World} {g : Nat} {cs : Array Value} {l : List Int} (h : Blk w g 3 cs) (hc : cs.toList = l.map (fun x => Value.int .i64 x)) : WsAt w (some ⟨g, 0, none⟩) l.length l := by
  refine ⟨rfl, fun _ => ⟨g, 0, rfl, fun i hi => ?_⟩⟩
  rw [Nat.zero_add, h.cell]
  have : cs.toList[i]? = some (.int .i64 (l[i]'hi)) := by rw [hc]; simp [hi]
  simpa using this
theorem sw25e : swE ⟨#[]⟩ t33 (25, 0) = 0 := by kernel_rfl
theorem sw25s : swC chR ⟨#[]⟩ t33 (25, 0) = ([10] : List Int).map delA := by kernel_rfl
theorem sw20e : swE ⟨#[]⟩ t33 (20, 0) = 0 := by kernel_rfl
theorem sw20s : swC chR ⟨#[]⟩ t33 (20, 0) = ([10] : List Int).map delA := by kernel_rfl
theorem sw9e : swE ⟨#[]⟩ t33 (9, 0) = 0 := by kernel_rfl
theorem sw9s : swC chR ⟨#[]⟩ t33 (9, 0) = ([] : List Int).map delA := by kernel_rfl
theorem sw30e : swE ⟨#[]⟩ t33 (30, 0) = 0 := by kernel_rfl
theorem sw30s : swC chR ⟨#[]⟩ t33 (30, 0) = ([30, 20, 10] : List Int).map delA := by kernel_rfl
theorem sw35e : swE ⟨#[]⟩ t33 (35, 0) = 0 := by kernel_rfl
theorem sw35s : swC chR ⟨#[]⟩ t33 (35, 0) = ([30, 20, 10] : List Int).map delA := by kernel_rfl
theorem sw40e : swE ⟨#[]⟩ t33 (40, 0) = 0 := by kernel_rfl
theorem sw40s : swC chR ⟨#[]⟩ t33 (40, 0) = ([30, 20, 10] : List Int).map delA := by kernel_rfl
set_option maxHeartbeats 4000000 in
theorem works15 (w : World) (hM : MaxL w) : Calls Tryz.prog 22 #[] w fun e w' => e = .returned (.bool true) ∧ Below w.heap.size w w' := by
  have HB := Lib.hid (Below.refl w.heap.size w)
  have HT25 := Lib.hid (fun W (hB : Below w.heap.size w W) => takes15 25 (some ⟨W.heap.size, 0, none⟩) 1 1 [10] (W.alloc (.cells #[.int .i64 10] 3)) (hM.below (bsa hB _)) (WsAt.ofBlk (Blk.new W 3 #[.int .i64 10]) rfl) (by decide) (by decide) sw25e sw25s)
  have HT20 := Lib.hid (fun W (hB : Below w.heap.size w W) => takes15 20 (some ⟨W.heap.size, 0, none⟩) 1 1 [10] (W.alloc (.cells #[.int .i64 10] 3)) (hM.below (bsa hB _)) (WsAt.ofBlk (Blk.new W 3 #[.int .i64 10]) rfl) (by decide) (by decide) sw20e sw20s)
  have HT9 := Lib.hid (fun W (hB : Below w.heap.size w W) => takes15 9 none 0 0 [] W (hM.below hB) ⟨rfl, fun h => absurd h (by decide)⟩ (by decide) (by decide) sw9e sw9s)
  have HT30 := Lib.hid (fun W (hB : Below w.heap.size w W) => takes15 30 (some ⟨W.heap.size, 0, none⟩) 3 3 [30, 20, 10] (W.alloc (.cells #[.int .i64 30, .int .i64 20, .int .i64 10] 3)) (hM.below (bsa hB _)) (WsAt.ofBlk (Blk.new W 3 #[.int .i64 30, .int .i64 20, .int .i64 10]) rfl) (by decide) (by decide) sw30e sw30s)
  have HT35 := Lib.hid (fun W (hB : Below w.heap.size w W) => takes15 35 (some ⟨W.heap.size, 0, none⟩) 3 3 [30, 20, 10] (W.alloc (.cells #[.int .i64 30, .int .i64 20, .int .i64 10] 3)) (hM.below (bsa hB _)) (WsAt.ofBlk (Blk.new W 3 #[.int .i64 30, .int .i64 20, .int .i64 10]) rfl) (by decide) (by decide) sw35e sw35s)
  have HT40 := Lib.hid (fun W (hB : Below w.heap.size w W) => takes15 40 (some ⟨W.heap.size, 0, none⟩) 3 3 [30, 20, 10] (W.alloc (.cells #[.int .i64 30, .int .i64 20, .int .i64 10] 3)) (hM.below (bsa hB _)) (WsAt.ofBlk (Blk.new W 3 #[.int .i64 30, .int .i64 20, .int .i64 10]) rfl) (by decide) (by decide) sw40e sw40s)
  clear hM
  go_enter Tryz.func22, Tryz.ntmps22
  go_wp2_with (first
    | (go_at_call 74; with_reducible refine (HT25.out _ HB.out).mono ?_; rintro e w1 ⟨rfl, hb1⟩; have HB := Lib.hid (bst (bsa HB.out (.cells #[.int .i64 10] 3)) hb1); clear hb1)
    | (go_at_call 74; with_reducible refine (HT20.out _ HB.out).mono ?_; rintro e w1 ⟨rfl, hb1⟩; have HB := Lib.hid (bst (bsa HB.out (.cells #[.int .i64 10] 3)) hb1); clear hb1)
    | (go_at_call 74; with_reducible refine (HT9.out _ HB.out).mono ?_; rintro e w1 ⟨rfl, hb1⟩; have HB := Lib.hid (bst (HB.out) hb1); clear hb1)
    | (go_at_call 74; with_reducible refine (HT30.out _ HB.out).mono ?_; rintro e w1 ⟨rfl, hb1⟩; have HB := Lib.hid (bst (bsa HB.out (.cells #[.int .i64 30, .int .i64 20, .int .i64 10] 3)) hb1); clear hb1)
    | (go_at_call 74; with_reducible refine (HT35.out _ HB.out).mono ?_; rintro e w1 ⟨rfl, hb1⟩; have HB := Lib.hid (bst (bsa HB.out (.cells #[.int .i64 30, .int .i64 20, .int .i64 10] 3)) hb1); clear hb1)
    | (go_at_call 74; with_reducible refine (HT40.out _ HB.out).mono ?_; rintro e w1 ⟨rfl, hb1⟩; have HB := Lib.hid (bst (bsa HB.out (.cells #[.int .i64 30, .int .i64 20, .int .i64 10] 3)) hb1); clear hb1))
  go_ret
  exact ⟨rfl, HB.out⟩
end Go.Proofs.YtldbmogondmgmaaGreatDoor
