/-
  Layer 12, the statements' helpers: awake, walked (written by wip/genpkawk.py).
-/
import Derived.Test.YtgccichmdddbpaaGreatDoorPL36
set_option linter.unusedVariables false
set_option linter.unusedSimpArgs false
set_option maxRecDepth 100000
namespace Go.Proofs.YtgccichmdddbpaaGreatDoor
open Go.RowKit

theorem ownsRow_below {w w' : World} {B k : Nat} {v : Value} {xs : List Value} (h : w.ownsRow B 90 15 v k xs) (hb : Below w.heap.size w w') : w'.ownsRow B 90 15 v k xs :=
  World.ownsRow.kept h (row := none) ⟨hb.os, hb.tape, hb.output, hb.size, fun k hk _ => hb.block k hk⟩ (by
    cases hv : v.ownBlock with
    | none => exact .inl rfl
    | some q => exact .inr (by simp))
theorem awGet {l : List Th} {a b : Int} {f : Fd} {k : Int} (hp : pgetC (tabP l) bA (rdr a b) (0, 0) = (f, k)) {w V : World} {T : List As} {p : Nat} (h : Has w (tbA p (tabP l) :: T) V) (hM : MaxL w) (hz : ∀ x ∈ l, TSz x) :
    Calls Tryz.prog 27 #[pt p, .string bA, txv (rdr a b), sv 0 0] V fun e w' => (∃ A n c, e = .returned (.tuple #[fdv f (.slice A n c), .int .i64 k])) ∧ Has w (tbA p (tabP l) :: T) w' := by
  have := pkGet h (tabP_ok hz) (by decide) hM bA (by decide) (rdr a b) 0 0
  rw [hp] at this
  exact this.mono fun e w' hq => ⟨let ⟨A, n, c, h1, _⟩ := hq.1; ⟨A, n, c, h1⟩, hq.2⟩
theorem TSz_V (v : ByteArray) (n : Int) (h : v.size ≤ 100) : TSz (thV v n) := ⟨(by decide : bA.size ≤ _), Nat.le_trans h (by decide), (by decide : (-9223372036854775808 : Int) ≤ 0), (by decide : (0 : Int) ≤ 9223372036854775807)⟩
theorem TSz_I (y : It) : TSz (thI y) := ⟨(by decide : bA.size ≤ _), (by decide : (⟨#[]⟩ : ByteArray).size ≤ _), (by decide : (-9223372036854775808 : Int) ≤ 1), (by decide : (1 : Int) ≤ 9223372036854775807)⟩
theorem pairZ : ∀ x ∈ pairP, TSz x := by
  intro x hx
  simp only [pairP, List.mem_cons, List.not_mem_nil, or_false] at hx
  rcases hx with rfl | rfl
  · exact TSz_V _ _ (by decide)
  · exact TSz_V _ _ (by decide)
theorem moreZ (y : It) : ∀ x ∈ pairP ++ [thI y], TSz x := by
  intro x hx
  rcases List.mem_append.1 hx with h | h
  · exact pairZ x h
  · rw [List.mem_singleton.1 h]; exact TSz_I y
theorem nearZ : ∀ x ∈ nearP, TSz x := moreZ _
theorem farZ : ∀ x ∈ farP, TSz x := moreZ _
theorem ownZ : ∀ x ∈ ownP, TSz x := moreZ _
set_option maxHeartbeats 16000000 in
theorem lawAwake (w : World) (hM : MaxL w) : Calls Tryz.prog 33 #[] w fun e w' => e = .returned (.bool true) ∧ Below w.heap.size w w' := by
  have hmix : Tryz.prog.follows .mixedOrders = true := by kernel_rfl
  go_enter Tryz.func33, Tryz.ntmps33
  go_wp2_with fail
  refine (pair_c _).mono ?_
  rintro e q1 ⟨⟨v1, rfl, hrow1⟩, hbq1⟩
  obtain ⟨At1, ct1, rfl, hth1⟩ := thRow hrow1 (fun q hq => by
    simp only [pairP, List.map_cons, List.map_nil, List.mem_cons, List.not_mem_nil, or_false] at hq
    rcases hq with rfl | rfl <;> exact ⟨none, 0, 0, rfl, ChAt.nil _ _, by omega⟩)
  clear hrow1
  go_wp2_with fail
  refine (tables_c At1 2 ct1 pairP _ hth1 (by decide) pairZ).mono ?_
  rintro e w1 ⟨p1, b1, rfl, h1⟩
  have HT1 := Lib.hid (show Has w (tbA p1 (tabP pairP) :: rtA b1 (tabP pairP) :: []) w1 from (Has.nil hbq1).join h1)
  clear h1 hbq1 hth1
  go_wp2_with fail
  refine (reader_c 15 15 _).mono ?_
  rintro e ra ⟨rfl, hbra⟩
  have hra := HT1.out.keep hbra
  go_wp2_with fail
  refine (awGet aw1 hra hM pairZ).mono ?_
  rintro e ga ⟨⟨Aa, na, ca, rfl⟩, hga⟩
  have Ha := Lib.hid (hga.newBlk 73 (fdc ⟨bA, ⟨#[120]⟩, true, false, 10, 0, zI⟩ (.slice Aa na ca))).swap
  clear hbra hra hga
  go_wp2_with fail
  refine (reader_c 15 25 _).mono ?_
  rintro e rb ⟨rfl, hbrb⟩
  have hrb := Ha.out.keep hbrb
  go_wp2_with fail
  refine (awGet aw2 hrb hM pairZ).mono ?_
  rintro e gb ⟨⟨Ab, nb, cb, rfl⟩, hgb⟩
  have Hb := Lib.hid (hgb.newBlk 73 (fdc ⟨bA, ⟨#[]⟩, false, false, 20, 0, zI⟩ (.slice Ab nb cb))).swap
  clear hbrb hrb hgb
  go_wp2_with fail
  refine (reader_c 10 10 _).mono ?_
  rintro e rc ⟨rfl, hbrc⟩
  have hrc := Hb.out.keep hbrc
  go_wp2_with fail
  refine (awGet aw3 hrc hM pairZ).mono ?_
  rintro e gc ⟨⟨Ac, nc, cc, rfl⟩, hgc⟩
  have Hc := Lib.hid (hgc.newBlk 73 (fdc ⟨bA, ⟨#[]⟩, false, false, 10, 0, zI⟩ (.slice Ac nc cc))).swap
  clear hbrc hrc hgc
  go_wp2_with fail
  refine (pair_c _).mono ?_
  rintro e q2 ⟨⟨v2, rfl, hrow2⟩, hbq2⟩
  go_wp2_with fail
  refine (lawInt_c 9 15 ⟨#[122]⟩ false _).mono ?_
  rintro e i2 ⟨⟨Ai2, ni2, ci2, rfl, hch2, hni2, hap2⟩, hbi2⟩
  have hbw2 := bsa (bst hbq2 hbi2) (.cells (thc (thI (itOf 9 15 ⟨#[122]⟩ false)) (.slice Ai2 ni2 ci2)) 90)
  have hrw2 : World.ownsRow _ _ _ _ _ _ _ := ownsRow_below hrow2 (bsa hbi2 (.cells (thc (thI (itOf 9 15 ⟨#[122]⟩ false)) (.slice Ai2 ni2 ci2)) 90))
  have HRW2 := Lib.hid hrw2
  have HON2 := Lib.hid (th_one i2 (thI (itOf 9 15 ⟨#[122]⟩ false)) (.slice Ai2 ni2 ci2))
  have HCH2 := Lib.hid (hch2.below (nbl i2 (.cells (thc (thI (itOf 9 15 ⟨#[122]⟩ false)) (.slice Ai2 ni2 ci2)) 90)))
  have HBW2 := Lib.hid hbw2
  have HLT2 := Lib.hid (fun q hq => World.ownsRow.lt hrow2 q hq)
  clear hrow2 hbq2 hbi2 hch2 hbw2 hrw2
  go_wp2_with (first
    | (at_builtin; refine wpList_appTh rfl _ _ rfl _ _ 2 (pairP.map fun x => (x, .slice none 0 0)) [(thI (itOf 9 15 ⟨#[122]⟩ false), .slice Ai2 ni2 ci2)] rfl HRW2.out ⟨i2.heap.size, 0, none⟩ 1 1 rfl rfl HON2.out (th_cells _ _ _ _) (by decide) HBW2.out.size ?_; intro vv2 t2 hrt2 hgt2
       have HRT2 := Lib.hid hrt2
       have HGT2 := Lib.hid hgt2
       clear hrt2 hgt2))
  have hb22 := HBW2.out.grown HGT2.out HBW2.out.size (fun q hq => (World.ownsRow.lt HRW2.out q hq).1)
  have hcg2 := HCH2.out.grown HGT2.out (fun a ha hq => by have h1 := (HLT2.out a.block hq).2; have h2 := hap2 a ha; omega)
  obtain ⟨At2, ct2, rfl, hth2⟩ := thRow HRT2.out (fun q hq => by
    simp only [pairP, List.map_cons, List.map_nil, List.cons_append, List.nil_append, List.mem_cons, List.not_mem_nil, or_false] at hq
    rcases hq with rfl | rfl | rfl
    · exact ⟨none, 0, 0, rfl, ChAt.nil _ _, by omega⟩
    · exact ⟨none, 0, 0, rfl, ChAt.nil _ _, by omega⟩
    · exact ⟨_, _, _, rfl, hcg2, hni2⟩)
  have HJ2 := Lib.hid (Hc.out.tail.keep hb22)
  go_wp2_with fail
  refine (tables_c At2 3 ct2 nearP _ hth2 (by decide) nearZ).mono ?_
  rintro e w2 ⟨p2, b2, rfl, h2⟩
  have HT2 := Lib.hid (show Has w (tbA p2 (tabP nearP) :: rtA b2 (tabP nearP) :: blkA gc.heap.size 73 (fdc ⟨bA, ⟨#[]⟩, false, false, 10, 0, zI⟩ (.slice Ac nc cc)) :: blkA gb.heap.size 73 (fdc ⟨bA, ⟨#[]⟩, false, false, 20, 0, zI⟩ (.slice Ab nb cb)) :: blkA ga.heap.size 73 (fdc ⟨bA, ⟨#[120]⟩, true, false, 10, 0, zI⟩ (.slice Aa na ca)) :: rtA b1 (tabP pairP) :: []) w2 from HJ2.out.join h2)
  clear h2 HJ2 hth2 hb22 hcg2 hap2
  go_wp2_with fail
  refine (reader_c 15 15 _).mono ?_
  rintro e rd ⟨rfl, hbrd⟩
  have hrd := HT2.out.keep hbrd
  go_wp2_with fail
  refine (awGet aw4 hrd hM nearZ).mono ?_
  rintro e gd ⟨⟨Ad, nd, cd, rfl⟩, hgd⟩
  have Hd := Lib.hid (hgd.newBlk 73 (fdc ⟨bA, ⟨#[]⟩, false, false, 0, 0, itOf 9 15 ⟨#[122]⟩ false⟩ (.slice Ad nd cd))).swap
  clear hbrd hrd hgd
  go_wp2_with fail
  refine (pair_c _).mono ?_
  rintro e q3 ⟨⟨v3, rfl, hrow3⟩, hbq3⟩
  go_wp2_with fail
  refine (lawInt_c 9 16 ⟨#[122]⟩ false _).mono ?_
  rintro e i3 ⟨⟨Ai3, ni3, ci3, rfl, hch3, hni3, hap3⟩, hbi3⟩
  have hbw3 := bsa (bst hbq3 hbi3) (.cells (thc (thI (itOf 9 16 ⟨#[122]⟩ false)) (.slice Ai3 ni3 ci3)) 90)
  have hrw3 : World.ownsRow _ _ _ _ _ _ _ := ownsRow_below hrow3 (bsa hbi3 (.cells (thc (thI (itOf 9 16 ⟨#[122]⟩ false)) (.slice Ai3 ni3 ci3)) 90))
  have HRW3 := Lib.hid hrw3
  have HON3 := Lib.hid (th_one i3 (thI (itOf 9 16 ⟨#[122]⟩ false)) (.slice Ai3 ni3 ci3))
  have HCH3 := Lib.hid (hch3.below (nbl i3 (.cells (thc (thI (itOf 9 16 ⟨#[122]⟩ false)) (.slice Ai3 ni3 ci3)) 90)))
  have HBW3 := Lib.hid hbw3
  have HLT3 := Lib.hid (fun q hq => World.ownsRow.lt hrow3 q hq)
  clear hrow3 hbq3 hbi3 hch3 hbw3 hrw3
  go_wp2_with (first
    | (at_builtin; refine wpList_appTh rfl _ _ rfl _ _ 2 (pairP.map fun x => (x, .slice none 0 0)) [(thI (itOf 9 16 ⟨#[122]⟩ false), .slice Ai3 ni3 ci3)] rfl HRW3.out ⟨i3.heap.size, 0, none⟩ 1 1 rfl rfl HON3.out (th_cells _ _ _ _) (by decide) HBW3.out.size ?_; intro vv3 t3 hrt3 hgt3
       have HRT3 := Lib.hid hrt3
       have HGT3 := Lib.hid hgt3
       clear hrt3 hgt3))
  have hb23 := HBW3.out.grown HGT3.out HBW3.out.size (fun q hq => (World.ownsRow.lt HRW3.out q hq).1)
  have hcg3 := HCH3.out.grown HGT3.out (fun a ha hq => by have h1 := (HLT3.out a.block hq).2; have h2 := hap3 a ha; omega)
  obtain ⟨At3, ct3, rfl, hth3⟩ := thRow HRT3.out (fun q hq => by
    simp only [pairP, List.map_cons, List.map_nil, List.cons_append, List.nil_append, List.mem_cons, List.not_mem_nil, or_false] at hq
    rcases hq with rfl | rfl | rfl
    · exact ⟨none, 0, 0, rfl, ChAt.nil _ _, by omega⟩
    · exact ⟨none, 0, 0, rfl, ChAt.nil _ _, by omega⟩
    · exact ⟨_, _, _, rfl, hcg3, hni3⟩)
  have HJ3 := Lib.hid (Hd.out.tail.keep hb23)
  go_wp2_with fail
  refine (tables_c At3 3 ct3 farP _ hth3 (by decide) farZ).mono ?_
  rintro e w3 ⟨p3, b3, rfl, h3⟩
  have HT3 := Lib.hid (show Has w (tbA p3 (tabP farP) :: rtA b3 (tabP farP) :: blkA gd.heap.size 73 (fdc ⟨bA, ⟨#[]⟩, false, false, 0, 0, itOf 9 15 ⟨#[122]⟩ false⟩ (.slice Ad nd cd)) :: rtA b2 (tabP nearP) :: blkA gc.heap.size 73 (fdc ⟨bA, ⟨#[]⟩, false, false, 10, 0, zI⟩ (.slice Ac nc cc)) :: blkA gb.heap.size 73 (fdc ⟨bA, ⟨#[]⟩, false, false, 20, 0, zI⟩ (.slice Ab nb cb)) :: blkA ga.heap.size 73 (fdc ⟨bA, ⟨#[120]⟩, true, false, 10, 0, zI⟩ (.slice Aa na ca)) :: rtA b1 (tabP pairP) :: []) w3 from HJ3.out.join h3)
  clear h3 HJ3 hth3 hb23 hcg3 hap3
  go_wp2_with fail
  refine (reader_c 15 15 _).mono ?_
  rintro e rx ⟨rfl, hbrx⟩
  have hrx := HT3.out.keep hbrx
  go_wp2_with fail
  refine (awGet aw5 hrx hM farZ).mono ?_
  rintro e gx ⟨⟨Ax, nx, cx, rfl⟩, hgx⟩
  have Hx := Lib.hid (hgx.newBlk 73 (fdc ⟨bA, ⟨#[120]⟩, true, false, 10, 0, zI⟩ (.slice Ax nx cx))).swap
  clear hbrx hrx hgx
  go_wp2_with fail
  refine (pair_c _).mono ?_
  rintro e q4 ⟨⟨v4, rfl, hrow4⟩, hbq4⟩
  go_wp2_with fail
  refine (lawInt_c 7 15 ⟨#[]⟩ true _).mono ?_
  rintro e i4 ⟨⟨Ai4, ni4, ci4, rfl, hch4, hni4, hap4⟩, hbi4⟩
  have hbw4 := bsa (bst hbq4 hbi4) (.cells (thc (thI (itOf 7 15 ⟨#[]⟩ true)) (.slice Ai4 ni4 ci4)) 90)
  have hrw4 : World.ownsRow _ _ _ _ _ _ _ := ownsRow_below hrow4 (bsa hbi4 (.cells (thc (thI (itOf 7 15 ⟨#[]⟩ true)) (.slice Ai4 ni4 ci4)) 90))
  have HRW4 := Lib.hid hrw4
  have HON4 := Lib.hid (th_one i4 (thI (itOf 7 15 ⟨#[]⟩ true)) (.slice Ai4 ni4 ci4))
  have HCH4 := Lib.hid (hch4.below (nbl i4 (.cells (thc (thI (itOf 7 15 ⟨#[]⟩ true)) (.slice Ai4 ni4 ci4)) 90)))
  have HBW4 := Lib.hid hbw4
  have HLT4 := Lib.hid (fun q hq => World.ownsRow.lt hrow4 q hq)
  clear hrow4 hbq4 hbi4 hch4 hbw4 hrw4
  go_wp2_with (first
    | (at_builtin; refine wpList_appTh rfl _ _ rfl _ _ 2 (pairP.map fun x => (x, .slice none 0 0)) [(thI (itOf 7 15 ⟨#[]⟩ true), .slice Ai4 ni4 ci4)] rfl HRW4.out ⟨i4.heap.size, 0, none⟩ 1 1 rfl rfl HON4.out (th_cells _ _ _ _) (by decide) HBW4.out.size ?_; intro vv4 t4 hrt4 hgt4
       have HRT4 := Lib.hid hrt4
       have HGT4 := Lib.hid hgt4
       clear hrt4 hgt4))
  have hb24 := HBW4.out.grown HGT4.out HBW4.out.size (fun q hq => (World.ownsRow.lt HRW4.out q hq).1)
  have hcg4 := HCH4.out.grown HGT4.out (fun a ha hq => by have h1 := (HLT4.out a.block hq).2; have h2 := hap4 a ha; omega)
  obtain ⟨At4, ct4, rfl, hth4⟩ := thRow HRT4.out (fun q hq => by
    simp only [pairP, List.map_cons, List.map_nil, List.cons_append, List.nil_append, List.mem_cons, List.not_mem_nil, or_false] at hq
    rcases hq with rfl | rfl | rfl
    · exact ⟨none, 0, 0, rfl, ChAt.nil _ _, by omega⟩
    · exact ⟨none, 0, 0, rfl, ChAt.nil _ _, by omega⟩
    · exact ⟨_, _, _, rfl, hcg4, hni4⟩)
  have HJ4 := Lib.hid (Hx.out.tail.keep hb24)
  go_wp2_with fail
  refine (tables_c At4 3 ct4 ownP _ hth4 (by decide) ownZ).mono ?_
  rintro e w4 ⟨p4, b4, rfl, h4⟩
  have HT4 := Lib.hid (show Has w (tbA p4 (tabP ownP) :: rtA b4 (tabP ownP) :: blkA gx.heap.size 73 (fdc ⟨bA, ⟨#[120]⟩, true, false, 10, 0, zI⟩ (.slice Ax nx cx)) :: rtA b3 (tabP farP) :: blkA gd.heap.size 73 (fdc ⟨bA, ⟨#[]⟩, false, false, 0, 0, itOf 9 15 ⟨#[122]⟩ false⟩ (.slice Ad nd cd)) :: rtA b2 (tabP nearP) :: blkA gc.heap.size 73 (fdc ⟨bA, ⟨#[]⟩, false, false, 10, 0, zI⟩ (.slice Ac nc cc)) :: blkA gb.heap.size 73 (fdc ⟨bA, ⟨#[]⟩, false, false, 20, 0, zI⟩ (.slice Ab nb cb)) :: blkA ga.heap.size 73 (fdc ⟨bA, ⟨#[120]⟩, true, false, 10, 0, zI⟩ (.slice Aa na ca)) :: rtA b1 (tabP pairP) :: []) w4 from HJ4.out.join h4)
  clear h4 HJ4 hth4 hb24 hcg4 hap4
  go_wp2_with fail
  refine (reader_c 15 15 _).mono ?_
  rintro e ry ⟨rfl, hbry⟩
  have hry := HT4.out.keep hbry
  go_wp2_with fail
  refine (awGet aw6 hry hM ownZ).mono ?_
  rintro e gy ⟨⟨Ay, ny, cy, rfl⟩, hgy⟩
  have Hy := Lib.hid (hgy.newBlk 73 (fdc ⟨bA, ⟨#[]⟩, false, true, 15, 0, zI⟩ (.slice Ay ny cy))).swap
  clear hbry hry hgy
  go_wp2_with fail
  have LC := Lib.hid (fun V (hV : Below (gy.alloc (.cells (fdc ⟨bA, ⟨#[]⟩, false, true, 15, 0, zI⟩ (.slice Ay ny cy)) 73)).heap.size (gy.alloc (.cells (fdc ⟨bA, ⟨#[]⟩, false, true, 15, 0, zI⟩ (.slice Ay ny cy)) 73)) V) => (show V.cell? ⟨ga.heap.size, 1, none⟩ = some (.string ⟨#[120]⟩) ∧ V.cell? ⟨ga.heap.size, 2, none⟩ = some (.bool true) ∧ V.cell? ⟨ga.heap.size, 4, none⟩ = some (.int .i64 10) ∧ V.cell? ⟨ga.heap.size, 5, none⟩ = some (.int .i64 0) ∧ V.cell? ⟨gb.heap.size, 4, none⟩ = some (.int .i64 20) ∧ V.cell? ⟨gb.heap.size, 5, none⟩ = some (.int .i64 0) ∧ V.cell? ⟨gc.heap.size, 4, none⟩ = some (.int .i64 10) ∧ V.cell? ⟨gc.heap.size, 5, none⟩ = some (.int .i64 0) from by
    have hk := Hy.out.keep hV
    have ka := hk.blkAt (g := ga.heap.size) (t := 73) (cs := fdc ⟨bA, ⟨#[120]⟩, true, false, 10, 0, zI⟩ (.slice Aa na ca)) (by simp)
    have kb := hk.blkAt (g := gb.heap.size) (t := 73) (cs := fdc ⟨bA, ⟨#[]⟩, false, false, 20, 0, zI⟩ (.slice Ab nb cb)) (by simp)
    have kc := hk.blkAt (g := gc.heap.size) (t := 73) (cs := fdc ⟨bA, ⟨#[]⟩, false, false, 10, 0, zI⟩ (.slice Ac nc cc)) (by simp)
    exact ⟨(ka.cell 1), (ka.cell 2), (ka.cell 4), (ka.cell 5), (kb.cell 4), (kb.cell 5), (kc.cell 4), (kc.cell 5)⟩))
  have LD := Lib.hid (fun V (hV : Below (gy.alloc (.cells (fdc ⟨bA, ⟨#[]⟩, false, true, 15, 0, zI⟩ (.slice Ay ny cy)) 73)).heap.size (gy.alloc (.cells (fdc ⟨bA, ⟨#[]⟩, false, true, 15, 0, zI⟩ (.slice Ay ny cy)) 73)) V) => (show V.cell? ⟨gd.heap.size, 6, none⟩ = some (.int .i64 9) ∧ V.cell? ⟨gx.heap.size, 1, none⟩ = some (.string ⟨#[120]⟩) ∧ V.cell? ⟨gy.heap.size, 2, none⟩ = some (.bool false) ∧ V.cell? ⟨gy.heap.size, 3, none⟩ = some (.bool true) from by
    have hk := Hy.out.keep hV
    have kd := hk.blkAt (g := gd.heap.size) (t := 73) (cs := fdc ⟨bA, ⟨#[]⟩, false, false, 0, 0, itOf 9 15 ⟨#[122]⟩ false⟩ (.slice Ad nd cd)) (by simp)
    have kx := hk.blkAt (g := gx.heap.size) (t := 73) (cs := fdc ⟨bA, ⟨#[120]⟩, true, false, 10, 0, zI⟩ (.slice Ax nx cx)) (by simp)
    have ky := hk.blkAt (g := gy.heap.size) (t := 73) (cs := fdc ⟨bA, ⟨#[]⟩, false, true, 15, 0, zI⟩ (.slice Ay ny cy)) (by simp)
    exact ⟨(kd.cell 6), (kx.cell 1), (ky.cell 2), (ky.cell 3)⟩))
  have HBY := Lib.hid Hy.out.bel
  refine wp_region_held_drew (S := fun V => Below (gy.alloc (.cells (fdc ⟨bA, ⟨#[]⟩, false, true, 15, 0, zI⟩ (.slice Ay ny cy)) 73)).heap.size (gy.alloc (.cells (fdc ⟨bA, ⟨#[]⟩, false, true, 15, 0, zI⟩ (.slice Ay ny cy)) 73)) V) hmix (below_dr _) (fun hS => ?_)
  simp only [List.size_toArray, List.length_cons, List.length_nil, Nat.reduceAdd, Array.replicate_succ, Array.replicate_zero]
  refine wpAnyH_take (i := 0) (oi := { dst := some 96, op := Op.move (Operand.tmp 4), type := 41, pos := "outright.go:45", after := #[], guard := none }) (v := ?v0z) rfl (by kernel_rfl) (by kernel_rfl) (by kernel_rfl) (fun _ _ _ h => h) (Or.inl ⟨by rfl, ?hy0z⟩) (by assumption) ?rest0z
  case hy0z => (intro V2 hSw; (try dsimp only at hSw); go_simp; all_goals (with_reducible rfl))
  try simp only [Act.put, List.setIfInBounds_toArray, List.set_cons_zero, List.set_cons_succ]
  refine wpAnyH_take (i := 1) (oi := { dst := some 97, op := Op.binOp BinOp.eql 41 (Operand.tmp 96) (Operand.const (Value.int IntKind.i64 0)) 41, type := 4, pos := "outright.go:45", after := #[{ on := 0, ground := Ground.data }], guard := none }) (v := .bool true) rfl (by kernel_rfl) (by kernel_rfl) (by kernel_rfl) (fun _ _ _ h => h) (Or.inl ⟨by rfl, ?hy1z⟩) (by assumption) ?rest1z
  case hy1z => (intro V2 hSw; (try dsimp only at hSw); go_simp; all_goals (with_reducible rfl))
  try simp only [Act.put, List.setIfInBounds_toArray, List.set_cons_zero, List.set_cons_succ]
  refine wpAnyH_take (i := 2) (oi := { dst := some 98, op := Op.move (Operand.tmp 97), type := 4, pos := "outright.go:45", after := #[{ on := 1, ground := Ground.data }], guard := none }) (v := ?v2z) rfl (by kernel_rfl) (by kernel_rfl) (by kernel_rfl) (fun _ _ _ h => h) (Or.inl ⟨by rfl, ?hy2z⟩) (by assumption) ?rest2z
  case hy2z => (intro V2 hSw; (try dsimp only at hSw); go_simp; all_goals (with_reducible rfl))
  try simp only [Act.put, List.setIfInBounds_toArray, List.set_cons_zero, List.set_cons_succ]
  refine wpAnyH_take (i := 3) (oi := { dst := some 99, op := Op.fieldAddr 73 (Operand.tmp 3) 1, type := 0, pos := "outright.go:45", after := #[{ on := 2, ground := Ground.guard }], guard := some (2, true) }) (v := ?v3z) rfl (by kernel_rfl) (by kernel_rfl) (by kernel_rfl) (fun _ _ _ h => h) (Or.inl ⟨by rfl, ?hy3z⟩) (by assumption) ?rest3z
  case hy3z => (intro V2 hSw; (try dsimp only at hSw); go_simp; all_goals (with_reducible rfl))
  try simp only [Act.put, List.setIfInBounds_toArray, List.set_cons_zero, List.set_cons_succ]
  refine wpAnyH_take (i := 4) (oi := { dst := some 100, op := Op.load 9 (Operand.tmp 99), type := 9, pos := "outright.go:45", after := #[{ on := 3, ground := Ground.data }, { on := 2, ground := Ground.guard }], guard := some (2, true) }) (v := ?v4z) rfl (by kernel_rfl) (by kernel_rfl) (by kernel_rfl) (fun _ _ _ h => h) (Or.inl ⟨by rfl, ?hy4z⟩) (by assumption) ?rest4z
  case hy4z => (intro V2 hSw; (try dsimp only at hSw); obtain ⟨z1, z2, z3, z4, z5, z6, z7, z8⟩ := LC.out V2 hSw; go_simp; all_goals (with_reducible rfl))
  try simp only [Act.put, List.setIfInBounds_toArray, List.set_cons_zero, List.set_cons_succ]
  refine wpAnyH_take (i := 5) (oi := { dst := some 101, op := Op.binOp BinOp.eql 9 (Operand.tmp 100) (Operand.const (Value.string { data := #[120] })) 9, type := 4, pos := "outright.go:45", after := #[{ on := 4, ground := Ground.data }, { on := 2, ground := Ground.guard }], guard := some (2, true) }) (v := .bool true) rfl (by kernel_rfl) (by kernel_rfl) (by kernel_rfl) (fun _ _ _ h => h) (Or.inl ⟨by rfl, ?hy5z⟩) (by assumption) ?rest5z
  case hy5z => (intro V2 hSw; (try dsimp only at hSw); go_simp; all_goals (with_reducible rfl))
  try simp only [Act.put, List.setIfInBounds_toArray, List.set_cons_zero, List.set_cons_succ]
  refine wpAnyH_take (i := 6) (oi := { dst := some 102, op := Op.pick (Operand.tmp 98) (Operand.tmp 101) (Operand.const (Value.bool false)), type := 4, pos := "outright.go:45", after := #[{ on := 2, ground := Ground.data }, { on := 5, ground := Ground.data }], guard := none }) (v := .bool true) rfl (by kernel_rfl) (by kernel_rfl) (by kernel_rfl) (fun _ _ _ h => h) (Or.inl ⟨by rfl, ?hy6z⟩) (by assumption) ?rest6z
  case hy6z => (intro V2 hSw; (try dsimp only at hSw); go_simp; all_goals (with_reducible rfl))
  try simp only [Act.put, List.setIfInBounds_toArray, List.set_cons_zero, List.set_cons_succ]
  refine wpAnyH_take (i := 7) (oi := { dst := some 103, op := Op.move (Operand.tmp 102), type := 4, pos := "outright.go:45", after := #[{ on := 6, ground := Ground.data }, { on := 2, ground := Ground.chain }], guard := none }) (v := ?v7z) rfl (by kernel_rfl) (by kernel_rfl) (by kernel_rfl) (fun _ _ _ h => h) (Or.inl ⟨by rfl, ?hy7z⟩) (by assumption) ?rest7z
  case hy7z => (intro V2 hSw; (try dsimp only at hSw); go_simp; all_goals (with_reducible rfl))
  try simp only [Act.put, List.setIfInBounds_toArray, List.set_cons_zero, List.set_cons_succ]
  refine wpAnyH_take (i := 8) (oi := { dst := some 104, op := Op.fieldAddr 73 (Operand.tmp 3) 2, type := 0, pos := "outright.go:45", after := #[{ on := 7, ground := Ground.guard }], guard := some (7, true) }) (v := ?v8z) rfl (by kernel_rfl) (by kernel_rfl) (by kernel_rfl) (fun _ _ _ h => h) (Or.inl ⟨by rfl, ?hy8z⟩) (by assumption) ?rest8z
  case hy8z => (intro V2 hSw; (try dsimp only at hSw); go_simp; all_goals (with_reducible rfl))
  try simp only [Act.put, List.setIfInBounds_toArray, List.set_cons_zero, List.set_cons_succ]
  refine wpAnyH_take (i := 9) (oi := { dst := some 105, op := Op.load 4 (Operand.tmp 104), type := 4, pos := "outright.go:45", after := #[{ on := 8, ground := Ground.data }, { on := 7, ground := Ground.guard }], guard := some (7, true) }) (v := ?v9z) rfl (by kernel_rfl) (by kernel_rfl) (by kernel_rfl) (fun _ _ _ h => h) (Or.inl ⟨by rfl, ?hy9z⟩) (by assumption) ?rest9z
  case hy9z => (intro V2 hSw; (try dsimp only at hSw); obtain ⟨z1, z2, z3, z4, z5, z6, z7, z8⟩ := LC.out V2 hSw; go_simp; all_goals (with_reducible rfl))
  try simp only [Act.put, List.setIfInBounds_toArray, List.set_cons_zero, List.set_cons_succ]
  refine wpAnyH_take (i := 10) (oi := { dst := some 106, op := Op.pick (Operand.tmp 103) (Operand.tmp 105) (Operand.const (Value.bool false)), type := 4, pos := "outright.go:45", after := #[{ on := 7, ground := Ground.data }, { on := 9, ground := Ground.data }], guard := none }) (v := .bool true) rfl (by kernel_rfl) (by kernel_rfl) (by kernel_rfl) (fun _ _ _ h => h) (Or.inl ⟨by rfl, ?hy10z⟩) (by assumption) ?rest10z
  case hy10z => (intro V2 hSw; (try dsimp only at hSw); go_simp; all_goals (with_reducible rfl))
  try simp only [Act.put, List.setIfInBounds_toArray, List.set_cons_zero, List.set_cons_succ]
  refine wpAnyH_take (i := 11) (oi := { dst := some 107, op := Op.move (Operand.tmp 106), type := 4, pos := "outright.go:45", after := #[{ on := 10, ground := Ground.data }, { on := 7, ground := Ground.chain }], guard := none }) (v := ?v11z) rfl (by kernel_rfl) (by kernel_rfl) (by kernel_rfl) (fun _ _ _ h => h) (Or.inl ⟨by rfl, ?hy11z⟩) (by assumption) ?rest11z
  case hy11z => (intro V2 hSw; (try dsimp only at hSw); go_simp; all_goals (with_reducible rfl))
  try simp only [Act.put, List.setIfInBounds_toArray, List.set_cons_zero, List.set_cons_succ]
  refine wpAnyH_take (i := 12) (oi := { dst := some 108, op := Op.fieldAddr 73 (Operand.tmp 3) 4, type := 0, pos := "outright.go:45", after := #[{ on := 11, ground := Ground.guard }], guard := some (11, true) }) (v := ?v12z) rfl (by kernel_rfl) (by kernel_rfl) (by kernel_rfl) (fun _ _ _ h => h) (Or.inl ⟨by rfl, ?hy12z⟩) (by assumption) ?rest12z
  case hy12z => (intro V2 hSw; (try dsimp only at hSw); go_simp; all_goals (with_reducible rfl))
  try simp only [Act.put, List.setIfInBounds_toArray, List.set_cons_zero, List.set_cons_succ]
  refine wpAnyH_take (i := 13) (oi := { dst := some 109, op := Op.load 26 (Operand.tmp 108), type := 26, pos := "outright.go:45", after := #[{ on := 12, ground := Ground.data }, { on := 11, ground := Ground.guard }], guard := some (11, true) }) (v := ?v13z) rfl (by kernel_rfl) (by kernel_rfl) (by kernel_rfl) (fun _ _ _ h => h) (Or.inl ⟨by rfl, ?hy13z⟩) (by assumption) ?rest13z
  case hy13z => (intro V2 hSw; (try dsimp only at hSw); obtain ⟨z1, z2, z3, z4, z5, z6, z7, z8⟩ := LC.out V2 hSw; go_simp; all_goals (with_reducible rfl))
  try simp only [Act.put, List.setIfInBounds_toArray, List.set_cons_zero, List.set_cons_succ]
  refine wpAnyH_ready (rs := [14]) (by kernel_rfl) (by simp) ?_
  refine AllReadyH.cons (o := { dst := some 110, op := Op.call { callee := Callee.value (Operand.func 83), args := #[Operand.const (Value.int IntKind.i64 10)], argTypes := #[3] }, type := 26, pos := "outright.go:45", after := #[{ on := 11, ground := Ground.chain }, { on := 11, ground := Ground.guard }], guard := some (11, true) }) rfl (fun K hK => ?_) AllReadyH.nil
  go_simp
  refine (at_c 10 _).mono ?_
  rintro e u0 ⟨rfl, hbu0⟩
  refine hK.out _ _ (bst hS hbu0) (fun hS => ?_)
  clear hK K
  try simp only [Act.put, List.setIfInBounds_toArray, List.set_cons_zero, List.set_cons_succ]
  refine wpAnyH_take (i := 15) (oi := { dst := some 111, op := Op.binOp BinOp.eql 26 (Operand.tmp 109) (Operand.tmp 110) 26, type := 4, pos := "outright.go:45", after := #[{ on := 13, ground := Ground.data }, { on := 14, ground := Ground.data }, { on := 11, ground := Ground.guard }], guard := some (11, true) }) (v := .bool true) rfl (by kernel_rfl) (by kernel_rfl) (by kernel_rfl) (fun _ _ _ h => h) (Or.inl ⟨by rfl, ?hy15z⟩) (by assumption) ?rest15z
  case hy15z => (intro V2 hSw; (try dsimp only at hSw); go_simp; all_goals (with_reducible rfl))
  try simp only [Act.put, List.setIfInBounds_toArray, List.set_cons_zero, List.set_cons_succ]
  refine wpAnyH_take (i := 16) (oi := { dst := some 112, op := Op.pick (Operand.tmp 107) (Operand.tmp 111) (Operand.const (Value.bool false)), type := 4, pos := "outright.go:45", after := #[{ on := 11, ground := Ground.data }, { on := 15, ground := Ground.data }], guard := none }) (v := .bool true) rfl (by kernel_rfl) (by kernel_rfl) (by kernel_rfl) (fun _ _ _ h => h) (Or.inl ⟨by rfl, ?hy16z⟩) (by assumption) ?rest16z
  case hy16z => (intro V2 hSw; (try dsimp only at hSw); go_simp; all_goals (with_reducible rfl))
  try simp only [Act.put, List.setIfInBounds_toArray, List.set_cons_zero, List.set_cons_succ]
  refine wpAnyH_take (i := 17) (oi := { dst := some 113, op := Op.move (Operand.tmp 112), type := 4, pos := "outright.go:45", after := #[{ on := 16, ground := Ground.data }, { on := 14, ground := Ground.chain }], guard := none }) (v := ?v17z) rfl (by kernel_rfl) (by kernel_rfl) (by kernel_rfl) (fun _ _ _ h => h) (Or.inl ⟨by rfl, ?hy17z⟩) (by assumption) ?rest17z
  case hy17z => (intro V2 hSw; (try dsimp only at hSw); go_simp; all_goals (with_reducible rfl))
  try simp only [Act.put, List.setIfInBounds_toArray, List.set_cons_zero, List.set_cons_succ]
  refine wpAnyH_take (i := 18) (oi := { dst := some 114, op := Op.move (Operand.tmp 6), type := 41, pos := "outright.go:45", after := #[{ on := 17, ground := Ground.guard }], guard := some (17, true) }) (v := ?v18z) rfl (by kernel_rfl) (by kernel_rfl) (by kernel_rfl) (fun _ _ _ h => h) (Or.inl ⟨by rfl, ?hy18z⟩) (by assumption) ?rest18z
  case hy18z => (intro V2 hSw; (try dsimp only at hSw); go_simp; all_goals (with_reducible rfl))
  try simp only [Act.put, List.setIfInBounds_toArray, List.set_cons_zero, List.set_cons_succ]
  refine wpAnyH_take (i := 19) (oi := { dst := some 115, op := Op.binOp BinOp.eql 41 (Operand.tmp 114) (Operand.const (Value.int IntKind.i64 121)) 41, type := 4, pos := "outright.go:45", after := #[{ on := 18, ground := Ground.data }, { on := 17, ground := Ground.guard }], guard := some (17, true) }) (v := .bool true) rfl (by kernel_rfl) (by kernel_rfl) (by kernel_rfl) (fun _ _ _ h => h) (Or.inl ⟨by rfl, ?hy19z⟩) (by assumption) ?rest19z
  case hy19z => (intro V2 hSw; (try dsimp only at hSw); go_simp; all_goals (with_reducible rfl))
  try simp only [Act.put, List.setIfInBounds_toArray, List.set_cons_zero, List.set_cons_succ]
  refine wpAnyH_take (i := 20) (oi := { dst := some 116, op := Op.pick (Operand.tmp 113) (Operand.tmp 115) (Operand.const (Value.bool false)), type := 4, pos := "outright.go:45", after := #[{ on := 17, ground := Ground.data }, { on := 19, ground := Ground.data }], guard := none }) (v := .bool true) rfl (by kernel_rfl) (by kernel_rfl) (by kernel_rfl) (fun _ _ _ h => h) (Or.inl ⟨by rfl, ?hy20z⟩) (by assumption) ?rest20z
  case hy20z => (intro V2 hSw; (try dsimp only at hSw); go_simp; all_goals (with_reducible rfl))
  try simp only [Act.put, List.setIfInBounds_toArray, List.set_cons_zero, List.set_cons_succ]
  refine wpAnyH_take (i := 21) (oi := { dst := some 117, op := Op.move (Operand.tmp 116), type := 4, pos := "outright.go:45", after := #[{ on := 20, ground := Ground.data }, { on := 17, ground := Ground.chain }], guard := none }) (v := ?v21z) rfl (by kernel_rfl) (by kernel_rfl) (by kernel_rfl) (fun _ _ _ h => h) (Or.inl ⟨by rfl, ?hy21z⟩) (by assumption) ?rest21z
  case hy21z => (intro V2 hSw; (try dsimp only at hSw); go_simp; all_goals (with_reducible rfl))
  try simp only [Act.put, List.setIfInBounds_toArray, List.set_cons_zero, List.set_cons_succ]
  refine wpAnyH_take (i := 22) (oi := { dst := some 118, op := Op.fieldAddr 73 (Operand.tmp 5) 4, type := 0, pos := "outright.go:45", after := #[{ on := 21, ground := Ground.guard }], guard := some (21, true) }) (v := ?v22z) rfl (by kernel_rfl) (by kernel_rfl) (by kernel_rfl) (fun _ _ _ h => h) (Or.inl ⟨by rfl, ?hy22z⟩) (by assumption) ?rest22z
  case hy22z => (intro V2 hSw; (try dsimp only at hSw); go_simp; all_goals (with_reducible rfl))
  try simp only [Act.put, List.setIfInBounds_toArray, List.set_cons_zero, List.set_cons_succ]
  refine wpAnyH_take (i := 23) (oi := { dst := some 119, op := Op.load 26 (Operand.tmp 118), type := 26, pos := "outright.go:45", after := #[{ on := 22, ground := Ground.data }, { on := 21, ground := Ground.guard }], guard := some (21, true) }) (v := ?v23z) rfl (by kernel_rfl) (by kernel_rfl) (by kernel_rfl) (fun _ _ _ h => h) (Or.inl ⟨by rfl, ?hy23z⟩) (by assumption) ?rest23z
  case hy23z => (intro V2 hSw; (try dsimp only at hSw); obtain ⟨z1, z2, z3, z4, z5, z6, z7, z8⟩ := LC.out V2 hSw; go_simp; all_goals (with_reducible rfl))
  try simp only [Act.put, List.setIfInBounds_toArray, List.set_cons_zero, List.set_cons_succ]
  refine wpAnyH_ready (rs := [24]) (by kernel_rfl) (by simp) ?_
  refine AllReadyH.cons (o := { dst := some 120, op := Op.call { callee := Callee.value (Operand.func 83), args := #[Operand.const (Value.int IntKind.i64 20)], argTypes := #[3] }, type := 26, pos := "outright.go:45", after := #[{ on := 21, ground := Ground.chain }, { on := 21, ground := Ground.guard }], guard := some (21, true) }) rfl (fun K hK => ?_) AllReadyH.nil
  go_simp
  refine (at_c 20 _).mono ?_
  rintro e u1 ⟨rfl, hbu1⟩
  refine hK.out _ _ (bst hS hbu1) (fun hS => ?_)
  clear hK K
  try simp only [Act.put, List.setIfInBounds_toArray, List.set_cons_zero, List.set_cons_succ]
  refine wpAnyH_take (i := 25) (oi := { dst := some 121, op := Op.binOp BinOp.eql 26 (Operand.tmp 119) (Operand.tmp 120) 26, type := 4, pos := "outright.go:45", after := #[{ on := 23, ground := Ground.data }, { on := 24, ground := Ground.data }, { on := 21, ground := Ground.guard }], guard := some (21, true) }) (v := .bool true) rfl (by kernel_rfl) (by kernel_rfl) (by kernel_rfl) (fun _ _ _ h => h) (Or.inl ⟨by rfl, ?hy25z⟩) (by assumption) ?rest25z
  case hy25z => (intro V2 hSw; (try dsimp only at hSw); go_simp; all_goals (with_reducible rfl))
  try simp only [Act.put, List.setIfInBounds_toArray, List.set_cons_zero, List.set_cons_succ]
  refine wpAnyH_take (i := 26) (oi := { dst := some 122, op := Op.pick (Operand.tmp 117) (Operand.tmp 121) (Operand.const (Value.bool false)), type := 4, pos := "outright.go:45", after := #[{ on := 21, ground := Ground.data }, { on := 25, ground := Ground.data }], guard := none }) (v := .bool true) rfl (by kernel_rfl) (by kernel_rfl) (by kernel_rfl) (fun _ _ _ h => h) (Or.inl ⟨by rfl, ?hy26z⟩) (by assumption) ?rest26z
  case hy26z => (intro V2 hSw; (try dsimp only at hSw); go_simp; all_goals (with_reducible rfl))
  try simp only [Act.put, List.setIfInBounds_toArray, List.set_cons_zero, List.set_cons_succ]
  refine wpAnyH_take (i := 27) (oi := { dst := some 123, op := Op.move (Operand.tmp 122), type := 4, pos := "outright.go:45", after := #[{ on := 26, ground := Ground.data }, { on := 24, ground := Ground.chain }], guard := none }) (v := ?v27z) rfl (by kernel_rfl) (by kernel_rfl) (by kernel_rfl) (fun _ _ _ h => h) (Or.inl ⟨by rfl, ?hy27z⟩) (by assumption) ?rest27z
  case hy27z => (intro V2 hSw; (try dsimp only at hSw); go_simp; all_goals (with_reducible rfl))
  try simp only [Act.put, List.setIfInBounds_toArray, List.set_cons_zero, List.set_cons_succ]
  refine wpAnyH_take (i := 28) (oi := { dst := some 124, op := Op.move (Operand.tmp 8), type := 41, pos := "outright.go:45", after := #[{ on := 27, ground := Ground.guard }], guard := some (27, true) }) (v := ?v28z) rfl (by kernel_rfl) (by kernel_rfl) (by kernel_rfl) (fun _ _ _ h => h) (Or.inl ⟨by rfl, ?hy28z⟩) (by assumption) ?rest28z
  case hy28z => (intro V2 hSw; (try dsimp only at hSw); go_simp; all_goals (with_reducible rfl))
  try simp only [Act.put, List.setIfInBounds_toArray, List.set_cons_zero, List.set_cons_succ]
  refine wpAnyH_take (i := 29) (oi := { dst := some 125, op := Op.binOp BinOp.eql 41 (Operand.tmp 124) (Operand.const (Value.int IntKind.i64 121)) 41, type := 4, pos := "outright.go:45", after := #[{ on := 28, ground := Ground.data }, { on := 27, ground := Ground.guard }], guard := some (27, true) }) (v := .bool true) rfl (by kernel_rfl) (by kernel_rfl) (by kernel_rfl) (fun _ _ _ h => h) (Or.inl ⟨by rfl, ?hy29z⟩) (by assumption) ?rest29z
  case hy29z => (intro V2 hSw; (try dsimp only at hSw); go_simp; all_goals (with_reducible rfl))
  try simp only [Act.put, List.setIfInBounds_toArray, List.set_cons_zero, List.set_cons_succ]
  refine wpAnyH_take (i := 30) (oi := { dst := some 126, op := Op.pick (Operand.tmp 123) (Operand.tmp 125) (Operand.const (Value.bool false)), type := 4, pos := "outright.go:45", after := #[{ on := 27, ground := Ground.data }, { on := 29, ground := Ground.data }], guard := none }) (v := .bool true) rfl (by kernel_rfl) (by kernel_rfl) (by kernel_rfl) (fun _ _ _ h => h) (Or.inl ⟨by rfl, ?hy30z⟩) (by assumption) ?rest30z
  case hy30z => (intro V2 hSw; (try dsimp only at hSw); go_simp; all_goals (with_reducible rfl))
  try simp only [Act.put, List.setIfInBounds_toArray, List.set_cons_zero, List.set_cons_succ]
  refine wpAnyH_take (i := 31) (oi := { dst := some 127, op := Op.move (Operand.tmp 126), type := 4, pos := "outright.go:45", after := #[{ on := 30, ground := Ground.data }, { on := 27, ground := Ground.chain }], guard := none }) (v := ?v31z) rfl (by kernel_rfl) (by kernel_rfl) (by kernel_rfl) (fun _ _ _ h => h) (Or.inl ⟨by rfl, ?hy31z⟩) (by assumption) ?rest31z
  case hy31z => (intro V2 hSw; (try dsimp only at hSw); go_simp; all_goals (with_reducible rfl))
  try simp only [Act.put, List.setIfInBounds_toArray, List.set_cons_zero, List.set_cons_succ]
  refine wpAnyH_take (i := 32) (oi := { dst := some 128, op := Op.fieldAddr 73 (Operand.tmp 7) 4, type := 0, pos := "outright.go:45", after := #[{ on := 31, ground := Ground.guard }], guard := some (31, true) }) (v := ?v32z) rfl (by kernel_rfl) (by kernel_rfl) (by kernel_rfl) (fun _ _ _ h => h) (Or.inl ⟨by rfl, ?hy32z⟩) (by assumption) ?rest32z
  case hy32z => (intro V2 hSw; (try dsimp only at hSw); go_simp; all_goals (with_reducible rfl))
  try simp only [Act.put, List.setIfInBounds_toArray, List.set_cons_zero, List.set_cons_succ]
  refine wpAnyH_take (i := 33) (oi := { dst := some 129, op := Op.load 26 (Operand.tmp 128), type := 26, pos := "outright.go:45", after := #[{ on := 32, ground := Ground.data }, { on := 31, ground := Ground.guard }], guard := some (31, true) }) (v := ?v33z) rfl (by kernel_rfl) (by kernel_rfl) (by kernel_rfl) (fun _ _ _ h => h) (Or.inl ⟨by rfl, ?hy33z⟩) (by assumption) ?rest33z
  case hy33z => (intro V2 hSw; (try dsimp only at hSw); obtain ⟨z1, z2, z3, z4, z5, z6, z7, z8⟩ := LC.out V2 hSw; go_simp; all_goals (with_reducible rfl))
  try simp only [Act.put, List.setIfInBounds_toArray, List.set_cons_zero, List.set_cons_succ]
  refine wpAnyH_ready (rs := [34]) (by kernel_rfl) (by simp) ?_
  refine AllReadyH.cons (o := { dst := some 130, op := Op.call { callee := Callee.value (Operand.func 83), args := #[Operand.const (Value.int IntKind.i64 10)], argTypes := #[3] }, type := 26, pos := "outright.go:45", after := #[{ on := 31, ground := Ground.chain }, { on := 31, ground := Ground.guard }], guard := some (31, true) }) rfl (fun K hK => ?_) AllReadyH.nil
  go_simp
  refine (at_c 10 _).mono ?_
  rintro e u2 ⟨rfl, hbu2⟩
  refine hK.out _ _ (bst hS hbu2) (fun hS => ?_)
  clear hK K
  try simp only [Act.put, List.setIfInBounds_toArray, List.set_cons_zero, List.set_cons_succ]
  refine wpAnyH_take (i := 35) (oi := { dst := some 131, op := Op.binOp BinOp.eql 26 (Operand.tmp 129) (Operand.tmp 130) 26, type := 4, pos := "outright.go:45", after := #[{ on := 33, ground := Ground.data }, { on := 34, ground := Ground.data }, { on := 31, ground := Ground.guard }], guard := some (31, true) }) (v := .bool true) rfl (by kernel_rfl) (by kernel_rfl) (by kernel_rfl) (fun _ _ _ h => h) (Or.inl ⟨by rfl, ?hy35z⟩) (by assumption) ?rest35z
  case hy35z => (intro V2 hSw; (try dsimp only at hSw); go_simp; all_goals (with_reducible rfl))
  try simp only [Act.put, List.setIfInBounds_toArray, List.set_cons_zero, List.set_cons_succ]
  refine wpAnyH_take (i := 36) (oi := { dst := some 132, op := Op.pick (Operand.tmp 127) (Operand.tmp 131) (Operand.const (Value.bool false)), type := 4, pos := "outright.go:45", after := #[{ on := 31, ground := Ground.data }, { on := 35, ground := Ground.data }], guard := none }) (v := .bool true) rfl (by kernel_rfl) (by kernel_rfl) (by kernel_rfl) (fun _ _ _ h => h) (Or.inl ⟨by rfl, ?hy36z⟩) (by assumption) ?rest36z
  case hy36z => (intro V2 hSw; (try dsimp only at hSw); go_simp; all_goals (with_reducible rfl))
  try simp only [Act.put, List.setIfInBounds_toArray, List.set_cons_zero, List.set_cons_succ]
  refine wpAnyH_take (i := 37) (oi := { dst := some 21, op := Op.assign (Operand.tmp 132), type := 4, pos := "outright.go:45", after := #[{ on := 36, ground := Ground.data }, { on := 34, ground := Ground.chain }, { on := 0, ground := Ground.phase }, { on := 1, ground := Ground.phase }, { on := 2, ground := Ground.phase }, { on := 3, ground := Ground.phase }, { on := 4, ground := Ground.phase }, { on := 5, ground := Ground.phase }, { on := 6, ground := Ground.phase }, { on := 7, ground := Ground.phase }, { on := 8, ground := Ground.phase }, { on := 9, ground := Ground.phase }, { on := 10, ground := Ground.phase }, { on := 11, ground := Ground.phase }, { on := 12, ground := Ground.phase }, { on := 13, ground := Ground.phase }, { on := 14, ground := Ground.phase }, { on := 15, ground := Ground.phase }, { on := 16, ground := Ground.phase }, { on := 17, ground := Ground.phase }, { on := 18, ground := Ground.phase }, { on := 19, ground := Ground.phase }, { on := 20, ground := Ground.phase }, { on := 21, ground := Ground.phase }, { on := 22, ground := Ground.phase }, { on := 23, ground := Ground.phase }, { on := 24, ground := Ground.phase }, { on := 25, ground := Ground.phase }, { on := 26, ground := Ground.phase }, { on := 27, ground := Ground.phase }, { on := 28, ground := Ground.phase }, { on := 29, ground := Ground.phase }, { on := 30, ground := Ground.phase }, { on := 31, ground := Ground.phase }, { on := 32, ground := Ground.phase }, { on := 33, ground := Ground.phase }, { on := 34, ground := Ground.phase }, { on := 35, ground := Ground.phase }, { on := 36, ground := Ground.phase }], guard := none }) (v := ?v37z) rfl (by kernel_rfl) (by kernel_rfl) (by kernel_rfl) (fun _ _ _ h => h) (Or.inl ⟨by rfl, ?hy37z⟩) (by assumption) ?rest37z
  case hy37z => (intro V2 hSw; (try dsimp only at hSw); go_simp; all_goals (with_reducible rfl))
  try simp only [Act.put, List.setIfInBounds_toArray, List.set_cons_zero, List.set_cons_succ]
  refine wpAnyH_done (by kernel_rfl) ?_ _
  obtain ⟨d6, x1, y2, y3⟩ := LD.out _ hS
  have hfin := HBY.out.trans (hS.mono HBY.out.size)
  clear hS
  go_wp2_with fail
  go_ret
  exact ⟨rfl, hfin⟩
end Go.Proofs.YtgccichmdddbpaaGreatDoor
