/-
  Layer 7: the document's disk: Names.
-/
import Derived.Test.YtmjoaeljfhgojaaDAppe
set_option linter.unusedVariables false
namespace Go.Proofs.Ytmjoaeljfhgojaa
open Go.RowKit

/-- Texts that lie in memory. -/
def TAt (w : World) (A : Option Addr) (n : Nat) (xs : List ByteArray) : Prop :=
  xs.length = n ∧ (0 < n → ∃ b o, A = some ⟨b, o, none⟩ ∧ ∀ i, (h : i < xs.length) → w.cell? ⟨b, o + i, none⟩ = some (.string xs[i]))
theorem TAt.below {w w' : World} {A : Option Addr} {n : Nat} {xs : List ByteArray} (h : TAt w A n xs) (hb : Below w.heap.size w w') : TAt w' A n xs := by
  refine ⟨h.1, fun hn => ?_⟩
  obtain ⟨b, o, e, hc⟩ := h.2 hn
  exact ⟨b, o, e, fun i hi => (hb.cell (World.block_lt_of_cell? w _ (hc i hi))).trans (hc i hi)⟩
theorem infoT : (Try.prog.info? 9).map (fun i => (i.zero, i.size, i.bytes)) = some (some (.string ByteArray.empty), 1, 16) := by kernel_rfl
theorem rowTexts {w : World} {B n : Nat} {v : Value} {xs : List ByteArray} (hn : xs.length = n) (h : w.ownsRow B 9 1 v n (xs.map Value.string)) : ∃ A c, v = .slice A n c ∧ TAt w A n xs ∧ n ≤ c ∧ c ≤ 9223372036854775807 ∧ InF (fun k => B ≤ k ∧ k < w.heap.size) A := by
  subst hn
  rcases h.2 with ⟨rfl, hn0⟩ | ⟨q, cap, cur, rfl, hq, hh, hnc, hcm, hcs, htk⟩
  · obtain rfl : xs = [] := List.eq_nil_of_length_eq_zero hn0
    exact ⟨none, 0, rfl, ⟨rfl, fun h => absurd h (by simp)⟩, by simp, by omega, (fun a e => nomatch e)⟩
  · refine ⟨_, cap, rfl, ⟨rfl, fun _ => ⟨q, 0, rfl, fun j hj => ?_⟩⟩, hnc, hcm, fun a e => ?_⟩
    · rw [Nat.zero_add, h.cellAt j (by omega), List.getElem?_map, List.getElem?_eq_getElem hj]
      rfl
    · injection e with e
      subst e
      exact ⟨hq, (Array.getElem?_eq_some_iff.1 hh).1⟩
theorem text_one (w : World) (s : ByteArray) : ∀ j u, [Value.string s][j]? = some u → (w.alloc (.cells #[.string s] 9)).cell? ⟨w.heap.size, 0 + j, none⟩ = some u := by
  intro j u hu
  rw [Nat.zero_add, cell_of_row _ _ j _ _ (0, 0) (heap_alloc_new w _)]
  simpa using hu

set_option maxRecDepth 100000 in
set_option maxHeartbeats 8000000 in
theorem names_ok (w : World) (g : Nat) (D : Dk) (F : Nat → Prop) (h : RDk w g D F) :
    Calls Try.prog 45 #[pt g] w fun e w' => ∃ A c, e = .returned (.slice A (nms D).length c) ∧ TAt w' A (nms D).length (nms D) ∧ (nms D).length ≤ c ∧ c ≤ 9223372036854775807 ∧ InF (fun k => w.heap.size ≤ k ∧ k < w'.heap.size) A ∧ Below w.heap.size w w' := by
  obtain ⟨Fb, v, KA, kn, kc, qs, h⟩ := h
  obtain ⟨A0, cap, rfl, hcap, hcapm, _, hcell⟩ := h.list.form
  have c0 := h.c0
  have c1 := h.c1
  obtain ⟨dd, hd⟩ : ∃ b, D.dead = b := ⟨_, rfl⟩
  rw [hd] at c1
  obtain ⟨m, hm⟩ : ∃ x, qs.length = x := ⟨_, rfl⟩
  have hlen := h.len
  have hfew := h.ok.few
  have hm20 : m ≤ 20 := by omega
  rw [hm] at c0 hcap
  have HM := Lib.hid hm
  have H := Lib.hid h
  have HD := Lib.hid hd
  have HCE := Lib.hid hcell
  have HLEN := Lib.hid hlen
  have hgl := h.lt g h.fg.1
  obtain ⟨i0, hi0, hz, hsz, hby⟩ := info_parts infoT
  clear h hd hm hcell hlen hfew
  cases dd with
  | true =>
    have hN : nms D = [] := by unfold nms; rw [HD.out]; rfl
    rw [hN]
    by_cases h0 : 0 < m
    · go_enter Try.func45, Try.ntmps45
      go_wp2_with fail
      go_loopw [3, 4] (fun ov iv wr => ov = .slice none 0 0 ∧ iv = .int .i64 0 ∧ wr = w) (fun _ _ _ => 0)
      case atStart => exact ⟨rfl, rfl, rfl⟩
      case round =>
        obtain ⟨rfl, rfl, rfl⟩ := hrel
        go_wp2
        go_ret
        exact ⟨none, 0, rfl, ⟨rfl, fun h => absurd h (by simp)⟩, by simp, by omega, (fun a e => nomatch e), Below.refl _ _⟩
    · go_enter Try.func45, Try.ntmps45
      go_wp2_with fail
      go_loopw [3, 4] (fun ov iv wr => ov = .slice none 0 0 ∧ iv = .int .i64 0 ∧ wr = w) (fun _ _ _ => 0)
      case atStart => exact ⟨rfl, rfl, rfl⟩
      case round =>
        obtain ⟨rfl, rfl, rfl⟩ := hrel
        go_wp2
        go_ret
        exact ⟨none, 0, rfl, ⟨rfl, fun h => absurd h (by simp)⟩, by simp, by omega, (fun a e => nomatch e), Below.refl _ _⟩
  | false =>
    have hN : nms D = D.l.map Fl.name := by unfold nms; rw [HD.out]; rfl
    obtain ⟨ns, hns⟩ : ∃ x, nms D = x := ⟨_, rfl⟩
    rw [hns]
    have HNS := Lib.hid (hns.symm.trans hN)
    clear hN hns
    go_enter Try.func45, Try.ntmps45
    go_wp2_with fail
    go_loopw [3, 4] (fun ov iv wr => ∃ i : Nat, i ≤ m ∧ iv = .int .i64 i ∧ Hid (wr.ownsRow w.heap.size 9 1 ov i ((ns.take i).map Value.string)) ∧ Hid (Below w.heap.size w wr)) (fun _ iv _ => m - (intOf iv).toNat)
    case atStart => exact ⟨0, Nat.zero_le _, rfl, Lib.hid (World.ownsRow_nil _ _ _ _), Lib.hid (Below.refl _ _)⟩
    case round =>
      obtain ⟨i, hi, rfl, hrow, hB⟩ := hrel
      have hRx := H.out.below hB.out
      have x0 := hRx.c0
      have x1 := hRx.c1
      rw [HD.out] at x1
      rw [HM.out] at x0
      clear c0 c1
      by_cases hlt : i < m
      · have hq : i < qs.length := by rw [HM.out]; exact hlt
        obtain ⟨b, rfl, hFb, hnb, hcl⟩ := HCE.out (by rw [HM.out]; omega)
        have d0 := (hB.out.cell (World.block_lt_of_cell? w _ (hcl i hq).1)).trans (hcl i hq).1
        obtain ⟨nm, hnm⟩ : ∃ x, qs[i].f.name = x := ⟨_, rfl⟩
        rw [hnm] at d0
        have hil : i < D.l.length := by rw [← HLEN.out]; exact hq
        have hin : i < ns.length := by rw [HNS.out, List.length_map]; exact hil
        have hne : ns[i] = nm := by
          have h1 : ns[i] = (D.l.map Fl.name)[i]'(by rw [List.length_map]; exact hil) := by simp only [HNS.out]
          rw [h1, List.getElem_map, H.out.get hq, hnm]
        have HT := Lib.hid (show (ns.take i).map Value.string ++ [Value.string nm] = (ns.take (i + 1)).map Value.string by rw [List.take_succ_eq_append_getElem hin, List.map_append, hne]; rfl)
        have hr2 := Lib.hid (hrow.out.alloc (.cells #[.string nm] 9))
        have hB2 := Lib.hid (hB.out.alloc hB.out.size (.cells #[.string nm] 9))
        have hs2 := Lib.hid hB2.out.size
        have hn2 := Lib.hid (show 0 < 1 → ∃ b o, (some (⟨wr.heap.size, 0, none⟩ : Addr)) = some ⟨b, o, none⟩ ∧ ∀ j u, [Value.string nm][j]? = some u → (wr.alloc (.cells #[.string nm] 9)).cell? ⟨b, o + j, none⟩ = some u from fun _ => ⟨_, 0, rfl, text_one wr nm⟩)
        have ho2 := Lib.hid (show ∀ u ∈ [Value.string nm], u.oneCell' = true from fun u hu => by obtain rfl := List.mem_singleton.1 hu; rfl)
        have hm63 : i + 1 ≤ maxLen := by unfold maxLen; omega
        have hb16 : (i + 1) * 16 ≤ 140737488355328 := by omega
        clear hnm hne hrow hin hcl hRx hFb hnb
        go_wp2_with (at_builtin; refine wpList_appV rfl _ _ 54 rfl w.heap.size 9 i0 (.string ByteArray.empty) 1 16 Try.underlying54 hi0 hz hsz hby rfl (by decide) u3 i ((ns.take i).map Value.string) rfl hr2.out (some ⟨wr.heap.size, 0, none⟩) 1 1 [.string nm] rfl rfl hn2.out ho2.out hm63 hb16 hs2.out ?_; intro v5 w5 hr5 hg5; have HR5 := Lib.hid hr5; have HB5 := Lib.hid (hB2.out.grown hg5 hB2.out.size (fun k e => (rowOwn hr2.out k e).1)); clear hr5 hg5)
        go_roundw
        case rel => exact ⟨i + 1, by omega, by go_num, Lib.hid (by rw [← HT.out]; exact HR5.out), HB5⟩
        case measure => simp [intOf]; omega
      · have him : i = m := by omega
        have hr3 := hrow.out
        rw [List.take_of_length_le (by rw [HNS.out, List.length_map, ← HLEN.out, HM.out]; omega)] at hr3
        obtain ⟨A1, cc, rfl, h1, h2, h3, h4⟩ := rowTexts (xs := ns) (by rw [HNS.out, List.length_map, ← HLEN.out, HM.out]; omega) hr3
        have H1 := Lib.hid h1
        have HL := Lib.hid h1.1
        clear h1 hr3 hrow him
        go_wp2
        go_ret
        rw [HL.out]
        exact ⟨A1, cc, rfl, H1.out, h2, h3, h4, hB.out⟩
end Go.Proofs.Ytmjoaeljfhgojaa
