/-
  Layer 13, the code: Put (written by wip/genpoput.py).
-/
import Derived.Test.YtgccichmdddbpaaGreatDoorPAPoPutA
import Derived.Test.YtgccichmdddbpaaGreatDoorPAPoPutB
import Derived.Test.YtgccichmdddbpaaGreatDoorPAPoPutC
import Derived.Test.YtgccichmdddbpaaGreatDoorPAPoPutD
import Derived.Test.YtgccichmdddbpaaGreatDoorPAPoPutE
set_option linter.unusedVariables false
set_option linter.unusedSimpArgs false
set_option maxRecDepth 100000
namespace Go.Proofs.YtgccichmdddbpaaGreatDoor
open Go.RowKit

set_option maxHeartbeats 8000000 in
theorem poPut {w V : World} {T : List As} {p N : Nat} {r : List Rw} (h : Has w (tbA p r :: T) V) (hr : ROk N r) (hN : N ≤ 999999000) (hM : MaxL w) (key : ByteArray) (ch : Ch) (x : Tx) (m1 m2 : Int) :
    Calls Tryz.prog 12 #[pt p, .string key, chv ch, txv x, sv m1 m2] V fun e w' => AnsD key (pputC r key ch x (m1, m2)) w (tbA p r :: T) e w' := by
  obtain ⟨q, s, d⟩ := ch
  have h1 := (((h.newBlk 24 #[.int .i64 q, .string s, .bool d]).newBlk 28 (txc x)).newBlk 26 #[.int .i64 m1, .int .i64 m2]).newBlk 40 #[.slice none 0 0, .int .i64 0, .int .i64 0, .int .i64 0, .int .i64 0, .int .i64 0, .string ⟨#[]⟩, .int .i64 0, .int .i64 0, .int .i64 0, .int .i64 0, .slice none 0 0]
  simp only [World.size_alloc] at h1
  have hCK := fun W (hh : Has w (blkA (V.heap.size + 1 + 1 + 1) 40 #[.slice none 0 0, .int .i64 0, .int .i64 0, .int .i64 0, .int .i64 0, .int .i64 0, .string ⟨#[]⟩, .int .i64 0, .int .i64 0, .int .i64 0, .int .i64 0, .slice none 0 0] :: blkA (V.heap.size + 1 + 1) 26 #[.int .i64 m1, .int .i64 m2] :: blkA (V.heap.size + 1) 28 (txc x) :: blkA (V.heap.size) 24 #[.int .i64 q, .string s, .bool d] :: tbA p r :: T) W) => (poCheck (hh.perm (List.perm_middle (l₁ := [_, _, _, _]))) hr hN hM key ⟨q, s, d⟩ x m1 m2).mono fun e w' hq => (⟨hq.1, hq.2.perm (List.perm_middle (l₁ := [_, _, _, _])).symm⟩ : e = .returned (.int .i64 (chkW (isK key) ⟨q, s, d⟩ x (m1, m2))) ∧ Has w (blkA (V.heap.size + 1 + 1 + 1) 40 #[.slice none 0 0, .int .i64 0, .int .i64 0, .int .i64 0, .int .i64 0, .int .i64 0, .string ⟨#[]⟩, .int .i64 0, .int .i64 0, .int .i64 0, .int .i64 0, .slice none 0 0] :: blkA (V.heap.size + 1 + 1) 26 #[.int .i64 m1, .int .i64 m2] :: blkA (V.heap.size + 1) 28 (txc x) :: blkA (V.heap.size) 24 #[.int .i64 q, .string s, .bool d] :: tbA p r :: T) w')
  unfold pputC
  by_cases hc : chkW (isK key) ⟨q, s, d⟩ x (m1, m2) = 0
  · rw [if_pos hc]
    obtain ⟨hk, hmx, hmm, hmi⟩ := chkW_ok hc
    rw [hc] at hCK
    have hIA := fun W (hh : Has w (blkA (V.heap.size + 1 + 1 + 1) 40 #[.slice none 0 0, .int .i64 0, .int .i64 0, .int .i64 0, .int .i64 0, .int .i64 0, .string ⟨#[]⟩, .int .i64 0, .int .i64 0, .int .i64 0, .int .i64 0, .slice none 0 0] :: blkA (V.heap.size + 1 + 1) 26 #[.int .i64 m1, .int .i64 m2] :: blkA (V.heap.size + 1) 28 (txc x) :: blkA (V.heap.size) 24 #[.int .i64 q, .string s, .bool d] :: tbA p r :: T) W) => poIntentAt_c (F := (hh.at_ (A := tbA p r) (by simp)).choose) (hh.at_ (A := tbA p r) (by simp)).choose_spec.1 hr.szs (hM.below hh.bel) key hk
    have hpm : ∀ y, pint r key = some y → mayI y = true := fun y hy => (tkI_back hy).1
    generalize hnv : nwV r key = nv at *
    have hAD := fun (own : It) (ho : own = zI ∨ mayI own = true) (hf : findW own.l ⟨q, s, d⟩ = (false, 0)) (A : Option Addr) (c : Nat) (T2 : List As) (W : World) (hh : Has w (rowA 24 3 (.slice A own.l.length c) own.l.length (own.l.flatMap chc) :: tbA p r :: T2) W) =>
      poAdd hh hr hM key hk (by rcases ho with rfl | ho; exact Nat.zero_le _; exact may_top ho) ⟨q, s, d⟩ x m1 m2 (fun hz => by rw [hnv] at hz ⊢; exact add_may hmi ho hf hz)
    rw [hnv] at hAD
    cases hp : pint r key with
    | none =>
      rw [hp] at hIA
      unfold putW
      simp only
      rw [goW_add (findW_nil _)]
      obtain ⟨o, ho⟩ : ∃ o, addW nv zI ⟨q, s, d⟩ x (m1, m2) = o := ⟨_, rfl⟩
      have hA0 := fun T2 W hh => hAD zI (.inl rfl) (findW_nil _) none 0 T2 W hh
      rw [ho] at hA0 ⊢
      obtain ⟨dd, kk⟩ := o
      have hF0 := fun W => find_c ⟨q, s, d⟩ none 0 0 [] (by omega) W (ChAt.nil _ _)
      have hx1 : 0 ≤ x.ep := by
        unfold mayX idOk at hmx
        simp only [Bool.and_eq_true, decide_eq_true_eq] at hmx
        exact hmx.1.2.2.1
      obtain ⟨x0, x1, x2, x3, x4, x5, x6, x7, x8, x9, x10, x11⟩ := x
      by_cases he : x1 = 0
      · subst he
        exact put_new0 hM key q s d x0 x2 x3 x4 x5 x6 x7 x8 x9 x10 x11 m1 m2 dd kk (Lib.hid (h1)) (Lib.hid hCK) (Lib.hid hIA) (Lib.hid hA0) (Lib.hid hF0)
      · exact put_new1 hM key q s d x0 x1 x2 x3 x4 x5 x6 x7 x8 x9 x10 x11 m1 m2 dd kk (by simp only at hx1; omega) (Lib.hid (h1)) (Lib.hid hCK) (Lib.hid hIA) (Lib.hid hA0) (Lib.hid hF0)
    | some y =>
      have hym := hpm y hp
      rw [hp] at hIA
      unfold putW
      simp only
      obtain ⟨y0, y1, y2, y3, y4, y5, y6, y7, yl⟩ := y
      by_cases h2 : y0 = x.id
      · rw [if_neg (fun hh => hh h2)]
        by_cases h3 : x.ep < y1
        · rw [if_pos h3]
          obtain ⟨x0, x1, x2, x3, x4, x5, x6, x7, x8, x9, x10, x11⟩ := x
          subst h2
          exact put_stale hM key q s d _ _ _ _ _ _ _ _ _ _ _ _ m1 m2 (Lib.hid (h1)) (Lib.hid hCK) y1 y2 y3 y4 y5 y6 y7 yl (Lib.hid hIA) h3
        · rw [if_neg h3]
          by_cases h4 : y1 < x.ep
          · rw [if_pos h4, goW_add (findW_nil _)]
            obtain ⟨o, ho⟩ : ∃ o, addW nv zI ⟨q, s, d⟩ x (m1, m2) = o := ⟨_, rfl⟩
            have hA0 := fun T2 W hh => hAD zI (.inl rfl) (findW_nil _) none 0 T2 W hh
            rw [ho] at hA0 ⊢
            obtain ⟨dd, kk⟩ := o
            have hF0 := fun W => find_c ⟨q, s, d⟩ none 0 0 [] (by omega) W (ChAt.nil _ _)
            obtain ⟨x0, x1, x2, x3, x4, x5, x6, x7, x8, x9, x10, x11⟩ := x
            subst h2
            exact put_old hM key q s d _ _ _ _ _ _ _ _ _ _ _ _ m1 m2 dd kk (Lib.hid (h1)) (Lib.hid hCK) y1 y2 y3 y4 y5 y6 y7 yl (Lib.hid hIA) h4 (Lib.hid hA0) (Lib.hid hF0)
          · rw [if_neg h4]
            have h5 : y1 = x.ep := by omega
            have hFD := fun A n c W hA hn => find_c ⟨q, s, d⟩ A n c yl hn W hA
            unfold goW
            simp only
            obtain ⟨fw, hfw⟩ : ∃ fw, findW yl ⟨q, s, d⟩ = fw := ⟨_, rfl⟩
            rw [hfw] at hFD ⊢
            obtain ⟨bb, ee⟩ := fw
            simp only at hFD ⊢
            by_cases h6 : ee = 0
            · subst h6
              rw [if_pos rfl]
              cases bb
              · rw [if_neg (by decide)]
                obtain ⟨o, ho⟩ : ∃ o, addW nv ⟨y0, y1, y2, y3, y4, y5, y6, y7, yl⟩ ⟨q, s, d⟩ x (m1, m2) = o := ⟨_, rfl⟩
                have hA1 := fun A c T2 W hh => hAD ⟨y0, y1, y2, y3, y4, y5, y6, y7, yl⟩ (.inr hym) hfw A c T2 W hh
                rw [ho] at hA1 ⊢
                obtain ⟨dd, kk⟩ := o
                obtain ⟨x0, x1, x2, x3, x4, x5, x6, x7, x8, x9, x10, x11⟩ := x
                subst h2 h5
                exact put_more hM key q s d _ _ _ _ _ _ _ _ _ _ _ _ m1 m2 dd kk (Lib.hid (h1)) (Lib.hid hCK) y2 y3 y4 y5 y6 y7 yl (Lib.hid hIA) (Lib.hid hFD) (Lib.hid hA1)
              · rw [if_pos rfl]
                obtain ⟨x0, x1, x2, x3, x4, x5, x6, x7, x8, x9, x10, x11⟩ := x
                subst h2 h5
                exact put_same hM key q s d _ _ _ _ _ _ _ _ _ _ _ _ m1 m2 (Lib.hid (h1)) (Lib.hid hCK) y2 y3 y4 y5 y6 y7 yl (Lib.hid hIA) (Lib.hid hFD)
            · rw [if_neg h6]
              obtain ⟨x0, x1, x2, x3, x4, x5, x6, x7, x8, x9, x10, x11⟩ := x
              subst h2 h5
              exact put_err hM key q s d _ _ _ _ _ _ _ _ _ _ _ _ m1 m2 ee bb h6 (Lib.hid (h1)) (Lib.hid hCK) y2 y3 y4 y5 y6 y7 yl (Lib.hid hIA) (Lib.hid hFD)
      · rw [if_pos h2]
        obtain ⟨x0, x1, x2, x3, x4, x5, x6, x7, x8, x9, x10, x11⟩ := x
        simp only at h2
        exact put_wait hM key q s d x0 x1 x2 x3 x4 x5 x6 x7 x8 x9 x10 x11 m1 m2 (Lib.hid (h1)) (Lib.hid hCK) y0 y1 y2 y3 y4 y5 y6 y7 yl (Lib.hid hIA) h2
  · rw [if_neg hc]
    generalize chkW (isK key) ⟨q, s, d⟩ x (m1, m2) = ce at *
    obtain ⟨x0, x1, x2, x3, x4, x5, x6, x7, x8, x9, x10, x11⟩ := x
    exact put_arg hM key q s d x0 x1 x2 x3 x4 x5 x6 x7 x8 x9 x10 x11 m1 m2 ce hc (Lib.hid (h1)) (Lib.hid hCK)
end Go.Proofs.YtgccichmdddbpaaGreatDoor
