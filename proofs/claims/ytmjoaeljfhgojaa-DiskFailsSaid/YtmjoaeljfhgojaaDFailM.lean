/-
  DiskFails, plain: what a disk of the files 'a' and, maybe, 'b' is while it has been told to fail.
-/
import Derived.Test.YtmjoaeljfhgojaaVDiskMoves
set_option linter.unusedVariables false
namespace Go.Proofs.Ytmjoaeljfhgojaa
open Go.RowKit

abbrev nN : ByteArray := ⟨#[110, 111, 110, 101]⟩
/-- 'a', and maybe 'b', which is empty. -/
def ab (x : List UInt8) (m : Nat) (b : Bool) : List Fl := ⟨nA, x, m⟩ :: (if b then [⟨nB, [], 0⟩] else [])
theorem nl_an : nl nA nN = true := by unfold nl; rw [Lib.toList_data, Lib.toList_data]; rfl
theorem nl_bn : nl nB nN = true := by unfold nl; rw [Lib.toList_data, Lib.toList_data]; rfl
section
variable (x : List UInt8) (m : Nat) (b : Bool)
theorem ab_pos : pos (ab x m b) nA = 0 := by unfold pos ab; rw [List.takeWhile_cons_of_neg (by simp [nl_irr])]; rfl
theorem ab_is : isAt (ab x m b) nA = true := by unfold isAt; rw [ab_pos]; simp [ab]
theorem ab_file : fileAt (ab x m b) nA = ⟨nA, x, m⟩ := by unfold fileAt; rw [ab_is, ab_pos]; rfl
theorem ab_sum : sum (ab x m b) = x.length := by unfold sum ab; cases b <;> simp
theorem ab_len : (ab x m b).length ≤ 2 := by unfold ab; cases b <;> simp
theorem ab_posB : pos (ab x m b) nB = 1 := by unfold pos ab; cases b <;> simp [nl_ab, nl_irr]
theorem ab_isB : isAt (ab x m b) nB = b := by unfold isAt; rw [ab_posB]; cases b <;> simp [ab]
theorem ab_fileB : fileAt (ab x m b) nB = ⟨nB, [], 0⟩ := by unfold fileAt; rw [ab_isB, ab_posB]; cases b <;> rfl
theorem ab_isN : isAt (ab x m b) nN = false := by
  have h : pos (ab x m b) nN = (ab x m b).length := by unfold pos ab; cases b <;> simp [nl_an, nl_bn]
  unfold isAt
  rw [h, List.getElem?_eq_none (Nat.le_refl _)]
theorem ab_withA (y : List UInt8) (k : Nat) : withF (ab x m b) ⟨nA, y, k⟩ = ab y k b := by unfold withF; simp only [ab_pos, ab_is]; unfold ab; simp
theorem ab_withB : withF (ab x m b) ⟨nB, [], 0⟩ = ab x m true := by unfold withF; simp only [ab_posB, ab_isB]; cases b <;> simp [ab]
theorem ab_set (y : List UInt8) (k : Nat) : setAt (ab x m b) nA ⟨nA, y, k⟩ = ab y k b := by unfold setAt; rw [ab_pos]; rfl
theorem ab_ren : withF (without (ab x m b) nA) ⟨nA, x, m⟩ = ab x m b := by
  unfold without
  rw [ab_is, if_pos rfl, ab_pos]
  cases b
  · simp [ab, withF, pos_nil, isAt_nil]
  · have hp : pos [⟨nB, [], 0⟩] nA = 0 := by
      unfold pos
      have : nl nB nA = false := by unfold nl; rw [Lib.toList_data, Lib.toList_data]; rfl
      simp [this]
    have hi : isAt [⟨nB, [], 0⟩] nA = false := isAt_other _ _ (by decide)
    simp [ab, withF, hp, hi]
theorem fall_b (keep : List Int) (i : Nat) : fallF keep i ⟨nB, [], 0⟩ = ⟨nB, [], 0⟩ := by
  have h : ∀ z : Int, brn z (0 - 0 + 1) = 0 := fun z => by simp [brn]
  unfold fallF
  simp only [List.length_nil, h]
  simp
theorem ab_fall (keep : List Int) : ∃ y k, fall keep (ab x m b) = ab y k b ∧ y.length ≤ x.length := by
  unfold fall ab
  cases b
  · exact ⟨_, _, rfl, by simp [List.length_take]; exact Nat.min_le_right _ _⟩
  · refine ⟨(fallF keep 0 ⟨nA, x, m⟩).bs, (fallF keep 0 ⟨nA, x, m⟩).mark, ?_, ?_⟩
    · simp only [if_true, List.mapIdx_cons, List.mapIdx_nil, fall_b]
      rfl
    · simp [fallF, List.length_take]
      exact Nat.min_le_right _ _

/-- What the statement's disk is, with 'done' works done of n. -/
def FS (D : Dk) (done n : Nat) : Prop := ∃ x m b, D.l = ab x m b ∧ x.length ≤ done ∧ done ≤ n ∧ ((D.dead = false ∧ D.left = (n : Int) - done) ∨ (D.dead = true ∧ done = n))
/-- A work on it. -/
theorem FS.work {D D' : Dk} {done n : Nat} {E : Int} (h : FS D done n) (hd : D.dead = true → D' = D ∧ E = 71)
    (ha : ∀ x m b, D.l = ab x m b → D.dead = false → ∃ g y k b', D' = work D g ∧ E = workE D ∧ g D.l = ab y k b' ∧ y.length ≤ x.length + 1) :
    (done < n → E = 0 ∧ FS D' (done + 1) n) ∧ (¬ done < n → E = 71 ∧ D'.dead = true ∧ FS D' done n) := by
  obtain ⟨x, m, b, hl, hx, hn, h⟩ := h
  rcases h with ⟨h1, h2⟩ | ⟨h1, h2⟩
  · obtain ⟨gg, y, k, b', rfl, rfl, hg, hy⟩ := ha x m b hl h1
    refine ⟨fun h => ?_, fun h => ?_⟩
    · unfold Go.Proofs.Ytmjoaeljfhgojaa.work workE
      rw [if_neg (by omega), if_neg (by omega)]
      refine ⟨rfl, y, k, b', hg, by omega, by omega, .inl ⟨h1, ?_⟩⟩
      show (if 0 < D.left then D.left - 1 else D.left) = _
      rw [if_pos (by omega)]
      omega
    · unfold Go.Proofs.Ytmjoaeljfhgojaa.work workE
      rw [if_pos (by omega), if_pos (by omega)]
      unfold crash
      rw [h1]
      obtain ⟨y, k, hf, hy⟩ := ab_fall x m b D.keep
      exact ⟨rfl, rfl, y, k, b, by simp only [hl]; exact hf, by omega, hn, .inr ⟨rfl, by omega⟩⟩
  · obtain ⟨rfl, rfl⟩ := hd h1
    exact ⟨fun h => by omega, fun _ => ⟨rfl, h1, x, m, b, hl, hx, hn, .inr ⟨h1, h2⟩⟩⟩
theorem FS.app0 {D : Dk} {done n : Nat} (hn : n ≤ 30) (h : FS D done n) (u : UInt8) : (done < n → appE D nA ([u] : List UInt8).length = 0 ∧ FS (app D nA [u]) (done + 1) n) ∧ (¬ done < n → appE D nA ([u] : List UInt8).length = 71 ∧ (app D nA [u]).dead = true ∧ FS (app D nA [u]) done n) := by
  refine h.work (fun hd => by unfold app appE; rw [hd]; exact ⟨rfl, rfl⟩) (fun x m b hl hd => ?_)
  obtain ⟨x', m', b', hl', hx', hdn, _⟩ := h
  have hxl : x.length ≤ 30 := by
    have := congrArg sum (hl.symm.trans hl')
    rw [ab_sum, ab_sum] at this
    omega
  refine ⟨fun l => withF l ⟨nA, (fileAt l nA).bs ++ [u], (fileAt l nA).mark⟩, x ++ [u], m, b, ?_, ?_, ?_, by simp⟩
  rotate_left 2
  · show (fun l => withF l ⟨nA, (fileAt l nA).bs ++ [u], (fileAt l nA).mark⟩) D.l = _
    rw [hl]
    dsimp only
    rw [ab_file]
    exact ab_withA x m b (x ++ [u]) m
  · unfold app
    rw [hd, may_a, hl, ab_is, ab_sum, if_neg (by decide), if_neg (by decide), if_neg (by simp; omega)]
  · unfold appE
    rw [hd, may_a, hl, ab_is, ab_sum, if_neg (by decide), if_neg (by decide), if_neg (by simp; omega)]
theorem FS.appB {D : Dk} {done n : Nat} (hn : n ≤ 30) (h : FS D done n) : (done < n → appE D nB ([] : List UInt8).length = 0 ∧ FS (app D nB []) (done + 1) n) ∧ (¬ done < n → appE D nB ([] : List UInt8).length = 71 ∧ (app D nB []).dead = true ∧ FS (app D nB []) done n) := by
  refine h.work (fun hd => by unfold app appE; rw [hd]; exact ⟨rfl, rfl⟩) (fun x m b hl hd => ?_)
  obtain ⟨x', m', b', hl', hx', hdn, _⟩ := h
  have hxl : x.length ≤ 30 := by
    have := congrArg sum (hl.symm.trans hl')
    rw [ab_sum, ab_sum] at this
    omega
  have hlen := ab_len x m b
  refine ⟨fun l => withF l ⟨nB, (fileAt l nB).bs ++ [], (fileAt l nB).mark⟩, x, m, true, ?_, ?_, ?_, by omega⟩
  rotate_left 2
  · show (fun l => withF l ⟨nB, (fileAt l nB).bs ++ [], (fileAt l nB).mark⟩) D.l = _
    rw [hl]
    dsimp only
    rw [ab_fileB]
    exact ab_withB x m b
  · unfold app
    rw [hd, may_b, hl, ab_sum, if_neg (by decide), if_neg (by decide), if_neg (by simp; omega)]
  · unfold appE
    rw [hd, may_b, hl, ab_sum, if_neg (by decide), if_neg (by decide), if_neg (by simp; omega)]
theorem nm_ab {D : Dk} {x : List UInt8} {m : Nat} {b : Bool} (hl : D.l = ab x m b) (hd : D.dead = false) : nmE D nA = 0 := by unfold nmE; rw [hd, hl, ab_is]; rfl
theorem nm_dead {D : Dk} (hd : D.dead = true) (s : ByteArray) : nmE D s = 71 := by unfold nmE; rw [hd]; rfl
theorem FS.syn_ {D : Dk} {done n : Nat} (h : FS D done n) : (done < n → synE D nA = 0 ∧ FS (syn D nA) (done + 1) n) ∧ (¬ done < n → synE D nA = 71 ∧ (syn D nA).dead = true ∧ FS (syn D nA) done n) := by
  refine h.work (fun hd => by unfold syn synE; rw [nm_dead hd]; exact ⟨rfl, rfl⟩) (fun x m b hl hd => ?_)
  refine ⟨fun l => setAt l nA ⟨nA, (fileAt l nA).bs, (fileAt l nA).bs.length⟩, x, x.length, b, ?_, ?_, ?_, by omega⟩
  rotate_left 2
  · show (fun l => setAt l nA ⟨nA, (fileAt l nA).bs, (fileAt l nA).bs.length⟩) D.l = _
    rw [hl]
    dsimp only
    rw [ab_file]
    exact ab_set x m b x x.length
  · unfold syn
    rw [nm_ab hl hd, if_pos rfl]
  · unfold synE
    rw [nm_ab hl hd, if_pos rfl]
theorem FS.cut0 {D : Dk} {done n : Nat} (h : FS D done n) : (done < n → cutE D nA 0 = 0 ∧ FS (cut D nA 0) (done + 1) n) ∧ (¬ done < n → cutE D nA 0 = 71 ∧ (cut D nA 0).dead = true ∧ FS (cut D nA 0) done n) := by
  refine h.work (fun hd => by unfold cut cutE; rw [nm_dead hd]; exact ⟨rfl, rfl⟩) (fun x m b hl hd => ?_)
  refine ⟨fun l => setAt l nA ⟨nA, (fileAt l nA).bs.take (0 : Int).toNat, min (fileAt l nA).mark (0 : Int).toNat⟩, x.take 0, min m 0, b, ?_, ?_, ?_, by simp⟩
  rotate_left 2
  · show (fun l => setAt l nA ⟨nA, (fileAt l nA).bs.take (0 : Int).toNat, min (fileAt l nA).mark (0 : Int).toNat⟩) D.l = _
    rw [hl]
    dsimp only
    rw [ab_file]
    exact ab_set x m b (x.take 0) (min m 0)
  · unfold cut
    rw [nm_ab hl hd, if_pos rfl, if_neg (by omega)]
  · unfold cutE
    rw [nm_ab hl hd, if_pos rfl, if_neg (by omega)]
theorem FS.ren_ {D : Dk} {done n : Nat} (h : FS D done n) : (done < n → renE D nA nA = 0 ∧ FS (ren D nA nA) (done + 1) n) ∧ (¬ done < n → renE D nA nA = 71 ∧ (ren D nA nA).dead = true ∧ FS (ren D nA nA) done n) := by
  refine h.work (fun hd => by unfold ren renE; rw [nm_dead hd]; exact ⟨rfl, rfl⟩) (fun x m b hl hd => ?_)
  refine ⟨fun l => withF (without l nA) ⟨nA, (fileAt l nA).bs, (fileAt l nA).mark⟩, x, m, b, ?_, ?_, ?_, by omega⟩
  rotate_left 2
  · show (fun l => withF (without l nA) ⟨nA, (fileAt l nA).bs, (fileAt l nA).mark⟩) D.l = _
    rw [hl]
    dsimp only
    rw [ab_file]
    exact ab_ren x m b
  · unfold ren
    rw [nm_ab hl hd, if_pos rfl, may_a, if_neg (by decide)]
  · unfold renE
    rw [nm_ab hl hd, if_pos rfl, may_a, if_neg (by decide)]
/-- What answers another error is no work. -/
theorem FS.none_ {D : Dk} {done n : Nat} (h : FS D done n) : syn D nN = D ∧ cut D nA (-1) = D ∧ (done < n → synE D nN = 70 ∧ cutE D nA (-1) = 9) := by
  obtain ⟨x, m, b, hl, hx, hn, h⟩ := h
  rcases h with ⟨h1, h2⟩ | ⟨h1, h2⟩
  · have e : nmE D nN = 70 := by unfold nmE; rw [h1, hl, ab_isN]; rfl
    refine ⟨by unfold syn; rw [e]; rfl, ?_, fun _ => ⟨by unfold synE; rw [e]; rfl, ?_⟩⟩
    · unfold cut; rw [nm_ab hl h1, if_pos rfl, if_pos (by omega)]
    · unfold cutE; rw [nm_ab hl h1, if_pos rfl, if_pos (by omega)]
  · exact ⟨by unfold syn; rw [nm_dead h1]; rfl, by unfold cut; rw [nm_dead h1]; rfl, fun h => by omega⟩
theorem FS.dead_ {D : Dk} {done n : Nat} (h : FS D done n) (hd : D.dead = true) : rdE D nA = 71 ∧ nms D = [] := ⟨nm_dead hd nA, by unfold nms; rw [hd]; rfl⟩
theorem FS.end_ {D : Dk} {done n : Nat} (hn : n ≤ 30) (h : FS D done n) : (boot D).dead = false ∧ rdE (boot D) nA = 0 ∧ appE (boot D) nA ([] : List UInt8).length = 0 := by
  obtain ⟨x, m, b, hl, hx, hdn, h⟩ := h
  refine ⟨rfl, nm_ab (D := boot D) hl rfl, ?_⟩
  unfold appE workE boot
  simp only [hl]
  rw [may_a, ab_is, ab_sum, if_neg (by decide), if_neg (by decide), if_neg (by simp; omega), if_neg (by decide)]
end
theorem FS.new_ (n : Nat) (k : List Int) : FS (fal (wd nA [] 0 false (-1)) n k) 0 n := ⟨[], 0, false, rfl, by simp, by omega, .inl ⟨rfl, by simp [fal, wd]; omega⟩⟩
end Go.Proofs.Ytmjoaeljfhgojaa
