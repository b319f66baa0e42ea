/-
  Layer 16, plain: spans of texts, lists of them in order; what the ends tell, gone through in their order.
-/
import Derived.Test.YtdpdokgbockmbaaSkM
set_option linter.unusedVariables false
namespace Go.Proofs.Ytdpdokgbockmbaa
open Go.RowKit

structure Sn where
  f : ByteArray
  t : ByteArray
instance : Inhabited Sn := ⟨⟨⟨#[]⟩, ⟨#[]⟩⟩⟩
/-- What Check tells. -/
def chkS (s : Sn) : Int := if 33 < s.f.size ∨ 33 < s.t.size then 5 else if kl s.f s.t = true then 0 else 2
def ihas (s : Sn) (k : ByteArray) : Bool := !kl k s.f && kl k s.t
def hasS (s : Sn) (k : ByteArray) : Bool := chkS s == 0 && ihas s k
def inL (l : List Sn) (k : ByteArray) : Bool := l.any (fun s => hasS s k)
def inI (l : List Sn) (k : ByteArray) : Bool := l.any (fun s => ihas s k)
def MaySp (l : List Sn) : Prop := ∀ s ∈ l, chkS s = 0
theorem chkS_lt {s : Sn} (h : chkS s = 0) : kl s.f s.t = true := by
  unfold chkS at h
  split at h
  · cases h
  · split at h
    · assumption
    · cases h
theorem chkS_le {s : Sn} (h : chkS s = 0) : s.f.size ≤ 33 ∧ s.t.size ≤ 33 := by
  unfold chkS at h
  split at h
  · cases h
  · omega
theorem chkS_ok {s : Sn} (h1 : kl s.f s.t = true) (h2 : s.f.size ≤ 33) (h3 : s.t.size ≤ 33) : chkS s = 0 := by
  unfold chkS
  rw [if_neg (by omega), if_pos h1]
theorem hasS_may {s : Sn} (h : chkS s = 0) (k : ByteArray) : hasS s k = ihas s k := by
  unfold hasS
  rw [h]
  simp
theorem inL_may {l : List Sn} (h : MaySp l) (k : ByteArray) : inL l k = inI l k := by
  induction l with
  | nil => rfl
  | cons s l ih =>
    have h1 := hasS_may (h s (by simp)) k
    have h2 := ih (fun u hu => h u (by simp [hu]))
    unfold inL inI at h2 ⊢
    rw [List.any_cons, List.any_cons, h1, h2]
/-- A list in order. -/
def OrdS : List Sn → Prop
  | [] => True
  | s :: l => kl s.f s.t = true ∧ (∀ u ∈ l, kl s.t u.f = true) ∧ OrdS l
theorem klf {a b : ByteArray} (h : kl a b = true) : kl b a = false := kl_asym h
/-- not below, and below: below. -/
theorem kl_le_lt {a b c : ByteArray} (h1 : kl b a = false) (h2 : kl b c = true) : kl a c = true := by
  cases h3 : kl a b with
  | true => exact kl_trans h3 h2
  | false => rw [kl_total h3 h1]; exact h2
theorem kl_lt_le {a b c : ByteArray} (h1 : kl a b = true) (h2 : kl c b = false) : kl a c = true := by
  cases h3 : kl b c with
  | true => exact kl_trans h1 h3
  | false => rw [← kl_total h3 h2]; exact h1
theorem kl_le_le {a b c : ByteArray} (h1 : kl b a = false) (h2 : kl c b = false) : kl c a = false := by
  cases h : kl c a with
  | false => rfl
  | true => rw [kl_lt_le h h1] at h2; cases h2
theorem ordS_all {l : List Sn} (h : OrdS l) : ∀ s ∈ l, kl s.f s.t = true := by
  induction l with
  | nil => intro s hs; cases hs
  | cons s l ih =>
    intro u hu
    rcases List.mem_cons.1 hu with rfl | hu
    · exact h.1
    · exact ih h.2.2 u hu
theorem inI_mem {l : List Sn} {k : ByteArray} : inI l k = true ↔ ∃ s ∈ l, kl k s.f = false ∧ kl k s.t = true := by
  unfold inI ihas
  simp [List.any_eq_true]
theorem inI_cons (s : Sn) (l : List Sn) (k : ByteArray) : inI (s :: l) k = (ihas s k || inI l k) := rfl
theorem inI_app (l r : List Sn) (k : ByteArray) : inI (l ++ r) k = (inI l k || inI r k) := by
  unfold inI
  rw [List.any_append]
/-- Nothing ahead of where a list in order begins. -/
theorem ordS_low {s : Sn} {l : List Sn} (h : OrdS (s :: l)) {k : ByteArray} (hk : inI (s :: l) k = true) : kl k s.f = false := by
  obtain ⟨u, hu, h1, h2⟩ := inI_mem.1 hk
  rcases List.mem_cons.1 hu with rfl | hu
  · exact h1
  · exact kl_le_le (klf (kl_trans h.1 (h.2.1 u hu))) h1
theorem ordS_from {s : Sn} {l : List Sn} (h : OrdS (s :: l)) : inI (s :: l) s.f = true := inI_mem.2 ⟨s, by simp, kl_irr _, h.1⟩
theorem ordS_end {s : Sn} {l : List Sn} (h : OrdS (s :: l)) : inI (s :: l) s.t = false := by
  cases h2 : inI (s :: l) s.t with
  | false => rfl
  | true =>
    obtain ⟨u, hu, h3, h4⟩ := inI_mem.1 h2
    rcases List.mem_cons.1 hu with rfl | hu
    · rw [kl_irr] at h4; cases h4
    · rw [h.2.1 u hu] at h3; cases h3
theorem ordS_rest {s : Sn} {l : List Sn} (h : OrdS (s :: l)) (k : ByteArray) : inI l k = (inI (s :: l) k && !kl k s.t) := by
  cases h1 : inI l k with
  | true =>
    obtain ⟨u, hu, h3, h4⟩ := inI_mem.1 h1
    have h5 : kl k s.t = false := kl_le_le (klf (h.2.1 u hu)) h3
    rw [inI_cons, h1, h5]
    simp
  | false =>
    rw [inI_cons, h1]
    unfold ihas
    cases kl k s.t <;> simp
/-- A list in order is the only one that has what it has. -/
theorem ordS_one : ∀ {x y : List Sn}, OrdS x → OrdS y → (∀ k, inI x k = inI y k) → x = y
  | [], [], _, _, _ => rfl
  | [], u :: y, _, hy, h => by have := ordS_from hy; rw [← h] at this; cases this
  | s :: x, [], hx, _, h => by have := ordS_from hx; rw [h] at this; cases this
  | s :: x, u :: y, hx, hy, h => by
    have e1 : s.f = u.f := kl_total (ordS_low hy (by rw [← h]; exact ordS_from hx)) (ordS_low hx (by rw [h]; exact ordS_from hy)) |> fun e => e
    have e2 : s.t = u.t := by
      refine kl_total ?_ ?_
      · cases h1 : kl s.t u.t with
        | false => rfl
        | true =>
          have h2 : inI (u :: y) s.t = true := inI_mem.2 ⟨u, by simp, by rw [← e1]; exact klf hx.1, h1⟩
          rw [← h, ordS_end hx] at h2
          cases h2
      · cases h1 : kl u.t s.t with
        | false => rfl
        | true =>
          have h2 : inI (s :: x) u.t = true := inI_mem.2 ⟨s, by simp, by rw [e1]; exact klf hy.1, h1⟩
          rw [h, ordS_end hy] at h2
          cases h2
    have e3 : x = y := ordS_one hx.2.2 hy.2.2 (fun k => by rw [ordS_rest hx, ordS_rest hy, h, e2])
    obtain ⟨a, b⟩ := s
    obtain ⟨c, d⟩ := u
    simp only at e1 e2
    rw [e1, e2, e3]

/-! ### ends -/
structure En where
  k : ByteArray
  li : Int
  mo : Int
instance : Inhabited En := ⟨⟨⟨#[]⟩, 0, 0⟩⟩
def endsL (i : Int) (l : List Sn) : List En := l.flatMap fun s => [⟨s.f, i, 1⟩, ⟨s.t, i, -1⟩]
def endsAB (a b : List Sn) : List En := endsL 0 a ++ endsL 1 b
def put1 (i : Int) (e : En) : Int := if e.li = i then e.mo else 0
/-- The ends of one text. -/
def gl (k : ByteArray) : List En → Int → Int → List En × Int × Int
  | [], x, y => ([], x, y)
  | e :: es, x, y => if e.k = k then gl k es (x + put1 0 e) (y + put1 1 e) else (e :: es, x, y)
/-- What reckon does. -/
def rk (W : Bool → Bool → Bool) : Nat → List En → Int → Int → ByteArray → Bool → List Sn → List Sn
  | 0, _, _, _, _, _, out => out
  | _ + 1, [], _, _, _, _, out => out
  | n + 1, e :: es, x, y, fr, op, out =>
    let g := gl e.k (e :: es) x y
    let w := W (decide (0 < g.2.1)) (decide (0 < g.2.2))
    rk W n g.1 g.2.1 g.2.2 (if w && !op then e.k else fr) w (if !w && op then out ++ [⟨fr, e.k⟩] else out)
def tot (i : Int) (l : List En) : Int := (l.map (put1 i)).sum
/-- How many spans of list i have x. -/
def cov (i : Int) (x : ByteArray) (l : List En) : Int := tot i (l.filter fun e => !kl x e.k)
theorem tot_cons (i : Int) (e : En) (l : List En) : tot i (e :: l) = put1 i e + tot i l := rfl
theorem tot_app (i : Int) (l r : List En) : tot i (l ++ r) = tot i l + tot i r := by
  unfold tot
  rw [List.map_append, List.sum_append]
theorem tot_perm (i : Int) {l r : List En} (h : l.Perm r) : tot i l = tot i r := by
  induction h with
  | nil => rfl
  | cons e _ ih => rw [tot_cons, tot_cons, ih]
  | swap a b l => rw [tot_cons, tot_cons, tot_cons, tot_cons]; omega
  | trans _ _ h1 h2 => rw [h1, h2]
theorem cov_perm (i : Int) (x : ByteArray) {l r : List En} (h : l.Perm r) : cov i x l = cov i x r := tot_perm i (h.filter _)
theorem cov_app (i : Int) (x : ByteArray) (l r : List En) : cov i x (l ++ r) = cov i x l + cov i x r := by
  unfold cov
  rw [List.filter_append, tot_app]
theorem cov_cons (i : Int) (x : ByteArray) (e : En) (l : List En) : cov i x (e :: l) = (if kl x e.k = true then 0 else put1 i e) + cov i x l := by
  unfold cov
  rw [List.filter_cons]
  cases kl x e.k
  · simp [tot_cons]
  · simp
theorem endsL_cons (i : Int) (s : Sn) (l : List Sn) : endsL i (s :: l) = ⟨s.f, i, 1⟩ :: ⟨s.t, i, -1⟩ :: endsL i l := rfl
theorem endsL_app (i : Int) (l r : List Sn) : endsL i (l ++ r) = endsL i l ++ endsL i r := by
  unfold endsL
  rw [List.flatMap_append]
theorem endsL_len (i : Int) : ∀ l : List Sn, (endsL i l).length = 2 * l.length
  | [] => rfl
  | s :: l => by rw [endsL_cons, List.length_cons, List.length_cons, endsL_len i l, List.length_cons]; omega
theorem cov_other {i j : Int} (hij : j ≠ i) (x : ByteArray) : ∀ l : List Sn, cov i x (endsL j l) = 0
  | [] => rfl
  | s :: l => by
    rw [endsL_cons, cov_cons, cov_cons, cov_other hij x l]
    simp [put1, hij]
theorem cov_same (i : Int) (x : ByteArray) : ∀ {l : List Sn}, MaySp l → 0 ≤ cov i x (endsL i l) ∧ (0 < cov i x (endsL i l) ↔ inI l x = true)
  | [], _ => by
    have e : cov i x (endsL i []) = 0 := rfl
    rw [e]
    exact ⟨Int.le_refl _, by simp [inI]⟩
  | s :: l, h => by
    obtain ⟨h1, h2⟩ := cov_same i x (l := l) (fun u hu => h u (by simp [hu]))
    have h3 := chkS_lt (h s (by simp))
    rw [endsL_cons, cov_cons, cov_cons, inI_cons, Bool.or_eq_true, ← h2]
    unfold ihas
    simp only [put1, if_true]
    cases h4 : kl x s.f with
    | true =>
      have h5 := kl_trans h4 h3
      simp [h5]
      exact h1
    | false =>
      cases h5 : kl x s.t with
      | true => simp; omega
      | false => simp; omega
theorem tot_ends (i j : Int) : ∀ l : List Sn, tot i (endsL j l) = 0
  | [] => rfl
  | s :: l => by
    rw [endsL_cons, tot_cons, tot_cons, tot_ends i j l]
    unfold put1
    simp only
    split <;> omega
/-- In their order. -/
def SorE (l : List En) : Prop := l.Pairwise (fun a b => kl b.k a.k = false)
theorem gl_spec (k : ByteArray) : ∀ {es : List En} (x y : Int), SorE es → (∀ e ∈ es, kl e.k k = false) →
    ∃ g, es = g ++ (gl k es x y).1 ∧ (∀ e ∈ g, e.k = k) ∧ (∀ e ∈ (gl k es x y).1, kl k e.k = true) ∧ (gl k es x y).2.1 = x + tot 0 g ∧ (gl k es x y).2.2 = y + tot 1 g
  | [], x, y, _, _ => ⟨[], rfl, fun _ h => (by cases h), fun _ h => (by cases h), by simp [gl, tot], by simp [gl, tot]⟩
  | e :: es, x, y, hs, hk => by
    obtain ⟨h1, h2⟩ := List.pairwise_cons.1 hs
    by_cases he : e.k = k
    · obtain ⟨g, a1, a2, a3, a4, a5⟩ := gl_spec k (es := es) (x + put1 0 e) (y + put1 1 e) h2 (fun u hu => hk u (by simp [hu]))
      have e1 : gl k (e :: es) x y = gl k es (x + put1 0 e) (y + put1 1 e) := by rw [gl, if_pos he]
      rw [e1]
      refine ⟨e :: g, by rw [List.cons_append, ← a1], fun u hu => ?_, a3, by rw [a4, tot_cons]; omega, by rw [a5, tot_cons]; omega⟩
      rcases List.mem_cons.1 hu with rfl | hu
      · exact he
      · exact a2 u hu
    · have e1 : gl k (e :: es) x y = (e :: es, x, y) := by rw [gl, if_neg he]
      rw [e1]
      have h3 : kl k e.k = true := by
        cases h4 : kl k e.k with
        | true => rfl
        | false => exact absurd (kl_total (hk e (by simp)) h4) he
      refine ⟨[], rfl, fun u hu => (by cases hu), fun u hu => ?_, by simp [tot], by simp [tot]⟩
      rcases List.mem_cons.1 hu with rfl | hu
      · exact h3
      · exact kl_lt_le h3 (h1 u hu)
theorem ordS_snoc {l : List Sn} {s : Sn} (h : OrdS l) (h1 : kl s.f s.t = true) (h2 : ∀ u ∈ l, kl u.t s.f = true) : OrdS (l ++ [s]) := by
  induction l with
  | nil => exact ⟨h1, fun u hu => (by cases hu), trivial⟩
  | cons v l ih =>
    refine ⟨h.1, fun u hu => ?_, ih h.2.2 (fun u hu => h2 u (by simp [hu]))⟩
    rcases List.mem_append.1 hu with hu | hu
    · exact h.2.1 u hu
    · obtain rfl : u = s := by simpa using hu
      exact h2 v (by simp)
theorem cov_done {i : Int} {x : ByteArray} {P r : List En} (hr : ∀ e ∈ r, kl x e.k = true) (hP : ∀ e ∈ P, kl x e.k = false) : cov i x (P ++ r) = tot i P := by
  rw [cov_app]
  have e1 : r.filter (fun e => !kl x e.k) = [] := by
    rw [List.filter_eq_nil_iff]
    intro e he
    simp [hr e he]
  have e2 : P.filter (fun e => !kl x e.k) = P := by
    rw [List.filter_eq_self]
    intro e he
    simp [hP e he]
  unfold cov
  rw [e1, e2]
  simp [tot]
/-- What the ends tell, while they are gone through. -/
structure RkI (W : Bool → Bool → Bool) (E P r : List En) (x y : Int) (fr : ByteArray) (op : Bool) (out : List Sn) : Prop where
  all : E.Perm (P ++ r)
  apart : ∀ p ∈ P, ∀ q ∈ r, kl p.k q.k = true
  hx : x = tot 0 P
  hy : y = tot 1 P
  hop : op = W (decide (0 < x)) (decide (0 < y))
  ord : OrdS out
  low : ∀ s ∈ out, ∀ q ∈ r, kl s.t q.k = true
  fro : op = true → (∀ s ∈ out, kl s.t fr = true) ∧ (∀ q ∈ r, kl fr q.k = true) ∧ fr.size ≤ 33
  siz : ∀ s ∈ out, s.f.size ≤ 33 ∧ s.t.size ≤ 33
  cnt : out.length + r.length ≤ E.length
  has : ∀ k, (∀ q ∈ r, kl k q.k = true) → (inI out k || (op && !kl k fr)) = W (decide (0 < cov 0 k E)) (decide (0 < cov 1 k E))
theorem rk_spec (W : Bool → Bool → Bool) {E : List En} (hE : ∀ e ∈ E, e.k.size ≤ 33) : ∀ (n : Nat) {P r : List En} {x y : Int} {fr : ByteArray} {op : Bool} {out : List Sn}, SorE r → r.length ≤ n → RkI W E P r x y fr op out →
    ∃ P' x' y' fr' op', RkI W E P' [] x' y' fr' op' (rk W n r x y fr op out)
  | 0, P, r, x, y, fr, op, out, hs, hn, h => by
    obtain rfl : r = [] := List.eq_nil_of_length_eq_zero (by omega)
    exact ⟨_, _, _, _, _, h⟩
  | n + 1, P, [], x, y, fr, op, out, hs, hn, h => ⟨_, _, _, _, _, h⟩
  | n + 1, P, e :: es, x, y, fr, op, out, hs, hn, h => by
    obtain ⟨hs1, hs2⟩ := List.pairwise_cons.1 hs
    have hge : ∀ u ∈ e :: es, kl u.k e.k = false := fun u hu => by
      rcases List.mem_cons.1 hu with rfl | hu
      · exact kl_irr _
      · exact hs1 u hu
    obtain ⟨g, a1, a2, a3, a4, a5⟩ := gl_spec e.k (es := e :: es) x y hs hge
    have ek : e.k.size ≤ 33 := hE e (h.all.mem_iff.2 (by simp))
    have hmem : ∀ u ∈ (gl e.k (e :: es) x y).1, u ∈ e :: es := fun u hu => by rw [a1]; simp [hu]
    have hg1 : 0 < g.length := by
      rcases Nat.eq_zero_or_pos g.length with h0 | h0
      · obtain rfl := List.eq_nil_of_length_eq_zero h0
        rw [List.nil_append] at a1
        have := a3 e (by rw [← a1]; simp)
        rw [kl_irr] at this
        cases this
      · exact h0
    have hlen : g.length + (gl e.k (e :: es) x y).1.length = es.length + 1 := by
      have := congrArg List.length a1
      rw [List.length_append, List.length_cons] at this
      omega
    have hsor : SorE (gl e.k (e :: es) x y).1 := by
      have : SorE (g ++ (gl e.k (e :: es) x y).1) := by rw [← a1]; exact hs
      exact (List.pairwise_append.1 this).2.1
    rw [rk]
    generalize hG : gl e.k (e :: es) x y = G at a1 a3 a4 a5 hmem hlen hsor ⊢
    obtain ⟨r', x', y'⟩ := G
    simp only at a1 a3 a4 a5 hmem hlen hsor ⊢
    have hPg : ∀ p ∈ P ++ g, ∀ q ∈ r', kl p.k q.k = true := fun p hp q hq => by
      rcases List.mem_append.1 hp with hp | hp
      · exact h.apart p hp q (hmem q hq)
      · rw [a2 p hp]; exact a3 q hq
    have hall : E.Perm (P ++ g ++ r') := by rw [List.append_assoc, ← a1]; exact h.all
    have hx' : x' = tot 0 (P ++ g) := by rw [tot_app, ← h.hx]; exact a4
    have hy' : y' = tot 1 (P ++ g) := by rw [tot_app, ← h.hy]; exact a5
    have hnew : ∀ k, kl k e.k = false → (∀ q ∈ r', kl k q.k = true) → W (decide (0 < cov 0 k E)) (decide (0 < cov 1 k E)) = W (decide (0 < x')) (decide (0 < y')) := fun k hk hq => by
      have hP : ∀ p ∈ P ++ g, kl k p.k = false := fun p hp => by
        rcases List.mem_append.1 hp with hp | hp
        · exact kl_le_le (klf (h.apart p hp e (by simp))) hk
        · rw [a2 p hp]; exact hk
      rw [cov_perm 0 k hall, cov_perm 1 k hall, cov_done hq hP, cov_done hq hP, ← hx', ← hy']
    have hold : ∀ k, kl k e.k = true → (inI out k || (op && !kl k fr)) = W (decide (0 < cov 0 k E)) (decide (0 < cov 1 k E)) := fun k hk => h.has k (fun q hq => kl_lt_le hk (hge q hq))
    have hgone : ∀ k, kl k e.k = false → inI out k = false := fun k hk => by
      cases h1 : inI out k with
      | false => rfl
      | true =>
        obtain ⟨s, hs3, h2, h3⟩ := inI_mem.1 h1
        have := kl_trans h3 (h.low s hs3 e (by simp))
        rw [this] at hk
        cases hk
    have hlow : ∀ s ∈ out, ∀ q ∈ r', kl s.t q.k = true := fun s hs3 q hq => h.low s hs3 q (hmem q hq)
    have hcnt := h.cnt
    rw [List.length_cons] at hcnt hn
    generalize hw : W (decide (0 < x')) (decide (0 < y')) = w at hnew ⊢
    refine rk_spec W hE n (P := P ++ g) hsor (by omega) ?_
    cases w with
    | true =>
      cases hop : op with
      | true =>
        obtain ⟨b1, b2, b3⟩ := h.fro hop
        refine ⟨hall, hPg, hx', hy', hw.symm, h.ord, hlow, fun _ => ⟨b1, fun q hq => b2 q (hmem q hq), b3⟩, h.siz, by simp; omega, fun k hk => ?_⟩
        show (inI out k || (true && !kl k fr)) = _
        cases hke : kl k e.k with
        | true => rw [← hold k hke, hop]
        | false =>
          have hkf : kl k fr = false := kl_le_le (klf (b2 e (by simp))) hke
          rw [hnew k hke hk, hkf]
          simp
      | false =>
        refine ⟨hall, hPg, hx', hy', hw.symm, h.ord, hlow, fun _ => ⟨fun s hs3 => h.low s hs3 e (by simp), a3, ek⟩, h.siz, by simp; omega, fun k hk => ?_⟩
        show (inI out k || (true && !kl k e.k)) = _
        cases hke : kl k e.k with
        | true => rw [← hold k hke, hop]; simp
        | false => rw [hnew k hke hk]; simp
    | false =>
      cases hop : op with
      | true =>
        obtain ⟨b1, b2, b3⟩ := h.fro hop
        have hfe := b2 e (by simp)
        refine ⟨hall, hPg, hx', hy', hw.symm, ordS_snoc h.ord hfe b1, fun s hs3 q hq => ?_, fun h0 => (by cases h0), fun s hs3 => ?_, by simp; omega, fun k hk => ?_⟩
        · rcases List.mem_append.1 hs3 with hs3 | hs3
          · exact hlow s hs3 q hq
          · obtain rfl : s = ⟨fr, e.k⟩ := by simpa using hs3
            exact a3 q hq
        · rcases List.mem_append.1 hs3 with hs3 | hs3
          · exact h.siz s hs3
          · obtain rfl : s = ⟨fr, e.k⟩ := by simpa using hs3
            exact ⟨b3, ek⟩
        · show (inI (out ++ [⟨fr, e.k⟩]) k || (false && _)) = _
          rw [inI_app]
          cases hke : kl k e.k with
          | true =>
            rw [← hold k hke, hop]
            simp [inI, ihas, hke]
          | false =>
            rw [hnew k hke hk, hgone k hke]
            simp [inI, ihas, hke]
      | false =>
        refine ⟨hall, hPg, hx', hy', hw.symm, h.ord, hlow, fun h0 => (by cases h0), h.siz, by simp; omega, fun k hk => ?_⟩
        show (inI out k || (false && _)) = _
        cases hke : kl k e.k with
        | true => rw [← hold k hke, hop]; simp
        | false => rw [hnew k hke hk, hgone k hke]; simp
/-- The list in order that has what is wanted. -/
structure Spe (W : Bool → Bool → Bool) (a b out : List Sn) : Prop where
  ord : OrdS out
  has : ∀ k, inI out k = W (inI a k) (inI b k)
  siz : ∀ s ∈ out, s.f.size ≤ 33 ∧ s.t.size ≤ 33
  cnt : out.length ≤ 2 * a.length + 2 * b.length
theorem ends_siz {i : Int} : ∀ {l : List Sn}, MaySp l → ∀ e ∈ endsL i l, e.k.size ≤ 33
  | [], _, e, he => by cases he
  | s :: l, h, e, he => by
    have h1 := chkS_le (h s (by simp))
    rw [endsL_cons] at he
    rcases List.mem_cons.1 he with rfl | he
    · exact h1.1
    · rcases List.mem_cons.1 he with rfl | he
      · exact h1.2
      · exact ends_siz (fun u hu => h u (by simp [hu])) e he
theorem reck_spec (W : Bool → Bool → Bool) (hW : W false false = false) {a b : List Sn} (ha : MaySp a) (hb : MaySp b) {D : List En} (hD : D.Perm (endsAB a b)) (hs : SorE D) :
    Spe W a b (rk W D.length D 0 0 ⟨#[]⟩ false []) := by
  have hE : ∀ e ∈ endsAB a b, e.k.size ≤ 33 := fun e he => by
    rcases List.mem_append.1 he with he | he
    · exact ends_siz ha e he
    · exact ends_siz hb e he
  have hcov0 : ∀ k, decide (0 < cov 0 k (endsAB a b)) = inI a k := fun k => by
    rw [endsAB, cov_app, cov_other (i := 0) (j := 1) (by decide), Int.add_zero]
    have := (cov_same 0 k ha).2
    cases h : inI a k <;> simp [h] at this ⊢ <;> omega
  have hcov1 : ∀ k, decide (0 < cov 1 k (endsAB a b)) = inI b k := fun k => by
    rw [endsAB, cov_app, cov_other (i := 1) (j := 0) (by decide), Int.zero_add]
    have := (cov_same 1 k hb).2
    cases h : inI b k <;> simp [h] at this ⊢ <;> omega
  have hst : ∀ k, (∀ q ∈ D, kl k q.k = true) → (inI [] k || (false && !kl k ⟨#[]⟩)) = W (decide (0 < cov 0 k (endsAB a b))) (decide (0 < cov 1 k (endsAB a b))) := fun k hk => by
    have e0 : ∀ i, cov i k (endsAB a b) = 0 := fun i => by
      rw [cov_perm i k hD.symm]
      unfold cov
      rw [show D.filter (fun e => !kl k e.k) = [] from by
        rw [List.filter_eq_nil_iff]
        intro e he
        simp [hk e he]]
      rfl
    rw [e0, e0]
    simp [inI, hW]
  obtain ⟨P, x, y, fr, op, h⟩ := rk_spec W hE D.length (P := []) (r := D) (x := 0) (y := 0) (fr := ⟨#[]⟩) (op := false) (out := []) hs (Nat.le_refl _)
    ⟨hD.symm, fun p hp => (by cases hp), rfl, rfl, by simp [hW], trivial, fun s hs => (by cases hs), fun h0 => (by cases h0), fun s hs => (by cases hs), by simp [hD.length_eq], fun k hk => hst k hk⟩
  have hop : op = false := by
    have e0 : ∀ i, tot i P = 0 := fun i => by
      have h1 := tot_perm i h.all
      rw [List.append_nil, endsAB, tot_app, tot_ends, tot_ends] at h1
      omega
    rw [h.hop, h.hx, h.hy, e0, e0]
    simp [hW]
  refine ⟨h.ord, fun k => ?_, h.siz, ?_⟩
  · have := h.has k (fun q hq => by cases hq)
    rw [hop, hcov0, hcov1] at this
    simpa using this
  · have := h.cnt
    rw [endsAB, List.length_append, endsL_len, endsL_len] at this
    simpa using this
end Go.Proofs.Ytdpdokgbockmbaa
