/- A cloth's network as a grid: mathematics. · A walk through a matrix, and the way back: mathematics. · A grid of numbers in memory. · Walks: the reference's way. -/
import Derived.Test.YtilcbbdmenknfaaM22
import Derived.Test.YtilcbbdmenknfaaM14
import Derived.Test.YtilcbbdmenknfaaM4
import Derived.Test.YtilcbbdmenknfaaM9
import Derived.Deep.LoopGhost
namespace Go.Proofs.Ytilcbbdmenknfaa
open Go.RowKit

/-- what the grid holds of the cells below k -/
def Cl.gc (c : Cl) (r : Int) (k : Nat) (i j : Nat) : Int :=
  if j < k ∧ i = c.nb then (if 0 < -c.more r j then -c.more r j else 0) else if i < k ∧ j = c.nb + 1 then (if 0 < -c.more r i then 0 else c.more r i) else 0
/-- .. and of the first q pairs -/
def Cl.gp (c : Cl) (q : Nat) (i j : Nat) : Int := sm q fun p => (if (c.prs.f p).toNat = i ∧ (c.prs.t p).toNat = j then c.prs.c p else 0) + (if (c.prs.t p).toNat = i ∧ (c.prs.f p).toNat = j then c.prs.c p else 0)
/-- the whole grid -/
def Cl.gr (c : Cl) (r : Int) (q : Nat) (i j : Nat) : Int := c.gc r c.nb i j + c.gp q i j

theorem rc_add (N : Nat) (y z : Nat → Nat → Int) (S : Nat → Bool) : rc N (fun i j => y i j + z i j) S = rc N y S + rc N z S := by
  unfold rc
  rw [← sm_add]
  refine sm_congr fun i _ => ?_
  rw [← sm_add]
  refine sm_congr fun j _ => ?_
  dsimp only
  split <;> omega
theorem rc_sum (N q : Nat) (f : Nat → Nat → Nat → Int) (S : Nat → Bool) : rc N (fun i j => sm q fun p => f p i j) S = sm q fun p => rc N (f p) S := by
  induction q with
  | zero =>
    show rc N (fun _ _ => 0) S = 0
    unfold rc
    refine Eq.trans (sm_congr (g := fun _ => 0) fun i _ => Eq.trans (sm_congr (g := fun _ => 0) fun j _ => by split <;> rfl) (sm_zero N)) (sm_zero N)
  | succ q ih =>
    show rc N (fun i j => (sm q fun p => f p i j) + f q i j) S = (sm q fun p => rc N (f p) S) + rc N (f q) S
    rw [rc_add, ih]
theorem rc_cell {N a b : Nat} (v : Int) (S : Nat → Bool) (ha : a < N) (hb : b < N) : rc N (fun i j => if a = i ∧ b = j then v else 0) S = if S a = true ∧ S b = false then v else 0 := by
  have h1 : rc N (fun i j => if a = i ∧ b = j then v else 0) S = sm N fun i => if i = a then (if S i = true ∧ S b = false then v else 0) else 0 := by
    refine sm_congr fun i _ => ?_
    have h2 : (sm N fun j => if S i = true ∧ S j = false then (if a = i ∧ b = j then v else 0) else 0) = sm N fun j => if j = b then (if i = a then (if S i = true ∧ S j = false then v else 0) else 0) else 0 := by
      refine sm_congr fun j _ => ?_
      by_cases e1 : i = a
      · by_cases e2 : j = b
        · subst e1 e2; simp
        · rw [if_neg e2]
          have : ¬ (a = i ∧ b = j) := fun h => e2 h.2.symm
          rw [if_neg this]; split <;> rfl
      · have : ¬ (a = i ∧ b = j) := fun h => e1 h.1.symm
        rw [if_neg this, if_neg e1]
        split <;> split <;> rfl
    rw [h2, sm_one, if_pos hb]
  rw [h1, sm_one, if_pos ha]
theorem rc_congr {N : Nat} {y z : Nat → Nat → Int} (S : Nat → Bool) (h : ∀ i j, i < N → j < N → y i j = z i j) : rc N y S = rc N z S := by
  refine sm_congr fun i hi => sm_congr fun j hj => ?_
  rw [h i j hi hj]
/-- the cells' part, cell by cell -/
theorem gc_sum (c : Cl) (r : Int) {i j : Nat} (hi : i < c.nb + 2) (hj : j < c.nb + 2) : c.gc r c.nb i j = sm c.nb fun p => (if c.nb = i ∧ p = j then (if 0 < -c.more r p then -c.more r p else 0) else 0) + (if p = i ∧ c.nb + 1 = j then (if 0 < -c.more r p then 0 else c.more r p) else 0) := by
  rw [sm_add]
  have e1 : (sm c.nb fun p => if c.nb = i ∧ p = j then (if 0 < -c.more r p then -c.more r p else 0) else 0) = if j < c.nb ∧ i = c.nb then (if 0 < -c.more r j then -c.more r j else 0) else 0 := by
    by_cases e : i = c.nb
    · have : (sm c.nb fun p => if c.nb = i ∧ p = j then (if 0 < -c.more r p then -c.more r p else 0) else 0) = sm c.nb fun p => if p = j then (if 0 < -c.more r p then -c.more r p else 0) else 0 := sm_congr fun p _ => by simp [e]
      rw [this, sm_one]
      simp [e]
    · rw [if_neg (fun h => e h.2)]
      refine Eq.trans (sm_congr (g := fun _ => 0) fun p _ => by rw [if_neg (fun h => e h.1.symm)]) (sm_zero _)
  have e2 : (sm c.nb fun p => if p = i ∧ c.nb + 1 = j then (if 0 < -c.more r p then 0 else c.more r p) else 0) = if i < c.nb ∧ j = c.nb + 1 then (if 0 < -c.more r i then 0 else c.more r i) else 0 := by
    by_cases e : j = c.nb + 1
    · have : (sm c.nb fun p => if p = i ∧ c.nb + 1 = j then (if 0 < -c.more r p then 0 else c.more r p) else 0) = sm c.nb fun p => if p = i then (if 0 < -c.more r p then 0 else c.more r p) else 0 := sm_congr fun p _ => by simp [e]
      rw [this, sm_one]
      simp [e]
    · rw [if_neg (fun h => e h.2)]
      refine Eq.trans (sm_congr (g := fun _ => 0) fun p _ => by rw [if_neg (fun h => e h.2.symm)]) (sm_zero _)
  rw [e1, e2]
  unfold Cl.gc
  by_cases a : j < c.nb ∧ i = c.nb
  · have b : ¬ (i < c.nb ∧ j = c.nb + 1) := by omega
    rw [if_pos a, if_pos a, if_neg b, Int.add_zero]
  · rw [if_neg a, if_neg a, Int.zero_add]
/-- what can be carried across a side of the grid is its cost in the program's network -/
theorem gr_ct {c : Cl} (hc : vCl c = true) (r : Int) {S : Nat → Bool} (hS : Nw.Sd c.nb (c.nb + 1) S) : rc (c.nb + 2) (c.gr r c.prs.n) S = (c.nwa r).nw.ct S := by
  have h0 : rc (c.nb + 2) (c.gr r c.prs.n) S = rc (c.nb + 2) (c.gc r c.nb) S + rc (c.nb + 2) (c.gp c.prs.n) S := rc_add _ _ _ _
  have h1 : rc (c.nb + 2) (c.gc r c.nb) S = sm c.nb fun p => (if S p = false then (if 0 < -c.more r p then -c.more r p else 0) else 0) + (if S p = true then (if 0 < -c.more r p then 0 else c.more r p) else 0) := by
    rw [rc_congr S (fun i j hi hj => gc_sum c r hi hj), rc_sum]
    refine sm_congr fun p hp => ?_
    rw [rc_add, rc_cell _ S (by omega) (by omega), rc_cell _ S (by omega) (by omega)]
    simp only [hS.1, hS.2, true_and, and_true]
  have h2 : rc (c.nb + 2) (c.gp c.prs.n) S = sm c.prs.n (c.pt S) := by
    show rc (c.nb + 2) (fun i j => sm c.prs.n fun p => _) S = _
    rw [rc_sum]
    refine sm_congr fun p hp => ?_
    obtain ⟨u, v, hu, hv, hun, hvn, h5, -⟩ := prs_in hc hp
    rw [rc_add, hu, hv, Int.toNat_natCast, Int.toNat_natCast, rc_cell _ S (by omega) (by omega), rc_cell _ S (by omega) (by omega)]
    unfold Cl.pt
    rw [hu, hv, Int.toNat_natCast, Int.toNat_natCast]
    cases S u <;> cases S v <;> simp
  have h3 := ct_en hc r hS
  have h4 : (sm c.nb fun p => (if S p = false then (if 0 < -c.more r p then -c.more r p else 0) else 0) + (if S p = true then (if 0 < -c.more r p then 0 else c.more r p) else 0)) + c.any r = sm c.nb (c.dt r S) := by
    unfold Cl.any
    rw [← sm_add]
    refine sm_congr fun p _ => ?_
    unfold Cl.dt Cl.more
    cases S p <;> simp <;> split <;> split <;> omega
  have h5 : c.en r S = sm c.nb (c.dt r S) + sm c.prs.n (c.pt S) := rfl
  rw [h0, h1, h2]
  omega
theorem gp_bd {c : Cl} (hc : vCl c = true) {q : Nat} (hq : q ≤ c.prs.n) (i j : Nat) : 0 ≤ c.gp q i j ∧ c.gp q i j ≤ q * 2000 := by
  refine ⟨sm_nonneg fun p hp => ?_, sm_const_le fun p hp => ?_⟩
  · obtain ⟨u, v, -, -, -, -, h5, h6⟩ := prs_in hc (k := p) (by omega)
    split <;> split <;> omega
  · obtain ⟨u, v, -, -, -, -, h5, h6⟩ := prs_in hc (k := p) (by omega)
    split <;> split <;> omega
theorem more_bd {c : Cl} (hc : vCl c = true) {r : Int} (h1 : -100000 ≤ r) (h2 : r ≤ 100000) {k : Nat} (hk : k < c.nb) : -200000 ≤ c.more r k ∧ c.more r k ≤ 200000 := by
  obtain ⟨-, -, ⟨v5, v6⟩, ⟨v7, v8⟩, -, -⟩ := vCl_ok hc
  have h5 := v6 k hk; have h6 := v8 k (by omega)
  unfold Cl.more; omega
theorem gc_bd {c : Cl} (hc : vCl c = true) {r : Int} (h1 : -100000 ≤ r) (h2 : r ≤ 100000) {k : Nat} (hk : k ≤ c.nb) (i j : Nat) : 0 ≤ c.gc r k i j ∧ c.gc r k i j ≤ 200000 := by
  unfold Cl.gc
  split
  · rename_i h
    have := more_bd hc h1 h2 (k := j) (by omega)
    split <;> omega
  · split
    · rename_i h
      have := more_bd hc h1 h2 (k := i) (by omega)
      split <;> omega
    · omega
end Go.Proofs.Ytilcbbdmenknfaa
namespace Go.Proofs.Ytilcbbdmenknfaa

/-- what holds while the walk is under way: l has been found, the first K of it have been looked at, and of the next one the first i columns -/
structure Wz (N s : Nat) (y : Nat → Nat → Int) (R : Nat → Bool) (la rk : Nat → Nat) (l : List Nat) (K i : Nat) : Prop where
  root : R s = true
  low : ∀ v, R v = true → v < N
  lal : ∀ v, R v = true → la v < N
  tree : ∀ v, v < N → R v = true → v ≠ s → la v < N ∧ R (la v) = true ∧ 0 < y (la v) v ∧ rk (la v) < rk v
  rkb : ∀ v, R v = true → rk v < l.length
  all : ∀ v, R v = true → v ∈ l
  qin : ∀ v, v ∈ l → R v = true
  len : un R N + l.length ≤ N
  fin : ∀ m, m < K → ∀ j, j < N → 0 < y (l.getD m 0) j → R j = true
  now : ∀ j, j < i → 0 < y (l.getD K 0) j → R j = true
  le : K ≤ l.length
section
variable {N s : Nat} {y : Nat → Nat → Int} {R : Nat → Bool} {la rk : Nat → Nat} {l : List Nat} {K i : Nat}
theorem getD_snoc {l : List Nat} {v m : Nat} (h : m < l.length) : (l ++ [v]).getD m 0 = l.getD m 0 := by
  simp only [List.getD_eq_getElem?_getD]; rw [List.getElem?_append_left h]
theorem Wz.start (y : Nat → Nat → Int) (hs : s < N) : Wz N s y (up (fun _ => false) s true) (fun _ => s) (fun _ => 0) [s] 0 0 := by
  have h1 : ∀ v, up (fun _ => false) s true v = true → v = s := by
    intro v h
    by_cases e : v = s
    · exact e
    · rw [up_ne _ _ e] at h; cases h
  refine ⟨up_self _ _ _, fun v h => by rw [h1 v h]; exact hs, fun _ _ => hs, fun v _ h hne => absurd (h1 v h) hne, fun _ _ => by simp, fun v h => by rw [h1 v h]; simp, fun v h => by simp at h; subst h; exact up_self _ _ _, ?_, fun _ h => by omega, fun _ h => by omega, by simp⟩
  have : un (up (fun _ => false) s true) N + 1 = un (fun _ => false) N := un_up hs rfl
  have := un_le (fun _ => false) N
  simp only [List.length_singleton]
  omega
theorem Wz.mem (_h : Wz N s y R la rk l K i) (hK : K < l.length) : l.getD K 0 ∈ l := by
  rw [List.getD_eq_getElem?_getD, List.getElem?_eq_getElem hK]; simp
theorem Wz.push (h : Wz N s y R la rk l K i) (hK : K < l.length) (hi : i < N) (hy : 0 < y (l.getD K 0) i) (hn : R i = false) :
    Wz N s y (up R i true) (up la i (l.getD K 0)) (up rk i l.length) (l ++ [i]) K (i + 1) := by
  have hm : ∀ w, R w = true → w ≠ i := fun w hw e => by rw [e, hn] at hw; cases hw
  have hup : ∀ w, R w = true → up R i true w = true := fun w hw => by rw [up_ne _ _ (hm w hw)]; exact hw
  have hor : ∀ w, up R i true w = true → w = i ∨ (w ≠ i ∧ R w = true) := by
    intro w hw
    by_cases e : w = i
    · exact .inl e
    · rw [up_ne _ _ e] at hw; exact .inr ⟨e, hw⟩
  have hu := h.qin _ (h.mem hK)
  refine ⟨hup _ h.root, fun v hv => ?_, fun v hv => ?_, fun v hv hR hne => ?_, fun v hv => ?_, fun v hv => ?_, fun v hv => ?_, ?_, fun m hm2 j hj hy2 => ?_, fun j hj hy2 => ?_, ?_⟩
  · rcases hor v hv with rfl | ⟨_, h1⟩
    · exact hi
    · exact h.low v h1
  · rcases hor v hv with rfl | ⟨h0, h1⟩
    · rw [up_self]; exact h.low _ hu
    · rw [up_ne _ _ h0]; exact h.lal v h1
  · rcases hor v hR with rfl | ⟨h0, h1⟩
    · rw [up_self, up_self, up_ne rk _ (hm _ hu)]
      exact ⟨h.low _ hu, hup _ hu, hy, h.rkb _ hu⟩
    · obtain ⟨a1, a2, a3, a4⟩ := h.tree v hv h1 hne
      rw [up_ne la _ h0, up_ne rk _ h0, up_ne rk _ (hm _ a2)]
      exact ⟨a1, hup _ a2, a3, a4⟩
  · rw [List.length_append, List.length_singleton]
    rcases hor v hv with rfl | ⟨h0, h1⟩
    · rw [up_self]; omega
    · rw [up_ne _ _ h0]; have := h.rkb v h1; omega
  · rcases hor v hv with rfl | ⟨h0, h1⟩
    · simp
    · exact List.mem_append_left _ (h.all v h1)
  · rcases List.mem_append.1 hv with h1 | h1
    · exact hup v (h.qin v h1)
    · simp at h1; subst h1; exact up_self _ _ _
  · have h1 := un_up (R := R) hi hn
    have h2 := h.len
    rw [List.length_append, List.length_singleton]; omega
  · rw [getD_snoc (by omega)] at hy2
    exact hup _ (h.fin m hm2 j hj hy2)
  · rw [getD_snoc hK] at hy2
    by_cases e : j = i
    · subst e; exact up_self _ _ _
    · exact hup _ (h.now j (by omega) hy2)
  · rw [List.length_append]; have := h.le; omega
theorem Wz.skip (h : Wz N s y R la rk l K i) (hy : 0 < y (l.getD K 0) i → R i = true) : Wz N s y R la rk l K (i + 1) :=
  ⟨h.root, h.low, h.lal, h.tree, h.rkb, h.all, h.qin, h.len, h.fin, fun j hj hy2 => by
    by_cases e : j = i
    · subst e; exact hy hy2
    · exact h.now j (by omega) hy2, h.le⟩
theorem Wz.next (h : Wz N s y R la rk l K N) (hK : K < l.length) : Wz N s y R la rk l (K + 1) 0 :=
  ⟨h.root, h.low, h.lal, h.tree, h.rkb, h.all, h.qin, h.len, fun m hm j hj hy => by
    by_cases e : m = K
    · subst e; exact h.now j hj hy
    · exact h.fin m (by omega) j hj hy, fun _ hj => by omega, hK⟩
theorem Wz.wm (h : Wz N s y R la rk l K i) (hK : ¬ K < l.length) : Wm N s y R la rk :=
  ⟨h.root, h.tree, fun i j hi hj hp hR => by
    obtain ⟨m, hm, e⟩ := List.getElem_of_mem (h.all i hR)
    have e2 : l.getD m 0 = i := by rw [List.getD_eq_getElem?_getD, List.getElem?_eq_getElem hm]; simpa using e
    exact h.fin m (by omega) j hj (by rw [e2]; exact hp)⟩
end

/-- n nodes back from t -/
def bk (la : Nat → Nat) (t : Nat) : Nat → Nat
  | 0 => t
  | n + 1 => la (bk la t n)
theorem bk_shift (la : Nat → Nat) (t n : Nat) : bk la t (n + 1) = bk la (la t) n := by
  induction n with
  | zero => rfl
  | succ n ih => show la (bk la t (n + 1)) = la (bk la (la t) n); rw [ih]
/-- the way back from t to s has L steps -/
structure Bw (N s t : Nat) (y : Nat → Nat → Int) (R : Nat → Bool) (la rk : Nat → Nat) (L : Nat) : Prop where
  fin : bk la t L = s
  mid : ∀ m, m < L → bk la t m ≠ s
  low : ∀ m, m ≤ L → bk la t m < N
  rch : ∀ m, m ≤ L → R (bk la t m) = true
  pos : ∀ m, m < L → 0 < y (bk la t (m + 1)) (bk la t m)
  dec : ∀ m, m < L → rk (bk la t (m + 1)) < rk (bk la t m)
theorem Wm.back {N s : Nat} {y : Nat → Nat → Int} {R : Nat → Bool} {la rk : Nat → Nat} (h : Wm N s y R la rk) : ∀ n t, rk t < n → t < N → R t = true → ∃ L, Bw N s t y R la rk L := by
  intro n
  induction n with
  | zero => intro t ht; omega
  | succ n ih =>
    intro t hr ht hR
    by_cases e : t = s
    · subst e
      refine ⟨0, rfl, fun m hm => by omega, fun m hm => ?_, fun m hm => ?_, fun m hm => by omega, fun m hm => by omega⟩
      · obtain rfl : m = 0 := by omega
        exact ht
      · obtain rfl : m = 0 := by omega
        exact hR
    · obtain ⟨a1, a2, a3, a4⟩ := h.tree t ht hR e
      obtain ⟨L, hL⟩ := ih (la t) (by omega) a1 a2
      refine ⟨L + 1, ?_, fun m hm => ?_, fun m hm => ?_, fun m hm => ?_, fun m hm => ?_, fun m hm => ?_⟩
      · rw [bk_shift]; exact hL.fin
      all_goals cases m with
        | zero => first | exact e | exact ht | exact hR | exact a3 | exact a4
        | succ m =>
          simp only [bk_shift la t]
          first | exact hL.mid m (by omega) | exact hL.low m (by omega) | exact hL.rch m (by omega) | exact hL.pos m (by omega) | exact hL.dec m (by omega)
theorem Bw.ne {N s t L : Nat} {y : Nat → Nat → Int} {R : Nat → Bool} {la rk : Nat → Nat} (h : Bw N s t y R la rk L) : ∀ {m n : Nat}, m < n → n ≤ L → bk la t n ≠ bk la t m := by
  have key : ∀ d m, m + d + 1 ≤ L → rk (bk la t (m + d + 1)) < rk (bk la t m) := by
    intro d
    induction d with
    | zero => intro m hm; exact h.dec m (by omega)
    | succ d ih =>
      intro m hm
      have h1 := ih m (by omega)
      have h2 := h.dec (m + d + 1) (by omega)
      have e : m + (d + 1) + 1 = m + d + 1 + 1 := by omega
      rw [e]; omega
  intro m n hmn hn e
  obtain ⟨d, rfl⟩ : ∃ d, n = m + d + 1 := ⟨n - m - 1, by omega⟩
  have := key d m hn
  rw [e] at this
  omega
/-- one step of the way back: what is left of it can still carry r -/
theorem Bw.keep {N s t L n : Nat} {y z : Nat → Nat → Int} {R : Nat → Bool} {la rk : Nat → Nat} {r : Int} (h : Bw N s t y R la rk L) (hr : 0 ≤ r)
    (hz : ∀ m, n ≤ m → m < L → r ≤ z (bk la t (m + 1)) (bk la t m)) : ∀ m, n + 1 ≤ m → m < L → r ≤ psh z (bk la t (n + 1)) (bk la t n) r (bk la t (m + 1)) (bk la t m) := by
  intro m h1 h2
  have := hz m (by omega) h2
  exact Int.le_trans this (psh_other hr (h.ne (by omega) (by omega)))
end Go.Proofs.Ytilcbbdmenknfaa
namespace Go.Proofs.Ytilcbbdmenknfaa
open Go.RowKit

/-- the grid of N rows at block b: row i lies at block b + 1 + i -/
structure Gd (W : World) (b N : Nat) (y : Nat → Nat → Int) : Prop where
  top : Bk W b 33 N (fun i => .slice (some ⟨b + 1 + i, 0, none⟩) N N)
  row : ∀ i, i < N → BI W (b + 1 + i) N (y i)
section
variable {w w' : World} {b N : Nat} {y : Nat → Nat → Int}
theorem Gd.ext (h : Gd w b N y) (e : Ext w w') : Gd w' b N y := ⟨h.top.ext e, fun i hi => (h.row i hi).ext e⟩
theorem Gd.congr {z : Nat → Nat → Int} (h : Gd w b N y) (e : ∀ i j, i < N → j < N → y i j = z i j) : Gd w b N z :=
  ⟨h.top, fun i hi => Bk.congr (h.row i hi) fun j hj => by rw [e i j hi hj]⟩
theorem Gd.cellT (h : Gd w b N y) {i : Nat} (hi : i < N) : w.cell? ⟨b, i, none⟩ = some (.slice (some ⟨b + 1 + i, 0, none⟩) N N) := Bk.cell h.top hi
theorem Gd.cell (h : Gd w b N y) {i j : Nat} (hi : i < N) (hj : j < N) : w.cell? ⟨b + 1 + i, j, none⟩ = some (.int .i64 (y i j)) := Bk.cell (h.row i hi) hj
theorem Gd.lt (h : Gd w b N y) {i : Nat} (hi : i < N) : b + 1 + i < w.heap.size := Bk.lt (h.row i hi)
theorem Gd.set_ (h : Gd w b N y) (i j : Nat) (v : Int) : Gd (w.setCell ⟨b + 1 + i, j, none⟩ (.int .i64 v)) b N (fun p q => if p = i ∧ q = j then v else y p q) := by
  refine ⟨Bk.far h.top (by show b ≠ b + 1 + i; omega) _, fun p hp => ?_⟩
  by_cases e : p = i
  · subst e
    refine Bk.congr (BI.set_ (h.row p hp) j v) fun q _ => ?_
    by_cases e2 : q = j
    · subst e2; simp only [up_self, and_self, if_true]
    · simp only [up_ne _ _ e2, and_false, e2, if_false]
  · refine Bk.congr (Bk.far (h.row p hp) (by show b + 1 + p ≠ b + 1 + i; omega) _) fun q _ => ?_
    simp only [e, false_and, if_false]
theorem Gd.far (h : Gd w b N y) {p : Addr} (hp : p.block < b) (v : Value) : Gd (w.setCell p v) b N y :=
  ⟨Bk.far h.top (by omega) _, fun i hi => Bk.far (h.row i hi) (by omega) _⟩
end
end Go.Proofs.Ytilcbbdmenknfaa
namespace Go.Proofs.Ytilcbbdmenknfaa
open Go.RowKit

/-- what holds while the walk is under way -/
structure Wd (W : World) (N s : Nat) (y : Nat → Nat → Int) (g : Nat) (q : Value) (wr : World) (R : Nat → Bool) (la rk : Nat → Nat) (l : List Nat) (K i : Nat) : Prop where
  qs : Qs wr W.heap.size q l.length (fun i => ((l.getD i 0 : Nat) : Int))
  own : q.ownBlock ≠ some g
  bF : BI wr g N (fun v => if R v = true then ((la v : Nat) : Int) else -1)
  wz : Wz N s y R la rk l K i
  ext : Ext W wr
theorem Wd.next {W X Y : World} {N s g K i : Nat} {y : Nat → Nat → Int} {q : Value} {R : Nat → Bool} {la rk : Nat → Nat} {l : List Nat} (h : Wd W N s y g q X R la rk l K i) (e : Ext X Y) : Wd W N s y g q Y R la rk l K i :=
  ⟨h.qs.ext e, h.own, h.bF.ext e, h.wz, h.ext.trans e⟩

set_option maxHeartbeats 4000000 in
set_option maxRecDepth 100000 in
theorem way_any (b N s : Nat) (y : Nat → Nat → Int) (W : World) (hG : Gd W b N y) (hN : N ≤ 100) (hs : s < N) :
    Calls Try.prog 79 #[.slice (some ⟨b, 0, none⟩) N N, .int .i64 s] W fun e W' => ∃ R la rk h,
      e = .returned (.slice (some ⟨h, 0, none⟩) N N) ∧ W.heap.size ≤ h ∧ BI W' h N (fun v => if R v = true then ((la v : Nat) : Int) else -1) ∧ Wm N s y R la rk ∧ (∀ v, R v = true → v < N ∧ la v < N) ∧ Ext W W' := by
  have hm1 : ∀ w, (Instr.makeSlice 33 (.int .i64 (N : Int)) (.int .i64 (N : Int))).run Try.prog w = .ok (.slice (some ⟨w.heap.size, 0, none⟩) N N) (w.alloc (.cells (Array.ofFn fun _ : Fin N => .int .i64 0) 3)) := fun w => make_one 33 3 _ 8 Try.underlying33 info3 rfl (by omega) N (by omega) w
  have HG := Lib.hid hG
  clear hG
  go_enter Try.func79, Try.ntmps79
  go_wp2_with fail
  have y1 : BI (W.alloc (.cells (Array.ofFn fun _ : Fin N => Value.int .i64 0) 3)) W.heap.size N (fun _ => 0) := heap_alloc_new W _
  have e1 : Ext W (W.alloc (.cells (Array.ofFn fun _ : Fin N => Value.int .i64 0) 3)) := Ext.alc (Ext.refl _) _
  have z1 : (W.alloc (.cells (Array.ofFn fun _ : Fin N => Value.int .i64 0) 3)).heap.size = W.heap.size + 1 := by simp
  generalize W.alloc (.cells (Array.ofFn fun _ : Fin N => Value.int .i64 0) 3) = W1 at *
  have Y1 := Lib.hid y1; have E1 := Lib.hid e1
  obtain ⟨g, hg⟩ : ∃ g, g = W.heap.size := ⟨_, rfl⟩
  rw [← hg] at z1 Y1
  rw [← hg]
  have hgW : W.heap.size ≤ g := by omega
  have Hg := Lib.hid hg
  clear y1 e1 hg
  go_loopw [16] (fun i wr => ∃ k : Nat, i = .int .i64 k ∧ k ≤ N ∧ Hid (BI wr g N (fun v => if v < k then -1 else 0) ∧ wr.heap.size = g + 1 ∧ Ext W wr)) (fun i _ => N - (intOf i).toNat)
  case atStart => exact ⟨0, rfl, Nat.zero_le _, Lib.hid ⟨Bk.congr Y1.out (fun j _ => by simp), z1, E1.out⟩⟩
  case round =>
    clear z1 E1 Y1
    obtain ⟨k, rfl, hk, hin⟩ := hrel
    by_cases hlt : k < N
    · have c6 := Bk.cell hin.out.1 hlt
      have f6 := Bk.free hin.out.1 k
      go_wp2
      go_roundw
      case rel =>
        refine ⟨k + 1, by go_num, by omega, Lib.hid ⟨Bk.congr (BI.set_ hin.out.1 k (-1)) fun j hj => ?_, by simp [World.setCell]; exact hin.out.2.1, hin.out.2.2.sc (by omega)⟩⟩
        by_cases e : j = k
        · subst e; rw [up_self]; dsimp only; rw [if_pos (by omega)]
        · rw [up_ne _ _ e]; dsimp only
          by_cases e2 : j < k
          · rw [if_pos e2, if_pos (by omega)]
          · rw [if_neg e2, if_neg (by omega)]
      case measure => simp [intOf]; omega
    · obtain rfl : k = N := by omega
      have c6 := Bk.cell hin.out.1 hs
      have f6 := Bk.free hin.out.1 s
      have y2 := BI.set_ hin.out.1 s s
      have e2 : Ext W (wr.setCell ⟨g, s, none⟩ (.int .i64 s)) := hin.out.2.2.sc (by omega)
      have z2 : (wr.setCell ⟨g, s, none⟩ (.int .i64 s)).heap.size = g + 1 := by simp [World.setCell]; exact hin.out.2.1
      have z3 : (wr.setCell ⟨g, s, none⟩ (.int .i64 s)).heap.size = wr.heap.size := by simp [World.setCell]
      have Y2 := Lib.hid y2; have E2 := Lib.hid e2; have Z2 := Lib.hid (And.intro z2 z3)
      clear y2 e2 z2 z3
      go_wp2_with fail
      clear c6 f6 hin
      generalize wr.setCell ⟨g, s, none⟩ (.int .i64 s) = w2 at *
      go_loopw [7, 8] (fun q i wr => ∃ K : Nat, i = .int .i64 K ∧ Hid (∃ R la rk l, Wd W k s y g q wr R la rk l K 0)) (fun _ i _ => k + 1 - (intOf i).toNat)
      case atStart =>
        have hq := Qs.one w2 W.heap.size s (by rw [Z2.out.1]; omega) (fun i => (([s].getD i 0 : Nat) : Int)) rfl
        rw [Z2.out.2] at hq
        have hz2 := Z2.out.1
        have hz3 := Z2.out.2
        refine ⟨0, rfl, Lib.hid ⟨_, _, _, [s], hq, ?_, ?_, Wz.start y hs, E2.out.alc _⟩⟩
        · simp [Value.ownBlock]; omega
        · refine Bk.congr (BI.ext Y2.out (Ext.alc (Ext.refl _) _)) fun j hj => ?_
          by_cases e : j = s
          · subst e; simp only [up_self, if_true]
          · simp only [up_ne _ _ e, if_pos hj, Bool.false_eq_true, if_false]
      case round =>
        clear Y2 E2 Z2
        obtain ⟨K, rfl, hin⟩ := hrel
        obtain ⟨R, la, rk, l, hwd⟩ := hin.out
        clear hin
        have hlN : l.length ≤ k := by have := hwd.wz.len; omega
        have HWD := Lib.hid hwd
        obtain ⟨A, c, rfl, hlc, hcm, hcell⟩ := hwd.qs.il
        clear hwd
        by_cases hlt : K < l.length
        · obtain ⟨b2, off, rfl, hb2, hcl⟩ := hcell (by omega)
          have c7 := hcl K hlt
          obtain ⟨u, hu⟩ : ∃ u, u = l.getD K 0 := ⟨_, rfl⟩
          dsimp only at c7
          rw [← hu] at c7
          have huN : u < k := by rw [hu]; exact HWD.out.wz.low _ (HWD.out.wz.qin _ (HWD.out.wz.mem hlt))
          have c8 := Gd.cellT (HG.out.ext HWD.out.ext) huN
          have HU := Lib.hid hu
          obtain ⟨n, hn⟩ : ∃ n, n = l.length := ⟨_, rfl⟩
          rw [← hn] at hlt hlN hlc hcl ⊢
          have HNL := Lib.hid hn
          clear hu hcell hcl hn
          go_wp2_with fail
          clear c7 c8
          go_loopw [7, 43] (fun q i wr => ∃ m : Nat, i = .int .i64 m ∧ m ≤ k ∧ Hid (∃ R la rk l, Wd W k s y g q wr R la rk l K m ∧ l.getD K 0 = u ∧ K < l.length)) (fun _ i _ => k - (intOf i).toNat)
          case atStart => exact ⟨0, rfl, Nat.zero_le _, Lib.hid ⟨R, la, rk, l, by have h := HWD.out; rw [← HNL.out] at h; exact h, HU.out.symm, by rw [← HNL.out]; exact hlt⟩⟩
          case round =>
            clear HWD HU HNL hlt hlN hlc
            obtain ⟨m, rfl, hm, hin⟩ := hrel
            by_cases hlt2 : m < k
            · obtain ⟨R, la, rk, l, hwd, hlu, hKl⟩ := hin.out
              have hlN : l.length ≤ k := by have := hwd.wz.len; omega
              have HWD := Lib.hid hwd; have HLU := Lib.hid hlu
              obtain ⟨A, c, rfl, hlc, hcm, hcell⟩ := hwd.qs.il
              clear hin hwd
              obtain ⟨b3, off3, rfl, hb3, hcl⟩ := hcell (by omega)
              have c7 := hcl K hKl
              dsimp only at c7
              rw [hlu] at c7
              clear hcell hcl hlu
              have c9 := Gd.cell (HG.out.ext HWD.out.ext) huN hlt2
              obtain ⟨z, hz⟩ : ∃ z, z = y u m := ⟨_, rfl⟩
              rw [← hz] at c9
              have HZ := Lib.hid hz
              clear hz
              have c6 := Bk.cell HWD.out.bF hlt2
              have f6 := Bk.free HWD.out.bF m
              by_cases h0 : 0 < z
              · cases hR : R m
                · simp only [hR, Bool.false_eq_true, if_false] at c6
                  have HR := Lib.hid hR
                  have HKL := Lib.hid hKl
                  clear hR
                  obtain ⟨n, hn⟩ : ∃ n, n = l.length := ⟨_, rfl⟩
                  rw [← hn] at hKl hlN hlc ⊢
                  have HNL := Lib.hid hn
                  clear hn
                  go_upto_region 17 with fail
                  have y1 := BI.set_ HWD.out.bF m u
                  have yq : Qs (wr.setCell ⟨g, m, none⟩ (.int .i64 u)) W.heap.size (.slice (some ⟨b3, off3, none⟩) l.length c) l.length (fun i => ((l.getD i 0 : Nat) : Int)) := HWD.out.qs.block (by simp [World.setCell]) (fun g' hg' => by
                    rw [Below.heap_setCell _ ⟨g, m, none⟩ _ g' (fun e => HWD.out.own (by rw [hg']; exact congrArg some e))])
                  have ye : Ext W (wr.setCell ⟨g, m, none⟩ (.int .i64 u)) := HWD.out.ext.sc (by omega)
                  have ys : g < (wr.setCell ⟨g, m, none⟩ (.int .i64 u)).heap.size := by have := Bk.lt HWD.out.bF; simpa [World.setCell] using this
                  have yo := HWD.out.own
                  rw [← HNL.out] at yq yo
                  have YO := Lib.hid yo; have YW := Lib.hid HWD.out.wz; have Y1 := Lib.hid y1; have YQ := Lib.hid yq; have YE := Lib.hid ye
                  clear y1 yq ye yo c6 f6 c7 c9 HWD
                  generalize wr.setCell ⟨g, m, none⟩ (.int .i64 u) = w3 at *
                  have yle : W.heap.size ≤ w3.heap.size := YE.out.size
                  obtain ⟨i0, hi, hz0, hz1, hz2⟩ := info_parts info3
                  go_wp2_with (at_builtin; refine wpList_append_q rfl _ _ 33 rfl i0 Try.underlying33 hi hz0 hz1 hz2 W.heap.size _ n (fun i => ((l.getD i 0 : Nat) : Int)) rfl ?qs ?base ⟨w3.heap.size, 0, none⟩ 1 m rfl ?cell ?n ?_)
                  case qs => exact YQ.out.ext (Ext.alc (Ext.refl _) _)
                  case base => simp; omega
                  case cell => rw [World.cell?_alloc_new]; rfl
                  case n => omega
                  intro v' w4 hq4 hgr
                  have g3 := hgr.bi (Y1.out.ext (Ext.alc (Ext.refl _) _)) YO.out
                  have ge := hgr.ext (YE.out.alc _) (fun b hb => (YQ.out.1 b hb).1)
                  have o1 := hgr.apart (b := g) (by simp; omega) YO.out
                  have HH := Lib.hid (And.intro hq4 (And.intro g3 (And.intro ge o1)))
                  clear hq4 hgr g3 ge o1
                  go_wp2
                  go_roundw
                  case rel =>
                    obtain ⟨hq4, g3, ge, o1⟩ := HH.out
                    have hnl := HNL.out
                    have hKl2 : K < l.length := by omega
                    have hp := YW.out.push hKl2 hlt2 (by rw [HLU.out, ← HZ.out]; exact h0) HR.out
                    rw [HLU.out] at hp
                    refine ⟨m + 1, by go_num, by omega, Lib.hid ⟨_, _, _, l ++ [m], ⟨?_, o1, ?_, hp, ge⟩, by rw [getD_snoc hKl2]; exact HLU.out, by rw [List.length_append]; omega⟩⟩
                    · rw [List.length_append, List.length_singleton, ← hnl]
                      refine hq4.congr fun i hi => ?_
                      by_cases e : i = n
                      · subst e; rw [up_self, hnl]; simp
                      · rw [up_ne _ _ e]; simp only [List.getD_eq_getElem?_getD]; rw [List.getElem?_append_left (by omega)]
                    · refine Bk.congr g3 fun j _ => ?_
                      by_cases e : j = m
                      · subst e; simp only [up_self, if_true]
                      · simp only [up_ne _ _ e]
                  case measure => simp [intOf]; omega
                · simp only [hR, if_true] at c6
                  have HR := Lib.hid hR
                  clear hR
                  obtain ⟨lv, hlv⟩ : ∃ lv : Int, lv = ((la m : Nat) : Int) := ⟨_, rfl⟩
                  have hlv0 : 0 ≤ lv := by omega
                  rw [← hlv] at c6
                  clear hlv c7
                  go_wp2
                  go_roundw
                  case rel => exact ⟨m + 1, by go_num, by omega, Lib.hid ⟨R, la, rk, l, ⟨HWD.out.qs, HWD.out.own, HWD.out.bF, HWD.out.wz.skip (fun _ => HR.out), HWD.out.ext⟩, HLU.out, hKl⟩⟩
                  case measure => simp [intOf]; omega
              · clear c6 c7
                go_wp2
                go_roundw
                case rel => exact ⟨m + 1, by go_num, by omega, Lib.hid ⟨R, la, rk, l, ⟨HWD.out.qs, HWD.out.own, HWD.out.bF, HWD.out.wz.skip (fun h => absurd (by rw [HLU.out, ← HZ.out] at h; exact h) h0), HWD.out.ext⟩, HLU.out, hKl⟩⟩
                case measure => simp [intOf]; omega
            · obtain rfl : m = k := by omega
              obtain ⟨R, la, rk, l, hwd, hlu, hKl⟩ := hin.out
              have hlN : l.length ≤ m := by have := hwd.wz.len; omega
              have HWD := Lib.hid hwd
              clear hwd hin hlu
              go_wp2
              go_roundw
              case rel => exact ⟨K + 1, by go_num, Lib.hid ⟨R, la, rk, l, ⟨HWD.out.qs, HWD.out.own, HWD.out.bF, HWD.out.wz.next hKl, HWD.out.ext⟩⟩⟩
              case measure => simp [intOf]; omega
        · go_wp2
          refine bodyPost_ret (v := .slice (some ⟨g, 0, none⟩) k k) (by simp [results, Try.results79, go_sem]) rfl ?_
          have h := HWD.out
          exact ⟨R, la, rk, g, rfl, hgW, h.bF, h.wz.wm hlt, fun v hv => ⟨h.wz.low v hv, h.wz.lal v hv⟩, h.ext⟩
end Go.Proofs.Ytilcbbdmenknfaa
