/- A walk through a matrix, and the way back: mathematics. · The least weight on the way between two nodes of the tree: mathematics. · Flows and sides by tests: mathematics. · Walks: cost, isSide, isFlow. -/
import Derived.Test.YtilcbbdmenknfaaM12
import Derived.Test.YtilcbbdmenknfaaM4
import Derived.Test.YtilcbbdmenknfaaM11
import Derived.Test.YtilcbbdmenknfaaM9
import Derived.Test.YtilcbbdmenknfaaM10
namespace Go.Proofs.Ytilcbbdmenknfaa

/-- what holds while the walk is under way: l has been found, the first K of it have been looked at, and of the next one the first i columns -/
structure Wz (N s : Nat) (y : Nat → Nat → Int) (R : Nat → Bool) (la rk : Nat → Nat) (l : List Nat) (K i : Nat) : Prop where
  root : R s = true
  low : ∀ v, R v = true → v < N
  lal : ∀ v, R v = true → la v < N
  tree : ∀ v, v < N → R v = true → v ≠ s → la v < N ∧ R (la v) = true ∧ 0 < y (la v) v ∧ rk (la v) < rk v
  rkb : ∀ v, R v = true → rk v < l.length
  all : ∀ v, R v = true → v ∈ l
  qin : ∀ v, v ∈ l → R v = true
  len : un R N + l.length ≤ N
  fin : ∀ m, m < K → ∀ j, j < N → 0 < y (l.getD m 0) j → R j = true
  now : ∀ j, j < i → 0 < y (l.getD K 0) j → R j = true
  le : K ≤ l.length
section
variable {N s : Nat} {y : Nat → Nat → Int} {R : Nat → Bool} {la rk : Nat → Nat} {l : List Nat} {K i : Nat}
theorem getD_snoc {l : List Nat} {v m : Nat} (h : m < l.length) : (l ++ [v]).getD m 0 = l.getD m 0 := by
  simp only [List.getD_eq_getElem?_getD]; rw [List.getElem?_append_left h]
theorem Wz.start (y : Nat → Nat → Int) (hs : s < N) : Wz N s y (up (fun _ => false) s true) (fun _ => s) (fun _ => 0) [s] 0 0 := by
  have h1 : ∀ v, up (fun _ => false) s true v = true → v = s := by
    intro v h
    by_cases e : v = s
    · exact e
    · rw [up_ne _ _ e] at h; cases h
  refine ⟨up_self _ _ _, fun v h => by rw [h1 v h]; exact hs, fun _ _ => hs, fun v _ h hne => absurd (h1 v h) hne, fun _ _ => by simp, fun v h => by rw [h1 v h]; simp, fun v h => by simp at h; subst h; exact up_self _ _ _, ?_, fun _ h => by omega, fun _ h => by omega, by simp⟩
  have : un (up (fun _ => false) s true) N + 1 = un (fun _ => false) N := un_up hs rfl
  have := un_le (fun _ => false) N
  simp only [List.length_singleton]
  omega
theorem Wz.mem (_h : Wz N s y R la rk l K i) (hK : K < l.length) : l.getD K 0 ∈ l := by
  rw [List.getD_eq_getElem?_getD, List.getElem?_eq_getElem hK]; simp
theorem Wz.push (h : Wz N s y R la rk l K i) (hK : K < l.length) (hi : i < N) (hy : 0 < y (l.getD K 0) i) (hn : R i = false) :
    Wz N s y (up R i true) (up la i (l.getD K 0)) (up rk i l.length) (l ++ [i]) K (i + 1) := by
  have hm : ∀ w, R w = true → w ≠ i := fun w hw e => by rw [e, hn] at hw; cases hw
  have hup : ∀ w, R w = true → up R i true w = true := fun w hw => by rw [up_ne _ _ (hm w hw)]; exact hw
  have hor : ∀ w, up R i true w = true → w = i ∨ (w ≠ i ∧ R w = true) := by
    intro w hw
    by_cases e : w = i
    · exact .inl e
    · rw [up_ne _ _ e] at hw; exact .inr ⟨e, hw⟩
  have hu := h.qin _ (h.mem hK)
  refine ⟨hup _ h.root, fun v hv => ?_, fun v hv => ?_, fun v hv hR hne => ?_, fun v hv => ?_, fun v hv => ?_, fun v hv => ?_, ?_, fun m hm2 j hj hy2 => ?_, fun j hj hy2 => ?_, ?_⟩
  · rcases hor v hv with rfl | ⟨_, h1⟩
    · exact hi
    · exact h.low v h1
  · rcases hor v hv with rfl | ⟨h0, h1⟩
    · rw [up_self]; exact h.low _ hu
    · rw [up_ne _ _ h0]; exact h.lal v h1
  · rcases hor v hR with rfl | ⟨h0, h1⟩
    · rw [up_self, up_self, up_ne rk _ (hm _ hu)]
      exact ⟨h.low _ hu, hup _ hu, hy, h.rkb _ hu⟩
    · obtain ⟨a1, a2, a3, a4⟩ := h.tree v hv h1 hne
      rw [up_ne la _ h0, up_ne rk _ h0, up_ne rk _ (hm _ a2)]
      exact ⟨a1, hup _ a2, a3, a4⟩
  · rw [List.length_append, List.length_singleton]
    rcases hor v hv with rfl | ⟨h0, h1⟩
    · rw [up_self]; omega
    · rw [up_ne _ _ h0]; have := h.rkb v h1; omega
  · rcases hor v hv with rfl | ⟨h0, h1⟩
    · simp
    · exact List.mem_append_left _ (h.all v h1)
  · rcases List.mem_append.1 hv with h1 | h1
    · exact hup v (h.qin v h1)
    · simp at h1; subst h1; exact up_self _ _ _
  · have h1 := un_up (R := R) hi hn
    have h2 := h.len
    rw [List.length_append, List.length_singleton]; omega
  · rw [getD_snoc (by omega)] at hy2
    exact hup _ (h.fin m hm2 j hj hy2)
  · rw [getD_snoc hK] at hy2
    by_cases e : j = i
    · subst e; exact up_self _ _ _
    · exact hup _ (h.now j (by omega) hy2)
  · rw [List.length_append]; have := h.le; omega
theorem Wz.skip (h : Wz N s y R la rk l K i) (hy : 0 < y (l.getD K 0) i → R i = true) : Wz N s y R la rk l K (i + 1) :=
  ⟨h.root, h.low, h.lal, h.tree, h.rkb, h.all, h.qin, h.len, h.fin, fun j hj hy2 => by
    by_cases e : j = i
    · subst e; exact hy hy2
    · exact h.now j (by omega) hy2, h.le⟩
theorem Wz.next (h : Wz N s y R la rk l K N) (hK : K < l.length) : Wz N s y R la rk l (K + 1) 0 :=
  ⟨h.root, h.low, h.lal, h.tree, h.rkb, h.all, h.qin, h.len, fun m hm j hj hy => by
    by_cases e : m = K
    · subst e; exact h.now j hj hy
    · exact h.fin m (by omega) j hj hy, fun _ hj => by omega, hK⟩
theorem Wz.wm (h : Wz N s y R la rk l K i) (hK : ¬ K < l.length) : Wm N s y R la rk :=
  ⟨h.root, h.tree, fun i j hi hj hp hR => by
    obtain ⟨m, hm, e⟩ := List.getElem_of_mem (h.all i hR)
    have e2 : l.getD m 0 = i := by rw [List.getD_eq_getElem?_getD, List.getElem?_eq_getElem hm]; simpa using e
    exact h.fin m (by omega) j hj (by rw [e2]; exact hp)⟩
end

/-- n nodes back from t -/
def bk (la : Nat → Nat) (t : Nat) : Nat → Nat
  | 0 => t
  | n + 1 => la (bk la t n)
theorem bk_shift (la : Nat → Nat) (t n : Nat) : bk la t (n + 1) = bk la (la t) n := by
  induction n with
  | zero => rfl
  | succ n ih => show la (bk la t (n + 1)) = la (bk la (la t) n); rw [ih]
/-- the way back from t to s has L steps -/
structure Bw (N s t : Nat) (y : Nat → Nat → Int) (R : Nat → Bool) (la rk : Nat → Nat) (L : Nat) : Prop where
  fin : bk la t L = s
  mid : ∀ m, m < L → bk la t m ≠ s
  low : ∀ m, m ≤ L → bk la t m < N
  rch : ∀ m, m ≤ L → R (bk la t m) = true
  pos : ∀ m, m < L → 0 < y (bk la t (m + 1)) (bk la t m)
  dec : ∀ m, m < L → rk (bk la t (m + 1)) < rk (bk la t m)
theorem Wm.back {N s : Nat} {y : Nat → Nat → Int} {R : Nat → Bool} {la rk : Nat → Nat} (h : Wm N s y R la rk) : ∀ n t, rk t < n → t < N → R t = true → ∃ L, Bw N s t y R la rk L := by
  intro n
  induction n with
  | zero => intro t ht; omega
  | succ n ih =>
    intro t hr ht hR
    by_cases e : t = s
    · subst e
      refine ⟨0, rfl, fun m hm => by omega, fun m hm => ?_, fun m hm => ?_, fun m hm => by omega, fun m hm => by omega⟩
      · obtain rfl : m = 0 := by omega
        exact ht
      · obtain rfl : m = 0 := by omega
        exact hR
    · obtain ⟨a1, a2, a3, a4⟩ := h.tree t ht hR e
      obtain ⟨L, hL⟩ := ih (la t) (by omega) a1 a2
      refine ⟨L + 1, ?_, fun m hm => ?_, fun m hm => ?_, fun m hm => ?_, fun m hm => ?_, fun m hm => ?_⟩
      · rw [bk_shift]; exact hL.fin
      all_goals cases m with
        | zero => first | exact e | exact ht | exact hR | exact a3 | exact a4
        | succ m =>
          simp only [bk_shift la t]
          first | exact hL.mid m (by omega) | exact hL.low m (by omega) | exact hL.rch m (by omega) | exact hL.pos m (by omega) | exact hL.dec m (by omega)
theorem Bw.ne {N s t L : Nat} {y : Nat → Nat → Int} {R : Nat → Bool} {la rk : Nat → Nat} (h : Bw N s t y R la rk L) : ∀ {m n : Nat}, m < n → n ≤ L → bk la t n ≠ bk la t m := by
  have key : ∀ d m, m + d + 1 ≤ L → rk (bk la t (m + d + 1)) < rk (bk la t m) := by
    intro d
    induction d with
    | zero => intro m hm; exact h.dec m (by omega)
    | succ d ih =>
      intro m hm
      have h1 := ih m (by omega)
      have h2 := h.dec (m + d + 1) (by omega)
      have e : m + (d + 1) + 1 = m + d + 1 + 1 := by omega
      rw [e]; omega
  intro m n hmn hn e
  obtain ⟨d, rfl⟩ : ∃ d, n = m + d + 1 := ⟨n - m - 1, by omega⟩
  have := key d m hn
  rw [e] at this
  omega
/-- one step of the way back: what is left of it can still carry r -/
theorem Bw.keep {N s t L n : Nat} {y z : Nat → Nat → Int} {R : Nat → Bool} {la rk : Nat → Nat} {r : Int} (h : Bw N s t y R la rk L) (hr : 0 ≤ r)
    (hz : ∀ m, n ≤ m → m < L → r ≤ z (bk la t (m + 1)) (bk la t m)) : ∀ m, n + 1 ≤ m → m < L → r ≤ psh z (bk la t (n + 1)) (bk la t n) r (bk la t (m + 1)) (bk la t m) := by
  intro m h1 h2
  have := hz m (by omega) h2
  exact Int.le_trans this (psh_other hr (h.ne (by omega) (by omega)))
end Go.Proofs.Ytilcbbdmenknfaa
namespace Go.Proofs.Ytilcbbdmenknfaa
open Go.RowKit

/-- more than all -/
abbrev big : Int := 1152921504606846976
/-- the cut of two nodes; of one node, all there is -/
def Fx (f : Nat → Nat → Int) (x y : Nat) : Int := if x = y then 1152921504606846976 else f x y
/-- a tree with all cuts: p the parents, w the weights -/
structure Tr (f : Nat → Nat → Int) (N : Nat) (p : Nat → Nat) (w : Nat → Int) : Prop where
  zero : p 0 = 0
  par : ∀ i, 1 ≤ i → i < N → p i < i
  sym : ∀ x y, x ≠ y → f x y = f y x
  lt : ∀ x y, x ≠ y → f x y ≤ 1152921504606846976
  rcr : ∀ q, 1 ≤ q → q < N → ∀ b, b < q → b ≠ p q → f b q = min (f b (p q)) (f q (p q))
  wgt : ∀ q, 1 ≤ q → q < N → w q = f q (p q)
section
variable {f : Nat → Nat → Int} {N : Nat} {p : Nat → Nat} {w : Nat → Int}
theorem Tr.fx_sym (h : Tr f N p w) (x y : Nat) : Fx f x y = Fx f y x := by
  unfold Fx
  by_cases e : x = y
  · subst e; rfl
  · rw [if_neg e, if_neg (fun c => e c.symm), h.sym x y e]
theorem Tr.fx_le (h : Tr f N p w) (x y : Nat) : Fx f x y ≤ 1152921504606846976 := by
  unfold Fx
  split
  · omega
  · rename_i e
    exact h.lt x y e
theorem Tr.one (h : Tr f N p w) {s b : Nat} (hs : 1 ≤ s) (hsN : s < N) (hb : b < s) : Fx f b s = min (Fx f b (p s)) (w s) := by
  have hp := h.par s hs hsN
  rw [h.wgt s hs hsN]
  unfold Fx
  rw [if_neg (by omega)]
  by_cases e : b = p s
  · rw [if_pos e]
    have h1 := h.sym b s (by omega)
    have h2 := h.lt s (p s) (by omega)
    rw [← e] at h2 ⊢
    omega
  · rw [if_neg e]
    exact h.rcr s hs hsN b hb e
theorem Tr.two (h : Tr f N p w) {y : Nat} (hy : 1 ≤ y) (hyN : y < N) : ∀ n x, x < n → x < N → (∀ m, bk p x m ≠ y) → Fx f x y = min (Fx f x (p y)) (w y) := by
  intro n
  induction n with
  | zero => intro x hx; omega
  | succ n ih =>
    intro x hx hxN hm
    have h0 : x ≠ y := hm 0
    by_cases e : x < y
    · exact h.one hy hyN e
    · have hx1 : 1 ≤ x := by omega
      have hpx := h.par x hx1 hxN
      have hpy := h.par y hy hyN
      have a1 := h.one hx1 hxN (b := y) (by omega)
      have a2 := ih (p x) (by omega) (by omega) (fun m => by rw [← bk_shift]; exact hm (m + 1))
      have a3 := h.one hx1 hxN (b := p y) (by omega)
      have s1 := h.fx_sym x y
      have s2 := h.fx_sym (p x) y
      have s3 := h.fx_sym x (p y)
      have s4 := h.fx_sym (p x) (p y)
      omega
theorem Tr.bk_lt (h : Tr f N p w) {u : Nat} (hu : u < N) : ∀ m, bk p u m < N ∧ (bk p u m = 0 ∨ bk p u m + m ≤ u) := by
  intro m
  induction m with
  | zero => exact ⟨hu, .inr (by show u + 0 ≤ u; omega)⟩
  | succ m ih =>
    show p (bk p u m) < N ∧ (p (bk p u m) = 0 ∨ p (bk p u m) + (m + 1) ≤ u)
    by_cases e : bk p u m = 0
    · rw [e, h.zero]; exact ⟨by omega, .inl rfl⟩
    · have := h.par (bk p u m) (by omega) ih.1
      rcases ih.2 with h1 | h1
      · exact absurd h1 e
      · exact ⟨by omega, .inr (by omega)⟩
theorem Tr.bk_dec (h : Tr f N p w) {u : Nat} (hu : u < N) {m : Nat} (hm : bk p u m ≠ 0) : bk p u (m + 1) < bk p u m := h.par _ (by omega) (h.bk_lt hu m).1
theorem Tr.bk_zero (h : Tr f N p w) {u m : Nat} (hm : bk p u m = 0) : ∀ d, bk p u (m + d) = 0 := by
  intro d
  induction d with
  | zero => exact hm
  | succ d ih => show p (bk p u (m + d)) = 0; rw [ih, h.zero]
/-- the way up from u has L steps -/
theorem Tr.top (h : Tr f N p w) {u : Nat} (hu : u < N) : ∃ L, L ≤ u ∧ bk p u L = 0 ∧ ∀ m, m < L → bk p u m ≠ 0 := by
  have key : ∀ n, (∀ m, m < n → bk p u m ≠ 0) ∨ ∃ L, L < n ∧ bk p u L = 0 ∧ ∀ m, m < L → bk p u m ≠ 0 := by
    intro n
    induction n with
    | zero => exact .inl fun m hm => by omega
    | succ n ih =>
      rcases ih with h1 | ⟨L, h1, h2, h3⟩
      · by_cases e : bk p u n = 0
        · exact .inr ⟨n, by omega, e, h1⟩
        · exact .inl fun m hm => by
            by_cases e2 : m = n
            · subst e2; exact e
            · exact h1 m (by omega)
      · exact .inr ⟨L, by omega, h2, h3⟩
  rcases key (u + 1) with h1 | ⟨L, h1, h2, h3⟩
  · exfalso
    have h2 := h1 u (by omega)
    rcases (h.bk_lt hu u).2 with h3 | h3
    · exact h2 h3
    · omega
  · exact ⟨L, by omega, h2, h3⟩
/-- the first n nodes on the way up from u -/
def upn (p : Nat → Nat) (u n : Nat) : Nat → Bool := fun v => (List.range n).any fun m => decide (bk p u m = v)
theorem upn_succ (p : Nat → Nat) (u n v : Nat) : upn p u (n + 1) v = (upn p u n v || decide (bk p u n = v)) := by simp [upn, List.range_succ]
theorem upn_true {p : Nat → Nat} {u n v : Nat} : upn p u n v = true ↔ ∃ m, m < n ∧ bk p u m = v := by simp [upn]
theorem upn_all (h : Tr f N p w) {u L v : Nat} (hL : bk p u L = 0) (hv : upn p u (L + 1) v = false) : ∀ m, bk p u m ≠ v := by
  intro m e
  by_cases hm : m < L + 1
  · have : upn p u (L + 1) v = true := upn_true.2 ⟨m, hm, e⟩
    rw [hv] at this; cases this
  · have h1 := h.bk_zero hL (m - L)
    rw [show L + (m - L) = m by omega, e] at h1
    have : upn p u (L + 1) v = true := upn_true.2 ⟨L, by omega, by rw [hL, h1]⟩
    rw [hv] at this; cases this
end
theorem Gu.tr {a : Ar} {f : Nat → Nat → Int} {N : Nat} {p : Nat → Nat} {w : Nat → Int} (hf : Cf a f) (h : Gu a f N N p w) (h0 : p 0 = 0) (hb : ∀ x y, x ≠ y → f x y ≤ 1152921504606846976) : Tr f N p w :=
  ⟨h0, fun i h1 h2 => (h.par i h2 h1).1, fun _ _ hne => hf.symm hne, hb, h.rcr, h.wgt⟩
end Go.Proofs.Ytilcbbdmenknfaa
namespace Go.Proofs.Ytilcbbdmenknfaa

/-- does the flow of arc k fit? -/
def inR (a : Ar) (f : Nat → Int) (k : Nat) : Bool := bw (f k) 0 (a.c k)
/-- is it a flow? -/
def isFlB (N : Nat) (a : Ar) (f : Nat → Int) : Bool := (List.range a.n).all (inR a f) && (List.range (N - 2)).all fun i => decide (a.nw.sp f (i + 1) = 0)
theorem isFlB_iff {N : Nat} {a : Ar} {f : Nat → Int} : isFlB N a f = true ↔ (∀ k, k < a.n → 0 ≤ f k ∧ f k ≤ a.c k) ∧ ∀ i, i < N - 2 → a.nw.sp f (i + 1) = 0 := by
  unfold isFlB
  rw [Bool.and_eq_true, List.all_eq_true, List.all_eq_true]
  constructor
  · rintro ⟨h1, h2⟩
    exact ⟨fun k hk => bw_iff.1 (h1 k (List.mem_range.2 hk)), fun i hi => by simpa using h2 i (List.mem_range.2 hi)⟩
  · rintro ⟨h1, h2⟩
    exact ⟨fun k hk => bw_iff.2 (h1 k (List.mem_range.1 hk)), fun i hi => by simpa using h2 i (List.mem_range.1 hi)⟩
theorem isFlB_fl {N : Nat} {a : Ar} {f : Nat → Int} (hN : 2 ≤ N) : isFlB N a f = true ↔ a.nw.Fl N 0 (N - 1) f := by
  rw [isFlB_iff]
  constructor
  · rintro ⟨h1, h2⟩
    refine ⟨fun k hk => (h1 k hk).1, fun k hk => (h1 k hk).2, fun v hv h3 h4 => ?_⟩
    have := h2 (v - 1) (by omega)
    rwa [show v - 1 + 1 = v by omega] at this
  · rintro ⟨h1, h2, h3⟩
    exact ⟨fun k hk => ⟨h1 k hk, h2 k hk⟩, fun i hi => h3 (i + 1) (by omega) (by omega) (by omega)⟩
theorem isFlB_no1 {N : Nat} {a : Ar} {f : Nat → Int} {k : Nat} (hk : k < a.n) (h : inR a f k = false) : isFlB N a f = false := by
  cases hv : isFlB N a f
  · rfl
  · have := (isFlB_iff.1 hv).1 k hk
    rw [show inR a f k = true from bw_iff.2 this] at h; cases h
theorem isFlB_no2 {N : Nat} {a : Ar} {f : Nat → Int} {i : Nat} (hi : i < N - 2) (h : a.nw.sp f (i + 1) ≠ 0) : isFlB N a f = false := by
  cases hv : isFlB N a f
  · rfl
  · exact absurd ((isFlB_iff.1 hv).2 i hi) h
/-- one term of a cost -/
def tc (a : Ar) (s : Nat → Bool) (k : Nat) : Int := if s (a.f k).toNat = true ∧ s (a.t k).toNat = false then a.c k else 0
theorem ct_tc (a : Ar) (s : Nat → Bool) : a.nw.ct s = sm a.n (tc a s) := rfl
/-- is it a side? -/
def isSdB (N : Nat) (s : Nat → Bool) : Bool := s 0 && !s (N - 1)
theorem isSdB_iff {N : Nat} {s : Nat → Bool} : isSdB N s = true ↔ Nw.Sd 0 (N - 1) s := by unfold isSdB Nw.Sd; simp
/-- what Check answers -/
def chB (N : Nat) (a : Ar) (f : Nat → Int) (s : Nat → Bool) : Bool := isFlB N a f && isSdB N s && decide (a.nw.sp f 0 = a.nw.ct s)
/-- the answer of Check for a flow of n numbers and a side of m flags -/
def Chk (N : Int) (a : Ar) (n m : Nat) (f : Nat → Int) (s : Nat → Bool) (b : Bool) (er : Int) : Prop :=
  (vNet N a = false ∧ b = false ∧ er = 2) ∨ (vNet N a = true ∧ ((n ≠ a.n ∨ (m : Int) ≠ N) ∧ b = false ∧ er = 3 ∨ n = a.n ∧ (m : Int) = N ∧ b = chB m a f s ∧ er = 0))
theorem Chk.one {N : Int} {a : Ar} {n m : Nat} {f : Nat → Int} {s : Nat → Bool} {b c : Bool} {x y : Int} (h : Chk N a n m f s b x) (k : Chk N a n m f s c y) : b = c ∧ x = y := by
  rcases h with ⟨h1, h2, h3⟩ | ⟨h1, ⟨h4, h2, h3⟩ | ⟨h4, h5, h2, h3⟩⟩ <;> rcases k with ⟨k1, k2, k3⟩ | ⟨k1, ⟨k4, k2, k3⟩ | ⟨k4, k5, k2, k3⟩⟩
  · exact ⟨by rw [h2, k2], by omega⟩
  · rw [h1] at k1; cases k1
  · rw [h1] at k1; cases k1
  · rw [h1] at k1; cases k1
  · exact ⟨by rw [h2, k2], by omega⟩
  · rcases h4 with h4 | h4 <;> omega
  · rw [h1] at k1; cases k1
  · rcases k4 with k4 | k4 <;> omega
  · exact ⟨by rw [h2, k2], by omega⟩
end Go.Proofs.Ytilcbbdmenknfaa
namespace Go.Proofs.Ytilcbbdmenknfaa
open Go.RowKit

theorem Vl.at {W X : World} {A : Option Addr} {n m c : Nat} {f : Nat → Value} (h : Vl W (.slice A n c) m f) (e : Ext W X) {k : Nat} (hk : k < m) : ∃ b off, A = some ⟨b, off, none⟩ ∧ b < X.heap.size ∧ X.cell? ⟨b, off + k, none⟩ = some (f k) := by
  obtain ⟨A', c', e', _, _, h3⟩ := h
  injection e' with e1 e2 e3
  subst e1
  obtain ⟨b, off, rfl, hb, hc⟩ := h3 (by omega)
  exact ⟨b, off, rfl, Nat.lt_of_lt_of_le hb e.size, keepAt e hb (hc k hk)⟩

set_option maxHeartbeats 4000000 in
set_option maxRecDepth 100000 in
theorem cost_any (a : Ar) (N : Nat) (s : Nat → Bool) (AV SV : Value) (W : World) (hA : Al W AV a) (hS : Bl W SV N s) (hO : a.Ok N 1000000) (hn : a.n ≤ 1000) :
    Calls Try.prog 57 #[AV, SV] W fun e W' => e = .returned (.int .i64 (a.nw.ct s)) ∧ Ext W W' := by
  rw [ct_tc]
  have hb := fun k (hk : k ≤ a.n) => sm_bd (n := k) (f := tc a s) (B := 1000000) (fun i hi => by
    have h1 := hO.c0 i (by omega); have h2 := hO.cM i (by omega)
    unfold tc; split <;> omega)
  have HA := Lib.hid hA; have HO := Lib.hid hO; have HS := Lib.hid hS; have HB := Lib.hid hb
  clear hO hb
  obtain ⟨A, c, rfl, hac, hcm, -⟩ := hA
  obtain ⟨A2, c2, rfl, hac2, hcm2, -⟩ := hS
  go_enter Try.func57, Try.ntmps57
  go_wp2_with fail
  go_loopw [5, 10] (fun z i wr => ∃ k : Nat, i = .int .i64 k ∧ k ≤ a.n ∧ z = .int .i64 (sm k (tc a s)) ∧ Hid (Ext W wr)) (fun _ i _ => a.n - (intOf i).toNat)
  case atStart => exact ⟨0, rfl, Nat.zero_le _, rfl, Lib.hid (Ext.refl _)⟩
  case round =>
    obtain ⟨k, rfl, hk, rfl, hin⟩ := hrel
    by_cases hlt : k < a.n
    · obtain ⟨b, off, rfl, d1, d2, d3⟩ := HA.out.arc hin.out hlt
      obtain ⟨fk, hfk, hfN⟩ : ∃ x : Nat, a.f k = (x : Int) ∧ x < N := ⟨(a.f k).toNat, by have := HO.out.f0 k hlt; omega, by have := HO.out.f0 k hlt; have := HO.out.fN k hlt; omega⟩
      obtain ⟨tk, htk, htN⟩ : ∃ x : Nat, a.t k = (x : Int) ∧ x < N := ⟨(a.t k).toNat, by have := HO.out.t0 k hlt; omega, by have := HO.out.t0 k hlt; have := HO.out.tN k hlt; omega⟩
      obtain ⟨b2, off2, rfl, hb2, e1⟩ := Vl.at HS.out hin.out hfN
      obtain ⟨b3, off3, e3, -, e2⟩ := Vl.at HS.out hin.out htN
      injection e3 with e3; injection e3 with e3 e4
      subst e3 e4
      have c0 := HO.out.c0 k hlt
      have cM := HO.out.cM k hlt
      have hs := HB.out k hk
      have hs1 := HB.out (k + 1) (by omega)
      have hsm : sm (k + 1) (tc a s) = sm k (tc a s) + tc a s k := rfl
      have htc : tc a s k = if s fk = true ∧ s tk = false then a.c k else 0 := by unfold tc; rw [hfk, htk]; rfl
      rw [hfk] at d1; rw [htk] at d2
      obtain ⟨ck, hck⟩ : ∃ x, x = a.c k := ⟨_, rfl⟩
      rw [← hck] at d3 c0 cM htc
      obtain ⟨S, hS⟩ : ∃ S, S = sm k (tc a s) := ⟨_, rfl⟩
      rw [← hS] at hs ⊢
      have hkk : k * 1000000 ≤ 1000000000 := by have : k * 1000000 ≤ 1000 * 1000000 := Nat.mul_le_mul_right _ (by omega); omega
      have hS1 : -1000000000 ≤ S ∧ S ≤ 1000000000 := by omega
      have HSM := Lib.hid hsm; have HS2 := Lib.hid hS; have HTC := Lib.hid htc
      clear hs hs1 hsm hkk hS hck hfk htk htc
      cases p : s fk
      · rw [p] at e1 HTC
        clear e2 p
        go_wp2
        go_roundw
        case rel => exact ⟨k + 1, by go_num, by omega, by rw [HSM.out, HTC.out, ← HS2.out]; simp, Lib.hid (hin.out.alc _)⟩
        case measure => simp [intOf]; omega
      · rw [p] at e1 HTC
        cases q : s tk
        · rw [q] at e2 HTC
          clear p q
          go_wp2
          go_roundw
          case rel => exact ⟨k + 1, by go_num, by omega, by rw [HSM.out, HTC.out, ← HS2.out]; simp, Lib.hid (hin.out.alc _)⟩
          case measure => simp [intOf]; omega
        · rw [q] at e2 HTC
          clear p q
          go_wp2
          go_roundw
          case rel => exact ⟨k + 1, by go_num, by omega, by rw [HSM.out, HTC.out, ← HS2.out]; simp, Lib.hid (hin.out.alc _)⟩
          case measure => simp [intOf]; omega
    · obtain rfl : k = a.n := by omega
      go_wp2
      go_ret
      exact ⟨rfl, hin.out⟩

set_option maxHeartbeats 4000000 in
set_option maxRecDepth 100000 in
theorem isSide_any (N : Nat) (s : Nat → Bool) (SV : Value) (W : World) (hS : Bl W SV N s) (hN : 2 ≤ N) (hN2 : N ≤ 1000) :
    Calls Try.prog 55 #[SV] W fun e W' => e = .returned (.bool (isSdB N s)) ∧ Ext W W' := by
  have HS := Lib.hid hS
  obtain ⟨A2, c2, rfl, hac2, hcm2, -⟩ := hS
  obtain ⟨t, ht⟩ : ∃ t, t = N - 1 := ⟨_, rfl⟩
  have ht2 : (N : Int) - 1 = t := by omega
  have htN : t < N := by omega
  obtain ⟨b2, off2, rfl, hb2, e1⟩ := Vl.at HS.out (Ext.refl W) (show 0 < N by omega)
  obtain ⟨b3, off3, e3, -, e2⟩ := Vl.at HS.out (Ext.refl W) htN
  injection e3 with e3; injection e3 with e3 e4
  subst e3 e4
  rw [Nat.add_zero] at e1
  have HT := Lib.hid ht
  clear ht
  cases p : s 0
  · rw [p] at e1
    have HP := Lib.hid p; clear p e2
    go_enter Try.func55, Try.ntmps55
    go_wp2
    go_ret
    exact ⟨by unfold isSdB; rw [HP.out]; rfl, Ext.refl _⟩
  · rw [p] at e1
    have HP := Lib.hid p; clear p
    go_enter Try.func55, Try.ntmps55
    go_wp2
    go_ret
    exact ⟨by unfold isSdB; rw [HP.out, ← HT.out]; rfl, Ext.refl _⟩

set_option maxHeartbeats 4000000 in
set_option maxRecDepth 100000 in
theorem isFlow_any (N : Nat) (a : Ar) (f : Nat → Int) (AV FV : Value) (W : World) (hA : Al W AV a) (hF : Il W FV a.n f) (hO : a.Ok N 1000000) (hn : a.n ≤ 1000) (hN : 2 ≤ N) (hN2 : N ≤ 1000) :
    Calls Try.prog 54 #[.agg #[.int .i64 N, AV], FV] W fun e W' => e = .returned (.bool (isFlB N a f)) ∧ Ext W W' := by
  obtain ⟨r, hr⟩ : ∃ r, r = isFlB N a f := ⟨_, rfl⟩
  rw [← hr]
  have HR := Lib.hid hr; clear hr
  have HA := Lib.hid hA; have HO := Lib.hid hO; have HF := Lib.hid hF
  clear hO
  obtain ⟨A, c, rfl, hac, hcm, -⟩ := hA
  obtain ⟨A2, c2, rfl, hac2, hcm2, -⟩ := hF
  go_enter Try.func54, Try.ntmps54
  go_upto_region 1 with fail
  have bb := al1 W (.cells #[.int .i64 N, .slice A a.n c] 30)
  have hh := heap_alloc_new W (.cells #[.int .i64 N, .slice A a.n c] 30)
  have zz : W.heap.size < (W.alloc (.cells #[.int .i64 N, .slice A a.n c] 30)).heap.size := by simp
  generalize W.alloc (.cells #[.int .i64 N, .slice A a.n c] 30) = W1 at *
  have HB : Hid (Ext W W1) := Lib.hid bb
  obtain ⟨m0, m1, m2, m3⟩ := two hh
  have HM := Lib.hid (And.intro m0 m1)
  clear bb hh m2 m3 m0
  go_wp2_with fail
  clear m1
  go_loopw [11] (fun i wr => ∃ k : Nat, i = .int .i64 k ∧ k ≤ a.n ∧ Hid ((∀ j, j < k → inR a f j = true) ∧ Ext W1 wr)) (fun i _ => a.n - (intOf i).toNat)
  case atStart => exact ⟨0, rfl, Nat.zero_le _, Lib.hid ⟨fun j hj => by omega, Ext.refl _⟩⟩
  case round =>
    obtain ⟨k, rfl, hk, hin⟩ := hrel
    by_cases hlt : k < a.n
    · obtain ⟨b, off, rfl, d1, d2, d3⟩ := HA.out.arc (HB.out.trans hin.out.2) hlt
      obtain ⟨b2, off2, rfl, hb2, e1⟩ := Vl.at HF.out (HB.out.trans hin.out.2) hlt
      obtain ⟨fk, hfk⟩ : ∃ x, x = a.f k := ⟨_, rfl⟩
      obtain ⟨tk, htk⟩ : ∃ x, x = a.t k := ⟨_, rfl⟩
      obtain ⟨ck, hck⟩ : ∃ x, x = a.c k := ⟨_, rfl⟩
      obtain ⟨xk, hxk⟩ : ∃ x, x = f k := ⟨_, rfl⟩
      rw [← hfk] at d1; rw [← htk] at d2; rw [← hck] at d3; simp only [← hxk] at e1
      have hin2 : inR a f k = bw xk 0 ck := by unfold inR; rw [← hxk, ← hck]
      have HI := Lib.hid hin2
      clear hfk htk hck hxk hin2
      go_upto_region 4 with fail
      have g2 : (wr.alloc (.cells #[.int .i64 fk, .int .i64 tk, .int .i64 ck] 65)).cell? ⟨wr.heap.size, 2, none⟩ = some (.int .i64 ck) := by rw [World.cell?_alloc_new]; rfl
      have gz : wr.heap.size < (wr.alloc (.cells #[.int .i64 fk, .int .i64 tk, .int .i64 ck] 65)).heap.size := by simp
      have gx : Ext W1 (wr.alloc (.cells #[.int .i64 fk, .int .i64 tk, .int .i64 ck] 65)) := hin.out.2.alc _
      have g1 := keepAt (Ext.alc (Ext.refl wr) (.cells #[.int .i64 fk, .int .i64 tk, .int .i64 ck] 65)) hb2 e1
      have hb3 : b2 < (wr.alloc (.cells #[.int .i64 fk, .int .i64 tk, .int .i64 ck] 65)).heap.size := by simp; omega
      generalize wr.alloc (.cells #[.int .i64 fk, .int .i64 tk, .int .i64 ck] 65) = w2 at *
      have GX := Lib.hid gx
      clear gx d1 d2 d3 e1
      refine wp_region_noPanic ?_
      refine wp_pool 8 [some 16, some 17, some 18, some 19, some 20, some 21, some 22, some 23] [] [] [(fun (v : Value) (_ : World) => v = .slice (some ⟨b2, off2, none⟩) a.n c2), (fun (v : Value) (_ : World) => v = .int .i64 k), (fun (v : Value) (_ : World) => v = .pointer (some ⟨b2, off2 + k, none⟩)), (fun (v : Value) (_ : World) => v = .int .i64 xk), (fun (v : Value) (_ : World) => v = .pointer (some ⟨wr.heap.size, 2, none⟩)), (fun (v : Value) (_ : World) => v = .int .i64 ck), (fun (v : Value) (_ : World) => v = .bool (bw xk 0 ck)), (fun (v : Value) (_ : World) => v = .bool (!(bw xk 0 ck)))] [noF, noF, noF, noF, noF, noF, noF, noF] (by kernel_rfl) (by kernel_rfl) (by kernel_rfl) (by kernel_rfl) (by kernel_rfl) (by kernel_rfl) (by kernel_rfl) (by kernel_rfl) (fun _ _ _ _ h => h) ⟨Stays.pure _, Stays.pure _, Stays.pure _, Stays.pure _, Stays.pure _, Stays.pure _, Stays.pure _, Stays.pure _, True.intro⟩ ?steps ?done
      case steps =>
        simp only [List.take_succ_cons, List.take_zero]
        refine Steps.cons (fun (v : Value) (_ : World) => v = .slice (some ⟨b2, off2, none⟩) a.n c2) [] rfl (by kernel_rfl) rfl (by kernel_rfl) (fun y X ex0 hf K hK => ?_) ?_
        · clear hf
          have ex := (Ext.drw (Ext.refl _)).trans ex0
          refine Box.mk ?_
          simp only [fill, Act.put, Nat.reduceAdd, List.setIfInBounds_toArray, List.set_cons_zero, List.set_cons_succ] at hK ⊢
          go_simp
          exact hK.out _ _ rfl (Ext.refl _) (fun b hb => by cases hb)
        refine Steps.cons (fun (v : Value) (_ : World) => v = .int .i64 k) [] rfl (by kernel_rfl) rfl (by kernel_rfl) (fun y X ex0 hf K hK => ?_) ?_
        · clear hf
          have ex := (Ext.drw (Ext.refl _)).trans ex0
          refine Box.mk ?_
          simp only [fill, Act.put, Nat.reduceAdd, List.setIfInBounds_toArray, List.set_cons_zero, List.set_cons_succ] at hK ⊢
          go_simp
          exact hK.out _ _ rfl (Ext.refl _) (fun b hb => by cases hb)
        refine Steps.cons (fun (v : Value) (_ : World) => v = .pointer (some ⟨b2, off2 + k, none⟩)) [0, 1] rfl (by kernel_rfl) rfl (by kernel_rfl) (fun y X ex0 hf K hK => ?_) ?_
        · have h0 : ((fun (v : Value) (_ : World) => v = .slice (some ⟨b2, off2, none⟩) a.n c2)) (y 0) X := hf.1
          have h1 : ((fun (v : Value) (_ : World) => v = .int .i64 k)) (y 1) X := hf.2.1
          clear hf
          have ex := (Ext.drw (Ext.refl _)).trans ex0
          refine Box.mk ?_
          simp only [fill, Act.put, Nat.reduceAdd, List.setIfInBounds_toArray, List.set_cons_zero, List.set_cons_succ, h0, h1] at hK ⊢
          go_simp
          exact hK.out _ _ rfl (Ext.refl _) (fun b hb => by cases hb)
        refine Steps.cons (fun (v : Value) (_ : World) => v = .int .i64 xk) [2] rfl (by kernel_rfl) rfl (by kernel_rfl) (fun y X ex0 hf K hK => ?_) ?_
        · have h2 : ((fun (v : Value) (_ : World) => v = .pointer (some ⟨b2, off2 + k, none⟩))) (y 2) X := hf.1
          clear hf
          have ex := (Ext.drw (Ext.refl _)).trans ex0
          refine Box.mk ?_
          simp only [fill, Act.put, Nat.reduceAdd, List.setIfInBounds_toArray, List.set_cons_zero, List.set_cons_succ, h2] at hK ⊢
          have z1 := keepAt ex hb3 g1
          go_simp
          exact hK.out _ _ rfl (Ext.refl _) (fun b hb => by cases hb)
        refine Steps.cons (fun (v : Value) (_ : World) => v = .pointer (some ⟨wr.heap.size, 2, none⟩)) [] rfl (by kernel_rfl) rfl (by kernel_rfl) (fun y X ex0 hf K hK => ?_) ?_
        · clear hf
          have ex := (Ext.drw (Ext.refl _)).trans ex0
          refine Box.mk ?_
          simp only [fill, Act.put, Nat.reduceAdd, List.setIfInBounds_toArray, List.set_cons_zero, List.set_cons_succ] at hK ⊢
          go_simp
          exact hK.out _ _ rfl (Ext.refl _) (fun b hb => by cases hb)
        refine Steps.cons (fun (v : Value) (_ : World) => v = .int .i64 ck) [4] rfl (by kernel_rfl) rfl (by kernel_rfl) (fun y X ex0 hf K hK => ?_) ?_
        · have h4 : ((fun (v : Value) (_ : World) => v = .pointer (some ⟨wr.heap.size, 2, none⟩))) (y 4) X := hf.1
          clear hf
          have ex := (Ext.drw (Ext.refl _)).trans ex0
          refine Box.mk ?_
          simp only [fill, Act.put, Nat.reduceAdd, List.setIfInBounds_toArray, List.set_cons_zero, List.set_cons_succ, h4] at hK ⊢
          have z1 := keepAt ex gz g2
          go_simp
          exact hK.out _ _ rfl (Ext.refl _) (fun b hb => by cases hb)
        refine Steps.cons (fun (v : Value) (_ : World) => v = .bool (bw xk 0 ck)) [3, 5] rfl (by kernel_rfl) rfl (by kernel_rfl) (fun y X ex0 hf K hK => ?_) ?_
        · have h3 : ((fun (v : Value) (_ : World) => v = .int .i64 xk)) (y 3) X := hf.1
          have h5 : ((fun (v : Value) (_ : World) => v = .int .i64 ck)) (y 5) X := hf.2.1
          clear hf
          have ex := (Ext.drw (Ext.refl _)).trans ex0
          refine Box.mk ?_
          simp only [fill, Act.put, Nat.reduceAdd, List.setIfInBounds_toArray, List.set_cons_zero, List.set_cons_succ, h3, h5] at hK ⊢
          go_simp
          refine (isBetween_bw _ _ _ _).mono ?_
          rintro e V ⟨rfl, rfl⟩
          try go_wp2_with fail
          exact hK.out _ _ rfl (Ext.refl _) (fun b hb => by cases hb)
        refine Steps.cons (fun (v : Value) (_ : World) => v = .bool (!(bw xk 0 ck))) [6] rfl (by kernel_rfl) rfl (by kernel_rfl) (fun y X ex0 hf K hK => ?_) ?_
        · have h6 : ((fun (v : Value) (_ : World) => v = .bool (bw xk 0 ck))) (y 6) X := hf.1
          clear hf
          have ex := (Ext.drw (Ext.refl _)).trans ex0
          refine Box.mk ?_
          simp only [fill, Act.put, Nat.reduceAdd, List.setIfInBounds_toArray, List.set_cons_zero, List.set_cons_succ, h6] at hK ⊢
          go_simp
          exact hK.out _ _ rfl (Ext.refl _) (fun b hb => by cases hb)
        exact Steps.nil
      case done =>
        intro y X ex hf hlt hsep
        have h0 : ((fun (v : Value) (_ : World) => v = .slice (some ⟨b2, off2, none⟩) a.n c2)) (y 0) X := hf.1
        have h1 : ((fun (v : Value) (_ : World) => v = .int .i64 k)) (y 1) X := hf.2.1
        have h2 : ((fun (v : Value) (_ : World) => v = .pointer (some ⟨b2, off2 + k, none⟩))) (y 2) X := hf.2.2.1
        have h3 : ((fun (v : Value) (_ : World) => v = .int .i64 xk)) (y 3) X := hf.2.2.2.1
        have h4 : ((fun (v : Value) (_ : World) => v = .pointer (some ⟨wr.heap.size, 2, none⟩))) (y 4) X := hf.2.2.2.2.1
        have h5 : ((fun (v : Value) (_ : World) => v = .int .i64 ck)) (y 5) X := hf.2.2.2.2.2.1
        have h6 : ((fun (v : Value) (_ : World) => v = .bool (bw xk 0 ck))) (y 6) X := hf.2.2.2.2.2.2.1
        have h7 : ((fun (v : Value) (_ : World) => v = .bool (!(bw xk 0 ck)))) (y 7) X := hf.2.2.2.2.2.2.2.1
        clear hf
        clear hsep hlt
        refine Box.mk ?_
        simp only [List.drop_succ_cons, List.drop_zero, fill, Act.put, Nat.reduceAdd, List.setIfInBounds_toArray, List.set_cons_zero, List.set_cons_succ, h0, h1, h2, h3, h4, h5, h6, h7]
        clear h0 h1 h2 h3 h4 h5 h6 h7
        have EX := Lib.hid (GX.out.trans ex); clear ex g1 g2
        refine NoPanic.normal ?_
        cases p : bw xk 0 ck
        · have hr : r = false := by rw [HR.out]; exact isFlB_no1 hlt (by rw [HI.out]; exact p)
          have HR2 := Lib.hid hr; clear hr p
          go_wp2
          go_ret
          exact ⟨by rw [HR2.out]; rfl, HB.out.trans EX.out⟩
        · have hp := HI.out.trans p
          have HP := Lib.hid hp; clear hp p
          go_wp2
          go_roundw
          case rel =>
            refine ⟨k + 1, by go_num, by omega, Lib.hid ⟨fun j hj => ?_, EX.out⟩⟩
            by_cases e : j = k
            · subst e; exact HP.out
            · exact hin.out.1 j (by omega)
          case measure => simp [intOf]; omega
    · obtain rfl : k = a.n := by omega
      have hall : ∀ j, j < a.n → 0 ≤ f j ∧ f j ≤ a.c j := fun j hj => bw_iff.1 (hin.out.1 j hj)
      have HALL := Lib.hid hall
      have HX := Lib.hid hin.out.2
      clear hall hin
      go_wp2_with fail
      go_loopw [7] (fun i wr => ∃ v : Nat, i = .int .i64 v ∧ 1 ≤ v ∧ v ≤ N - 1 ∧ Hid ((∀ j, j + 1 < v → a.nw.sp f (j + 1) = 0) ∧ Ext W1 wr)) (fun i _ => N - (intOf i).toNat)
      case atStart => exact ⟨1, rfl, Nat.le_refl _, by omega, Lib.hid ⟨fun j hj => by omega, HX.out⟩⟩
      case round =>
        clear HX
        obtain ⟨v, rfl, hv1, hv2, hin⟩ := hrel
        have m0 := keepAt hin.out.2 zz HM.out.1
        have m1 := keepAt hin.out.2 zz HM.out.2
        by_cases hlt : v < N - 1
        · have hlt2 : (v : Int) < (N : Int) - 1 := by omega
          go_wp2_with fail
          refine (surplus_any a N v 1000000 f _ _ _ (HA.out.ext (HB.out.trans hin.out.2)) (Il.ext HF.out (HB.out.trans hin.out.2)) HO.out hn (fun k hk => by have h1 := HALL.out k hk; have h2 := HO.out.cM k hk; omega)).mono ?_
          rintro e w3 ⟨rfl, hx⟩
          have HX := Lib.hid (hin.out.2.trans hx)
          obtain ⟨z, hz⟩ : ∃ z, z = a.nw.sp f v := ⟨_, rfl⟩
          rw [← hz]
          have HZ := Lib.hid hz
          clear hx m0 m1 hz
          by_cases h0 : z = 0
          · subst h0
            go_wp2
            go_roundw
            case rel =>
              refine ⟨v + 1, by go_num, by omega, by omega, Lib.hid ⟨fun j hj => ?_, HX.out⟩⟩
              by_cases e : j + 1 = v
              · rw [e]; exact HZ.out.symm
              · exact hin.out.1 j (by omega)
            case measure => simp [intOf]; omega
          · have hr : r = false := by
              rw [HR.out]
              exact isFlB_no2 (i := v - 1) (by omega) (by rw [show v - 1 + 1 = v by omega, ← HZ.out]; exact h0)
            have HR2 := Lib.hid hr; clear hr
            go_wp2
            go_ret
            exact ⟨by rw [HR2.out]; rfl, HB.out.trans HX.out⟩
        · obtain rfl : v = N - 1 := by omega
          have hlt2 : ¬ ((N - 1 : Nat) : Int) < (N : Int) - 1 := by omega
          have hr : r = true := by rw [HR.out]; exact isFlB_iff.2 ⟨HALL.out, fun i hi => hin.out.1 i (by omega)⟩
          have HR2 := Lib.hid hr; clear hr
          go_wp2
          go_ret
          exact ⟨by rw [HR2.out]; rfl, HB.out.trans hin.out.2⟩
end Go.Proofs.Ytilcbbdmenknfaa
