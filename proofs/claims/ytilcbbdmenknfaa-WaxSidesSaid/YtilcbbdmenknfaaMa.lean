/- A walk through a matrix, and the way back: mathematics. -/
import Derived.Test.YtilcbbdmenknfaaCg
import Derived.Test.YtilcbbdmenknfaaWq
namespace Go.Proofs.Ytilcbbdmenknfaa

/-- what holds while the walk is under way: l has been found, the first K of it have been looked at, and of the next one the first i columns -/
structure Wz (N s : Nat) (y : Nat → Nat → Int) (R : Nat → Bool) (la rk : Nat → Nat) (l : List Nat) (K i : Nat) : Prop where
  root : R s = true
  low : ∀ v, R v = true → v < N
  lal : ∀ v, R v = true → la v < N
  tree : ∀ v, v < N → R v = true → v ≠ s → la v < N ∧ R (la v) = true ∧ 0 < y (la v) v ∧ rk (la v) < rk v
  rkb : ∀ v, R v = true → rk v < l.length
  all : ∀ v, R v = true → v ∈ l
  qin : ∀ v, v ∈ l → R v = true
  len : un R N + l.length ≤ N
  fin : ∀ m, m < K → ∀ j, j < N → 0 < y (l.getD m 0) j → R j = true
  now : ∀ j, j < i → 0 < y (l.getD K 0) j → R j = true
  le : K ≤ l.length
section
variable {N s : Nat} {y : Nat → Nat → Int} {R : Nat → Bool} {la rk : Nat → Nat} {l : List Nat} {K i : Nat}
theorem getD_snoc {l : List Nat} {v m : Nat} (h : m < l.length) : (l ++ [v]).getD m 0 = l.getD m 0 := by
  simp only [List.getD_eq_getElem?_getD]; rw [List.getElem?_append_left h]
theorem Wz.start (y : Nat → Nat → Int) (hs : s < N) : Wz N s y (up (fun _ => false) s true) (fun _ => s) (fun _ => 0) [s] 0 0 := by
  have h1 : ∀ v, up (fun _ => false) s true v = true → v = s := by
    intro v h
    by_cases e : v = s
    · exact e
    · rw [up_ne _ _ e] at h; cases h
  refine ⟨up_self _ _ _, fun v h => by rw [h1 v h]; exact hs, fun _ _ => hs, fun v _ h hne => absurd (h1 v h) hne, fun _ _ => by simp, fun v h => by rw [h1 v h]; simp, fun v h => by simp at h; subst h; exact up_self _ _ _, ?_, fun _ h => by omega, fun _ h => by omega, by simp⟩
  have : un (up (fun _ => false) s true) N + 1 = un (fun _ => false) N := un_up hs rfl
  have := un_le (fun _ => false) N
  simp only [List.length_singleton]
  omega
theorem Wz.mem (_h : Wz N s y R la rk l K i) (hK : K < l.length) : l.getD K 0 ∈ l := by
  rw [List.getD_eq_getElem?_getD, List.getElem?_eq_getElem hK]; simp
theorem Wz.push (h : Wz N s y R la rk l K i) (hK : K < l.length) (hi : i < N) (hy : 0 < y (l.getD K 0) i) (hn : R i = false) :
    Wz N s y (up R i true) (up la i (l.getD K 0)) (up rk i l.length) (l ++ [i]) K (i + 1) := by
  have hm : ∀ w, R w = true → w ≠ i := fun w hw e => by rw [e, hn] at hw; cases hw
  have hup : ∀ w, R w = true → up R i true w = true := fun w hw => by rw [up_ne _ _ (hm w hw)]; exact hw
  have hor : ∀ w, up R i true w = true → w = i ∨ (w ≠ i ∧ R w = true) := by
    intro w hw
    by_cases e : w = i
    · exact .inl e
    · rw [up_ne _ _ e] at hw; exact .inr ⟨e, hw⟩
  have hu := h.qin _ (h.mem hK)
  refine ⟨hup _ h.root, fun v hv => ?_, fun v hv => ?_, fun v hv hR hne => ?_, fun v hv => ?_, fun v hv => ?_, fun v hv => ?_, ?_, fun m hm2 j hj hy2 => ?_, fun j hj hy2 => ?_, ?_⟩
  · rcases hor v hv with rfl | ⟨_, h1⟩
    · exact hi
    · exact h.low v h1
  · rcases hor v hv with rfl | ⟨h0, h1⟩
    · rw [up_self]; exact h.low _ hu
    · rw [up_ne _ _ h0]; exact h.lal v h1
  · rcases hor v hR with rfl | ⟨h0, h1⟩
    · rw [up_self, up_self, up_ne rk _ (hm _ hu)]
      exact ⟨h.low _ hu, hup _ hu, hy, h.rkb _ hu⟩
    · obtain ⟨a1, a2, a3, a4⟩ := h.tree v hv h1 hne
      rw [up_ne la _ h0, up_ne rk _ h0, up_ne rk _ (hm _ a2)]
      exact ⟨a1, hup _ a2, a3, a4⟩
  · rw [List.length_append, List.length_singleton]
    rcases hor v hv with rfl | ⟨h0, h1⟩
    · rw [up_self]; omega
    · rw [up_ne _ _ h0]; have := h.rkb v h1; omega
  · rcases hor v hv with rfl | ⟨h0, h1⟩
    · simp
    · exact List.mem_append_left _ (h.all v h1)
  · rcases List.mem_append.1 hv with h1 | h1
    · exact hup v (h.qin v h1)
    · simp at h1; subst h1; exact up_self _ _ _
  · have h1 := un_up (R := R) hi hn
    have h2 := h.len
    rw [List.length_append, List.length_singleton]; omega
  · rw [getD_snoc (by omega)] at hy2
    exact hup _ (h.fin m hm2 j hj hy2)
  · rw [getD_snoc hK] at hy2
    by_cases e : j = i
    · subst e; exact up_self _ _ _
    · exact hup _ (h.now j (by omega) hy2)
  · rw [List.length_append]; have := h.le; omega
theorem Wz.skip (h : Wz N s y R la rk l K i) (hy : 0 < y (l.getD K 0) i → R i = true) : Wz N s y R la rk l K (i + 1) :=
  ⟨h.root, h.low, h.lal, h.tree, h.rkb, h.all, h.qin, h.len, h.fin, fun j hj hy2 => by
    by_cases e : j = i
    · subst e; exact hy hy2
    · exact h.now j (by omega) hy2, h.le⟩
theorem Wz.next (h : Wz N s y R la rk l K N) (hK : K < l.length) : Wz N s y R la rk l (K + 1) 0 :=
  ⟨h.root, h.low, h.lal, h.tree, h.rkb, h.all, h.qin, h.len, fun m hm j hj hy => by
    by_cases e : m = K
    · subst e; exact h.now j hj hy
    · exact h.fin m (by omega) j hj hy, fun _ hj => by omega, hK⟩
theorem Wz.wm (h : Wz N s y R la rk l K i) (hK : ¬ K < l.length) : Wm N s y R la rk :=
  ⟨h.root, h.tree, fun i j hi hj hp hR => by
    obtain ⟨m, hm, e⟩ := List.getElem_of_mem (h.all i hR)
    have e2 : l.getD m 0 = i := by rw [List.getD_eq_getElem?_getD, List.getElem?_eq_getElem hm]; simpa using e
    exact h.fin m (by omega) j hj (by rw [e2]; exact hp)⟩
end

/-- n nodes back from t -/
def bk (la : Nat → Nat) (t : Nat) : Nat → Nat
  | 0 => t
  | n + 1 => la (bk la t n)
theorem bk_shift (la : Nat → Nat) (t n : Nat) : bk la t (n + 1) = bk la (la t) n := by
  induction n with
  | zero => rfl
  | succ n ih => show la (bk la t (n + 1)) = la (bk la (la t) n); rw [ih]
/-- the way back from t to s has L steps -/
structure Bw (N s t : Nat) (y : Nat → Nat → Int) (R : Nat → Bool) (la rk : Nat → Nat) (L : Nat) : Prop where
  fin : bk la t L = s
  mid : ∀ m, m < L → bk la t m ≠ s
  low : ∀ m, m ≤ L → bk la t m < N
  rch : ∀ m, m ≤ L → R (bk la t m) = true
  pos : ∀ m, m < L → 0 < y (bk la t (m + 1)) (bk la t m)
  dec : ∀ m, m < L → rk (bk la t (m + 1)) < rk (bk la t m)
theorem Wm.back {N s : Nat} {y : Nat → Nat → Int} {R : Nat → Bool} {la rk : Nat → Nat} (h : Wm N s y R la rk) : ∀ n t, rk t < n → t < N → R t = true → ∃ L, Bw N s t y R la rk L := by
  intro n
  induction n with
  | zero => intro t ht; omega
  | succ n ih =>
    intro t hr ht hR
    by_cases e : t = s
    · subst e
      refine ⟨0, rfl, fun m hm => by omega, fun m hm => ?_, fun m hm => ?_, fun m hm => by omega, fun m hm => by omega⟩
      · obtain rfl : m = 0 := by omega
        exact ht
      · obtain rfl : m = 0 := by omega
        exact hR
    · obtain ⟨a1, a2, a3, a4⟩ := h.tree t ht hR e
      obtain ⟨L, hL⟩ := ih (la t) (by omega) a1 a2
      refine ⟨L + 1, ?_, fun m hm => ?_, fun m hm => ?_, fun m hm => ?_, fun m hm => ?_, fun m hm => ?_⟩
      · rw [bk_shift]; exact hL.fin
      all_goals cases m with
        | zero => first | exact e | exact ht | exact hR | exact a3 | exact a4
        | succ m =>
          simp only [bk_shift la t]
          first | exact hL.mid m (by omega) | exact hL.low m (by omega) | exact hL.rch m (by omega) | exact hL.pos m (by omega) | exact hL.dec m (by omega)
theorem Bw.ne {N s t L : Nat} {y : Nat → Nat → Int} {R : Nat → Bool} {la rk : Nat → Nat} (h : Bw N s t y R la rk L) : ∀ {m n : Nat}, m < n → n ≤ L → bk la t n ≠ bk la t m := by
  have key : ∀ d m, m + d + 1 ≤ L → rk (bk la t (m + d + 1)) < rk (bk la t m) := by
    intro d
    induction d with
    | zero => intro m hm; exact h.dec m (by omega)
    | succ d ih =>
      intro m hm
      have h1 := ih m (by omega)
      have h2 := h.dec (m + d + 1) (by omega)
      have e : m + (d + 1) + 1 = m + d + 1 + 1 := by omega
      rw [e]; omega
  intro m n hmn hn e
  obtain ⟨d, rfl⟩ : ∃ d, n = m + d + 1 := ⟨n - m - 1, by omega⟩
  have := key d m hn
  rw [e] at this
  omega
/-- one step of the way back: what is left of it can still carry r -/
theorem Bw.keep {N s t L n : Nat} {y z : Nat → Nat → Int} {R : Nat → Bool} {la rk : Nat → Nat} {r : Int} (h : Bw N s t y R la rk L) (hr : 0 ≤ r)
    (hz : ∀ m, n ≤ m → m < L → r ≤ z (bk la t (m + 1)) (bk la t m)) : ∀ m, n + 1 ≤ m → m < L → r ≤ psh z (bk la t (n + 1)) (bk la t n) r (bk la t (m + 1)) (bk la t m) := by
  intro m h1 h2
  have := hz m (by omega) h2
  exact Int.le_trans this (psh_other hr (h.ne (by omega) (by omega)))
end Go.Proofs.Ytilcbbdmenknfaa
