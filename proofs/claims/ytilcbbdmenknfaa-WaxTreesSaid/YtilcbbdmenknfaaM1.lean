/- Networks, flows and cuts: plain mathematics. -/
namespace Go.Proofs.Ytilcbbdmenknfaa

/-- f 0 + .. + f (n - 1) -/
def sm : Nat → (Nat → Int) → Int
  | 0, _ => 0
  | n + 1, f => sm n f + f n

theorem sm_congr {n : Nat} {f g : Nat → Int} (h : ∀ i, i < n → f i = g i) : sm n f = sm n g := by
  induction n with
  | zero => rfl
  | succ n ih => simp only [sm]; rw [ih (fun i hi => h i (by omega)), h n (by omega)]
theorem sm_add (n : Nat) (f g : Nat → Int) : sm n (fun i => f i + g i) = sm n f + sm n g := by
  induction n with
  | zero => rfl
  | succ n ih => simp only [sm]; rw [ih]; omega
theorem sm_sub (n : Nat) (f g : Nat → Int) : sm n (fun i => f i - g i) = sm n f - sm n g := by
  induction n with
  | zero => rfl
  | succ n ih => simp only [sm]; rw [ih]; omega
theorem sm_zero (n : Nat) : sm n (fun _ => 0) = 0 := by
  induction n with
  | zero => rfl
  | succ n ih => simp only [sm]; rw [ih]; rfl
theorem sm_nonneg {n : Nat} {f : Nat → Int} (h : ∀ i, i < n → 0 ≤ f i) : 0 ≤ sm n f := by
  induction n with
  | zero => exact Int.le_refl _
  | succ n ih => simp only [sm]; have := ih (fun i hi => h i (by omega)); have := h n (by omega); omega
theorem sm_le {n : Nat} {f g : Nat → Int} (h : ∀ i, i < n → f i ≤ g i) : sm n f ≤ sm n g := by
  induction n with
  | zero => exact Int.le_refl _
  | succ n ih => simp only [sm]; have := ih (fun i hi => h i (by omega)); have := h n (by omega); omega
theorem sm_const_le {n : Nat} {f : Nat → Int} {c : Int} (h : ∀ i, i < n → f i ≤ c) : sm n f ≤ n * c := by
  induction n with
  | zero => simp [sm]
  | succ n ih => simp only [sm]; have := ih (fun i hi => h i (by omega)); have := h n (by omega); rw [Int.natCast_add, Int.add_mul]; omega
theorem sm_swap (n m : Nat) (f : Nat → Nat → Int) : sm n (fun i => sm m (fun j => f i j)) = sm m (fun j => sm n (fun i => f i j)) := by
  induction n with
  | zero => simp only [sm]; rw [sm_zero]
  | succ n ih => simp only [sm]; rw [ih, ← sm_add]
theorem sm_one (n a : Nat) (f : Nat → Int) : sm n (fun i => if i = a then f i else 0) = if a < n then f a else 0 := by
  induction n with
  | zero => simp [sm]
  | succ n ih =>
    simp only [sm]; rw [ih]
    by_cases h1 : a < n
    · rw [if_pos h1, if_neg (show ¬ n = a by omega), if_pos (show a < n + 1 by omega)]; omega
    · by_cases h2 : n = a
      · subst h2; rw [if_neg h1, if_pos rfl, if_pos (show n < n + 1 by omega)]; omega
      · rw [if_neg h1, if_neg h2, if_neg (show ¬ a < n + 1 by omega)]; rfl
theorem sm_all_zero {n : Nat} {f : Nat → Int} (h : ∀ i, i < n → 0 ≤ f i) (hz : sm n f = 0) : ∀ i, i < n → f i = 0 := by
  induction n with
  | zero => intro i hi; omega
  | succ n ih =>
    simp only [sm] at hz
    have a := sm_nonneg (fun i hi => h i (Nat.lt_succ_of_lt hi))
    have b := h n (by omega)
    intro i hi
    by_cases e : i = n
    · subst e; omega
    · exact ih (fun i hi => h i (by omega)) (by omega) i (by omega)

/-- a network: arcs with ends and what they can carry -/
structure Nw where
  m : Nat
  fr : Nat → Nat
  to : Nat → Nat
  cp : Nat → Int

/-- the other step of the same arc -/
def rev (j : Nat) : Nat := if j % 2 = 0 then j + 1 else j - 1
theorem rev_rev (j : Nat) : rev (rev j) = j := by unfold rev; split <;> split <;> omega
theorem rev_lt {j m : Nat} (h : j < 2 * m) : rev j < 2 * m := by unfold rev; split <;> omega
theorem rev_half (j : Nat) : rev j / 2 = j / 2 := by unfold rev; split <;> omega
theorem rev_ne (j : Nat) : rev j ≠ j := by unfold rev; split <;> omega

namespace Nw
variable (G : Nw)
/-- where a step leads, and where it comes from -/
def hd (j : Nat) : Nat := if j % 2 = 0 then G.to (j / 2) else G.fr (j / 2)
def tl (j : Nat) : Nat := if j % 2 = 0 then G.fr (j / 2) else G.to (j / 2)
theorem hd_rev (j : Nat) : G.hd (rev j) = G.tl j := by
  unfold hd tl; rw [rev_half]; unfold rev
  by_cases h : j % 2 = 0
  · rw [if_pos h, if_pos h, if_neg (by omega)]
  · rw [if_neg h, if_neg h, if_pos (by omega)]
theorem tl_rev (j : Nat) : G.tl (rev j) = G.hd j := by
  have := G.hd_rev (rev j); rw [rev_rev] at this; exact this.symm

/-- how much more goes from a node than to it -/
def sp (f : Nat → Int) (v : Nat) : Int := sm G.m (fun k => (if G.fr k = v then f k else 0) - (if G.to k = v then f k else 0))
/-- what the arcs that leave a side can carry -/
def ct (S : Nat → Bool) : Int := sm G.m (fun k => if S (G.fr k) = true ∧ S (G.to k) = false then G.cp k else 0)
/-- nodes below N -/
def In (N : Nat) : Prop := ∀ k, k < G.m → G.fr k < N ∧ G.to k < N

/-- f is a flow from s to t -/
structure Fl (N s t : Nat) (f : Nat → Int) : Prop where
  lo : ∀ k, k < G.m → 0 ≤ f k
  hi : ∀ k, k < G.m → f k ≤ G.cp k
  cons : ∀ v, v < N → v ≠ s → v ≠ t → G.sp f v = 0
/-- S is a side -/
def Sd (s t : Nat) (S : Nat → Bool) : Prop := S s = true ∧ S t = false

/-- what is left across a side -/
def gp (f : Nat → Int) (S : Nat → Bool) : Int :=
  sm G.m (fun k => (if S (G.fr k) = true ∧ S (G.to k) = false then G.cp k - f k else 0) + (if S (G.fr k) = false ∧ S (G.to k) = true then f k else 0))

theorem sum_sp {N : Nat} (hN : G.In N) (f : Nat → Int) (S : Nat → Bool) :
    sm N (fun v => if S v = true then G.sp f v else 0) = sm G.m (fun k => (if S (G.fr k) = true then f k else 0) - (if S (G.to k) = true then f k else 0)) := by
  have h1 : sm N (fun v => if S v = true then G.sp f v else 0) = sm N (fun v => sm G.m (fun k => (if v = G.fr k then (if S v = true then f k else 0) else 0) - (if v = G.to k then (if S v = true then f k else 0) else 0))) := by
    refine sm_congr fun v _ => ?_
    by_cases hS : S v = true
    · rw [if_pos hS]
      unfold sp
      refine sm_congr fun k _ => ?_
      simp only [if_pos hS, eq_comm (a := G.fr k), eq_comm (a := G.to k)]
    · rw [if_neg hS]
      simp only [if_neg hS, ite_self, Int.sub_self]
      exact (sm_zero _).symm
  rw [h1, sm_swap]
  refine sm_congr fun k hk => ?_
  obtain ⟨a, b⟩ := hN k hk
  rw [sm_sub, sm_one, sm_one, if_pos a, if_pos b]

theorem gap {N s t : Nat} {f : Nat → Int} {S : Nat → Bool} (hN : G.In N) (hs : s < N) (hc : ∀ v, v < N → v ≠ s → v ≠ t → G.sp f v = 0) (hS : Sd s t S) :
    G.ct S = G.sp f s + G.gp f S := by
  have h1 := G.sum_sp hN f S
  have h2 : sm N (fun v => if S v = true then G.sp f v else 0) = G.sp f s := by
    have : sm N (fun v => if S v = true then G.sp f v else 0) = sm N (fun v => if v = s then G.sp f v else 0) := by
      refine sm_congr fun v hv => ?_
      by_cases e : v = s
      · subst e; rw [if_pos hS.1, if_pos rfl]
      · rw [if_neg e]
        by_cases hSv : S v = true
        · rw [if_pos hSv]
          exact hc v hv e (by rintro rfl; rw [hS.2] at hSv; cases hSv)
        · rw [if_neg hSv]
    rw [this, sm_one, if_pos hs]
  rw [h2] at h1
  rw [h1]
  unfold ct gp
  rw [← sm_add]
  refine sm_congr fun k _ => ?_
  cases S (G.fr k) <;> cases S (G.to k) <;> simp <;> omega

theorem gp_nonneg {N s t : Nat} {f : Nat → Int} (h : G.Fl N s t f) (S : Nat → Bool) : 0 ≤ G.gp f S := by
  refine sm_nonneg fun k hk => ?_
  have a := h.lo k hk
  have b := h.hi k hk
  split <;> split <;> omega

/-- no flow is greater than the cost of a side -/
theorem weak {N s t : Nat} {f : Nat → Int} {S : Nat → Bool} (hN : G.In N) (hs : s < N) (h : G.Fl N s t f) (hS : Sd s t S) : G.sp f s ≤ G.ct S := by
  have := G.gap hN hs h.cons hS
  have := G.gp_nonneg h S
  omega

/-- x: what each step can still carry -/
structure Rs (x : Nat → Int) : Prop where
  sum : ∀ k, k < G.m → x (2 * k) + x (2 * k + 1) = G.cp k
  nn : ∀ j, j < 2 * G.m → 0 ≤ x j
/-- the flow of a rest -/
def fw (x : Nat → Int) : Nat → Int := fun k => x (2 * k + 1)
/-- no open step leaves S -/
def Clo (x : Nat → Int) (S : Nat → Bool) : Prop := ∀ j, j < 2 * G.m → 0 < x j → S (G.tl j) = true → S (G.hd j) = true

theorem gp_closed {x : Nat → Int} (h : G.Rs x) (S : Nat → Bool) : G.gp (fw x) S = 0 ↔ G.Clo x S := by
  have hnn : ∀ k, k < G.m → 0 ≤ (if S (G.fr k) = true ∧ S (G.to k) = false then G.cp k - fw x k else 0) + (if S (G.fr k) = false ∧ S (G.to k) = true then fw x k else 0) := by
    intro k hk
    have a := h.sum k hk
    have b := h.nn (2 * k) (by omega)
    have c := h.nn (2 * k + 1) (by omega)
    unfold fw
    split <;> split <;> omega
  constructor
  · intro hz j hj hx ht
    have hk : j / 2 < G.m := by omega
    have hzk := sm_all_zero hnn hz (j / 2) hk
    have a := h.sum _ hk
    have b := h.nn (2 * (j / 2)) (by omega)
    have c := h.nn (2 * (j / 2) + 1) (by omega)
    unfold fw at hzk
    unfold tl at ht
    unfold hd
    by_cases e : j % 2 = 0
    · rw [if_pos e] at ht ⊢
      have ej : 2 * (j / 2) = j := by omega
      rw [ej] at a b c hzk
      cases hq : S (G.to (j / 2))
      · simp [ht, hq] at hzk; omega
      · rfl
    · rw [if_neg e] at ht ⊢
      have ej : 2 * (j / 2) + 1 = j := by omega
      rw [ej] at a c hzk
      cases hq : S (G.fr (j / 2))
      · simp [ht, hq] at hzk; omega
      · rfl
  · intro hC
    unfold gp
    refine Eq.trans (sm_congr (g := fun _ => 0) fun k hk => ?_) (sm_zero _)
    have a := h.sum k hk
    have b := h.nn (2 * k) (by omega)
    have c := h.nn (2 * k + 1) (by omega)
    have d := hC (2 * k) (by omega)
    have e := hC (2 * k + 1) (by omega)
    have t1 : G.tl (2 * k) = G.fr k := by unfold tl; rw [if_pos (by omega)]; congr 1; omega
    have t2 : G.hd (2 * k) = G.to k := by unfold hd; rw [if_pos (by omega)]; congr 1; omega
    have t3 : G.tl (2 * k + 1) = G.to k := by unfold tl; rw [if_neg (by omega)]; congr 1; omega
    have t4 : G.hd (2 * k + 1) = G.fr k := by unfold hd; rw [if_neg (by omega)]; congr 1; omega
    rw [t1, t2] at d
    rw [t3, t4] at e
    unfold fw
    cases h1 : S (G.fr k) <;> cases h2 : S (G.to k) <;> simp [h1, h2] at d e ⊢ <;> omega

theorem Rs.fl {x : Nat → Int} {N s t : Nat} (h : G.Rs x) (hc : ∀ v, v < N → v ≠ s → v ≠ t → G.sp (fw x) v = 0) : G.Fl N s t (fw x) := by
  refine ⟨fun k hk => h.nn _ (by omega), fun k hk => ?_, hc⟩
  have a := h.sum k hk
  have b := h.nn (2 * k) (by omega)
  unfold fw; omega

/-- a side is a minimum one exactly if no open step leaves it -/
theorem tight {x : Nat → Int} {N s t : Nat} {S : Nat → Bool} (hN : G.In N) (hs : s < N) (h : G.Rs x) (hc : ∀ v, v < N → v ≠ s → v ≠ t → G.sp (fw x) v = 0) (hS : Sd s t S) :
    G.ct S = G.sp (fw x) s ↔ G.Clo x S := by
  rw [← G.gp_closed h S]
  have := G.gap hN hs hc hS
  omega

/-- the rest after r more along step j -/
def aug (x : Nat → Int) (j : Nat) (r : Int) : Nat → Int := fun i => if i = j then x i - r else if i = rev j then x i + r else x i

theorem sp_aug {x : Nat → Int} {j : Nat} (hj : j < 2 * G.m) (r : Int) (v : Nat) :
    G.sp (fw (aug x j r)) v = G.sp (fw x) v + (if G.tl j = v then r else 0) - (if G.hd j = v then r else 0) := by
  have h1 : ∀ k, fw (aug x j r) k = fw x k + (if k = j / 2 then (if j % 2 = 0 then r else - r) else 0) := by
    intro k
    unfold fw aug rev
    by_cases e : j % 2 = 0
    · rw [if_pos e, if_pos e, if_neg (by omega)]
      by_cases ek : k = j / 2
      · rw [if_pos ek, if_pos (by omega)]
      · rw [if_neg ek, if_neg (by omega)]; omega
    · rw [if_neg e, if_neg e]
      by_cases ek : k = j / 2
      · rw [if_pos ek, if_pos (by omega)]; omega
      · rw [if_neg ek, if_neg (by omega), if_neg (by omega)]; omega
  have hk : j / 2 < G.m := by omega
  have h2 : G.sp (fw (aug x j r)) v = sm G.m (fun k => ((if G.fr k = v then fw x k else 0) - (if G.to k = v then fw x k else 0)) + (if k = j / 2 then ((if G.fr k = v then (if j % 2 = 0 then r else - r) else 0) - (if G.to k = v then (if j % 2 = 0 then r else - r) else 0)) else 0)) := by
    unfold sp
    refine sm_congr fun k _ => ?_
    rw [h1]
    by_cases ek : k = j / 2
    · simp only [if_pos ek]; split <;> split <;> omega
    · simp only [if_neg ek]; split <;> split <;> omega
  rw [h2, sm_add, sm_one, if_pos hk]
  unfold tl hd
  by_cases e : j % 2 = 0
  · simp only [if_pos e]; unfold sp; omega
  · simp only [if_neg e]; unfold sp; split <;> split <;> omega

/-- a way from node a to node b against its steps: the way's first step leads to a -/
def Ch : Nat → List Nat → Nat → Prop
  | a, [], b => a = b
  | a, j :: w, b => G.hd j = a ∧ Ch (G.tl j) w b
theorem Ch.snoc {a b : Nat} {w : List Nat} (h : G.Ch a w b) (j : Nat) (hj : G.hd j = b) : G.Ch a (w ++ [j]) (G.tl j) := by
  induction w generalizing a with
  | nil => simp only [Ch] at h; subst h; exact ⟨hj, rfl⟩
  | cons i w ih => exact ⟨h.1, ih h.2⟩

/-- r more along all steps -/
def augs (x : Nat → Int) (w : List Nat) (r : Int) : Nat → Int := w.foldl (fun x j => aug x j r) x
theorem augs_snoc (x : Nat → Int) (w : List Nat) (j : Nat) (r : Int) : augs x (w ++ [j]) r = aug (augs x w r) j r := by simp [augs]

theorem sp_augs {w : List Nat} {r : Int} (v : Nat) : ∀ {x : Nat → Int} {a b : Nat}, (∀ j ∈ w, j < 2 * G.m) → G.Ch a w b →
    G.sp (fw (augs x w r)) v = G.sp (fw x) v + (if b = v then r else 0) - (if a = v then r else 0) := by
  induction w with
  | nil => intro x a b _ h; simp only [Ch] at h; subst h; simp only [augs, List.foldl]; omega
  | cons j w ih =>
    intro x a b hj h
    have h1 := ih (x := aug x j r) (fun i hi => hj i (List.mem_cons_of_mem _ hi)) h.2
    have h2 := G.sp_aug (x := x) (hj j List.mem_cons_self) r v
    have h3 : augs x (j :: w) r = augs (aug x j r) w r := rfl
    rw [h3, h1, h2, h.1]
    omega

theorem Rs.aug {x : Nat → Int} (h : G.Rs x) {j : Nat} (hj : j < 2 * G.m) {r : Int} (hr : 0 ≤ r) (hx : r ≤ x j) : G.Rs (aug x j r) := by
  constructor
  · intro k hk
    have a := h.sum k hk
    unfold Nw.aug rev
    by_cases e : j % 2 = 0
    · rw [if_pos e]
      by_cases ek : k = j / 2
      · rw [if_pos (by omega), if_neg (by omega), if_pos (by omega)]; omega
      · rw [if_neg (by omega), if_neg (by omega), if_neg (by omega), if_neg (by omega)]; omega
    · rw [if_neg e]
      by_cases ek : k = j / 2
      · rw [if_neg (by omega), if_pos (by omega), if_pos (by omega)]; omega
      · rw [if_neg (by omega), if_neg (by omega), if_neg (by omega), if_neg (by omega)]; omega
  · intro i hi
    have a := h.nn i hi
    unfold Nw.aug
    split
    · subst i; omega
    · split <;> omega

theorem aug_other {x : Nat → Int} {j i : Nat} {r : Int} (hr : 0 ≤ r) (hne : i ≠ j) : x i ≤ Nw.aug x j r i := by
  unfold Nw.aug
  rw [if_neg hne]
  split <;> omega

theorem Rs.augs {r : Int} (hr : 0 ≤ r) : ∀ {w : List Nat} {x : Nat → Int}, G.Rs x → w.Nodup → (∀ j ∈ w, j < 2 * G.m ∧ r ≤ x j) → G.Rs (augs x w r) := by
  intro w
  induction w with
  | nil => intro x h _ _; exact h
  | cons j w ih =>
    intro x h hn hw
    have hj := hw j List.mem_cons_self
    refine ih (Rs.aug G h hj.1 hr hj.2) (List.nodup_cons.1 hn).2 fun i hi => ⟨(hw i (List.mem_cons_of_mem _ hi)).1, ?_⟩
    have := (hw i (List.mem_cons_of_mem _ hi)).2
    have h4 := aug_other (x := x) (j := j) (i := i) hr (by rintro rfl; exact (List.nodup_cons.1 hn).1 hi)
    exact Int.le_trans this h4

/-- what a walk from a node along open steps has found -/
structure Wk (N a : Nat) (op : Nat → Bool) (R : Nat → Bool) (la : Nat → Nat) (rk : Nat → Nat) : Prop where
  root : R a = true
  tree : ∀ v, v < N → R v = true → v ≠ a → la v < 2 * G.m ∧ op (la v) = true ∧ G.hd (la v) = v ∧ G.tl (la v) < N ∧ R (G.tl (la v)) = true ∧ rk (G.tl (la v)) < rk v
  closed : ∀ j, j < 2 * G.m → op j = true → R (G.tl j) = true → R (G.hd j) = true

/-- it is the smallest set that no open step leaves -/
theorem Wk.least {N a : Nat} {op : Nat → Bool} {R : Nat → Bool} {la rk : Nat → Nat} (h : G.Wk N a op R la rk) {S : Nat → Bool} (ha : S a = true)
    (hS : ∀ j, j < 2 * G.m → op j = true → S (G.tl j) = true → S (G.hd j) = true) : ∀ v, v < N → R v = true → S v = true := by
  have : ∀ n v, rk v < n → v < N → R v = true → S v = true := by
    intro n
    induction n with
    | zero => intro v hn; omega
    | succ n ih =>
      intro v hn hv hR
      by_cases e : v = a
      · subst e; exact ha
      · obtain ⟨h1, h2, h3, h4, h5, h6⟩ := h.tree v hv hR e
        have := hS _ h1 h2 (ih _ (by omega) h4 h5)
        rwa [h3] at this
  exact fun v hv => this (rk v + 1) v (by omega) hv
end Nw
end Go.Proofs.Ytilcbbdmenknfaa
