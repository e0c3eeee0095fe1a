/- Euler's formula for maps as mathematics: faces and vertices are no more than edges and twice the parts, and as many but for an even number. · Edges that close, as mathematics: what isCycle counts. -/
import Derived.Test.YtijhbmdbnnmogaaGreatM3
namespace Go.Proofs.YtijhbmdbnnmogaaGreat.G
open Go.RowKit

theorem least_ex {P : Nat → Prop} : ∀ x, P x → ∃ y, P y ∧ ∀ z, P z → y ≤ z := by
  intro x
  induction x using Nat.strongRecOn with
  | ind x ih =>
    intro h
    by_cases c : ∃ z, z < x ∧ P z
    · obtain ⟨z, h1, h2⟩ := c; exact ih z h1 h2
    · refine ⟨x, h, fun z hz => ?_⟩
      rcases Nat.lt_or_ge z x with h1 | h1
      · exact absurd ⟨z, h1, hz⟩ c
      · exact h1
open Classical in
/-- how many of the first n have not P -/
noncomputable def cnt (P : Nat → Prop) : Nat → Nat
  | 0 => 0
  | r + 1 => cnt P r + if P r then 0 else 1
theorem cnt_congr {P Q : Nat → Prop} : ∀ n, (∀ r, r < n → (P r ↔ Q r)) → cnt P n = cnt Q n
  | 0, _ => rfl
  | r + 1, h => by
    unfold cnt
    rw [cnt_congr r (fun j hj => h j (by omega))]
    congr 1
    have := h r (by omega)
    by_cases c : P r
    · rw [if_pos c, if_pos (this.1 c)]
    · rw [if_neg c, if_neg (fun d => c (this.2 d))]
theorem cnt_point {P Q : Nat → Prop} {t : Nat} (hP : ¬ P t) : ∀ n, (∀ r, r < n → (Q r ↔ (P r ∨ r = t))) → cnt Q n + (if t < n then 1 else 0) = cnt P n
  | 0, _ => by simp [cnt]
  | r + 1, h => by
    have ih := cnt_point hP r (fun j hj => h j (by omega))
    have hr := h r (by omega)
    unfold cnt
    by_cases e : r = t
    · subst e
      rw [if_neg (by omega)] at ih
      rw [if_pos (hr.2 (.inr rfl)), if_neg hP, if_pos (by omega)]
      omega
    · have e2 : (t < r + 1) = (t < r) := propext ⟨fun _ => by omega, fun _ => by omega⟩
      simp only [e2]
      by_cases c : P r
      · rw [if_pos c, if_pos (hr.2 (.inl c))]; omega
      · rw [if_neg c, if_neg (fun d => by rcases hr.1 d with d | d; exact c d; exact e d)]; omega
/-- how many classes -/
noncomputable def cls (R : Nat → Nat → Prop) (n : Nat) : Nat := cnt (fun r => ∃ l, l < r ∧ R l r) n
theorem cls_congr {R S : Nat → Nat → Prop} {n : Nat} (h : ∀ x y, x < n → y < n → (R x y ↔ S x y)) : cls R n = cls S n :=
  cnt_congr n fun r hr => ⟨fun ⟨l, h1, h2⟩ => ⟨l, h1, (h l r (by omega) hr).1 h2⟩, fun ⟨l, h1, h2⟩ => ⟨l, h1, (h l r (by omega) hr).2 h2⟩⟩
theorem rank_cnt {n k : Nat} {st : Nat → Nat → Nat} {m : Nat → Nat} (h : Nm n k st m) : ∀ r, r ≤ n → rank m r = cnt (fun r => ∃ l, l < r ∧ Rch n k st l r) r
  | 0, _ => rfl
  | r + 1, hr => by
    have ih := rank_cnt h r (by omega)
    unfold rank cnt
    rw [ih]
    congr 1
    obtain ⟨h1, h2⟩ := h r (by omega)
    have h3 := h.le_self (show r < n by omega)
    by_cases c : m r = r
    · rw [if_pos c, if_neg (fun ⟨l, h4, h5⟩ => by have := h2 l h5; omega)]
    · rw [if_neg c, if_pos ⟨m r, by omega, h1⟩]
theorem rank_cls {n k : Nat} {st : Nat → Nat → Nat} {m : Nat → Nat} (h : Nm n k st m) : rank m n = cls (Rch n k st) n := rank_cnt h n (Nat.le_refl _)
/-- an equivalence of the first n -/
structure Eqv (n : Nat) (R : Nat → Nat → Prop) : Prop where
  rf : ∀ x, x < n → R x x
  sy : ∀ x y, R x y → R y x
  tr : ∀ x y z, R x y → R y z → R x z
  lt : ∀ x y, R x y → x < n ∧ y < n
/-- a and b made one -/
def Jn (R : Nat → Nat → Prop) (a b x y : Nat) : Prop := R x y ∨ (R x a ∧ R b y) ∨ (R x b ∧ R a y)
section
variable {n : Nat} {R : Nat → Nat → Prop} {a b : Nat}
theorem Jn.eqv (h : Eqv n R) : Eqv n (Jn R a b) := by
  refine ⟨fun x hx => .inl (h.rf x hx), fun x y hxy => ?_, fun x y z h1 h2 => ?_, fun x y hxy => ?_⟩
  · rcases hxy with h1 | ⟨h1, h2⟩ | ⟨h1, h2⟩
    · exact .inl (h.sy _ _ h1)
    · exact .inr (.inr ⟨h.sy _ _ h2, h.sy _ _ h1⟩)
    · exact .inr (.inl ⟨h.sy _ _ h2, h.sy _ _ h1⟩)
  · rcases h1 with h1 | ⟨h1, h3⟩ | ⟨h1, h3⟩ <;> rcases h2 with h2 | ⟨h2, h4⟩ | ⟨h2, h4⟩
    · exact .inl (h.tr _ _ _ h1 h2)
    · exact .inr (.inl ⟨h.tr _ _ _ h1 h2, h4⟩)
    · exact .inr (.inr ⟨h.tr _ _ _ h1 h2, h4⟩)
    · exact .inr (.inl ⟨h1, h.tr _ _ _ h3 h2⟩)
    · exact .inl (h.tr _ _ _ h1 (h.tr _ _ _ (h.sy _ _ (h.tr _ _ _ h3 h2)) h4))
    · exact .inl (h.tr _ _ _ h1 h4)
    · exact .inr (.inr ⟨h1, h.tr _ _ _ h3 h2⟩)
    · exact .inl (h.tr _ _ _ h1 h4)
    · exact .inl (h.tr _ _ _ h1 (h.tr _ _ _ (h.sy _ _ (h.tr _ _ _ h3 h2)) h4))
  · rcases hxy with h1 | ⟨h1, h2⟩ | ⟨h1, h2⟩
    · exact h.lt _ _ h1
    · exact ⟨(h.lt _ _ h1).1, (h.lt _ _ h2).2⟩
    · exact ⟨(h.lt _ _ h1).1, (h.lt _ _ h2).2⟩
theorem cls_same (h : Eqv n R) (hab : R a b) : cls (Jn R a b) n = cls R n :=
  cls_congr fun x y _ _ => ⟨fun hj => by
    rcases hj with h1 | ⟨h1, h2⟩ | ⟨h1, h2⟩
    · exact h1
    · exact h.tr _ _ _ h1 (h.tr _ _ _ hab h2)
    · exact h.tr _ _ _ h1 (h.tr _ _ _ (h.sy _ _ hab) h2), .inl⟩
theorem cls_join (h : Eqv n R) (ha : a < n) (hb : b < n) (hab : ¬ R a b) : cls (Jn R a b) n + 1 = cls R n := by
  obtain ⟨ra, h1, h2⟩ := least_ex (P := fun x => R x a) a (h.rf a ha)
  obtain ⟨rb, h3, h4⟩ := least_ex (P := fun x => R x b) b (h.rf b hb)
  have hne : ra ≠ rb := fun e => hab (h.tr _ _ _ (h.sy _ _ h1) (by rw [e]; exact h3))
  have hra := (h.lt _ _ h1).1
  have hrb := (h.lt _ _ h3).1
  obtain ⟨t, ht⟩ : ∃ t, (t = ra ∧ rb < ra) ∨ (t = rb ∧ ra < rb) := by
    rcases Nat.lt_or_ge ra rb with h5 | h5
    · exact ⟨rb, .inr ⟨rfl, h5⟩⟩
    · exact ⟨ra, .inl ⟨rfl, by omega⟩⟩
  have hP : ¬ ∃ l, l < t ∧ R l t := fun ⟨l, h5, h6⟩ => by
    rcases ht with ⟨rfl, -⟩ | ⟨rfl, -⟩
    · have := h2 l (h.tr _ _ _ h6 h1); omega
    · have := h4 l (h.tr _ _ _ h6 h3); omega
  have key := cnt_point (P := fun r => ∃ l, l < r ∧ R l r) (Q := fun r => ∃ l, l < r ∧ Jn R a b l r) hP n (fun r hr => by
    constructor
    · rintro ⟨l, h5, h6⟩
      rcases h6 with h6 | ⟨h6, h7⟩ | ⟨h6, h7⟩
      · exact .inl ⟨l, h5, h6⟩
      · have h8 := h4 r (h.sy _ _ h7)
        have h9 := h2 l h6
        by_cases e : rb = r
        · right; rcases ht with ⟨rfl, h10⟩ | ⟨rfl, -⟩
          · omega
          · exact e.symm
        · exact .inl ⟨rb, by omega, h.tr _ _ _ h3 h7⟩
      · have h8 := h2 r (h.sy _ _ h7)
        have h9 := h4 l h6
        by_cases e : ra = r
        · right; rcases ht with ⟨rfl, -⟩ | ⟨rfl, h10⟩
          · exact e.symm
          · omega
        · exact .inl ⟨ra, by omega, h.tr _ _ _ h1 h7⟩
    · rintro (⟨l, h5, h6⟩ | rfl)
      · exact ⟨l, h5, .inl h6⟩
      · rcases ht with ⟨rfl, h10⟩ | ⟨rfl, h10⟩
        · exact ⟨rb, h10, .inr (.inr ⟨h3, h.sy _ _ h1⟩)⟩
        · exact ⟨ra, h10, .inr (.inl ⟨h1, h.sy _ _ h3⟩)⟩)
  have htn : t < n := by rcases ht with ⟨rfl, -⟩ | ⟨rfl, -⟩ <;> assumption
  rw [if_pos htn] at key
  exact key
end
theorem itr_add (f : Nat → Nat) (p : Nat) : ∀ q x, itr f (q + p) x = itr f q (itr f p x)
  | 0, x => by rw [Nat.zero_add]; rfl
  | q + 1, x => by rw [show q + 1 + p = (q + p) + 1 by omega]; show f _ = f _; rw [itr_add f p q x]
/-- x changed where it is a or b -/
def sw (a b x : Nat) : Nat := if x = a then b else if x = b then a else x
theorem sw_sw (a b x : Nat) : sw a b (sw a b x) = x := by unfold sw; split <;> split <;> (try split) <;> omega
theorem sw_lt {n a b x : Nat} (ha : a < n) (hb : b < n) (hx : x < n) : sw a b x < n := by unfold sw; split <;> (try split) <;> omega
/-- a permutation of the first n -/
structure Pm (n : Nat) (g : Nat → Nat) : Prop where
  lt : ∀ d, d < n → g d < n
  inj : ∀ x y, x < n → y < n → g x = g y → x = y
/-- its cycles -/
def Orb (n : Nat) (g : Nat → Nat) : Nat → Nat → Prop := Rch n 1 (fun _ => g)
section
variable {n : Nat} {g : Nat → Nat}
theorem Orb.eqv (h : Pm n g) : Eqv n (Orb n g) :=
  ⟨fun x hx => .here hx, fun x y hxy => Rch.back (fun _ _ => h.lt) (fun _ _ => h.inj) hxy, fun x y z h1 h2 => Rch.trans h1 h2, fun x y hxy => ⟨hxy.src, hxy.lt (fun _ _ => h.lt)⟩⟩
theorem Orb.itr {x y : Nat} (h : Orb n g x y) : ∃ k, itr g k x = y := by
  induction h with
  | here _ => exact ⟨0, rfl⟩
  | step _ _ ih => obtain ⟨k, hk⟩ := ih; exact ⟨k + 1, by rw [← hk]; rfl⟩
theorem Orb.of {x : Nat} (hx : x < n) : ∀ k, Orb n g x (G.itr g k x)
  | 0 => .here hx
  | k + 1 => (Orb.of hx k).step (i := 0) (by omega)
theorem Pm.sw {a b : Nat} (h : Pm n g) (ha : a < n) (hb : b < n) : Pm n (fun x => g (G.sw a b x)) :=
  ⟨fun d hd => h.lt _ (sw_lt ha hb hd), fun x y hx hy e => by
    have := h.inj _ _ (sw_lt ha hb hx) (sw_lt ha hb hy) e
    rw [← sw_sw a b x, this, sw_sw]⟩
/-- two cycles become one -/
theorem orb_one {a b : Nat} (h : Pm n g) (ha : a < n) (hb : b < n) (hab : ¬ Orb n g a b) : Orb n (fun x => g (sw a b x)) a b := by
  have key : ∀ k, (∀ j, j < k → G.itr g j (g b) ≠ b) → Orb n (fun x => g (sw a b x)) a (G.itr g k (g b)) := by
    intro k
    induction k with
    | zero =>
      intro _
      have := (Rch.here (n := n) (k := 1) (st := fun _ x => g (sw a b x)) ha).step (i := 0) (by omega)
      have e : sw a b a = b := by unfold sw; rw [if_pos rfl]
      try dsimp only at this
      rw [e] at this
      exact this
    | succ k ih =>
      intro hj
      have h1 := ih (fun j hjk => hj j (by omega))
      have h2 := hj k (by omega)
      have h3 : G.itr g k (g b) ≠ a := fun e => by
        have h4 : Orb n g b (G.itr g k (g b)) := Rch.trans ((Rch.here hb).step (i := 0) (by omega)) (Orb.of (h.lt b hb) k)
        rw [e] at h4
        exact hab ((Orb.eqv h).sy _ _ h4)
      have h5 := h1.step (i := 0) (by omega)
      have e : sw a b (G.itr g k (g b)) = G.itr g k (g b) := by unfold sw; rw [if_neg h3, if_neg h2]
      skip
      rw [e] at h5
      exact h5
  obtain ⟨k, hk⟩ := itr_back h.lt h.inj hb
  obtain ⟨k, h1, h2⟩ := least_ex (P := fun k => G.itr g k (g b) = b) k hk
  have := key k (fun j hj e => by have := h2 j e; omega)
  rw [h1] at this
  exact this
/-- one cycle becomes two -/
theorem orb_two {a b : Nat} (h : Pm n g) (ha : a < n) (hb : b < n) (hne : a ≠ b) (hab : Orb n g a b) : ¬ Orb n (fun x => g (sw a b x)) a b := by
  intro hc
  have hc2 := (Orb.eqv (h.sw ha hb)).sy _ _ hc
  obtain ⟨k, hk⟩ := hab.itr
  obtain ⟨i, h1, h2⟩ := least_ex (P := fun k => G.itr g k a = b) k hk
  have hi : 1 ≤ i := by
    rcases Nat.eq_zero_or_pos i with e | e
    · rw [e] at h1; exact absurd h1 hne
    · exact e
  have hno : ∀ j, 1 ≤ j → j < i → G.itr g j a ≠ a := fun j h3 h4 e => by
    have h5 : G.itr g (i - j) a = b := by
      have := itr_add g j (i - j) a
      rw [show i - j + j = i by omega, h1, e] at this
      exact this.symm
    have := h2 (i - j) h5
    omega
  have key : ∀ x, Orb n (fun x => g (sw a b x)) b x → ∃ j, 1 ≤ j ∧ j ≤ i ∧ x = G.itr g j a := by
    intro x hx
    induction hx with
    | here _ => exact ⟨i, hi, Nat.le_refl _, h1.symm⟩
    | @step y i' hr hi' ih =>
      obtain ⟨j, h3, h4, h5⟩ := ih
      try dsimp only
      by_cases e : y = b
      · have e2 : sw a b y = a := by unfold sw; rw [if_neg (by rw [e]; exact fun c => hne c.symm), if_pos e]
        rw [e2]
        exact ⟨1, Nat.le_refl _, hi, rfl⟩
      · have hji : j < i := by
          rcases Nat.lt_or_ge j i with h6 | h6
          · exact h6
          · obtain rfl : j = i := by omega
            exact absurd (h5.trans h1) e
        have hya : y ≠ a := by rw [h5]; exact hno j h3 hji
        have e2 : sw a b y = y := by unfold sw; rw [if_neg hya, if_neg e]
        rw [e2, h5]
        exact ⟨j + 1, by omega, by omega, rfl⟩
  obtain ⟨j, h3, h4, h5⟩ := key a hc2
  rcases Nat.lt_or_ge j i with h6 | h6
  · exact hno j h3 h6 h5.symm
  · obtain rfl : j = i := by omega
    exact hne (h5.trans h1)
theorem orb_join {a b : Nat} (h : Pm n g) (ha : a < n) (hb : b < n) (hab : ¬ Orb n g a b) : cls (Orb n (fun x => g (sw a b x))) n + 1 = cls (Orb n g) n := by
  have hE := Orb.eqv h
  have hE' := Orb.eqv (h.sw ha hb)
  have hJ : Eqv n (Jn (Orb n g) a b) := Jn.eqv hE
  have hone := orb_one h ha hb hab
  have ea : sw a b a = b := by unfold sw; rw [if_pos rfl]
  have eb : sw a b b = a := by unfold sw; split <;> simp_all
  have hst : ∀ x, x < n → Jn (Orb n g) a b x (g (sw a b x)) := fun x hx => by
    have hs : ∀ y, y < n → Orb n g y (g y) := fun y hy => (Rch.here hy).step (i := 0) (by omega)
    by_cases e1 : x = a
    · rw [e1, ea]; exact .inr (.inl ⟨hE.rf a ha, hs b hb⟩)
    · by_cases e2 : x = b
      · rw [e2, eb]; exact .inr (.inr ⟨hE.rf b hb, hs a ha⟩)
      · have e : sw a b x = x := by unfold sw; rw [if_neg e1, if_neg e2]
        rw [e]; exact .inl (hs x hx)
  have hsub : ∀ x y, Orb n g x y → Orb n (fun x => g (sw a b x)) x y := fun x y hxy => by
    induction hxy with
    | here hx => exact .here hx
    | @step y i hr hi ih =>
      refine hE'.tr _ _ _ ih ?_
      have hy := (hE.lt _ _ hr).2
      have hs : ∀ y, y < n → Orb n (fun x => g (sw a b x)) y (g (sw a b y)) := fun y hy => (Rch.here hy).step (i := 0) (by omega)
      by_cases e1 : y = a
      · have := hs b hb; rw [eb] at this; rw [e1]; exact hE'.tr _ _ _ hone this
      · by_cases e2 : y = b
        · have := hs a ha; rw [ea] at this; rw [e2]; exact hE'.tr _ _ _ (hE'.sy _ _ hone) this
        · have e : sw a b y = y := by unfold sw; rw [if_neg e1, if_neg e2]
          have := hs y hy; rw [e] at this; exact this
  rw [← cls_join hE ha hb hab]
  congr 1
  refine cls_congr fun x y hx hy => ⟨fun hxy => ?_, fun hxy => ?_⟩
  · induction hxy with
    | here hx => exact hJ.rf _ hx
    | @step y i hr hi ih =>
      have hy' := (hE'.lt _ _ hr).2
      exact hJ.tr _ _ _ (ih hy') (hst y hy')
  · rcases hxy with h1 | ⟨h1, h2⟩ | ⟨h1, h2⟩
    · exact hsub _ _ h1
    · exact hE'.tr _ _ _ (hsub _ _ h1) (hE'.tr _ _ _ hone (hsub _ _ h2))
    · exact hE'.tr _ _ _ (hsub _ _ h1) (hE'.tr _ _ _ (hE'.sy _ _ hone) (hsub _ _ h2))
theorem orb_part {a b : Nat} (h : Pm n g) (ha : a < n) (hb : b < n) (hne : a ≠ b) (hab : Orb n g a b) : cls (Orb n (fun x => g (sw a b x))) n = cls (Orb n g) n + 1 := by
  have h1 := orb_join (h.sw ha hb) ha hb (orb_two h ha hb hne hab)
  have e : (fun x => g (sw a b (sw a b x))) = g := by funext x; rw [sw_sw]
  rw [e] at h1
  exact h1.symm
end
/-- the first k edges are turned -/
def tp (f : Nat → Int) (k x : Nat) : Nat := if x < 2 * k then fl f x else tn f x
/-- what the vertices and the first k edges connect -/
def Ek (n : Nat) (f : Nat → Int) : Nat → Nat → Nat → Prop
  | 0 => Orb n (tn f)
  | k + 1 => Jn (Ek n f k) (2 * k) (2 * k + 1)
section
variable {n : Nat} {f : Nat → Int}
theorem Mp.pm (h : Mp n f) : Pm n (tn f) := ⟨fun d hd => h.tn_lt hd, fun x y hx hy e => h.inj x y hx hy (by rw [← h.tn_eq hx, ← h.tn_eq hy, e])⟩
theorem tp_succ (f : Nat → Int) (k : Nat) : tp f (k + 1) = fun x => tp f k (sw (2 * k) (2 * k + 1) x) := by
  funext x
  unfold tp sw fl
  have r1 : rev (2 * k) = 2 * k + 1 := by unfold rev; rw [if_pos (by omega)]
  have r2 : rev (2 * k + 1) = 2 * k := by unfold rev; rw [if_neg (by omega)]; omega
  by_cases e1 : x = 2 * k
  · rw [if_pos (by omega), if_pos e1, if_neg (by omega), e1, r1]
  · by_cases e2 : x = 2 * k + 1
    · rw [if_pos (by omega), if_neg e1, if_pos e2, if_neg (by omega), e2, r2]
    · rw [if_neg e1, if_neg e2]
      by_cases c : x < 2 * k
      · rw [if_pos (by omega), if_pos c]
      · rw [if_neg (by omega), if_neg c]
theorem euler_steps (h : Mp n f) : ∀ k, 2 * k ≤ n → Pm n (tp f k) ∧ Eqv n (Ek n f k) ∧ (∀ x y, Orb n (tp f k) x y → Ek n f k x y) ∧
    cls (Orb n (tp f k)) n + cls (Orb n (tn f)) n ≤ 2 * cls (Ek n f k) n + k ∧ (cls (Orb n (tp f k)) n + cls (Orb n (tn f)) n + k) % 2 = 0
  | 0, _ => by
    have e : tp f 0 = tn f := by funext x; unfold tp; rw [if_neg (by omega)]
    rw [e]
    exact ⟨h.pm, Orb.eqv h.pm, fun x y hxy => hxy, by show _ ≤ 2 * cls (Orb n (tn f)) n + 0; omega, by omega⟩
  | k + 1, hk => by
    obtain ⟨h1, h2, h3, h4, h5⟩ := euler_steps h k (by omega)
    have ha : 2 * k < n := by omega
    have hb : 2 * k + 1 < n := by omega
    have hP : Pm n (fun x => tp f k (sw (2 * k) (2 * k + 1) x)) := h1.sw ha hb
    have hJ : Eqv n (Jn (Ek n f k) (2 * k) (2 * k + 1)) := Jn.eqv h2
    rw [tp_succ]
    have hsub : ∀ x y, Orb n (fun x => tp f k (sw (2 * k) (2 * k + 1) x)) x y → Jn (Ek n f k) (2 * k) (2 * k + 1) x y := fun x y hxy => by
      have hs : ∀ y, y < n → Ek n f k y (tp f k y) := fun y hy => h3 _ _ ((Rch.here hy).step (i := 0) (by omega))
      induction hxy with
      | here hx => exact hJ.rf _ hx
      | @step y i hr hi ih =>
        refine hJ.tr _ _ _ ih ?_
        have hy := ((Orb.eqv hP).lt _ _ hr).2
        try dsimp only
        by_cases e1 : y = 2 * k
        · have e : sw (2 * k) (2 * k + 1) y = 2 * k + 1 := by unfold sw; rw [if_pos e1]
          rw [e, e1]; exact .inr (.inl ⟨h2.rf _ ha, hs _ hb⟩)
        · by_cases e2 : y = 2 * k + 1
          · have e : sw (2 * k) (2 * k + 1) y = 2 * k := by unfold sw; rw [if_neg e1, if_pos e2]
            rw [e, e2]; exact .inr (.inr ⟨h2.rf _ hb, hs _ ha⟩)
          · have e : sw (2 * k) (2 * k + 1) y = y := by unfold sw; rw [if_neg e1, if_neg e2]
            rw [e]; exact .inl (hs y hy)
    refine ⟨hP, hJ, hsub, ?_⟩
    show _ ≤ 2 * cls (Jn (Ek n f k) (2 * k) (2 * k + 1)) n + (k + 1) ∧ _
    by_cases c : Orb n (tp f k) (2 * k) (2 * k + 1)
    · have h6 := orb_part h1 ha hb (by omega) c
      have h7 := cls_same h2 (h3 _ _ c)
      rw [h6, h7]
      omega
    · have h6 := orb_join h1 ha hb c
      by_cases c2 : Ek n f k (2 * k) (2 * k + 1)
      · have h7 := cls_same h2 c2
        rw [h7]
        omega
      · have h7 := cls_join h2 ha hb c2
        omega
theorem ek_part (h : Mp n f) {x y : Nat} (hx : x < n) (hy : y < n) : Ek n f (n / 2) x y ↔ Rch n 2 (pt f) x y := by
  have hev := h.even
  have hstep : ∀ z, z < n → Rch n 2 (pt f) z (rev z) := fun z hz => by
    have := (Rch.here (n := n) (k := 2) (st := pt f) hz).step (i := 1) (by omega)
    unfold pt at this
    rw [if_neg (by omega)] at this
    exact this
  constructor
  · have key : ∀ k, 2 * k ≤ n → ∀ x y, Ek n f k x y → Rch n 2 (pt f) x y := by
      intro k
      induction k with
      | zero =>
        intro _ x y hxy
        replace hxy : Orb n (tn f) x y := hxy
        induction hxy with
        | here hx => exact .here hx
        | @step z i hr hi ih =>
          have := ih.step (i := 0) (by omega)
          unfold pt at this
          rw [if_pos rfl] at this
          exact this
      | succ k ih =>
        intro hk x y hxy
        have ih := ih (by omega)
        have r1 : rev (2 * k) = 2 * k + 1 := by unfold rev; rw [if_pos (by omega)]
        have r2 : rev (2 * k + 1) = 2 * k := by unfold rev; rw [if_neg (by omega)]; omega
        rcases hxy with h1 | ⟨h1, h2⟩ | ⟨h1, h2⟩
        · exact ih _ _ h1
        · have := hstep (2 * k) (by omega); rw [r1] at this
          exact (ih _ _ h1).trans (this.trans (ih _ _ h2))
        · have := hstep (2 * k + 1) (by omega); rw [r2] at this
          exact (ih _ _ h1).trans (this.trans (ih _ _ h2))
    exact key _ (by omega) x y
  · intro hxy
    have hE := (euler_steps h (n / 2) (by omega)).2.1
    have mono : ∀ k j, j ≤ k → ∀ x y, Ek n f j x y → Ek n f k x y := by
      intro k
      induction k with
      | zero => intro j hj x y hxy; obtain rfl : j = 0 := by omega
                exact hxy
      | succ k ih =>
        intro j hj x y hxy
        by_cases e : j = k + 1
        · subst e; exact hxy
        · exact .inl (ih j (by omega) x y hxy)
    induction hxy with
    | here hx => exact hE.rf _ hx
    | @step z i hr hi ih =>
      have hz := hr.lt (fun i _ d hd => h.pt_lt i hd)
      refine hE.tr _ _ _ (ih hz) ?_
      by_cases e : i = 0
      · subst e
        have : pt f 0 z = tn f z := by unfold pt; rw [if_pos rfl]
        rw [this]
        exact mono _ 0 (by omega) _ _ ((Rch.here hz).step (i := 0) (by omega))
      · have e2 : pt f i z = rev z := by unfold pt; rw [if_neg e]
        rw [e2]
        have h0 := (euler_steps h (z / 2) (by omega)).2.1
        have hj : Ek n f (z / 2 + 1) z (rev z) := by
          unfold rev
          split
          · rename_i c
            have ez : z = 2 * (z / 2) := by omega
            refine .inr (.inl ⟨?_, ?_⟩)
            · rw [← ez]; exact h0.rf _ hz
            · rw [← ez]; exact h0.rf _ (by omega)
          · rename_i c
            have ez : z = 2 * (z / 2) + 1 := by omega
            refine .inr (.inr ⟨?_, ?_⟩)
            · rw [← ez]; exact h0.rf _ hz
            · have e3 : z - 1 = 2 * (z / 2) := by omega
              rw [e3]; exact h0.rf _ (by omega)
        exact mono _ _ (by omega) _ _ hj
/-- vertices less edges and faces: at most twice the parts, and even -/
theorem euler_maps (h : Mp n f) {mv mf mp : Nat → Nat} (hv : Nm n 1 (fun _ => tn f) mv) (hf : Nm n 1 (fun _ => fl f) mf) (hp : Nm n 2 (pt f) mp) :
    rank mf n + rank mv n ≤ 2 * rank mp n + n / 2 ∧ (rank mf n + rank mv n + n / 2) % 2 = 0 := by
  have hev := h.even
  obtain ⟨-, -, -, h4, h5⟩ := euler_steps h (n / 2) (by omega)
  have e1 : cls (Orb n (tp f (n / 2))) n = rank mf n := by
    rw [rank_cls hf]
    refine cls_congr fun x y hx hy => ⟨fun hxy => ?_, fun hxy => ?_⟩
    · induction hxy with
      | here hx => exact .here hx
      | @step z i hr hi ih =>
        have hz : z < n := hr.lt (fun _ _ => (euler_steps h (n / 2) (by omega)).1.lt)
        have := (ih hz).step (i := 0) (by omega)
        have e : tp f (n / 2) z = fl f z := by unfold tp; rw [if_pos (by omega)]
        try dsimp only
        rw [e]; exact this
    · induction hxy with
      | here hx => exact .here hx
      | @step z i hr hi ih =>
        have hz : z < n := hr.lt (fun _ _ _ hd => h.fl_lt hd)
        have := (ih hz).step (i := 0) (by omega)
        have e : tp f (n / 2) z = fl f z := by unfold tp; rw [if_pos (by omega)]
        try dsimp only at this
        rw [e] at this; exact this
  have e2 : cls (Orb n (tn f)) n = rank mv n := (rank_cls hv).symm
  have e3 : cls (Ek n f (n / 2)) n = rank mp n := by
    rw [rank_cls hp]
    exact cls_congr fun x y hx hy => ek_part h hx hy
  rw [e1, e2, e3] at h4
  rw [e1, e2] at h5
  exact ⟨h4, h5⟩
end
end Go.Proofs.YtijhbmdbnnmogaaGreat.G
namespace Go.Proofs.YtijhbmdbnnmogaaGreat.G
open Go.RowKit

/-- the labels after u and v are joined -/
def jo (l : Nat → Nat) (u v w : Nat) : Nat := if l w = l u then l v else l w
/-- the labels are equal just where R holds -/
def Lb (n : Nat) (l : Nat → Nat) (R : Nat → Nat → Prop) : Prop := ∀ a b, a < n → b < n → (l a = l b ↔ R a b)
/-- each for itself -/
def Idn (n a b : Nat) : Prop := a = b ∧ a < n
theorem Idn.eqv (n : Nat) : Eqv n (Idn n) := ⟨fun _ h => ⟨rfl, h⟩, fun _ _ h => ⟨h.1.symm, by rw [← h.1]; exact h.2⟩, fun _ _ _ h g => ⟨h.1.trans g.1, h.2⟩, fun _ _ h => ⟨h.2, by rw [← h.1]; exact h.2⟩⟩
theorem Lb.start (n : Nat) : Lb n (fun v => v) (Idn n) := fun a _ ha _ => ⟨fun h => ⟨h, ha⟩, fun h => h.1⟩
theorem cnt_none (P : Nat → Prop) : ∀ n, (∀ r, r < n → ¬ P r) → cnt P n = n
  | 0, _ => rfl
  | r + 1, h => by unfold cnt; rw [cnt_none P r (fun j hj => h j (by omega)), if_neg (h r (by omega))]
theorem cls_idn (n : Nat) : cls (Idn n) n = n := cnt_none _ n fun _ _ ⟨l, h1, h2, _⟩ => by omega
section
variable {n : Nat} {l : Nat → Nat} {R : Nat → Nat → Prop} {u v : Nat}
theorem Lb.join (h : Lb n l R) (hE : Eqv n R) (hu : u < n) (hv : v < n) : Lb n (jo l u v) (Jn R u v) := by
  intro a b ha hb
  have e1 := h a u ha hu; have e2 := h b u hb hu; have e3 := h a v ha hv; have e4 := h b v hb hv; have e5 := h a b ha hb; have e6 := h u v hu hv
  unfold jo Jn
  constructor
  · intro hq
    by_cases c1 : l a = l u <;> by_cases c2 : l b = l u
    · exact .inl (hE.tr _ _ _ (e1.1 c1) (hE.sy _ _ (e2.1 c2)))
    · rw [if_pos c1, if_neg c2] at hq
      exact .inr (.inl ⟨e1.1 c1, hE.sy _ _ (e4.1 hq.symm)⟩)
    · rw [if_neg c1, if_pos c2] at hq
      exact .inr (.inr ⟨e3.1 hq, hE.sy _ _ (e2.1 c2)⟩)
    · rw [if_neg c1, if_neg c2] at hq
      exact .inl (e5.1 hq)
  · rintro (h1 | ⟨h1, h2⟩ | ⟨h1, h2⟩)
    · rw [e5.2 h1]
    · rw [if_pos (e1.2 h1)]
      by_cases c2 : l b = l u
      · rw [if_pos c2]
      · rw [if_neg c2]; exact (e4.2 (hE.sy _ _ h2)).symm
    · rw [if_pos (e2.2 (hE.sy _ _ h2))]
      by_cases c1 : l a = l u
      · rw [if_pos c1]
      · rw [if_neg c1]; exact e3.2 h1
theorem Lb.same (h : Lb n l R) (hu : u < n) (hv : v < n) (c : l u = l v) : jo l u v = l := by
  funext w
  unfold jo
  split
  · rename_i e; rw [e, c]
  · rfl
end
/-- the edges below k that S marks, joined one by one: labels, relation, how many closed, how many met at each vertex, how many there were -/
def lk (us vs : Nat → Nat) (S : Nat → Bool) (l : Nat → Nat) : Nat → Nat → Nat
  | 0 => l
  | k + 1 => if S k = true then jo (lk us vs S l k) (us k) (vs k) else lk us vs S l k
def rk (us vs : Nat → Nat) (S : Nat → Bool) (R : Nat → Nat → Prop) : Nat → Nat → Nat → Prop
  | 0 => R
  | k + 1 => if S k = true then Jn (rk us vs S R k) (us k) (vs k) else rk us vs S R k
def ck (us vs : Nat → Nat) (S : Nat → Bool) (l : Nat → Nat) : Nat → Nat
  | 0 => 0
  | k + 1 => ck us vs S l k + if S k = true ∧ lk us vs S l k (us k) = lk us vs S l k (vs k) then 1 else 0
def mt (us vs : Nat → Nat) (S : Nat → Bool) : Nat → Nat → Nat
  | 0, _ => 0
  | k + 1, w => mt us vs S k w + (if S k = true ∧ us k = w then 1 else 0) + if S k = true ∧ vs k = w then 1 else 0
def ek (S : Nat → Bool) : Nat → Nat
  | 0 => 0
  | k + 1 => ek S k + if S k = true then 1 else 0
section
variable {n : Nat} {us vs : Nat → Nat} {S : Nat → Bool} {l : Nat → Nat} {R : Nat → Nat → Prop}
theorem rk_lb (hE : Eqv n R) (hL : Lb n l R) : ∀ k, (∀ e, e < k → us e < n ∧ vs e < n) → Eqv n (rk us vs S R k) ∧ Lb n (lk us vs S l k) (rk us vs S R k)
  | 0, _ => ⟨hE, hL⟩
  | k + 1, h => by
    obtain ⟨h1, h2⟩ := rk_lb hE hL k (fun e he => h e (by omega))
    obtain ⟨h3, h4⟩ := h k (by omega)
    unfold rk lk
    split
    · exact ⟨Jn.eqv h1, h2.join h1 h3 h4⟩
    · exact ⟨h1, h2⟩
/-- classes and edges: what closes is left over -/
theorem ck_cls (hE : Eqv n R) (hL : Lb n l R) : ∀ k, (∀ e, e < k → us e < n ∧ vs e < n) → cls (rk us vs S R k) n + ek S k = cls R n + ck us vs S l k
  | 0, _ => rfl
  | k + 1, h => by
    have ih := ck_cls hE hL k (fun e he => h e (by omega))
    obtain ⟨h1, h2⟩ := rk_lb (us := us) (vs := vs) (S := S) hE hL k (fun e he => h e (by omega))
    obtain ⟨h3, h4⟩ := h k (by omega)
    unfold rk ek ck
    by_cases c : S k = true
    · rw [if_pos c, if_pos c]
      by_cases d : lk us vs S l k (us k) = lk us vs S l k (vs k)
      · rw [if_pos ⟨c, d⟩, cls_same h1 ((h2 _ _ h3 h4).1 d)]; omega
      · rw [if_neg (fun x => d x.2)]
        have := cls_join h1 h3 h4 (fun x => d ((h2 _ _ h3 h4).2 x))
        omega
    · rw [if_neg c, if_neg c, if_neg (fun x => c x.1)]; omega
end
/-- the sum of the first n -/
def sn0 (x : Nat → Nat) : Nat → Nat
  | 0 => 0
  | r + 1 => sn0 x r + x r
theorem sn0_one (w : Nat) (c : Prop) [Decidable c] (x : Nat → Nat) : ∀ n, w < n → sn0 (fun r => x r + if c ∧ w = r then 1 else 0) n = sn0 x n + if c then 1 else 0
  | 0, h => by omega
  | r + 1, h => by
    unfold sn0
    by_cases e : w = r
    · subst e
      have hz : ∀ m, m ≤ w → sn0 (fun r => x r + if c ∧ w = r then 1 else 0) m = sn0 x m := by
        intro m
        induction m with
        | zero => intro _; rfl
        | succ m ih => intro hm; unfold sn0; rw [ih (by omega), if_neg (by omega)]; omega
      rw [hz w (Nat.le_refl _)]
      by_cases d : c
      · rw [if_pos ⟨d, rfl⟩, if_pos d]; omega
      · rw [if_neg (fun x => d x.1), if_neg d]; omega
    · rw [sn0_one w c x r (by omega), if_neg (fun (y : c ∧ w = r) => e y.2)]; omega
section
variable {n : Nat} {us vs : Nat → Nat} {S : Nat → Bool}
theorem mt_sum : ∀ k, (∀ e, e < k → us e < n ∧ vs e < n) → sn0 (mt us vs S k) n = 2 * ek S k
  | 0, _ => by
    have : ∀ n, sn0 (mt us vs S 0) n = 0 := fun n => by
      induction n with
      | zero => rfl
      | succ n ih => unfold sn0; rw [ih]; rfl
    rw [this]; rfl
  | k + 1, h => by
    obtain ⟨h3, h4⟩ := h k (by omega)
    have ih := mt_sum k (fun e he => h e (by omega))
    have e1 : mt us vs S (k + 1) = fun w => (fun w => mt us vs S k w + if S k = true ∧ us k = w then 1 else 0) w + if S k = true ∧ vs k = w then 1 else 0 := rfl
    rw [e1, sn0_one (vs k) (S k = true) _ n h4, sn0_one (us k) (S k = true) _ n h3, ih]
    show _ = 2 * (ek S k + if S k = true then 1 else 0)
    split <;> omega
/-- who is met by no edge is alone -/
theorem mt_zero {v : Nat} : ∀ k, (∀ e, e < k → us e < n ∧ vs e < n) → mt us vs S k v = 0 → ∀ w, rk us vs S (Idn n) k w v → w = v
  | 0, _, _, w, h => h.1
  | k + 1, h, hz, w, hw => by
    have hz' : mt us vs S k v = 0 ∧ ¬ (S k = true ∧ us k = v) ∧ ¬ (S k = true ∧ vs k = v) := by
      unfold mt at hz
      refine ⟨by omega, fun c => ?_, fun c => ?_⟩
      · rw [if_pos c] at hz; omega
      · rw [if_pos c] at hz; omega
    have ih := mt_zero (v := v) k (fun e he => h e (by omega)) hz'.1
    unfold rk at hw
    split at hw
    · rename_i c
      rcases hw with h1 | ⟨h1, h2⟩ | ⟨h1, h2⟩
      · exact ih w h1
      · exact absurd ⟨c, ih _ h2⟩ hz'.2.2
      · exact absurd ⟨c, ih _ h2⟩ hz'.2.1
    · exact ih w hw
end
/-- how many of the first n have b, and how many of those have not P -/
def nb2 (b : Nat → Bool) : Nat → Nat
  | 0 => 0
  | r + 1 => nb2 b r + if b r = true then 1 else 0
theorem cnt_split (P : Nat → Prop) (b : Nat → Bool) : ∀ n, (∀ r, r < n → b r = false → ¬ P r) → cnt P n + nb2 b n = n + cnt (fun r => P r ∨ b r = false) n
  | 0, _ => rfl
  | r + 1, h => by
    have ih := cnt_split P b r (fun j hj => h j (by omega))
    unfold cnt nb2
    cases hb : b r
    · rw [if_neg (h r (by omega) hb), if_neg (by decide), if_pos (Or.inr rfl)]; omega
    · by_cases c : P r
      · rw [if_pos c, if_pos rfl, if_pos (Or.inl c)]; omega
      · rw [if_neg c, if_pos rfl, if_neg (fun x => by rcases x with x | x; exact c x; cases x)]; omega
theorem cnt_pos {P : Nat → Prop} {t : Nat} (ht : ¬ P t) : ∀ n, t < n → 1 ≤ cnt P n
  | 0, h => by omega
  | r + 1, h => by
    unfold cnt
    by_cases e : t = r
    · subst e; rw [if_neg ht]; omega
    · have := cnt_pos ht r (by omega); omega
theorem cnt_two {P : Nat → Prop} {s t : Nat} (hst : s < t) (hs : ¬ P s) (ht : ¬ P t) : ∀ n, t < n → 2 ≤ cnt P n
  | 0, h => by omega
  | r + 1, h => by
    unfold cnt
    by_cases e : t = r
    · subst e; rw [if_neg ht]; have := cnt_pos hs t hst; omega
    · have := cnt_two hst hs ht r (by omega); omega
theorem cnt_all {P : Nat → Prop} : ∀ n, (∀ r, r < n → P r) → cnt P n = 0
  | 0, _ => rfl
  | r + 1, h => by unfold cnt; rw [cnt_all r (fun j hj => h j (by omega)), if_pos (h r (by omega))]
theorem cnt_one {P : Nat → Prop} {t : Nat} (ht : ¬ P t) : ∀ n, t < n → (∀ r, r < n → r ≠ t → P r) → cnt P n = 1
  | 0, h, _ => by omega
  | r + 1, h, ha => by
    unfold cnt
    by_cases e : t = r
    · subst e; rw [if_neg ht, cnt_all t (fun j hj => ha j (by omega) (by omega))]
    · rw [cnt_one ht r (by omega) (fun j hj => ha j (by omega)), if_pos (ha r (by omega) (fun c => e c.symm))]
section
variable {n E : Nat} {us vs : Nat → Nat} {S : Nat → Bool}
theorem sn0_two : ∀ m, (∀ w, w < m → mt us vs S E w = 0 ∨ mt us vs S E w = 2) → sn0 (mt us vs S E) m = 2 * nb2 (fun w => decide (mt us vs S E w = 2)) m
  | 0, _ => rfl
  | m + 1, h => by
    unfold sn0 nb2
    rw [sn0_two m (fun w hw => h w (by omega))]
    rcases h m (by omega) with e | e <;> simp [e] <;> omega
/-- where each vertex is met by no edge or by two: one edge closes just if they go round once -/
theorem closes_one (h : ∀ e, e < E → us e < n ∧ vs e < n) (hd : ∀ w, w < n → mt us vs S E w = 0 ∨ mt us vs S E w = 2) :
    ck us vs S (fun v => v) E = 1 ↔ (∃ w, w < n ∧ mt us vs S E w = 2) ∧ ∀ a b, a < n → b < n → mt us vs S E a = 2 → mt us vs S E b = 2 → rk us vs S (Idn n) E a b := by
  have hE := (rk_lb (us := us) (vs := vs) (S := S) (Idn.eqv n) (Lb.start n) E h).1
  have h1 := ck_cls (S := S) (Idn.eqv n) (Lb.start n) E h
  rw [cls_idn] at h1
  have h2 := mt_sum (S := S) E h
  rw [sn0_two n hd] at h2
  have h3 := cnt_split (fun r => ∃ l, l < r ∧ rk us vs S (Idn n) E l r) (fun w => decide (mt us vs S E w = 2)) n (fun r hr hb ⟨l, h4, h5⟩ => by
    have h6 : mt us vs S E r ≠ 2 := by simpa using hb
    have h7 := mt_zero E h ((hd r hr).resolve_right h6) l h5
    omega)
  have h4 : ck us vs S (fun v => v) E = cnt (fun r => (∃ l, l < r ∧ rk us vs S (Idn n) E l r) ∨ decide (mt us vs S E r = 2) = false) n := by
    show ck us vs S (fun v => v) E = _
    unfold cls at h1
    omega
  rw [h4]
  constructor
  · intro hc
    have hex : ∃ w, w < n ∧ ¬ ((∃ l, l < w ∧ rk us vs S (Idn n) E l w) ∨ decide (mt us vs S E w = 2) = false) := by
      apply Classical.byContradiction
      intro hno
      have := cnt_all (P := fun r => (∃ l, l < r ∧ rk us vs S (Idn n) E l r) ∨ decide (mt us vs S E r = 2) = false) n (fun r hr => Classical.byContradiction fun c => hno ⟨r, hr, c⟩)
      omega
    obtain ⟨w, hw, hnw⟩ := hex
    have hw2 : mt us vs S E w = 2 := Classical.byContradiction fun c => hnw (.inr (decide_eq_false c))
    have key : ∀ a, a < n → mt us vs S E a = 2 → rk us vs S (Idn n) E w a := fun a ha ha2 => by
      obtain ⟨r, hr1, hr2⟩ := least_ex (P := fun r => rk us vs S (Idn n) E r a) a (hE.rf a ha)
      have hrn := (hE.lt _ _ hr1).1
      have hr3 : mt us vs S E r = 2 := by
        rcases hd r hrn with e | e
        · have := mt_zero E h e a (hE.sy _ _ hr1)
          rw [← this] at e; omega
        · exact e
      have hrm : ¬ ((∃ l, l < r ∧ rk us vs S (Idn n) E l r) ∨ decide (mt us vs S E r = 2) = false) := fun c => by
        rcases c with ⟨l, h5, h6⟩ | c
        · have := hr2 l (hE.tr _ _ _ h6 hr1); omega
        · rw [decide_eq_true hr3] at c; cases c
      rcases Nat.lt_trichotomy r w with h5 | h5 | h5
      · have := cnt_two (P := fun r => (∃ l, l < r ∧ rk us vs S (Idn n) E l r) ∨ decide (mt us vs S E r = 2) = false) h5 hrm hnw n hw; omega
      · rw [← h5]; exact hr1
      · have := cnt_two (P := fun r => (∃ l, l < r ∧ rk us vs S (Idn n) E l r) ∨ decide (mt us vs S E r = 2) = false) h5 hnw hrm n hrn; omega
    exact ⟨⟨w, hw, hw2⟩, fun a b ha hb ha2 hb2 => hE.tr _ _ _ (hE.sy _ _ (key a ha ha2)) (key b hb hb2)⟩
  · rintro ⟨⟨w, hw, hw2⟩, hall⟩
    obtain ⟨r, hr1, hr2⟩ := least_ex (P := fun r => mt us vs S E r = 2) w hw2
    have hrn : r < n := by have := hr2 w hw2; omega
    refine cnt_one (t := r) (fun c => ?_) n hrn (fun a ha hne => ?_)
    · rcases c with ⟨l, h5, h6⟩ | c
      · have hl := (hE.lt _ _ h6).1
        rcases hd l hl with e | e
        · have := mt_zero E h e r (hE.sy _ _ h6); omega
        · have := hr2 l e; omega
      · rw [decide_eq_true hr1] at c; cases c
    · by_cases e : mt us vs S E a = 2
      · have := hr2 a e
        exact .inl ⟨r, by omega, hall r a hrn ha hr1 e⟩
      · exact .inr (decide_eq_false e)
end
end Go.Proofs.YtijhbmdbnnmogaaGreat.G
