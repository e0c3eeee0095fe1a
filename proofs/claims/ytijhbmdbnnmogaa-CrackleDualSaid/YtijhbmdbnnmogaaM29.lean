/- Euler's formula for maps as mathematics: faces and vertices are no more than edges and twice the parts, and as many but for an even number. · Walks: the law CrackleDual. -/
import Derived.Test.YtijhbmdbnnmogaaM3
import Derived.Test.YtijhbmdbnnmogaaM28
namespace Go.Proofs.Ytijhbmdbnnmogaa.G
open Go.RowKit

theorem least_ex {P : Nat → Prop} : ∀ x, P x → ∃ y, P y ∧ ∀ z, P z → y ≤ z := by
  intro x
  induction x using Nat.strongRecOn with
  | ind x ih =>
    intro h
    by_cases c : ∃ z, z < x ∧ P z
    · obtain ⟨z, h1, h2⟩ := c; exact ih z h1 h2
    · refine ⟨x, h, fun z hz => ?_⟩
      rcases Nat.lt_or_ge z x with h1 | h1
      · exact absurd ⟨z, h1, hz⟩ c
      · exact h1
open Classical in
/-- how many of the first n have not P -/
noncomputable def cnt (P : Nat → Prop) : Nat → Nat
  | 0 => 0
  | r + 1 => cnt P r + if P r then 0 else 1
theorem cnt_congr {P Q : Nat → Prop} : ∀ n, (∀ r, r < n → (P r ↔ Q r)) → cnt P n = cnt Q n
  | 0, _ => rfl
  | r + 1, h => by
    unfold cnt
    rw [cnt_congr r (fun j hj => h j (by omega))]
    congr 1
    have := h r (by omega)
    by_cases c : P r
    · rw [if_pos c, if_pos (this.1 c)]
    · rw [if_neg c, if_neg (fun d => c (this.2 d))]
theorem cnt_point {P Q : Nat → Prop} {t : Nat} (hP : ¬ P t) : ∀ n, (∀ r, r < n → (Q r ↔ (P r ∨ r = t))) → cnt Q n + (if t < n then 1 else 0) = cnt P n
  | 0, _ => by simp [cnt]
  | r + 1, h => by
    have ih := cnt_point hP r (fun j hj => h j (by omega))
    have hr := h r (by omega)
    unfold cnt
    by_cases e : r = t
    · subst e
      rw [if_neg (by omega)] at ih
      rw [if_pos (hr.2 (.inr rfl)), if_neg hP, if_pos (by omega)]
      omega
    · have e2 : (t < r + 1) = (t < r) := propext ⟨fun _ => by omega, fun _ => by omega⟩
      simp only [e2]
      by_cases c : P r
      · rw [if_pos c, if_pos (hr.2 (.inl c))]; omega
      · rw [if_neg c, if_neg (fun d => by rcases hr.1 d with d | d; exact c d; exact e d)]; omega
/-- how many classes -/
noncomputable def cls (R : Nat → Nat → Prop) (n : Nat) : Nat := cnt (fun r => ∃ l, l < r ∧ R l r) n
theorem cls_congr {R S : Nat → Nat → Prop} {n : Nat} (h : ∀ x y, x < n → y < n → (R x y ↔ S x y)) : cls R n = cls S n :=
  cnt_congr n fun r hr => ⟨fun ⟨l, h1, h2⟩ => ⟨l, h1, (h l r (by omega) hr).1 h2⟩, fun ⟨l, h1, h2⟩ => ⟨l, h1, (h l r (by omega) hr).2 h2⟩⟩
theorem rank_cnt {n k : Nat} {st : Nat → Nat → Nat} {m : Nat → Nat} (h : Nm n k st m) : ∀ r, r ≤ n → rank m r = cnt (fun r => ∃ l, l < r ∧ Rch n k st l r) r
  | 0, _ => rfl
  | r + 1, hr => by
    have ih := rank_cnt h r (by omega)
    unfold rank cnt
    rw [ih]
    congr 1
    obtain ⟨h1, h2⟩ := h r (by omega)
    have h3 := h.le_self (show r < n by omega)
    by_cases c : m r = r
    · rw [if_pos c, if_neg (fun ⟨l, h4, h5⟩ => by have := h2 l h5; omega)]
    · rw [if_neg c, if_pos ⟨m r, by omega, h1⟩]
theorem rank_cls {n k : Nat} {st : Nat → Nat → Nat} {m : Nat → Nat} (h : Nm n k st m) : rank m n = cls (Rch n k st) n := rank_cnt h n (Nat.le_refl _)
/-- an equivalence of the first n -/
structure Eqv (n : Nat) (R : Nat → Nat → Prop) : Prop where
  rf : ∀ x, x < n → R x x
  sy : ∀ x y, R x y → R y x
  tr : ∀ x y z, R x y → R y z → R x z
  lt : ∀ x y, R x y → x < n ∧ y < n
/-- a and b made one -/
def Jn (R : Nat → Nat → Prop) (a b x y : Nat) : Prop := R x y ∨ (R x a ∧ R b y) ∨ (R x b ∧ R a y)
section
variable {n : Nat} {R : Nat → Nat → Prop} {a b : Nat}
theorem Jn.eqv (h : Eqv n R) : Eqv n (Jn R a b) := by
  refine ⟨fun x hx => .inl (h.rf x hx), fun x y hxy => ?_, fun x y z h1 h2 => ?_, fun x y hxy => ?_⟩
  · rcases hxy with h1 | ⟨h1, h2⟩ | ⟨h1, h2⟩
    · exact .inl (h.sy _ _ h1)
    · exact .inr (.inr ⟨h.sy _ _ h2, h.sy _ _ h1⟩)
    · exact .inr (.inl ⟨h.sy _ _ h2, h.sy _ _ h1⟩)
  · rcases h1 with h1 | ⟨h1, h3⟩ | ⟨h1, h3⟩ <;> rcases h2 with h2 | ⟨h2, h4⟩ | ⟨h2, h4⟩
    · exact .inl (h.tr _ _ _ h1 h2)
    · exact .inr (.inl ⟨h.tr _ _ _ h1 h2, h4⟩)
    · exact .inr (.inr ⟨h.tr _ _ _ h1 h2, h4⟩)
    · exact .inr (.inl ⟨h1, h.tr _ _ _ h3 h2⟩)
    · exact .inl (h.tr _ _ _ h1 (h.tr _ _ _ (h.sy _ _ (h.tr _ _ _ h3 h2)) h4))
    · exact .inl (h.tr _ _ _ h1 h4)
    · exact .inr (.inr ⟨h1, h.tr _ _ _ h3 h2⟩)
    · exact .inl (h.tr _ _ _ h1 h4)
    · exact .inl (h.tr _ _ _ h1 (h.tr _ _ _ (h.sy _ _ (h.tr _ _ _ h3 h2)) h4))
  · rcases hxy with h1 | ⟨h1, h2⟩ | ⟨h1, h2⟩
    · exact h.lt _ _ h1
    · exact ⟨(h.lt _ _ h1).1, (h.lt _ _ h2).2⟩
    · exact ⟨(h.lt _ _ h1).1, (h.lt _ _ h2).2⟩
theorem cls_same (h : Eqv n R) (hab : R a b) : cls (Jn R a b) n = cls R n :=
  cls_congr fun x y _ _ => ⟨fun hj => by
    rcases hj with h1 | ⟨h1, h2⟩ | ⟨h1, h2⟩
    · exact h1
    · exact h.tr _ _ _ h1 (h.tr _ _ _ hab h2)
    · exact h.tr _ _ _ h1 (h.tr _ _ _ (h.sy _ _ hab) h2), .inl⟩
theorem cls_join (h : Eqv n R) (ha : a < n) (hb : b < n) (hab : ¬ R a b) : cls (Jn R a b) n + 1 = cls R n := by
  obtain ⟨ra, h1, h2⟩ := least_ex (P := fun x => R x a) a (h.rf a ha)
  obtain ⟨rb, h3, h4⟩ := least_ex (P := fun x => R x b) b (h.rf b hb)
  have hne : ra ≠ rb := fun e => hab (h.tr _ _ _ (h.sy _ _ h1) (by rw [e]; exact h3))
  have hra := (h.lt _ _ h1).1
  have hrb := (h.lt _ _ h3).1
  obtain ⟨t, ht⟩ : ∃ t, (t = ra ∧ rb < ra) ∨ (t = rb ∧ ra < rb) := by
    rcases Nat.lt_or_ge ra rb with h5 | h5
    · exact ⟨rb, .inr ⟨rfl, h5⟩⟩
    · exact ⟨ra, .inl ⟨rfl, by omega⟩⟩
  have hP : ¬ ∃ l, l < t ∧ R l t := fun ⟨l, h5, h6⟩ => by
    rcases ht with ⟨rfl, -⟩ | ⟨rfl, -⟩
    · have := h2 l (h.tr _ _ _ h6 h1); omega
    · have := h4 l (h.tr _ _ _ h6 h3); omega
  have key := cnt_point (P := fun r => ∃ l, l < r ∧ R l r) (Q := fun r => ∃ l, l < r ∧ Jn R a b l r) hP n (fun r hr => by
    constructor
    · rintro ⟨l, h5, h6⟩
      rcases h6 with h6 | ⟨h6, h7⟩ | ⟨h6, h7⟩
      · exact .inl ⟨l, h5, h6⟩
      · have h8 := h4 r (h.sy _ _ h7)
        have h9 := h2 l h6
        by_cases e : rb = r
        · right; rcases ht with ⟨rfl, h10⟩ | ⟨rfl, -⟩
          · omega
          · exact e.symm
        · exact .inl ⟨rb, by omega, h.tr _ _ _ h3 h7⟩
      · have h8 := h2 r (h.sy _ _ h7)
        have h9 := h4 l h6
        by_cases e : ra = r
        · right; rcases ht with ⟨rfl, -⟩ | ⟨rfl, h10⟩
          · exact e.symm
          · omega
        · exact .inl ⟨ra, by omega, h.tr _ _ _ h1 h7⟩
    · rintro (⟨l, h5, h6⟩ | rfl)
      · exact ⟨l, h5, .inl h6⟩
      · rcases ht with ⟨rfl, h10⟩ | ⟨rfl, h10⟩
        · exact ⟨rb, h10, .inr (.inr ⟨h3, h.sy _ _ h1⟩)⟩
        · exact ⟨ra, h10, .inr (.inl ⟨h1, h.sy _ _ h3⟩)⟩)
  have htn : t < n := by rcases ht with ⟨rfl, -⟩ | ⟨rfl, -⟩ <;> assumption
  rw [if_pos htn] at key
  exact key
end
theorem itr_add (f : Nat → Nat) (p : Nat) : ∀ q x, itr f (q + p) x = itr f q (itr f p x)
  | 0, x => by rw [Nat.zero_add]; rfl
  | q + 1, x => by rw [show q + 1 + p = (q + p) + 1 by omega]; show f _ = f _; rw [itr_add f p q x]
/-- x changed where it is a or b -/
def sw (a b x : Nat) : Nat := if x = a then b else if x = b then a else x
theorem sw_sw (a b x : Nat) : sw a b (sw a b x) = x := by unfold sw; split <;> split <;> (try split) <;> omega
theorem sw_lt {n a b x : Nat} (ha : a < n) (hb : b < n) (hx : x < n) : sw a b x < n := by unfold sw; split <;> (try split) <;> omega
/-- a permutation of the first n -/
structure Pm (n : Nat) (g : Nat → Nat) : Prop where
  lt : ∀ d, d < n → g d < n
  inj : ∀ x y, x < n → y < n → g x = g y → x = y
/-- its cycles -/
def Orb (n : Nat) (g : Nat → Nat) : Nat → Nat → Prop := Rch n 1 (fun _ => g)
section
variable {n : Nat} {g : Nat → Nat}
theorem Orb.eqv (h : Pm n g) : Eqv n (Orb n g) :=
  ⟨fun x hx => .here hx, fun x y hxy => Rch.back (fun _ _ => h.lt) (fun _ _ => h.inj) hxy, fun x y z h1 h2 => Rch.trans h1 h2, fun x y hxy => ⟨hxy.src, hxy.lt (fun _ _ => h.lt)⟩⟩
theorem Orb.itr {x y : Nat} (h : Orb n g x y) : ∃ k, itr g k x = y := by
  induction h with
  | here _ => exact ⟨0, rfl⟩
  | step _ _ ih => obtain ⟨k, hk⟩ := ih; exact ⟨k + 1, by rw [← hk]; rfl⟩
theorem Orb.of {x : Nat} (hx : x < n) : ∀ k, Orb n g x (G.itr g k x)
  | 0 => .here hx
  | k + 1 => (Orb.of hx k).step (i := 0) (by omega)
theorem Pm.sw {a b : Nat} (h : Pm n g) (ha : a < n) (hb : b < n) : Pm n (fun x => g (G.sw a b x)) :=
  ⟨fun d hd => h.lt _ (sw_lt ha hb hd), fun x y hx hy e => by
    have := h.inj _ _ (sw_lt ha hb hx) (sw_lt ha hb hy) e
    rw [← sw_sw a b x, this, sw_sw]⟩
/-- two cycles become one -/
theorem orb_one {a b : Nat} (h : Pm n g) (ha : a < n) (hb : b < n) (hab : ¬ Orb n g a b) : Orb n (fun x => g (sw a b x)) a b := by
  have key : ∀ k, (∀ j, j < k → G.itr g j (g b) ≠ b) → Orb n (fun x => g (sw a b x)) a (G.itr g k (g b)) := by
    intro k
    induction k with
    | zero =>
      intro _
      have := (Rch.here (n := n) (k := 1) (st := fun _ x => g (sw a b x)) ha).step (i := 0) (by omega)
      have e : sw a b a = b := by unfold sw; rw [if_pos rfl]
      try dsimp only at this
      rw [e] at this
      exact this
    | succ k ih =>
      intro hj
      have h1 := ih (fun j hjk => hj j (by omega))
      have h2 := hj k (by omega)
      have h3 : G.itr g k (g b) ≠ a := fun e => by
        have h4 : Orb n g b (G.itr g k (g b)) := Rch.trans ((Rch.here hb).step (i := 0) (by omega)) (Orb.of (h.lt b hb) k)
        rw [e] at h4
        exact hab ((Orb.eqv h).sy _ _ h4)
      have h5 := h1.step (i := 0) (by omega)
      have e : sw a b (G.itr g k (g b)) = G.itr g k (g b) := by unfold sw; rw [if_neg h3, if_neg h2]
      skip
      rw [e] at h5
      exact h5
  obtain ⟨k, hk⟩ := itr_back h.lt h.inj hb
  obtain ⟨k, h1, h2⟩ := least_ex (P := fun k => G.itr g k (g b) = b) k hk
  have := key k (fun j hj e => by have := h2 j e; omega)
  rw [h1] at this
  exact this
/-- one cycle becomes two -/
theorem orb_two {a b : Nat} (h : Pm n g) (ha : a < n) (hb : b < n) (hne : a ≠ b) (hab : Orb n g a b) : ¬ Orb n (fun x => g (sw a b x)) a b := by
  intro hc
  have hc2 := (Orb.eqv (h.sw ha hb)).sy _ _ hc
  obtain ⟨k, hk⟩ := hab.itr
  obtain ⟨i, h1, h2⟩ := least_ex (P := fun k => G.itr g k a = b) k hk
  have hi : 1 ≤ i := by
    rcases Nat.eq_zero_or_pos i with e | e
    · rw [e] at h1; exact absurd h1 hne
    · exact e
  have hno : ∀ j, 1 ≤ j → j < i → G.itr g j a ≠ a := fun j h3 h4 e => by
    have h5 : G.itr g (i - j) a = b := by
      have := itr_add g j (i - j) a
      rw [show i - j + j = i by omega, h1, e] at this
      exact this.symm
    have := h2 (i - j) h5
    omega
  have key : ∀ x, Orb n (fun x => g (sw a b x)) b x → ∃ j, 1 ≤ j ∧ j ≤ i ∧ x = G.itr g j a := by
    intro x hx
    induction hx with
    | here _ => exact ⟨i, hi, Nat.le_refl _, h1.symm⟩
    | @step y i' hr hi' ih =>
      obtain ⟨j, h3, h4, h5⟩ := ih
      try dsimp only
      by_cases e : y = b
      · have e2 : sw a b y = a := by unfold sw; rw [if_neg (by rw [e]; exact fun c => hne c.symm), if_pos e]
        rw [e2]
        exact ⟨1, Nat.le_refl _, hi, rfl⟩
      · have hji : j < i := by
          rcases Nat.lt_or_ge j i with h6 | h6
          · exact h6
          · obtain rfl : j = i := by omega
            exact absurd (h5.trans h1) e
        have hya : y ≠ a := by rw [h5]; exact hno j h3 hji
        have e2 : sw a b y = y := by unfold sw; rw [if_neg hya, if_neg e]
        rw [e2, h5]
        exact ⟨j + 1, by omega, by omega, rfl⟩
  obtain ⟨j, h3, h4, h5⟩ := key a hc2
  rcases Nat.lt_or_ge j i with h6 | h6
  · exact hno j h3 h6 h5.symm
  · obtain rfl : j = i := by omega
    exact hne (h5.trans h1)
theorem orb_join {a b : Nat} (h : Pm n g) (ha : a < n) (hb : b < n) (hab : ¬ Orb n g a b) : cls (Orb n (fun x => g (sw a b x))) n + 1 = cls (Orb n g) n := by
  have hE := Orb.eqv h
  have hE' := Orb.eqv (h.sw ha hb)
  have hJ : Eqv n (Jn (Orb n g) a b) := Jn.eqv hE
  have hone := orb_one h ha hb hab
  have ea : sw a b a = b := by unfold sw; rw [if_pos rfl]
  have eb : sw a b b = a := by unfold sw; split <;> simp_all
  have hst : ∀ x, x < n → Jn (Orb n g) a b x (g (sw a b x)) := fun x hx => by
    have hs : ∀ y, y < n → Orb n g y (g y) := fun y hy => (Rch.here hy).step (i := 0) (by omega)
    by_cases e1 : x = a
    · rw [e1, ea]; exact .inr (.inl ⟨hE.rf a ha, hs b hb⟩)
    · by_cases e2 : x = b
      · rw [e2, eb]; exact .inr (.inr ⟨hE.rf b hb, hs a ha⟩)
      · have e : sw a b x = x := by unfold sw; rw [if_neg e1, if_neg e2]
        rw [e]; exact .inl (hs x hx)
  have hsub : ∀ x y, Orb n g x y → Orb n (fun x => g (sw a b x)) x y := fun x y hxy => by
    induction hxy with
    | here hx => exact .here hx
    | @step y i hr hi ih =>
      refine hE'.tr _ _ _ ih ?_
      have hy := (hE.lt _ _ hr).2
      have hs : ∀ y, y < n → Orb n (fun x => g (sw a b x)) y (g (sw a b y)) := fun y hy => (Rch.here hy).step (i := 0) (by omega)
      by_cases e1 : y = a
      · have := hs b hb; rw [eb] at this; rw [e1]; exact hE'.tr _ _ _ hone this
      · by_cases e2 : y = b
        · have := hs a ha; rw [ea] at this; rw [e2]; exact hE'.tr _ _ _ (hE'.sy _ _ hone) this
        · have e : sw a b y = y := by unfold sw; rw [if_neg e1, if_neg e2]
          have := hs y hy; rw [e] at this; exact this
  rw [← cls_join hE ha hb hab]
  congr 1
  refine cls_congr fun x y hx hy => ⟨fun hxy => ?_, fun hxy => ?_⟩
  · induction hxy with
    | here hx => exact hJ.rf _ hx
    | @step y i hr hi ih =>
      have hy' := (hE'.lt _ _ hr).2
      exact hJ.tr _ _ _ (ih hy') (hst y hy')
  · rcases hxy with h1 | ⟨h1, h2⟩ | ⟨h1, h2⟩
    · exact hsub _ _ h1
    · exact hE'.tr _ _ _ (hsub _ _ h1) (hE'.tr _ _ _ hone (hsub _ _ h2))
    · exact hE'.tr _ _ _ (hsub _ _ h1) (hE'.tr _ _ _ (hE'.sy _ _ hone) (hsub _ _ h2))
theorem orb_part {a b : Nat} (h : Pm n g) (ha : a < n) (hb : b < n) (hne : a ≠ b) (hab : Orb n g a b) : cls (Orb n (fun x => g (sw a b x))) n = cls (Orb n g) n + 1 := by
  have h1 := orb_join (h.sw ha hb) ha hb (orb_two h ha hb hne hab)
  have e : (fun x => g (sw a b (sw a b x))) = g := by funext x; rw [sw_sw]
  rw [e] at h1
  exact h1.symm
end
/-- the first k edges are turned -/
def tp (f : Nat → Int) (k x : Nat) : Nat := if x < 2 * k then fl f x else tn f x
/-- what the vertices and the first k edges connect -/
def Ek (n : Nat) (f : Nat → Int) : Nat → Nat → Nat → Prop
  | 0 => Orb n (tn f)
  | k + 1 => Jn (Ek n f k) (2 * k) (2 * k + 1)
section
variable {n : Nat} {f : Nat → Int}
theorem Mp.pm (h : Mp n f) : Pm n (tn f) := ⟨fun d hd => h.tn_lt hd, fun x y hx hy e => h.inj x y hx hy (by rw [← h.tn_eq hx, ← h.tn_eq hy, e])⟩
theorem tp_succ (f : Nat → Int) (k : Nat) : tp f (k + 1) = fun x => tp f k (sw (2 * k) (2 * k + 1) x) := by
  funext x
  unfold tp sw fl
  have r1 : rev (2 * k) = 2 * k + 1 := by unfold rev; rw [if_pos (by omega)]
  have r2 : rev (2 * k + 1) = 2 * k := by unfold rev; rw [if_neg (by omega)]; omega
  by_cases e1 : x = 2 * k
  · rw [if_pos (by omega), if_pos e1, if_neg (by omega), e1, r1]
  · by_cases e2 : x = 2 * k + 1
    · rw [if_pos (by omega), if_neg e1, if_pos e2, if_neg (by omega), e2, r2]
    · rw [if_neg e1, if_neg e2]
      by_cases c : x < 2 * k
      · rw [if_pos (by omega), if_pos c]
      · rw [if_neg (by omega), if_neg c]
theorem euler_steps (h : Mp n f) : ∀ k, 2 * k ≤ n → Pm n (tp f k) ∧ Eqv n (Ek n f k) ∧ (∀ x y, Orb n (tp f k) x y → Ek n f k x y) ∧
    cls (Orb n (tp f k)) n + cls (Orb n (tn f)) n ≤ 2 * cls (Ek n f k) n + k ∧ (cls (Orb n (tp f k)) n + cls (Orb n (tn f)) n + k) % 2 = 0
  | 0, _ => by
    have e : tp f 0 = tn f := by funext x; unfold tp; rw [if_neg (by omega)]
    rw [e]
    exact ⟨h.pm, Orb.eqv h.pm, fun x y hxy => hxy, by show _ ≤ 2 * cls (Orb n (tn f)) n + 0; omega, by omega⟩
  | k + 1, hk => by
    obtain ⟨h1, h2, h3, h4, h5⟩ := euler_steps h k (by omega)
    have ha : 2 * k < n := by omega
    have hb : 2 * k + 1 < n := by omega
    have hP : Pm n (fun x => tp f k (sw (2 * k) (2 * k + 1) x)) := h1.sw ha hb
    have hJ : Eqv n (Jn (Ek n f k) (2 * k) (2 * k + 1)) := Jn.eqv h2
    rw [tp_succ]
    have hsub : ∀ x y, Orb n (fun x => tp f k (sw (2 * k) (2 * k + 1) x)) x y → Jn (Ek n f k) (2 * k) (2 * k + 1) x y := fun x y hxy => by
      have hs : ∀ y, y < n → Ek n f k y (tp f k y) := fun y hy => h3 _ _ ((Rch.here hy).step (i := 0) (by omega))
      induction hxy with
      | here hx => exact hJ.rf _ hx
      | @step y i hr hi ih =>
        refine hJ.tr _ _ _ ih ?_
        have hy := ((Orb.eqv hP).lt _ _ hr).2
        try dsimp only
        by_cases e1 : y = 2 * k
        · have e : sw (2 * k) (2 * k + 1) y = 2 * k + 1 := by unfold sw; rw [if_pos e1]
          rw [e, e1]; exact .inr (.inl ⟨h2.rf _ ha, hs _ hb⟩)
        · by_cases e2 : y = 2 * k + 1
          · have e : sw (2 * k) (2 * k + 1) y = 2 * k := by unfold sw; rw [if_neg e1, if_pos e2]
            rw [e, e2]; exact .inr (.inr ⟨h2.rf _ hb, hs _ ha⟩)
          · have e : sw (2 * k) (2 * k + 1) y = y := by unfold sw; rw [if_neg e1, if_neg e2]
            rw [e]; exact .inl (hs y hy)
    refine ⟨hP, hJ, hsub, ?_⟩
    show _ ≤ 2 * cls (Jn (Ek n f k) (2 * k) (2 * k + 1)) n + (k + 1) ∧ _
    by_cases c : Orb n (tp f k) (2 * k) (2 * k + 1)
    · have h6 := orb_part h1 ha hb (by omega) c
      have h7 := cls_same h2 (h3 _ _ c)
      rw [h6, h7]
      omega
    · have h6 := orb_join h1 ha hb c
      by_cases c2 : Ek n f k (2 * k) (2 * k + 1)
      · have h7 := cls_same h2 c2
        rw [h7]
        omega
      · have h7 := cls_join h2 ha hb c2
        omega
theorem ek_part (h : Mp n f) {x y : Nat} (hx : x < n) (hy : y < n) : Ek n f (n / 2) x y ↔ Rch n 2 (pt f) x y := by
  have hev := h.even
  have hstep : ∀ z, z < n → Rch n 2 (pt f) z (rev z) := fun z hz => by
    have := (Rch.here (n := n) (k := 2) (st := pt f) hz).step (i := 1) (by omega)
    unfold pt at this
    rw [if_neg (by omega)] at this
    exact this
  constructor
  · have key : ∀ k, 2 * k ≤ n → ∀ x y, Ek n f k x y → Rch n 2 (pt f) x y := by
      intro k
      induction k with
      | zero =>
        intro _ x y hxy
        replace hxy : Orb n (tn f) x y := hxy
        induction hxy with
        | here hx => exact .here hx
        | @step z i hr hi ih =>
          have := ih.step (i := 0) (by omega)
          unfold pt at this
          rw [if_pos rfl] at this
          exact this
      | succ k ih =>
        intro hk x y hxy
        have ih := ih (by omega)
        have r1 : rev (2 * k) = 2 * k + 1 := by unfold rev; rw [if_pos (by omega)]
        have r2 : rev (2 * k + 1) = 2 * k := by unfold rev; rw [if_neg (by omega)]; omega
        rcases hxy with h1 | ⟨h1, h2⟩ | ⟨h1, h2⟩
        · exact ih _ _ h1
        · have := hstep (2 * k) (by omega); rw [r1] at this
          exact (ih _ _ h1).trans (this.trans (ih _ _ h2))
        · have := hstep (2 * k + 1) (by omega); rw [r2] at this
          exact (ih _ _ h1).trans (this.trans (ih _ _ h2))
    exact key _ (by omega) x y
  · intro hxy
    have hE := (euler_steps h (n / 2) (by omega)).2.1
    have mono : ∀ k j, j ≤ k → ∀ x y, Ek n f j x y → Ek n f k x y := by
      intro k
      induction k with
      | zero => intro j hj x y hxy; obtain rfl : j = 0 := by omega
                exact hxy
      | succ k ih =>
        intro j hj x y hxy
        by_cases e : j = k + 1
        · subst e; exact hxy
        · exact .inl (ih j (by omega) x y hxy)
    induction hxy with
    | here hx => exact hE.rf _ hx
    | @step z i hr hi ih =>
      have hz := hr.lt (fun i _ d hd => h.pt_lt i hd)
      refine hE.tr _ _ _ (ih hz) ?_
      by_cases e : i = 0
      · subst e
        have : pt f 0 z = tn f z := by unfold pt; rw [if_pos rfl]
        rw [this]
        exact mono _ 0 (by omega) _ _ ((Rch.here hz).step (i := 0) (by omega))
      · have e2 : pt f i z = rev z := by unfold pt; rw [if_neg e]
        rw [e2]
        have h0 := (euler_steps h (z / 2) (by omega)).2.1
        have hj : Ek n f (z / 2 + 1) z (rev z) := by
          unfold rev
          split
          · rename_i c
            have ez : z = 2 * (z / 2) := by omega
            refine .inr (.inl ⟨?_, ?_⟩)
            · rw [← ez]; exact h0.rf _ hz
            · rw [← ez]; exact h0.rf _ (by omega)
          · rename_i c
            have ez : z = 2 * (z / 2) + 1 := by omega
            refine .inr (.inr ⟨?_, ?_⟩)
            · rw [← ez]; exact h0.rf _ hz
            · have e3 : z - 1 = 2 * (z / 2) := by omega
              rw [e3]; exact h0.rf _ (by omega)
        exact mono _ _ (by omega) _ _ hj
/-- vertices less edges and faces: at most twice the parts, and even -/
theorem euler_maps (h : Mp n f) {mv mf mp : Nat → Nat} (hv : Nm n 1 (fun _ => tn f) mv) (hf : Nm n 1 (fun _ => fl f) mf) (hp : Nm n 2 (pt f) mp) :
    rank mf n + rank mv n ≤ 2 * rank mp n + n / 2 ∧ (rank mf n + rank mv n + n / 2) % 2 = 0 := by
  have hev := h.even
  obtain ⟨-, -, -, h4, h5⟩ := euler_steps h (n / 2) (by omega)
  have e1 : cls (Orb n (tp f (n / 2))) n = rank mf n := by
    rw [rank_cls hf]
    refine cls_congr fun x y hx hy => ⟨fun hxy => ?_, fun hxy => ?_⟩
    · induction hxy with
      | here hx => exact .here hx
      | @step z i hr hi ih =>
        have hz : z < n := hr.lt (fun _ _ => (euler_steps h (n / 2) (by omega)).1.lt)
        have := (ih hz).step (i := 0) (by omega)
        have e : tp f (n / 2) z = fl f z := by unfold tp; rw [if_pos (by omega)]
        try dsimp only
        rw [e]; exact this
    · induction hxy with
      | here hx => exact .here hx
      | @step z i hr hi ih =>
        have hz : z < n := hr.lt (fun _ _ _ hd => h.fl_lt hd)
        have := (ih hz).step (i := 0) (by omega)
        have e : tp f (n / 2) z = fl f z := by unfold tp; rw [if_pos (by omega)]
        try dsimp only at this
        rw [e] at this; exact this
  have e2 : cls (Orb n (tn f)) n = rank mv n := (rank_cls hv).symm
  have e3 : cls (Ek n f (n / 2)) n = rank mp n := by
    rw [rank_cls hp]
    exact cls_congr fun x y hx hy => ek_part h hx hy
  rw [e1, e2, e3] at h4
  rw [e1, e2] at h5
  exact ⟨h4, h5⟩
end
end Go.Proofs.Ytijhbmdbnnmogaa.G
namespace Go.Proofs.Ytijhbmdbnnmogaa.G
open Go.RowKit

theorem mp_vmap {n : Nat} {f : Nat → Int} (h : Mp n f) : vMap n f = true := by
  refine vMap_iff.2 ⟨⟨h.even, h.le⟩, fun k hk => okD_iff.2 ⟨⟨h.zero k hk, by have := h.lt k hk; omega⟩, ?_⟩⟩
  cases c : sn f k (f k).toNat
  · rfl
  · obtain ⟨j, hj, e⟩ := sn_true.1 c
    have := h.zero k hk
    have := h.inj j k (by omega) hk (by omega)
    omega
theorem dual_pt {n : Nat} {f : Nat → Int} (h : Mp n f) {x y : Nat} : Rch n 2 (pt (fun d => f (rev d))) x y ↔ Rch n 2 (pt f) x y := by
  have t0 : ∀ z, pt f 0 z = tn f z := fun z => by unfold pt; rw [if_pos rfl]
  have t1 : ∀ z, pt f 1 z = rev z := fun z => by unfold pt; rw [if_neg (by omega)]
  have u0 : ∀ z, pt (fun d => f (rev d)) 0 z = tn f (rev z) := fun z => by unfold pt; rw [if_pos rfl]; rfl
  have u1 : ∀ z, pt (fun d => f (rev d)) 1 z = rev z := fun z => by unfold pt; rw [if_neg (by omega)]
  constructor
  · intro hxy
    induction hxy with
    | here hx => exact .here hx
    | @step z i hr hi ih =>
      by_cases e : i = 0
      · subst e
        have a1 := ih.step (i := 1) (by omega)
        rw [t1] at a1
        have a2 := a1.step (i := 0) (by omega)
        rw [t0] at a2
        rw [u0]; exact a2
      · obtain rfl : i = 1 := by omega
        have a1 := ih.step (i := 1) (by omega)
        rw [t1] at a1
        rw [u1]; exact a1
  · intro hxy
    induction hxy with
    | here hx => exact .here hx
    | @step z i hr hi ih =>
      by_cases e : i = 0
      · subst e
        have a1 := ih.step (i := 1) (by omega)
        rw [u1] at a1
        have a2 := a1.step (i := 0) (by omega)
        rw [u0, rev_rev] at a2
        rw [t0]; exact a2
      · obtain rfl : i = 1 := by omega
        have a1 := ih.step (i := 1) (by omega)
        rw [u1] at a1
        rw [t1]; exact a1
theorem dual_nm {n : Nat} {f : Nat → Int} (h : Mp n f) {m : Nat → Nat} (hm : Nm n 2 (pt (fun d => f (rev d))) m) : Nm n 2 (pt f) m := fun d hd =>
  ⟨(dual_pt h).1 (hm d hd).1, fun l hl => (hm d hd).2 l ((dual_pt h).2 hl)⟩
theorem dual_fl {f : Nat → Int} : fl (fun d => f (rev d)) = tn f := by
  funext d
  show (f (rev (rev d))).toNat = (f d).toNat
  rw [rev_rev]
/-- what Euler returns for the map and for its dual -/
structure EuD (v q w p : Int) : Prop where
  b1 : 0 ≤ v ∧ v ≤ 80
  b2 : 0 ≤ q ∧ q ≤ 80
  b3 : 0 ≤ w ∧ w ≤ 80
  b4 : 0 ≤ p ∧ p ≤ 80
  ge : 0 ≤ 2 * p - v + q - w
  ev : (2 * p - v + q - w).tmod 2 = 0
theorem euler_two (n : Nat) (f : Nat → Int) (hM : Mp n f) : ∃ v q w p : Int, EuD v q w p ∧
    (∀ NV X, Il X NV n f → Calls Try.prog 11 #[.agg #[NV]] X fun e W' => e = .returned (.tuple #[.int .i64 v, .int .i64 q, .int .i64 w, .int .i64 p, .int .i64 0]) ∧ Ext X W') ∧
    (∀ NV X, Il X NV n (fun d => f (rev d)) → Calls Try.prog 11 #[.agg #[NV]] X fun e W' => e = .returned (.tuple #[.int .i64 w, .int .i64 q, .int .i64 v, .int .i64 p, .int .i64 0]) ∧ Ext X W') := by
  have hn80 := hM.le
  have nmx : ∀ k (st : Nat → Nat → Nat), ∃ m, Nm n k st m := fun k st => by
    have h : ∀ d, d < n → ∃ y, Rch n k st y d ∧ ∀ z, Rch n k st z d → y ≤ z := fun d hd => least_ex (P := fun y => Rch n k st y d) d (.here hd)
    refine ⟨fun d => if hd : d < n then Classical.choose (h d hd) else 0, fun d hd => ?_⟩
    have := Classical.choose_spec (h d hd)
    dsimp only
    rw [dif_pos hd]
    exact this
  obtain ⟨mv, hv⟩ := nmx 1 (fun _ => tn f)
  obtain ⟨mf, hf⟩ := nmx 1 (fun _ => fl f)
  obtain ⟨mp, hp⟩ := nmx 2 (pt f)
  obtain ⟨e1, e2⟩ := euler_maps hM hv hf hp
  have r1 := rank_le mv n
  have r2 := rank_le mf n
  have r3 := rank_le mp n
  refine ⟨(rank mv n : Nat), ((n / 2 : Nat) : Int), (rank mf n : Nat), (rank mp n : Nat), ⟨by omega, by omega, by omega, by omega, by omega, ?_⟩, fun NV X hX => ?_, fun NV X hX => ?_⟩
  · rw [Int.tmod_eq_emod_of_nonneg (by omega)]; omega
  · refine (euler_any n f NV X hX).mono ?_
    rintro e W' ⟨v, q, w, p, er, rfl, hx, ⟨hv', -⟩ | ⟨-, rfl, rfl, mv', mf', mp', hv', hf', hp', rfl, rfl, rfl⟩⟩
    · rw [mp_vmap hM] at hv'; cases hv'
    · rw [rank_congr n (fun j hj => hv'.only hv hj), rank_congr n (fun j hj => hf'.only hf hj), rank_congr n (fun j hj => hp'.only hp hj)]
      exact ⟨rfl, hx⟩
  · refine (euler_any n (fun d => f (rev d)) NV X hX).mono ?_
    rintro e W' ⟨v, q, w, p, er, rfl, hx, ⟨hv', -⟩ | ⟨-, rfl, rfl, mv', mf', mp', hv', hf', hp', rfl, rfl, rfl⟩⟩
    · rw [mp_vmap hM.dual] at hv'; cases hv'
    · rw [dual_fl] at hf'
      rw [rank_congr n (fun j hj => Nm.only (m' := mf) hv' hf hj), rank_congr n (fun j hj => hf'.only hv hj), rank_congr n (fun j hj => (dual_nm hM hp').only hp hj)]
      exact ⟨rfl, hx⟩

set_option maxHeartbeats 4000000 in
set_option maxRecDepth 100000 in
theorem crackleDual_no (n q : Nat) (f : Nat → Int) (NV : Value) (W : World) (hN : Il W NV n f) (HV : Hid (vMap q f = false))
    (HO : Hid (∀ X, Il X NV n f → Calls Try.prog 8 #[.agg #[NV]] X fun e W' => ∃ U, e = .returned (.agg #[U]) ∧ Il W' U q f ∧ Ext X W')) :
    Calls Try.prog 6 #[.agg #[NV]] W fun e W' => e = .returned (.bool true) ∧ Below W.heap.size W W' := by
  have HN := Lib.hid hN
  obtain ⟨A, c, rfl, hac, hcm, -⟩ := hN
  go_enter Try.func6, Try.ntmps6
  go_upto_region 1 with fail
  have bb := al1 W (.cells #[.slice A n c] 24)
  obtain ⟨m0, -, mz⟩ := uno (heap_alloc_new W (.cells #[.slice A n c] 24))
  generalize W.alloc (.cells #[.slice A n c] 24) = W1 at *
  have HB : Hid (Ext W W1) := Lib.hid bb
  clear bb
  go_wp2_with fail
  refine (HO.out _ (HN.out.ext HB.out)).mono ?_
  rintro e u0 ⟨U, rfl, hu, hx⟩
  have HU := Lib.hid (And.intro hu (HB.out.trans hx))
  obtain ⟨Au, cu, rfl, -⟩ := hu
  clear hx m0
  go_wp2_with fail
  refine (dualS_any q f _ _ HU.out.1).mono ?_
  rintro e s0 ⟨V, er, rfl, hx, ⟨-, rfl, rfl⟩ | ⟨hv', -⟩⟩
  rotate_left
  · rw [HV.out] at hv'; cases hv'
  have HX := Lib.hid ((HU.out.2.trans hx).alc (.cells #[.slice none 0 0] 28))
  clear hx
  go_wp2_with fail
  refine (awake_any _).mono ?_
  rintro e s1 ⟨rfl, hx⟩
  have HX2 := Lib.hid (HX.out.trans hx)
  clear hx
  go_wp2
  go_ret
  exact ⟨rfl, HX2.out⟩

set_option maxHeartbeats 8000000 in
set_option maxRecDepth 100000 in
theorem crackleDual_yes (n : Nat) (f : Nat → Int) (NV : Value) (W : World) (hN : Il W NV n f) (HM : Hid (Mp n f))
    (HO : Hid (∀ X, Il X NV n f → Calls Try.prog 8 #[.agg #[NV]] X fun e W' => ∃ U, e = .returned (.agg #[U]) ∧ Il W' U n f ∧ Ext X W')) :
    Calls Try.prog 6 #[.agg #[NV]] W fun e W' => e = .returned (.bool true) ∧ Below W.heap.size W W' := by
  obtain ⟨v, q, w, p, hE, hE1, hE2⟩ := euler_two n f HM.out
  have hn80 := HM.out.le
  have HE := Lib.hid (And.intro hE1 hE2)
  obtain ⟨b1, b2, b3, b4, hge, hev⟩ := hE
  clear hE1 hE2
  have HN := Lib.hid hN
  obtain ⟨A, c, rfl, hac, hcm, -⟩ := hN
  have HGE := Lib.hid (And.intro hge hev)
  clear hge hev
  go_enter Try.func6, Try.ntmps6
  go_upto_region 1 with fail
  have bb := al1 W (.cells #[.slice A n c] 24)
  obtain ⟨m0, -, mz⟩ := uno (heap_alloc_new W (.cells #[.slice A n c] 24))
  generalize W.alloc (.cells #[.slice A n c] 24) = W1 at *
  have HB : Hid (Ext W W1) := Lib.hid bb
  have HM0 := Lib.hid m0
  clear bb
  go_wp2_with fail
  refine (HO.out _ (HN.out.ext HB.out)).mono ?_
  rintro e u0 ⟨U, rfl, hu, hx⟩
  have HU := Lib.hid (And.intro hu hx)
  obtain ⟨Au, cu, rfl, -⟩ := hu
  clear hx m0
  go_wp2_with fail
  refine (dualS_any n f _ _ HU.out.1).mono ?_
  rintro e s0 ⟨V, er, rfl, hx, ⟨hv', -⟩ | ⟨-, rfl, hV⟩⟩
  · rw [mp_vmap HM.out] at hv'; cases hv'
  have HV := Lib.hid (And.intro hV (HU.out.2.trans hx))
  obtain ⟨Ad, cd, rfl, -⟩ := hV
  clear hx HU
  go_upto_region 2 with fail
  have bb := al1 s0 (.cells #[.slice Ad n cd] 28)
  obtain ⟨d0, -, dz⟩ := uno (heap_alloc_new s0 (.cells #[.slice Ad n cd] 28))
  generalize s0.alloc (.cells #[.slice Ad n cd] 28) = s1 at *
  have HD : Hid (Il s1 (.slice Ad n cd) n (fun d => f (rev d)) ∧ Ext W1 s1) := Lib.hid ⟨HV.out.1.ext bb, HV.out.2.trans bb⟩
  have HD0 := Lib.hid d0
  clear bb HV
  go_wp2_with fail
  refine (dualS_any n (fun d => f (rev d)) _ _ HD.out.1).mono ?_
  rintro e s2 ⟨V, er, rfl, hx, ⟨hv', -⟩ | ⟨-, rfl, hV⟩⟩
  · rw [mp_vmap HM.out.dual] at hv'; cases hv'
  have hV2 : Il s2 V n f := hV.congr fun j _ => by rw [rev_rev]
  have HV := Lib.hid (And.intro hV2 hx)
  obtain ⟨Ab, cb, rfl, -⟩ := hV
  clear hx hV2 d0
  go_upto_region 5 with fail
  have bb := al1 s2 (.cells #[.slice Ab n cb] 28)
  obtain ⟨k0, -, kz⟩ := uno (heap_alloc_new s2 (.cells #[.slice Ab n cb] 28))
  generalize s2.alloc (.cells #[.slice Ab n cb] 28) = s3 at *
  have HK : Hid (Il s3 (.slice Ab n cb) n f ∧ Ext s1 s3) := Lib.hid ⟨HV.out.1.ext bb, HV.out.2.trans bb⟩
  have HK0 := Lib.hid k0
  clear bb HV k0
  have m0 := keepAt (HD.out.2.trans HK.out.2) mz HM0.out
  go_wp2_with fail
  refine (HO.out _ (HN.out.ext (HB.out.trans (HD.out.2.trans HK.out.2)))).mono ?_
  rintro e u1 ⟨U, rfl, hu, hx⟩
  have HU := Lib.hid (And.intro hu hx)
  obtain ⟨Aw, cw, rfl, -⟩ := hu
  clear hx m0
  go_wp2_with fail
  refine (HE.out.1 _ _ HU.out.1).mono ?_
  rintro e s4 ⟨rfl, hx⟩
  have HX4 : Hid (Ext s3 s4) := Lib.hid (HU.out.2.trans hx)
  clear hx HU
  have d0 := keepAt (HK.out.2.trans HX4.out) dz HD0.out
  go_wp2_with fail
  refine (HE.out.2 _ _ (HD.out.1.ext (HK.out.2.trans HX4.out))).mono ?_
  rintro e s5 ⟨rfl, hx⟩
  have HX5 : Hid (Ext s3 s5) := Lib.hid (HX4.out.trans hx)
  clear hx d0
  have m0 := keepAt (HD.out.2.trans (HK.out.2.trans HX5.out)) mz HM0.out
  have k0 := keepAt HX5.out kz HK0.out
  have hq1 : (v == v) = true := by simp
  have hq2 : (q == q) = true := by simp
  have hq3 : (w == w) = true := by simp
  have hq4 : (p == p) = true := by simp
  go_wp2_with fail
  refine (equalI_any n f _ _ _ (HK.out.1.ext HX5.out) (HN.out.ext (HB.out.trans (HD.out.2.trans (HK.out.2.trans HX5.out)))) (by omega)).mono ?_
  rintro e s6 ⟨rfl, hx⟩
  have HX6 : Hid (Ext W s6) := Lib.hid ((HB.out.trans (HD.out.2.trans (HK.out.2.trans HX5.out))).trans hx)
  clear hx m0 k0
  have hge : ¬ (2 * p - v + q < w) := by have := HGE.out.1; omega
  have hev := HGE.out.2
  go_wp2_with fail
  refine (awake_any _).mono ?_
  rintro e s7 ⟨rfl, hx⟩
  have HX7 := Lib.hid (HX6.out.trans hx)
  clear hx
  go_wp2
  go_ret
  exact ⟨rfl, HX7.out⟩

theorem crackleDual_walk (n : Nat) (f : Nat → Int) (NV : Value) (W : World) (hN : Il W NV n f) :
    Calls Try.prog 6 #[.agg #[NV]] W fun e W' => e = .returned (.bool true) ∧ Below W.heap.size W W' := by
  cases hv : vMap n f
  · exact crackleDual_no n (min n 82) f NV W hN (Lib.hid (by rw [vMap_cut]; exact hv)) (Lib.hid fun X hX => of_any n f NV X hX)
  · have hM := vMap_mp hv
    have hn := hM.le
    refine crackleDual_yes n f NV W hN (Lib.hid hM) (Lib.hid fun X hX => ?_)
    have h := of_any n f NV X hX
    rw [Nat.min_eq_left (by omega)] at h
    exact h
end Go.Proofs.Ytijhbmdbnnmogaa.G
