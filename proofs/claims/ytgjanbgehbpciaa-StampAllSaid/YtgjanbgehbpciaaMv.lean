/- Moves of a stamp, as plain mathematics. -/
namespace Go.Proofs.Ytgjanbgehbpciaa

structure Mv where
  dx : Int
  dy : Int
  t : Int
  f : Bool
deriving DecidableEq

def Mv.one : Mv := ⟨0, 0, 0, false⟩

def rot : Nat → Int × Int → Int × Int
  | 0, p => p
  | n + 1, p => (-(rot n p).2, (rot n p).1)
def flp (f : Bool) (x : Int) : Int := if f then -x else x
def spin (f : Bool) (t : Nat) (p : Int × Int) : Int × Int := rot t (flp f p.1, p.2)

def okSize (w h : Int) : Bool := decide (1 ≤ w) && decide (w ≤ 8) && decide (1 ≤ h) && decide (h ≤ 8)
def has (w h : Int) (m : Mv) : Bool :=
  decide (0 ≤ m.dx) && decide (m.dx < w) && decide (0 ≤ m.dy) && decide (m.dy < h) && decide (0 ≤ m.t) && decide (m.t < 4) && (decide (m.t % 2 = 0) || decide (w = h))

def tsum (f : Bool) (t u : Int) : Int := (t + (if f then -u else u)) % 4
def aft (w h : Int) (a b : Mv) : Mv :=
  ⟨((spin a.f a.t.toNat (b.dx, b.dy)).1 + a.dx) % w, ((spin a.f a.t.toNat (b.dx, b.dy)).2 + a.dy) % h, tsum a.f a.t b.t, a.f != b.f⟩
def tinv (f : Bool) (t : Int) : Int := if f then t else (-t) % 4
def inv (w h : Int) (m : Mv) : Mv :=
  ⟨(-(spin m.f (tinv m.f m.t).toNat (m.dx, m.dy)).1) % w, (-(spin m.f (tinv m.f m.t).toNat (m.dx, m.dy)).2) % h, tinv m.f m.t, m.f⟩

theorem okSize_iff {w h : Int} : okSize w h = true ↔ 1 ≤ w ∧ w ≤ 8 ∧ 1 ≤ h ∧ h ≤ 8 := by
  unfold okSize; simp; omega
theorem has_iff {w h : Int} {m : Mv} : has w h m = true ↔ 0 ≤ m.dx ∧ m.dx < w ∧ 0 ≤ m.dy ∧ m.dy < h ∧ 0 ≤ m.t ∧ m.t < 4 ∧ (m.t % 2 = 0 ∨ w = h) := by
  unfold has; simp; omega

/-- the four turns -/
theorem t4 {t : Int} (h0 : 0 ≤ t) (h4 : t < 4) : t = 0 ∨ t = 1 ∨ t = 2 ∨ t = 3 := by omega

theorem spin_comp {fa fb : Bool} {ta tb : Int} (a0 : 0 ≤ ta) (a4 : ta < 4) (b0 : 0 ≤ tb) (b4 : tb < 4) (p : Int × Int) :
    spin (fa != fb) (tsum fa ta tb).toNat p = spin fa ta.toNat (spin fb tb.toNat p) := by
  obtain ⟨x, y⟩ := p
  rcases t4 a0 a4 with rfl | rfl | rfl | rfl <;> rcases t4 b0 b4 with rfl | rfl | rfl | rfl <;> cases fa <;> cases fb <;> simp [spin, rot, flp, tsum]

theorem tsum_in (f : Bool) (t u : Int) : 0 ≤ tsum f t u ∧ tsum f t u < 4 := by unfold tsum; omega
theorem tsum_even {f : Bool} {t u : Int} (h : t % 2 = 0) (h' : u % 2 = 0) : tsum f t u % 2 = 0 := by unfold tsum; split <;> omega
theorem tinv_in {f : Bool} {t : Int} (h0 : 0 ≤ t) (h4 : t < 4) : 0 ≤ tinv f t ∧ tinv f t < 4 := by unfold tinv; split <;> omega
theorem tinv_even {f : Bool} {t : Int} (h : t % 2 = 0) : tinv f t % 2 = 0 := by unfold tinv; split <;> omega

theorem aft_has {w h : Int} {a b : Mv} (hs : okSize w h = true) (ha : has w h a = true) (hb : has w h b = true) : has w h (aft w h a b) = true := by
  rw [okSize_iff] at hs
  rw [has_iff] at ha hb ⊢
  have h1 := tsum_in a.f a.t b.t
  refine ⟨Int.emod_nonneg _ (by omega), Int.emod_lt_of_pos _ (by omega), Int.emod_nonneg _ (by omega), Int.emod_lt_of_pos _ (by omega), h1.1, h1.2, ?_⟩
  by_cases e : w = h
  · exact .inr e
  · exact .inl (tsum_even (ha.2.2.2.2.2.2.resolve_right e) (hb.2.2.2.2.2.2.resolve_right e))
theorem inv_has {w h : Int} {a : Mv} (hs : okSize w h = true) (ha : has w h a = true) : has w h (inv w h a) = true := by
  rw [okSize_iff] at hs
  rw [has_iff] at ha ⊢
  have h1 := tinv_in (f := a.f) ha.2.2.2.2.1 ha.2.2.2.2.2.1
  refine ⟨Int.emod_nonneg _ (by omega), Int.emod_lt_of_pos _ (by omega), Int.emod_nonneg _ (by omega), Int.emod_lt_of_pos _ (by omega), h1.1, h1.2, ?_⟩
  by_cases e : w = h
  · exact .inr e
  · exact .inl (tinv_even (ha.2.2.2.2.2.2.resolve_right e))

/-- congruence -/
def Cg (n a b : Int) : Prop := ∃ k, a = b + n * k
theorem cg_mod (n a : Int) : Cg n (a % n) a := ⟨-(a / n), by have := Int.emod_add_mul_ediv a n; rw [Int.mul_neg]; omega⟩
theorem cg_eq {n a b : Int} (h : Cg n a b) : a % n = b % n := by obtain ⟨k, rfl⟩ := h; exact Int.add_mul_emod_self_left b n k
theorem Cg.refl (n a : Int) : Cg n a a := ⟨0, by simp⟩
theorem Cg.symm {n a b : Int} (h : Cg n a b) : Cg n b a := by obtain ⟨k, rfl⟩ := h; exact ⟨-k, by rw [Int.mul_neg]; omega⟩
theorem Cg.trans {n a b c : Int} (h : Cg n a b) (h' : Cg n b c) : Cg n a c := by
  obtain ⟨k, rfl⟩ := h; obtain ⟨l, rfl⟩ := h'; exact ⟨l + k, by rw [Int.mul_add]; omega⟩
theorem Cg.add {n a b c d : Int} (h : Cg n a b) (h' : Cg n c d) : Cg n (a + c) (b + d) := by
  obtain ⟨k, rfl⟩ := h; obtain ⟨l, rfl⟩ := h'; exact ⟨k + l, by rw [Int.mul_add]; omega⟩
theorem Cg.neg {n a b : Int} (h : Cg n a b) : Cg n (-a) (-b) := by
  obtain ⟨k, rfl⟩ := h; exact ⟨-k, by rw [Int.mul_neg]; omega⟩

/-- a spin keeps congruence -/
theorem spin_cg {w h : Int} {f : Bool} {t : Int} (h0 : 0 ≤ t) (h4 : t < 4) (he : t % 2 = 0 ∨ w = h) {x y x' y' : Int} (hx : Cg w x x') (hy : Cg h y y') :
    Cg w (spin f t.toNat (x, y)).1 (spin f t.toNat (x', y')).1 ∧ Cg h (spin f t.toNat (x, y)).2 (spin f t.toNat (x', y')).2 := by
  rcases t4 h0 h4 with rfl | rfl | rfl | rfl
  · cases f <;> simp [spin, rot, flp] <;> first | exact ⟨hx, hy⟩ | exact ⟨hx.neg, hy⟩
  · have e : w = h := he.resolve_left (by decide)
    subst e
    cases f <;> simp [spin, rot, flp] <;> first | exact ⟨hy.neg, hx⟩ | exact ⟨hy.neg, hx.neg⟩
  · cases f <;> simp [spin, rot, flp] <;> first | exact ⟨hx.neg, hy.neg⟩ | exact ⟨hx, hy.neg⟩
  · have e : w = h := he.resolve_left (by decide)
    subst e
    cases f <;> simp [spin, rot, flp] <;> first | exact ⟨hy, hx.neg⟩ | exact ⟨hy, hx⟩

theorem spin_add {f : Bool} {t : Int} (h0 : 0 ≤ t) (h4 : t < 4) (x y x' y' : Int) :
    (spin f t.toNat (x + x', y + y')).1 = (spin f t.toNat (x, y)).1 + (spin f t.toNat (x', y')).1 ∧ (spin f t.toNat (x + x', y + y')).2 = (spin f t.toNat (x, y)).2 + (spin f t.toNat (x', y')).2 := by
  rcases t4 h0 h4 with rfl | rfl | rfl | rfl <;> cases f <;> simp [spin, rot, flp] <;> omega

theorem spin_bd {f : Bool} {t : Int} (h0 : 0 ≤ t) (h4 : t < 4) {x y B : Int} (hx : -B ≤ x) (hx' : x ≤ B) (hy : -B ≤ y) (hy' : y ≤ B) :
    -B ≤ (spin f t.toNat (x, y)).1 ∧ (spin f t.toNat (x, y)).1 ≤ B ∧ -B ≤ (spin f t.toNat (x, y)).2 ∧ (spin f t.toNat (x, y)).2 ≤ B := by
  rcases t4 h0 h4 with rfl | rfl | rfl | rfl <;> cases f <;> simp [spin, rot, flp] <;> omega

theorem tsum_assoc (fa fb : Bool) (a b c : Int) :
    tsum (fa != fb) (tsum fa a b) c = tsum fa a (tsum fb b c) := by
  cases fa <;> cases fb <;> simp [tsum] <;> omega

theorem mv_ext {a b : Mv} (h1 : a.dx = b.dx) (h2 : a.dy = b.dy) (h3 : a.t = b.t) (h4 : a.f = b.f) : a = b := by
  cases a; cases b; simp_all

/-- one after another, of places of the plane: the goal of a place -/
def goes (m : Mv) (p : Int × Int) : Int × Int := ((spin m.f m.t.toNat p).1 + m.dx, (spin m.f m.t.toNat p).2 + m.dy)

theorem aft_assoc {w h : Int} {a b c : Mv} (ha : has w h a = true) (hb : has w h b = true) (hc : has w h c = true) :
    aft w h (aft w h a b) c = aft w h a (aft w h b c) := by
  rw [has_iff] at ha hb hc
  obtain ⟨_, _, _, _, a0, a4, ae⟩ := ha
  obtain ⟨_, _, _, _, b0, b4, be⟩ := hb
  obtain ⟨_, _, _, _, c0, c4, ce⟩ := hc
  have hcomp := spin_comp (fa := a.f) (fb := b.f) a0 a4 b0 b4 (c.dx, c.dy)
  have hcg := spin_cg (f := a.f) a0 a4 ae (cg_mod w ((spin b.f b.t.toNat (c.dx, c.dy)).1 + b.dx)) (cg_mod h ((spin b.f b.t.toNat (c.dx, c.dy)).2 + b.dy))
  have hadd := spin_add (f := a.f) a0 a4 (spin b.f b.t.toNat (c.dx, c.dy)).1 (spin b.f b.t.toNat (c.dx, c.dy)).2 b.dx b.dy
  apply mv_ext
  · show ((spin (a.f != b.f) (tsum a.f a.t b.t).toNat (c.dx, c.dy)).1 + ((spin a.f a.t.toNat (b.dx, b.dy)).1 + a.dx) % w) % w = _
    rw [hcomp]
    refine cg_eq (((Cg.refl _ _).add (cg_mod w _)).trans ?_)
    refine Cg.trans ?_ ((hcg.1.symm).add (Cg.refl w a.dx))
    rw [hadd.1]
    refine ⟨0, ?_⟩
    rw [Int.mul_zero, Int.add_zero, Int.add_assoc]
  · show ((spin (a.f != b.f) (tsum a.f a.t b.t).toNat (c.dx, c.dy)).2 + ((spin a.f a.t.toNat (b.dx, b.dy)).2 + a.dy) % h) % h = _
    rw [hcomp]
    refine cg_eq (((Cg.refl _ _).add (cg_mod h _)).trans ?_)
    refine Cg.trans ?_ ((hcg.2.symm).add (Cg.refl h a.dy))
    rw [hadd.2]
    refine ⟨0, ?_⟩
    rw [Int.mul_zero, Int.add_zero, Int.add_assoc]
  · exact tsum_assoc _ _ _ _ _
  · show ((a.f != b.f) != c.f) = (a.f != (b.f != c.f))
    cases a.f <;> cases b.f <;> cases c.f <;> rfl

theorem inv_aft {w h : Int} {a : Mv} (hs : okSize w h = true) (ha : has w h a = true) : aft w h (inv w h a) a = Mv.one := by
  rw [okSize_iff] at hs
  rw [has_iff] at ha
  obtain ⟨_, _, _, _, a0, a4, ae⟩ := ha
  have ht := tinv_in (f := a.f) a0 a4
  apply mv_ext
  · show ((spin a.f (tinv a.f a.t).toNat (a.dx, a.dy)).1 + (-(spin a.f (tinv a.f a.t).toNat (a.dx, a.dy)).1) % w) % w = 0
    rw [show (0 : Int) = 0 % w from by simp]
    refine cg_eq (((Cg.refl _ _).add (cg_mod w _)).trans ?_)
    exact ⟨0, by omega⟩
  · show ((spin a.f (tinv a.f a.t).toNat (a.dx, a.dy)).2 + (-(spin a.f (tinv a.f a.t).toNat (a.dx, a.dy)).2) % h) % h = 0
    rw [show (0 : Int) = 0 % h from by simp]
    refine cg_eq (((Cg.refl _ _).add (cg_mod h _)).trans ?_)
    exact ⟨0, by omega⟩
  · show tsum a.f (tinv a.f a.t) a.t = 0
    unfold tsum tinv; cases a.f <;> simp <;> omega
  · show (a.f != a.f) = false
    simp

theorem spin_tinv {f : Bool} {t : Int} (h0 : 0 ≤ t) (h4 : t < 4) (p : Int × Int) : spin f t.toNat (spin f (tinv f t).toNat p) = p := by
  obtain ⟨x, y⟩ := p
  rcases t4 h0 h4 with rfl | rfl | rfl | rfl <;> cases f <;> simp [spin, rot, flp, tinv]

theorem aft_inv {w h : Int} {a : Mv} (hs : okSize w h = true) (ha : has w h a = true) : aft w h a (inv w h a) = Mv.one := by
  rw [okSize_iff] at hs
  rw [has_iff] at ha
  obtain ⟨_, _, _, _, a0, a4, ae⟩ := ha
  have ht := tinv_in (f := a.f) a0 a4
  have hst := spin_tinv (f := a.f) a0 a4 (a.dx, a.dy)
  have hcg := spin_cg (f := a.f) a0 a4 ae (cg_mod w (-(spin a.f (tinv a.f a.t).toNat (a.dx, a.dy)).1)) (cg_mod h (-(spin a.f (tinv a.f a.t).toNat (a.dx, a.dy)).2))
  have hneg : spin a.f a.t.toNat (-(spin a.f (tinv a.f a.t).toNat (a.dx, a.dy)).1, -(spin a.f (tinv a.f a.t).toNat (a.dx, a.dy)).2) = (-a.dx, -a.dy) := by
    obtain ⟨px, hpx⟩ : ∃ px, px = (spin a.f (tinv a.f a.t).toNat (a.dx, a.dy)).1 := ⟨_, rfl⟩
    obtain ⟨py, hpy⟩ : ∃ py, py = (spin a.f (tinv a.f a.t).toNat (a.dx, a.dy)).2 := ⟨_, rfl⟩
    have h1 : spin a.f a.t.toNat (px, py) = (a.dx, a.dy) := by rw [hpx, hpy]; exact hst
    rw [← hpx, ← hpy]
    have h2 := spin_add (f := a.f) a0 a4 px py (-px) (-py)
    rw [h1, Int.add_right_neg, Int.add_right_neg] at h2
    have h3 : spin a.f a.t.toNat (0, 0) = (0, 0) := by
      rcases t4 a0 a4 with e | e | e | e <;> rw [e] <;> cases a.f <;> simp [spin, rot, flp]
    rw [h3] at h2
    simp only at h2
    exact Prod.ext (by simp only; omega) (by simp only; omega)
  rw [hneg] at hcg
  apply mv_ext
  · show ((spin a.f a.t.toNat ((-(spin a.f (tinv a.f a.t).toNat (a.dx, a.dy)).1) % w, (-(spin a.f (tinv a.f a.t).toNat (a.dx, a.dy)).2) % h)).1 + a.dx) % w = 0
    rw [show (0 : Int) = 0 % w from by simp]
    refine cg_eq ((hcg.1.add (Cg.refl _ _)).trans ?_)
    exact ⟨0, by simp; omega⟩
  · show ((spin a.f a.t.toNat ((-(spin a.f (tinv a.f a.t).toNat (a.dx, a.dy)).1) % w, (-(spin a.f (tinv a.f a.t).toNat (a.dx, a.dy)).2) % h)).2 + a.dy) % h = 0
    rw [show (0 : Int) = 0 % h from by simp]
    refine cg_eq ((hcg.2.add (Cg.refl _ _)).trans ?_)
    exact ⟨0, by simp; omega⟩
  · show tsum a.f a.t (tinv a.f a.t) = 0
    unfold tsum tinv; cases a.f <;> simp <;> omega
  · show (a.f != a.f) = false
    simp

theorem aft_one {w h : Int} {a : Mv} (hs : okSize w h = true) (ha : has w h a = true) : aft w h a Mv.one = a := by
  rw [okSize_iff] at hs
  rw [has_iff] at ha
  obtain ⟨x0, x1, y0, y1, a0, a4, ae⟩ := ha
  have h3 : spin a.f a.t.toNat (0, 0) = (0, 0) := by
    rcases t4 a0 a4 with e | e | e | e <;> rw [e] <;> cases a.f <;> simp [spin, rot, flp]
  apply mv_ext
  · show ((spin a.f a.t.toNat (0, 0)).1 + a.dx) % w = a.dx
    rw [h3]; simp; exact Int.emod_eq_of_lt x0 x1
  · show ((spin a.f a.t.toNat (0, 0)).2 + a.dy) % h = a.dy
    rw [h3]; simp; exact Int.emod_eq_of_lt y0 y1
  · show tsum a.f a.t 0 = a.t
    unfold tsum; split <;> omega
  · show (a.f != false) = a.f
    simp
theorem one_aft {w h : Int} {a : Mv} (ha : has w h a = true) : aft w h Mv.one a = a := by
  rw [has_iff] at ha
  obtain ⟨x0, x1, y0, y1, a0, a4, ae⟩ := ha
  apply mv_ext
  · show (a.dx + 0) % w = a.dx
    rw [Int.add_zero]; exact Int.emod_eq_of_lt x0 x1
  · show (a.dy + 0) % h = a.dy
    rw [Int.add_zero]; exact Int.emod_eq_of_lt y0 y1
  · show tsum false 0 a.t = a.t
    unfold tsum; simp; omega
  · show (false != a.f) = a.f
    simp
theorem one_has {w h : Int} (hs : okSize w h = true) : has w h Mv.one = true := by
  rw [okSize_iff] at hs; rw [has_iff]; simp [Mv.one]; omega

/-- the only one -/
theorem inv_only {w h : Int} {a x : Mv} (hs : okSize w h = true) (ha : has w h a = true) (hx : has w h x = true) (h1 : aft w h x a = Mv.one) : x = inv w h a := by
  have h2 := aft_assoc hx ha (inv_has hs ha)
  rw [h1, one_aft (inv_has hs ha), aft_inv hs ha, aft_one hs hx] at h2
  exact h2.symm
end Go.Proofs.Ytgjanbgehbpciaa
