/- Common divisors and their coefficients, as mathematics. · Walks: lehmer. -/
import Derived.Test.YtmlopkkbgpfdnaaGreatDoorM7
import Derived.Test.YtmlopkkbgpfdnaaGreatDoorM4
import Derived.Test.YtmlopkkbgpfdnaaGreatDoorM5
namespace Go.Proofs.YtmlopkkbgpfdnaaGreatDoor

theorem gcd_le_dvd {x y X Y : Int} (h : ∀ n : Int, n ∣ x → n ∣ y → n ∣ X ∧ n ∣ Y) : Int.gcd x y ∣ Int.gcd X Y := by
  obtain ⟨h1, h2⟩ := h (Int.gcd x y : Int) (Int.gcd_dvd_left ..) (Int.gcd_dvd_right ..)
  exact Int.dvd_gcd h1 h2
theorem gcd_uni {x y a b c d s : Int} (hs : s = 1 ∨ s = -1) (hd : b * c - a * d = s) : Int.gcd (a * x + b * y) (c * x + d * y) = Int.gcd x y := by
  refine Nat.dvd_antisymm (gcd_le_dvd fun n h1 h2 => ?_) (gcd_le_dvd fun n h1 h2 => ?_)
  · obtain ⟨k, hk⟩ := h1
    obtain ⟨l, hl⟩ := h2
    rcases hs with rfl | rfl
    · exact ⟨⟨b * l - d * k, by grind⟩, ⟨c * k - a * l, by grind⟩⟩
    · exact ⟨⟨d * k - b * l, by grind⟩, ⟨a * l - c * k, by grind⟩⟩
  · obtain ⟨k, hk⟩ := h1
    obtain ⟨l, hl⟩ := h2
    subst hk hl
    exact ⟨⟨a * k + b * l, by grind⟩, ⟨c * k + d * l, by grind⟩⟩

/-- a step makes a pair shorter and keeps its common divisors -/
structure SO (x y α β γ δ : Int) : Prop where
  y0 : 0 ≤ γ * x + δ * y
  yl : γ * x + δ * y < y
  yx : γ * x + δ * y < α * x + β * y
  xy : α * x + β * y ≤ y
  ex : ∃ a b c d s : Int, 0 ≤ a ∧ 0 ≤ b ∧ 0 ≤ c ∧ 0 ≤ d ∧ (s = 1 ∨ s = -1) ∧ α = -s * a ∧ β = s * b ∧ γ = s * c ∧ δ = -s * d ∧ b * c - a * d = s ∧ a ≤ c ∧ (b ≤ d ∨ (x < y ∧ a = 0 ∧ b = 1 ∧ c = 1 ∧ d = 0))
theorem SO.gcd {x y α β γ δ : Int} (h : SO x y α β γ δ) : Int.gcd (α * x + β * y) (γ * x + δ * y) = Int.gcd x y := by
  obtain ⟨a, b, c, d, s, -, -, -, -, hs, h1, h2, h3, h4, h5, -⟩ := h.ex
  refine gcd_uni (s := s) hs ?_
  rcases hs with rfl | rfl <;> grind
/-- Euclid's step -/
theorem SO.plain {x y : Int} (hx : 0 ≤ x) (hy : 0 < y) : SO x y 0 1 1 (-(x / y)) := by
  have h1 := Int.emod_nonneg x (by omega : y ≠ 0)
  have h2 := Int.emod_lt_of_pos x hy
  have h3 := Int.emod_add_mul_ediv x y
  have h0 : 0 ≤ x / y := Int.ediv_nonneg hx (by omega)
  have e : 1 * x + -(x / y) * y = x % y := by grind
  refine ⟨by omega, by omega, by omega, by omega, 0, 1, 1, x / y, 1, by omega, by omega, by omega, h0, .inl rfl, by omega, by omega, by omega, by omega, by omega, by omega, ?_⟩
  by_cases hlt : x < y
  · right; exact ⟨hlt, rfl, rfl, rfl, Int.ediv_eq_zero_of_lt hx hlt⟩
  · left
    have : 1 ≤ x / y := by
      refine (Int.le_ediv_iff_mul_le hy).2 ?_
      omega
    exact this
/-- Lehmer's step -/
theorem Leh.so {x y P Q p q a b c d e f : Int} {fl : Bool} (h : Leh x y P Q p q a b c d e f fl) (hb : b ≠ 0) : SO x y (-sg fl * a) (sg fl * b) (sg fl * c) (-sg fl * d) := by
  obtain ⟨h1, h2, h3, h4, h5, h6⟩ := h.done hb
  have e1 : sg fl * c * x + -sg fl * d * y = sg fl * (c * x - d * y) := by grind
  have e2 : -sg fl * a * x + sg fl * b * y = sg fl * (b * y - a * x) := by grind
  refine ⟨by omega, by omega, by omega, by omega, a, b, c, d, sg fl, h.a0, h.b0, h.c0, h.d0, ?_, rfl, rfl, rfl, rfl, h4, h5, .inl h6⟩
  rcases sg_or fl with ⟨-, hs⟩ | ⟨-, hs⟩ <;> rw [hs] <;> simp

/-- the rounds of the extended algorithm -/
structure Ex (A B g r u v : Int) : Prop where
  g0 : 0 ≤ g
  r0 : 0 ≤ r
  gcd : Int.gcd g r = Int.gcd A B
  gu : ∃ k, g = u * A + k * B
  rv : ∃ k, r = v * A + k * B
  bd : ∃ s F O : Int, (s = 1 ∨ s = -1) ∧ 0 ≤ F ∧ 0 ≤ O ∧ u = s * F ∧ v = -s * O ∧ g * O + r * F = B ∧ ((F = 1 ∧ O = 0) ∨ (F ≤ O ∧ r < g))
theorem Ex.init {A B : Int} (hA : 0 ≤ A) (hB : 0 ≤ B) : Ex A B A B 1 0 :=
  ⟨hA, hB, rfl, ⟨0, by grind⟩, ⟨1, by grind⟩, 1, 1, 0, .inl rfl, by omega, by omega, by omega, by omega, by grind, .inl ⟨rfl, rfl⟩⟩
theorem Ex.step {A B g r u v α β γ δ : Int} (h : Ex A B g r u v) (hs : SO g r α β γ δ) : Ex A B (α * g + β * r) (γ * g + δ * r) (α * u + β * v) (γ * u + δ * v) := by
  obtain ⟨g0, r0, hg, ⟨k, hk⟩, ⟨l, hl⟩, s, F, O, h1, h2, h3, h4, h5, h6, h7⟩ := h
  have hgc := hs.gcd
  obtain ⟨y0, yl, yx, xy, a, b, c, d, t, a0, b0, c0, d0, ht, e1, e2, e3, e4, e5, e6, e7⟩ := hs
  refine ⟨by omega, y0, hgc.trans hg, ⟨α * k + β * l, by grind⟩, ⟨γ * k + δ * l, by grind⟩, -t * s, a * F + b * O, c * F + d * O, ?_, ?_, ?_, ?_, ?_, ?_, ?_⟩
  · rcases h1 with rfl | rfl <;> rcases ht with rfl | rfl <;> simp
  · have := Int.mul_nonneg a0 h2; have := Int.mul_nonneg b0 h3; omega
  · have := Int.mul_nonneg c0 h2; have := Int.mul_nonneg d0 h3; omega
  · grind
  · grind
  · have tt : t * t = 1 := by rcases ht with rfl | rfl <;> rfl
    subst e1 e2 e3 e4
    have : (-t * a * g + t * b * r) * (c * F + d * O) + (t * c * g + -t * d * r) * (a * F + b * O) = t * (b * c - a * d) * (g * O + r * F) := by grind
    rw [this, e5, tt, h6]; omega
  · right
    refine ⟨?_, yx⟩
    rcases h7 with ⟨f1, o1⟩ | ⟨f1, o1⟩
    · subst f1 o1; omega
    · rcases e7 with e7 | ⟨e7, -⟩
      · have := Int.mul_le_mul_of_nonneg_right e6 h2
        have := Int.mul_le_mul_of_nonneg_right e7 h3
        omega
      · omega
theorem Ex.bounds {A B g r u v : Int} (h : Ex A B g r u v) (hB : 1 ≤ B) : u.natAbs ≤ B.natAbs ∧ v.natAbs ≤ B.natAbs := by
  obtain ⟨g0, r0, hg, -, -, s, F, O, h1, h2, h3, h4, h5, h6, h7⟩ := h
  have key : F ≤ B ∧ O ≤ B := by
    rcases h7 with ⟨f1, o1⟩ | ⟨f1, o1⟩
    · omega
    · have k1 : 1 * O ≤ g * O := Int.mul_le_mul_of_nonneg_right (by omega) h3
      have k2 : 0 ≤ r * F := Int.mul_nonneg r0 h2
      omega
  rcases h1 with rfl | rfl <;> omega

/-- the coefficient is the only one -/
theorem coef_only {a b g x z : Int} (hb : b ≠ 0) (hg : g = (Int.gcd a b : Int)) (hx : 0 ≤ x ∧ x < (b / g).natAbs) (hz : 0 ≤ z ∧ z < (b / g).natAbs) (h1 : b ∣ g - a * x) (h2 : b ∣ g - a * z) : x = z := by
  have hgp : 0 < Int.gcd a b := Int.gcd_pos_iff.2 (.inr hb)
  have hg0 : g ≠ 0 := by omega
  have da : g ∣ a := by rw [hg]; exact Int.gcd_dvd_left ..
  have db : g ∣ b := by rw [hg]; exact Int.gcd_dvd_right ..
  obtain ⟨a', ha⟩ := da
  obtain ⟨b', hb'⟩ := db
  have hbq : b / g = b' := by rw [hb']; exact Int.mul_ediv_cancel_left b' hg0
  rw [hbq] at hx hz
  have hcop : Int.gcd a' b' = 1 := by
    have := Int.gcd_mul_left g a' b'
    rw [← ha, ← hb'] at this
    have e : g.natAbs = Int.gcd a b := by omega
    rw [e] at this
    have h3 : Int.gcd a b * Int.gcd a' b' = Int.gcd a b * 1 := by omega
    exact Nat.eq_of_mul_eq_mul_left hgp h3
  have hd : b ∣ a * (x - z) := by
    have := Int.dvd_sub h2 h1
    have e : g - a * z - (g - a * x) = a * (x - z) := by grind
    rwa [e] at this
  have hd2 : b' ∣ a' * (x - z) := by
    rw [hb', ha, Int.mul_assoc] at hd
    exact Int.dvd_of_mul_dvd_mul_left hg0 hd
  have hd3 : b' ∣ x - z := by
    have h4 := Int.natAbs_dvd_natAbs.2 hd2
    rw [Int.natAbs_mul] at h4
    have hc : Nat.Coprime b'.natAbs a'.natAbs := by rw [Nat.coprime_comm]; exact hcop
    exact Int.natAbs_dvd_natAbs.1 (hc.dvd_of_dvd_mul_left h4)
  have hz0 : x - z = 0 := by
    refine Int.eq_zero_of_dvd_of_natAbs_lt_natAbs hd3 ?_
    omega
  omega
/-- what Ext returns -/
structure IsExt (a b g x y : Int) : Prop where
  is : g = (Int.gcd a b : Int)
  x0 : 0 ≤ x
  x1 : x < (b / g).natAbs
  sum : a * x + b * y = g
theorem ext_end {a b g u v : Int} (hb : b ≠ 0) (h : Ex a.natAbs b.natAbs g 0 u v) (w : Int) (hw : w = if a < 0 then -u else u) : IsExt a b g (w % (b / g)) ((g - a * (w % (b / g))) / b) := by
  have hg : g = (Int.gcd a b : Int) := by
    have := h.gcd
    rw [Int.gcd_zero_right] at this
    have h0 := h.g0
    have e : Int.gcd (a.natAbs : Int) (b.natAbs : Int) = Int.gcd a b := by simp [Int.gcd]
    omega
  have hgp : 0 < Int.gcd a b := Int.gcd_pos_iff.2 (.inr hb)
  have hg0 : g ≠ 0 := by omega
  have da : g ∣ a := by rw [hg]; exact Int.gcd_dvd_left ..
  have db : g ∣ b := by rw [hg]; exact Int.gcd_dvd_right ..
  obtain ⟨a', ha⟩ := da
  obtain ⟨b', hb'⟩ := db
  have hbq : b / g = b' := by rw [hb']; exact Int.mul_ediv_cancel_left b' hg0
  have hb0 : b' ≠ 0 := by intro e; rw [e, Int.mul_zero] at hb'; exact hb hb'
  obtain ⟨k, hk⟩ := h.gu
  have hbs : ∃ s : Int, (s = 1 ∨ s = -1) ∧ (b.natAbs : Int) = s * b := by
    rcases Int.lt_or_le b 0 with h1 | h1
    · exact ⟨-1, .inr rfl, by omega⟩
    · exact ⟨1, .inl rfl, by omega⟩
  obtain ⟨s, hs, hbs⟩ := hbs
  have hwa : u * (a.natAbs : Int) = w * a := by
    rw [hw]
    split
    · have : (a.natAbs : Int) = -a := by omega
      rw [this]; grind
    · have : (a.natAbs : Int) = a := by omega
      rw [this]
  rw [hwa, hbs] at hk
  have hdm := Int.emod_add_mul_ediv w b'
  have hdvd : b ∣ g - a * (w % b') := by
    refine ⟨k * s + a' * (w / b'), ?_⟩
    have e1 : w % b' = w - b' * (w / b') := by omega
    have e2 : a * (b' * (w / b')) = b * (a' * (w / b')) := by
      rw [ha, hb']; grind
    rw [e1]
    grind
  rw [hbq]
  refine ⟨hg, Int.emod_nonneg _ hb0, ?_, ?_⟩
  · rw [hbq]; exact Int.emod_lt w hb0
  · have := Int.mul_ediv_cancel' hdvd
    omega
end Go.Proofs.YtmlopkkbgpfdnaaGreatDoor
namespace Go.Proofs.YtmlopkkbgpfdnaaGreatDoor
open Go.RowKit

/-- the numbers of the loop -/
def LS (X Y P Q p q a b c d e f : Nat) (fl : Bool) : Prop := Leh X Y P Q p q a b c d e f fl
theorem sg_signed {fl : Bool} {n : Nat} : (sg fl * (n : Int)).natAbs = n ∧ (sg (!fl) * (n : Int)).natAbs = n := by
  cases fl <;> simp [sg]
theorem signed_zv {w : World} {A : Option Addr} {m k n : Nat} {fl : Bool} (h : Wd w (.slice A m k) (dig n)) : ZV w (.agg #[.bool (fl && decide (0 < m)), .slice A m k]) (-sg fl * (n : Int)) ∧ ZV w (.agg #[.bool (!fl && decide (0 < m)), .slice A m k]) (sg fl * (n : Int)) := by
  have hm : m = (dig n).length := h.len
  have hp := @dig_len_pos n
  rw [← hm] at hp
  constructor
  · refine ZV.mk ?_ ?_
    · cases fl <;> simp [sg] <;> omega
    · have : (-sg fl * (n : Int)).natAbs = n := by cases fl <;> simp [sg]
      rw [this]; exact h
  · refine ZV.mk ?_ ?_
    · cases fl <;> simp [sg] <;> omega
    · have : (sg fl * (n : Int)).natAbs = n := by cases fl <;> simp [sg]
      rw [this]; exact h
/-- the next round -/
theorem LS.next {X Y P Q p q a b c d e f D : Nat} {fl : Bool} (h : LS X Y P Q p q a b c d e f fl) (hD : 0 < D) (hP : P = X / D) (hQ : Q = Y / D) (h1 : f ≤ q) (h2 : d + f ≤ p - q) (h3 : q ≤ p) (h4 : 1 ≤ q) :
    LS X Y P Q q (p % q) c d e f (c + p / q * e) (d + p / q * f) (!fl) := by
  have e1 := Nat.div_add_mod X D
  have e2 := Nat.div_add_mod Y D
  have l1 := Nat.mod_lt X hD
  have l2 := Nat.mod_lt Y hD
  have hK : 1 ≤ p / q := (Nat.le_div_iff_mul_le (by omega)).2 (by omega)
  have e3 := Nat.div_add_mod p q
  have l3 := Nat.mod_lt p (show q > 0 by omega)
  have hm : ((p % q : Nat) : Int) = (p : Int) - ((p / q : Nat) : Int) * (q : Int) := by
    have : ((q * (p / q) + p % q : Nat) : Int) = (p : Int) := by rw [e3]
    rw [Int.natCast_add, Int.natCast_mul, Int.mul_comm] at this
    omega
  have := Leh.step (B := D) (r := (X % D : Nat)) (t := (Y % D : Nat)) (K := (p / q : Nat)) h
    (by rw [hP]; have : ((D * (X / D) + X % D : Nat) : Int) = X := by rw [e1]
        rw [Int.natCast_add, Int.natCast_mul, Int.mul_comm] at this; exact this.symm)
    (by rw [hQ]; have : ((D * (Y / D) + Y % D : Nat) : Int) = Y := by rw [e2]
        rw [Int.natCast_add, Int.natCast_mul, Int.mul_comm] at this; exact this.symm)
    (by omega) (by omega) (by omega) (by omega) (by omega) (by omega) (by omega) (by omega) (by omega)
  unfold LS
  rw [hm]
  have c1 : ((c + p / q * e : Nat) : Int) = (c : Int) + ((p / q : Nat) : Int) * (e : Int) := by rw [Int.natCast_add, Int.natCast_mul]
  have c2 : ((d + p / q * f : Nat) : Int) = (d : Int) + ((p / q : Nat) : Int) * (f : Int) := by rw [Int.natCast_add, Int.natCast_mul]
  rw [c1, c2]
  exact this
theorem LS.bd {X Y P Q p q a b c d e f : Nat} {fl : Bool} (h : LS X Y P Q p q a b c d e f fl) : a ≤ P ∧ b ≤ P ∧ c ≤ P ∧ d ≤ P ∧ e ≤ P ∧ f ≤ P ∧ p ≤ P ∧ q ≤ p ∧ 1 ≤ f ∧ 1 ≤ p := by
  have h1 := h.f_le
  have h2 := h.df
  have h3 := h.ef
  have h4 := h.ab
  have h5 := h.sum
  have h6 := h.pq
  have h7 := h.f1
  have h8 := h.pp
  have h9 := h.one
  have k1 : (p : Int) * 1 ≤ p * f := Int.mul_le_mul_of_nonneg_left h7 (by omega)
  have k2 : (0 : Int) ≤ (q : Int) * d := Int.mul_nonneg (by omega) (by omega)
  omega
theorem LS.dfq {X Y P Q p q a b c d e f : Nat} {fl : Bool} (h : LS X Y P Q p q a b c d e f fl) (hq : 1 ≤ q) : d + f ≤ P := by
  have := h.df_le (by omega); omega
theorem LS.so {X Y P Q p q a b c d e f : Nat} {fl : Bool} (h : LS X Y P Q p q a b c d e f fl) (hb : b ≠ 0) : SO X Y (-sg fl * (a : Int)) (sg fl * (b : Int)) (sg fl * (c : Int)) (-sg fl * (d : Int)) := Leh.so h (by omega)

theorem Wd.n_le {w : World} {A : Option Addr} {n c : Nat} {l : List Nat} (h : Wd w (.slice A n c) l) : n ≤ 9223372036854775807 := by
  obtain ⟨A', c', he, h1, h2, -⟩ := h
  injection he with _ e1 _
  omega
theorem cast_quo (p q : Nat) : (p : Int) / (q : Int) = ((p / q : Nat) : Int) := by simp
theorem cast_rem (p q : Nat) : (p : Int) % (q : Int) = ((p % q : Nat) : Int) := by simp
/-- what the loop comes to -/
def lehF (p q a b c d e f : Nat) (fl : Bool) : Nat × Nat × Nat × Nat × Bool :=
  if h : f ≤ q ∧ d + f ≤ p - q ∧ 1 ≤ q then lehF q (p % q) c d e f (c + p / q * e) (d + p / q * f) (!fl) else (a, b, c, d, fl)
termination_by q
decreasing_by exact Nat.mod_lt _ (by omega)
theorem lehF_go {p q a b c d e f : Nat} {fl : Bool} (h1 : f ≤ q) (h2 : d + f ≤ p - q) (h3 : 1 ≤ q) : lehF p q a b c d e f fl = lehF q (p % q) c d e f (c + p / q * e) (d + p / q * f) (!fl) := by
  rw [lehF, dif_pos ⟨h1, h2, h3⟩]
theorem lehF_end {p q a b c d e f : Nat} {fl : Bool} (h : ¬ (f ≤ q ∧ d + f ≤ p - q)) : lehF p q a b c d e f fl = (a, b, c, d, fl) := by
  rw [lehF, dif_neg (fun h' => h ⟨h'.1, h'.2.1⟩)]
theorem lehF_ls {X Y P Q D : Nat} (hD : 0 < D) (hP : P = X / D) (hQ : Q = Y / D) : ∀ (k q p a b c d e f : Nat) (fl : Bool), q ≤ k → LS X Y P Q p q a b c d e f fl →
    ∃ p' q' e' f', LS X Y P Q p' q' (lehF p q a b c d e f fl).1 (lehF p q a b c d e f fl).2.1 (lehF p q a b c d e f fl).2.2.1 (lehF p q a b c d e f fl).2.2.2.1 e' f' (lehF p q a b c d e f fl).2.2.2.2 := by
  intro k
  induction k with
  | zero =>
    intro q p a b c d e f fl hk h
    have hb := h.bd
    rw [lehF_end (by omega)]
    exact ⟨p, q, e, f, h⟩
  | succ k ih =>
    intro q p a b c d e f fl hk h
    have hb := h.bd
    by_cases hc : f ≤ q ∧ d + f ≤ p - q
    · rw [lehF_go hc.1 hc.2 (by omega)]
      exact ih _ _ _ _ _ _ _ _ _ (by have := Nat.mod_lt p (show q > 0 by omega); omega) (h.next hD hP hQ hc.1 hc.2 (by omega) (by omega))
    · rw [lehF_end hc]
      exact ⟨p, q, e, f, h⟩
set_option maxHeartbeats 2000000 in
set_option maxRecDepth 100000 in
theorem lehmer_fix (X Y m : Nat) (hxl : m + 3 = (dig X).length) (hm : m ≤ 1000000) (hYX : Y ≤ X) :
    ∃ (ok : Bool) (α β γ δ : Int), (ok = true → SO X Y α β γ δ) ∧ (α.natAbs < 18446744073709551616 ∧ β.natAbs < 18446744073709551616 ∧ γ.natAbs < 18446744073709551616 ∧ δ.natAbs < 18446744073709551616) ∧
    ∀ (n cX n' cY : Nat) (A A' : Option Addr) (w : World), Wd w (.slice A n cX) (dig X) → Wd w (.slice A' n' cY) (dig Y) →
    Calls Tryz.prog 106 #[.slice A n cX, .slice A' n' cY] w fun e w' => ∃ (sv : Value), e = .returned (.tuple #[sv, .bool ok]) ∧ STV w' sv α β γ δ ∧ Below w.heap.size w w' := by
  obtain ⟨tw1, tw2⟩ := top_word (y := X) (n := m + 3) (by omega) (by omega)
  rw [show m + 3 - 1 = m + 2 by omega] at tw1 tw2
  have tlt := dg_lt X (m + 2)
  obtain ⟨t, ht⟩ : ∃ t, t = dg X (m + 2) := ⟨_, rfl⟩
  rw [← ht] at tw1 tw2 tlt
  obtain ⟨s, hs, hbl, -, hts⟩ := norm_word tw2 tlt
  have hXlt : X * 2 ^ s < 4294967296 ^ (m + 3) := by
    have h1 : X < 4294967296 ^ (m + 2) * (t + 1) := by
      have := Nat.mod_lt X (Nat.pow_pos (n := m + 2) (show 0 < 4294967296 by omega))
      rw [Nat.mul_succ]
      omega
    have h2 : X * 2 ^ s < 4294967296 ^ (m + 2) * (t + 1) * 2 ^ s := Nat.mul_lt_mul_of_pos_right h1 (Nat.pow_pos (by omega))
    have h3 : (t + 1) * 2 ^ s ≤ 4294967296 := by rw [Nat.succ_mul]; exact hts
    have h4 : 4294967296 ^ (m + 2) * ((t + 1) * 2 ^ s) ≤ 4294967296 ^ (m + 2) * 4294967296 := Nat.mul_le_mul_left _ h3
    rw [← Nat.mul_assoc, ← Nat.pow_succ] at h4
    exact Nat.lt_of_lt_of_le h2 h4
  have hYlt : Y * 2 ^ s < 4294967296 ^ (m + 3) := Nat.lt_of_le_of_lt (Nat.mul_le_mul_right _ hYX) hXlt
  obtain ⟨D, hD⟩ : ∃ D, D = 4294967296 ^ m * 2 ^ (32 - s) := ⟨_, rfl⟩
  have hDp : 0 < D := by rw [hD]; exact Nat.mul_pos (Nat.pow_pos (by omega)) (Nat.pow_pos (by omega))
  obtain ⟨P, hP⟩ : ∃ P, P = X / D := ⟨_, rfl⟩
  obtain ⟨Q, hQ⟩ : ∃ Q, Q = Y / D := ⟨_, rfl⟩
  have hP64 : P < 18446744073709551616 := by rw [hP, hD]; exact top_lt hs hXlt
  have hQP : Q ≤ P := by rw [hP, hQ]; exact Nat.div_le_div_right hYX
  have hP1 : 1 ≤ P := by
    rw [hP]
    refine (Nat.le_div_iff_mul_le hDp).2 ?_
    rw [Nat.one_mul, hD]
    have h1 : 2 ^ (32 - s) ≤ 2 ^ 32 := Nat.pow_le_pow_right (by omega) (by omega)
    have h2 : 4294967296 ^ m * 2 ^ (32 - s) ≤ 4294967296 ^ m * 2 ^ 32 := Nat.mul_le_mul_left _ h1
    have h3 : 4294967296 ^ m * 2 ^ 32 ≤ 4294967296 ^ (m + 2) := by
      rw [show (2 : Nat) ^ 32 = 4294967296 from rfl, ← Nat.pow_succ]
      exact Nat.pow_le_pow_right (by omega) (by omega)
    have h4 : 4294967296 ^ (m + 2) * 1 ≤ 4294967296 ^ (m + 2) * t := Nat.mul_le_mul_left _ tw2
    omega
  have hinit : LS X Y P Q P Q 0 0 1 0 0 1 true := Leh.init (by omega) (by omega) (by omega) (by omega)
  obtain ⟨⟨aF, bF, cF, dF, fF⟩, hF⟩ : ∃ F, F = lehF P Q 0 0 1 0 0 1 true := ⟨_, rfl⟩
  have hfin := lehF_ls hDp hP hQ Q Q P 0 0 1 0 0 1 true (Nat.le_refl _) hinit
  rw [← hF] at hfin
  obtain ⟨pE, qE, eE, fE, hfin⟩ := hfin
  replace hfin : LS X Y P Q pE qE aF bF cF dF eE fE fF := hfin
  have hfb := LS.bd hfin
  refine ⟨decide (bF ≠ 0), -sg fF * (aF : Int), sg fF * (bF : Int), sg fF * (cF : Int), -sg fF * (dF : Int), fun h => LS.so hfin (of_decide_eq_true h), ?_, ?_⟩
  · cases fF <;> simp [sg] <;> omega
  clear hfin hfb
  intro n cX n' cY A A' w hx hy
  have hn : n = m + 3 := by rw [hxl]; exact hx.len
  have tX := fun W (h : Wd W (.slice A n cX) (dig X)) => top_any X m s _ W h hm hs hXlt
  have tY := fun W (h : Wd W (.slice A' n' cY) (dig Y)) => top_any Y m s _ W h hm hs hYlt
  rw [← hD, ← hP, show ((m + 3 : Nat) : Int) = (m : Int) + 3 by omega] at tX
  rw [← hD, ← hQ, show ((m + 3 : Nat) : Int) = (m : Int) + 3 by omega] at tY
  have hnext := fun p q a b c d e f fl (h : LS X Y P Q p q a b c d e f fl) (h1 : f ≤ q) (h2 : d + f ≤ p - q) (h3 : q ≤ p) (h4 : 1 ≤ q) => LS.next h hDp hP hQ h1 h2 h3 h4
  obtain ⟨b0, o0, rfl, hb0, hc0⟩ := hx.cell (k := m + 2) (by omega)
  replace hc0 := hc0 (m + 2) (by omega)
  rw [← ht] at hc0
  subst hn
  have TX := Lib.hid tX; have TY := Lib.hid tY; have HI := Lib.hid (And.intro hinit hF.symm); have HN := Lib.hid hnext; have HX := Lib.hid hx; have HY := Lib.hid hy; have HBL := Lib.hid hbl
  have HPQ := Lib.hid (And.intro hP64 (And.intro hQP hP1))
  clear tX tY hinit hnext hx hy hbl hXlt hYlt hD hP hQ tw1 hxl ht hP64 hQP hP1 hF
  have hsb := SB.new w 111
  have e1 : Ext w (w.alloc (.cells #[.bool false, .slice none 0 0, .bool false, .slice none 0 0, .bool false, .slice none 0 0, .bool false, .slice none 0 0] 111)) := (Ext.refl w).alc _
  have cc := keepAt e1 hb0 hc0
  obtain ⟨W1, hW1⟩ : ∃ W1, W1 = w.alloc (.cells #[.bool false, .slice none 0 0, .bool false, .slice none 0 0, .bool false, .slice none 0 0, .bool false, .slice none 0 0] 111) := ⟨_, rfl⟩
  rw [← hW1] at hsb e1 cc
  have HW1 := Lib.hid hW1; have HSB := Lib.hid hsb; have E1 := Lib.hid e1
  clear hW1 hsb e1 cc
  go_enter Tryz.func106, Tryz.ntmps106
  go_wp2_with fail
  refine (Tryz.bits_LeadingZeros32 (t : Int) _ (by omega) (by omega)).mono ?_
  rintro e w' ⟨rfl, rfl⟩
  rw [Int.toNat_natCast, HBL.out]
  rw [← HW1.out]
  clear hc0
  go_wp2_with fail
  have HX1 : Wd W1 _ _ := Wd.below HX.out E1.out
  refine (TX.out _ HX1).mono ?_
  rintro e w1 ⟨rfl, b1⟩
  have HY1 := Lib.hid (Wd.below (Wd.below HY.out E1.out) b1)
  clear HX1
  go_wp2_with fail
  refine (TY.out _ HY1.out).mono ?_
  rintro e w2 ⟨rfl, b2⟩
  have E2 : Hid (Ext w w2) := Lib.hid ((E1.out.trans b1).trans b2)
  have S2 := Lib.hid ((HSB.out.ext b1).ext b2)
  clear b1 b2 HSB HW1 HX HY HY1 TX TY E1 HBL
  obtain ⟨g, hg⟩ : ∃ g, g = w.heap.size := ⟨_, rfl⟩
  rw [← hg] at S2
  have HG := Lib.hid hg; clear hg
  go_wp2_with fail
  rw [← HG.out]
  go_loopw [8, 9, 10, 11, 12, 13, 14, 15, 16] (fun pv qv av cv ev bv dv fv flv wr => ∃ (p q a b c d e f : Nat) (fl : Bool), pv = .int .u64 p ∧ qv = .int .u64 q ∧ av = .int .u64 a ∧ bv = .int .u64 b ∧ cv = .int .u64 c ∧ dv = .int .u64 d ∧ ev = .int .u64 e ∧ fv = .int .u64 f ∧ flv = .bool fl ∧ Hid (LS X Y P Q p q a b c d e f fl ∧ lehF p q a b c d e f fl = (aF, bF, cF, dF, fF)) ∧ Hid (Ext w wr ∧ SB wr g)) (fun _ qv _ _ _ _ _ _ _ _ => (intOf qv).toNat)
  case atStart => exact ⟨P, Q, 0, 0, 1, 0, 0, 1, true, rfl, rfl, rfl, rfl, rfl, rfl, rfl, rfl, rfl, HI, Lib.hid ⟨E2.out, S2.out⟩⟩
  case round =>
    obtain ⟨p, q, a, b, c, d, e, f, fl, rfl, rfl, rfl, rfl, rfl, rfl, rfl, rfl, rfl, hL, hE⟩ := hrel
    obtain ⟨ha, hb, hc, hd, he, hf, hp, hqp, hf1, hp1⟩ := LS.bd hL.out.1
    have HP := HPQ.out
    have w0 : ∀ n : Nat, n ≤ P → IntKind.u64.wrap (n : Int) = (n : Int) := fun n hn => IntWalk.u64_in _ (by omega)
    have W0 := Lib.hid w0; clear w0
    by_cases c1 : f ≤ q
    · have c1i : (f : Int) ≤ (q : Int) := by omega
      have hdf := LS.dfq hL.out.1 (by omega)
      obtain ⟨D1, hD1⟩ : ∃ D1, D1 = p - q := ⟨_, rfl⟩
      obtain ⟨S, hS⟩ : ∃ S, S = d + f := ⟨_, rfl⟩
      have i1 : (p : Int) - (q : Int) = (D1 : Int) := by omega
      have i2 : IntKind.u64.wrap (D1 : Int) = (D1 : Int) := W0.out _ (by omega)
      have i3 : (d : Int) + (f : Int) = (S : Int) := by omega
      have i4 : IntKind.u64.wrap (S : Int) = (S : Int) := W0.out _ (by omega)
      by_cases c2 : S ≤ D1
      · have c2i : (S : Int) ≤ (D1 : Int) := by omega
        have hn := HN.out p q a b c d e f fl hL.out.1 c1 (by omega) hqp (by omega)
        have hnb := LS.bd hn
        have hg := (lehF_go (a := a) (b := b) (c := c) (e := e) (fl := fl) c1 (show d + f ≤ p - q by omega) (by omega)).symm.trans hL.out.2
        obtain ⟨K, hK⟩ : ∃ K, K = p / q := ⟨_, rfl⟩
        obtain ⟨r, hr⟩ : ∃ r, r = p % q := ⟨_, rfl⟩
        rw [← hK, ← hr] at hn hnb hg
        obtain ⟨KE, hKE⟩ : ∃ k, k = K * e := ⟨_, rfl⟩
        obtain ⟨KF, hKF⟩ : ∃ k, k = K * f := ⟨_, rfl⟩
        rw [← hKE, ← hKF] at hn hnb hg
        obtain ⟨e2, he2⟩ : ∃ k, k = c + KE := ⟨_, rfl⟩
        obtain ⟨f2, hf2⟩ : ∃ k, k = d + KF := ⟨_, rfl⟩
        rw [← he2, ← hf2] at hn hnb hg
        have hrq : r < q := by rw [hr]; exact Nat.mod_lt _ (by omega)
        have j1 : (p : Int).tdiv q = (K : Int) := by rw [hK, Int.tdiv_eq_ediv_of_nonneg (by omega)]; simp
        have j2 : (p : Int) / (q : Int) = (K : Int) := by rw [hK]; simp
        have hKP : K ≤ P := by rw [hK]; exact Nat.le_trans (Nat.div_le_self _ _) hp
        have j3 : IntKind.u64.wrap (K : Int) = (K : Int) := W0.out _ hKP
        have j4 : (p : Int).tmod q = (r : Int) := by rw [hr, Int.tmod_eq_emod_of_nonneg (by omega)]; simp
        have j5 : (p : Int) % (q : Int) = (r : Int) := by rw [hr]; simp
        have j6 : IntKind.u64.wrap (r : Int) = (r : Int) := W0.out _ (by omega)
        have j7 : (K : Int) * (e : Int) = (KE : Int) := by rw [hKE, Int.natCast_mul]
        have j8 : (K : Int) * (f : Int) = (KF : Int) := by rw [hKF, Int.natCast_mul]
        have j9 : IntKind.u64.wrap (KE : Int) = (KE : Int) := W0.out _ (by omega)
        have j10 : IntKind.u64.wrap (KF : Int) = (KF : Int) := W0.out _ (by omega)
        have j11 : (c : Int) + (KE : Int) = (e2 : Int) := by omega
        have j12 : (d : Int) + (KF : Int) = (f2 : Int) := by omega
        have j13 : IntKind.u64.wrap (e2 : Int) = (e2 : Int) := W0.out _ (by omega)
        have j14 : IntKind.u64.wrap (f2 : Int) = (f2 : Int) := W0.out _ (by omega)
        have hqz : ¬ q = 0 := by omega
        have hne : ((q : Int) == 0) = false := by simp; omega
        have hne2 : ((q : Int) != 0) = true := by simp; omega
        have HNX := Lib.hid (And.intro (And.intro hn hg) hrq)
        clear hn hg hnb hK hr hKE hKF he2 hf2 hrq hKP HP ha hb hc hd he hf hp hqp hf1 hp1 hdf hD1 hS hL W0 c2
        go_wp2_with fail
        go_region
        all_goals go_wp2
        all_goals
          go_roundw
          case rel => exact ⟨q, r, c, d, e, f, e2, f2, !fl, rfl, rfl, rfl, rfl, rfl, rfl, rfl, rfl, rfl, Lib.hid HNX.out.1, Lib.hid ⟨hE.out.1.drw, hE.out.2.ext (Ext.drew _)⟩⟩
          case measure => have := HNX.out.2; simp [intOf]; omega
      · have c2i : ¬ (S : Int) ≤ (D1 : Int) := by omega
        obtain ⟨rfl, rfl, rfl, rfl, rfl⟩ : a = aF ∧ b = bF ∧ c = cF ∧ d = dF ∧ fl = fF := by
          have h := (lehF_end (a := a) (b := b) (c := c) (e := e) (fl := fl) (show ¬ (f ≤ q ∧ d + f ≤ p - q) by omega)).symm.trans hL.out.2
          simpa using h
        have HB := Lib.hid (And.intro (Nat.le_trans ha (Nat.le_of_lt_succ (Nat.lt_succ_of_le (Nat.le_refl P)))) (And.intro hb (And.intro hc hd)))
        clear ha hb hc hd he hf hp hqp hf1 hp1 W0 hdf hD1 hS c2 c1 HI HN
        go_wp2_with fail
        have HZ0 := Lib.hid hE.out
        refine (naturalOf_any a (by have := HB.out; have := HPQ.out; omega) _).mono ?_
        rintro e v1 ⟨u1, rfl, d1, x1⟩
        obtain ⟨A1, n1, k1, rfl⟩ := d1.slice_
        have z1 := (signed_zv (fl := fl) d1).1
        have l1 := d1.n_le
        have D1 := Lib.hid (And.intro x1 z1); clear d1 x1 z1
        go_wp2_with fail
        refine (signed_any _ _ _ _ _ l1).mono ?_
        rintro e w1' ⟨rfl, y1⟩
        obtain ⟨b1, hb1⟩ : ∃ b, b = (fl && decide (0 < n1)) := ⟨_, rfl⟩
        rw [← hb1]
        have f1 : Ext wr w1' := Ext.trans D1.out.1 y1
        have zz1 := D1.out.2.ext y1
        rw [← hb1] at zz1
        have ZZ1 := Lib.hid zz1; have F1 := Lib.hid f1; clear D1 l1 hb1 zz1 f1 y1
        go_wp2_with fail
        refine (naturalOf_any b (by have := HB.out; have := HPQ.out; omega) _).mono ?_
        rintro e v2 ⟨u2, rfl, d2, x2⟩
        obtain ⟨A2, n2, k2, rfl⟩ := d2.slice_
        have z2 := (signed_zv (fl := fl) d2).2
        have l2 := d2.n_le
        have D2 := Lib.hid (And.intro x2 z2); clear d2 x2 z2
        go_wp2_with fail
        refine (signed_any _ _ _ _ _ l2).mono ?_
        rintro e w2' ⟨rfl, y2⟩
        obtain ⟨b2, hb2⟩ : ∃ b, b = ((!fl) && decide (0 < n2)) := ⟨_, rfl⟩
        rw [← hb2]
        have f2 : Ext w1' w2' := Ext.trans D2.out.1 y2
        have zz2 := D2.out.2.ext y2
        rw [← hb2] at zz2
        have ZZ2 := Lib.hid zz2; have F2 := Lib.hid f2; clear D2 l2 hb2 zz2 f2 y2
        go_wp2_with fail
        refine (naturalOf_any c (by have := HB.out; have := HPQ.out; omega) _).mono ?_
        rintro e v3 ⟨u3, rfl, d3, x3⟩
        obtain ⟨A3, n3, k3, rfl⟩ := d3.slice_
        have z3 := (signed_zv (fl := fl) d3).2
        have l3 := d3.n_le
        have D3 := Lib.hid (And.intro x3 z3); clear d3 x3 z3
        go_wp2_with fail
        refine (signed_any _ _ _ _ _ l3).mono ?_
        rintro e w3' ⟨rfl, y3⟩
        obtain ⟨b3, hb3⟩ : ∃ b, b = ((!fl) && decide (0 < n3)) := ⟨_, rfl⟩
        rw [← hb3]
        have f3 : Ext w2' w3' := Ext.trans D3.out.1 y3
        have zz3 := D3.out.2.ext y3
        rw [← hb3] at zz3
        have ZZ3 := Lib.hid zz3; have F3 := Lib.hid f3; clear D3 l3 hb3 zz3 f3 y3
        go_wp2_with fail
        refine (naturalOf_any d (by have := HB.out; have := HPQ.out; omega) _).mono ?_
        rintro e v4 ⟨u4, rfl, d4, x4⟩
        obtain ⟨A4, n4, k4, rfl⟩ := d4.slice_
        have z4 := (signed_zv (fl := fl) d4).1
        have l4 := d4.n_le
        have D4 := Lib.hid (And.intro x4 z4); clear d4 x4 z4
        go_wp2_with fail
        refine (signed_any _ _ _ _ _ l4).mono ?_
        rintro e w4' ⟨rfl, y4⟩
        obtain ⟨b4, hb4⟩ : ∃ b, b = (fl && decide (0 < n4)) := ⟨_, rfl⟩
        rw [← hb4]
        have f4 : Ext w3' w4' := Ext.trans D4.out.1 y4
        have zz4 := D4.out.2.ext y4
        rw [← hb4] at zz4
        have e4 : Ext wr w4' := ((F1.out.trans F2.out).trans F3.out).trans f4
        have s4 := hE.out.2.ext e4
        have y1 := (ZZ1.out.ext F2.out).ext (F3.out.trans f4)
        have y2 := (ZZ2.out.ext F3.out).ext f4
        have y3 := ZZ3.out.ext f4
        have S4 := Lib.hid s4
        have HF := Lib.hid (And.intro (hE.out.1.trans e4) (And.intro y1 (And.intro y2 (And.intro y3 zz4))))
        obtain ⟨⟨a0, a1, a2, a3, a4, a5, a6, a7, g0, g1, g2, g3, g4, g5, g6, g7⟩, gf⟩ := s4.facts
        have gf0 := gf 0; have gf1 := gf 1; have gf2 := gf 2; have gf3 := gf 3; have gf4 := gf 4; have gf5 := gf 5; have gf6 := gf 6; have gf7 := gf 7
        clear s4 y1 y2 y3 e4 zz4 f4 ZZ1 ZZ2 ZZ3 F1 F2 F3 D4 hb4 y4 l4 gf
        go_wp2
        clear g0 g1 g2 g3 g4 g5 g6 g7 gf0 gf1 gf2 gf3 gf4 gf5 gf6 gf7
        obtain ⟨q0, q1, q2, q3, q4, q5, q6, q7⟩ := put8_cells S4.out (.bool b1) (.slice A1 n1 k1) (.bool b2) (.slice A2 n2 k2) (.bool b3) (.slice A3 n3 k3) (.bool b4) (.slice A4 n4 k4)
        have hbel := put8_below (B := w.heap.size) (W := w) HF.out.1 (Nat.le_of_eq HG.out.symm) (.bool b1) (.slice A1 n1 k1) (.bool b2) (.slice A2 n2 k2) (.bool b3) (.slice A3 n3 k3) (.bool b4) (.slice A4 n4 k4)
        have P1 := HF.out.2.1.put8 S4.out (.bool b1) (.slice A1 n1 k1) (.bool b2) (.slice A2 n2 k2) (.bool b3) (.slice A3 n3 k3) (.bool b4) (.slice A4 n4 k4)
        have P2 := HF.out.2.2.1.put8 S4.out (.bool b1) (.slice A1 n1 k1) (.bool b2) (.slice A2 n2 k2) (.bool b3) (.slice A3 n3 k3) (.bool b4) (.slice A4 n4 k4)
        have P3 := HF.out.2.2.2.1.put8 S4.out (.bool b1) (.slice A1 n1 k1) (.bool b2) (.slice A2 n2 k2) (.bool b3) (.slice A3 n3 k3) (.bool b4) (.slice A4 n4 k4)
        have P4 := HF.out.2.2.2.2.put8 S4.out (.bool b1) (.slice A1 n1 k1) (.bool b2) (.slice A2 n2 k2) (.bool b3) (.slice A3 n3 k3) (.bool b4) (.slice A4 n4 k4)
        obtain ⟨W9, hW9⟩ : ∃ W9, W9 = put8 w4' g (.bool b1) (.slice A1 n1 k1) (.bool b2) (.slice A2 n2 k2) (.bool b3) (.slice A3 n3 k3) (.bool b4) (.slice A4 n4 k4) := ⟨_, rfl⟩
        rw [← hW9] at q0 q1 q2 q3 q4 q5 q6 q7 hbel P1 P2 P3 P4
        unfold put8 at hW9
        rw [← hW9]
        have PH := Lib.hid (And.intro hbel (And.intro P1 (And.intro P2 (And.intro P3 P4))))
        clear hW9 hbel P1 P2 P3 P4 HF S4
        have hdec : ((b : Int) != 0) = decide (b ≠ 0) := by by_cases h : b = 0 <;> simp [h]
        exact bodyPost_ret (v := .tuple #[.agg #[.bool b1, .slice A1 n1 k1, .bool b2, .slice A2 n2 k2, .bool b3, .slice A3 n3 k3, .bool b4, .slice A4 n4 k4], .bool ((b : Int) != 0)]) (by simp [results, Tryz.results106, go_sem, q0, q1, q2, q3, q4, q5, q6, q7]) rfl
          ⟨_, by rw [hdec], ⟨b1, A1, n1, k1, b2, A2, n2, k2, b3, A3, n3, k3, b4, A4, n4, k4, rfl, PH.out.2.1, PH.out.2.2.1, PH.out.2.2.2.1, PH.out.2.2.2.2⟩, PH.out.1⟩
    · have c1i : ¬ (f : Int) ≤ (q : Int) := by omega
      obtain ⟨rfl, rfl, rfl, rfl, rfl⟩ : a = aF ∧ b = bF ∧ c = cF ∧ d = dF ∧ fl = fF := by
        have h := (lehF_end (a := a) (b := b) (c := c) (e := e) (fl := fl) (show ¬ (f ≤ q ∧ d + f ≤ p - q) by omega)).symm.trans hL.out.2
        simpa using h
      have HB := Lib.hid (And.intro ha (And.intro hb (And.intro hc hd)))
      clear ha hb hc hd he hf hp hqp hf1 hp1 W0 c1 HI HN
      go_wp2_with fail
      have HZ0 := Lib.hid hE.out
      refine (naturalOf_any a (by have := HB.out; have := HPQ.out; omega) _).mono ?_
      rintro e v1 ⟨u1, rfl, d1, x1⟩
      obtain ⟨A1, n1, k1, rfl⟩ := d1.slice_
      have z1 := (signed_zv (fl := fl) d1).1
      have l1 := d1.n_le
      have D1 := Lib.hid (And.intro x1 z1); clear d1 x1 z1
      go_wp2_with fail
      refine (signed_any _ _ _ _ _ l1).mono ?_
      rintro e w1' ⟨rfl, y1⟩
      obtain ⟨b1, hb1⟩ : ∃ b, b = (fl && decide (0 < n1)) := ⟨_, rfl⟩
      rw [← hb1]
      have f1 : Ext wr w1' := Ext.trans D1.out.1 y1
      have zz1 := D1.out.2.ext y1
      rw [← hb1] at zz1
      have ZZ1 := Lib.hid zz1; have F1 := Lib.hid f1; clear D1 l1 hb1 zz1 f1 y1
      go_wp2_with fail
      refine (naturalOf_any b (by have := HB.out; have := HPQ.out; omega) _).mono ?_
      rintro e v2 ⟨u2, rfl, d2, x2⟩
      obtain ⟨A2, n2, k2, rfl⟩ := d2.slice_
      have z2 := (signed_zv (fl := fl) d2).2
      have l2 := d2.n_le
      have D2 := Lib.hid (And.intro x2 z2); clear d2 x2 z2
      go_wp2_with fail
      refine (signed_any _ _ _ _ _ l2).mono ?_
      rintro e w2' ⟨rfl, y2⟩
      obtain ⟨b2, hb2⟩ : ∃ b, b = ((!fl) && decide (0 < n2)) := ⟨_, rfl⟩
      rw [← hb2]
      have f2 : Ext w1' w2' := Ext.trans D2.out.1 y2
      have zz2 := D2.out.2.ext y2
      rw [← hb2] at zz2
      have ZZ2 := Lib.hid zz2; have F2 := Lib.hid f2; clear D2 l2 hb2 zz2 f2 y2
      go_wp2_with fail
      refine (naturalOf_any c (by have := HB.out; have := HPQ.out; omega) _).mono ?_
      rintro e v3 ⟨u3, rfl, d3, x3⟩
      obtain ⟨A3, n3, k3, rfl⟩ := d3.slice_
      have z3 := (signed_zv (fl := fl) d3).2
      have l3 := d3.n_le
      have D3 := Lib.hid (And.intro x3 z3); clear d3 x3 z3
      go_wp2_with fail
      refine (signed_any _ _ _ _ _ l3).mono ?_
      rintro e w3' ⟨rfl, y3⟩
      obtain ⟨b3, hb3⟩ : ∃ b, b = ((!fl) && decide (0 < n3)) := ⟨_, rfl⟩
      rw [← hb3]
      have f3 : Ext w2' w3' := Ext.trans D3.out.1 y3
      have zz3 := D3.out.2.ext y3
      rw [← hb3] at zz3
      have ZZ3 := Lib.hid zz3; have F3 := Lib.hid f3; clear D3 l3 hb3 zz3 f3 y3
      go_wp2_with fail
      refine (naturalOf_any d (by have := HB.out; have := HPQ.out; omega) _).mono ?_
      rintro e v4 ⟨u4, rfl, d4, x4⟩
      obtain ⟨A4, n4, k4, rfl⟩ := d4.slice_
      have z4 := (signed_zv (fl := fl) d4).1
      have l4 := d4.n_le
      have D4 := Lib.hid (And.intro x4 z4); clear d4 x4 z4
      go_wp2_with fail
      refine (signed_any _ _ _ _ _ l4).mono ?_
      rintro e w4' ⟨rfl, y4⟩
      obtain ⟨b4, hb4⟩ : ∃ b, b = (fl && decide (0 < n4)) := ⟨_, rfl⟩
      rw [← hb4]
      have f4 : Ext w3' w4' := Ext.trans D4.out.1 y4
      have zz4 := D4.out.2.ext y4
      rw [← hb4] at zz4
      have e4 : Ext wr w4' := ((F1.out.trans F2.out).trans F3.out).trans f4
      have s4 := hE.out.2.ext e4
      have y1 := (ZZ1.out.ext F2.out).ext (F3.out.trans f4)
      have y2 := (ZZ2.out.ext F3.out).ext f4
      have y3 := ZZ3.out.ext f4
      have S4 := Lib.hid s4
      have HF := Lib.hid (And.intro (hE.out.1.trans e4) (And.intro y1 (And.intro y2 (And.intro y3 zz4))))
      obtain ⟨⟨a0, a1, a2, a3, a4, a5, a6, a7, g0, g1, g2, g3, g4, g5, g6, g7⟩, gf⟩ := s4.facts
      have gf0 := gf 0; have gf1 := gf 1; have gf2 := gf 2; have gf3 := gf 3; have gf4 := gf 4; have gf5 := gf 5; have gf6 := gf 6; have gf7 := gf 7
      clear s4 y1 y2 y3 e4 zz4 f4 ZZ1 ZZ2 ZZ3 F1 F2 F3 D4 hb4 y4 l4 gf
      go_wp2
      clear g0 g1 g2 g3 g4 g5 g6 g7 gf0 gf1 gf2 gf3 gf4 gf5 gf6 gf7
      obtain ⟨q0, q1, q2, q3, q4, q5, q6, q7⟩ := put8_cells S4.out (.bool b1) (.slice A1 n1 k1) (.bool b2) (.slice A2 n2 k2) (.bool b3) (.slice A3 n3 k3) (.bool b4) (.slice A4 n4 k4)
      have hbel := put8_below (B := w.heap.size) (W := w) HF.out.1 (Nat.le_of_eq HG.out.symm) (.bool b1) (.slice A1 n1 k1) (.bool b2) (.slice A2 n2 k2) (.bool b3) (.slice A3 n3 k3) (.bool b4) (.slice A4 n4 k4)
      have P1 := HF.out.2.1.put8 S4.out (.bool b1) (.slice A1 n1 k1) (.bool b2) (.slice A2 n2 k2) (.bool b3) (.slice A3 n3 k3) (.bool b4) (.slice A4 n4 k4)
      have P2 := HF.out.2.2.1.put8 S4.out (.bool b1) (.slice A1 n1 k1) (.bool b2) (.slice A2 n2 k2) (.bool b3) (.slice A3 n3 k3) (.bool b4) (.slice A4 n4 k4)
      have P3 := HF.out.2.2.2.1.put8 S4.out (.bool b1) (.slice A1 n1 k1) (.bool b2) (.slice A2 n2 k2) (.bool b3) (.slice A3 n3 k3) (.bool b4) (.slice A4 n4 k4)
      have P4 := HF.out.2.2.2.2.put8 S4.out (.bool b1) (.slice A1 n1 k1) (.bool b2) (.slice A2 n2 k2) (.bool b3) (.slice A3 n3 k3) (.bool b4) (.slice A4 n4 k4)
      obtain ⟨W9, hW9⟩ : ∃ W9, W9 = put8 w4' g (.bool b1) (.slice A1 n1 k1) (.bool b2) (.slice A2 n2 k2) (.bool b3) (.slice A3 n3 k3) (.bool b4) (.slice A4 n4 k4) := ⟨_, rfl⟩
      rw [← hW9] at q0 q1 q2 q3 q4 q5 q6 q7 hbel P1 P2 P3 P4
      unfold put8 at hW9
      rw [← hW9]
      have PH := Lib.hid (And.intro hbel (And.intro P1 (And.intro P2 (And.intro P3 P4))))
      clear hW9 hbel P1 P2 P3 P4 HF S4
      have hdec : ((b : Int) != 0) = decide (b ≠ 0) := by by_cases h : b = 0 <;> simp [h]
      exact bodyPost_ret (v := .tuple #[.agg #[.bool b1, .slice A1 n1 k1, .bool b2, .slice A2 n2 k2, .bool b3, .slice A3 n3 k3, .bool b4, .slice A4 n4 k4], .bool ((b : Int) != 0)]) (by simp [results, Tryz.results106, go_sem, q0, q1, q2, q3, q4, q5, q6, q7]) rfl
        ⟨_, by rw [hdec], ⟨b1, A1, n1, k1, b2, A2, n2, k2, b3, A3, n3, k3, b4, A4, n4, k4, rfl, PH.out.2.1, PH.out.2.2.1, PH.out.2.2.2.1, PH.out.2.2.2.2⟩, PH.out.1⟩
end Go.Proofs.YtmlopkkbgpfdnaaGreatDoor
