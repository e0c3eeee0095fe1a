/- The energy of a labelling: mathematics. -/
import Derived.Test.YtilcbbdmenknfaaH4
namespace Go.Proofs.Ytilcbbdmenknfaa
open Go.RowKit

theorem prs_in {c : Cl} (hc : vCl c = true) {k : Nat} (hk : k < c.prs.n) : ∃ u v : Nat, c.prs.f k = (u : Int) ∧ c.prs.t k = (v : Int) ∧ u < c.nb ∧ v < c.nb ∧ 0 ≤ c.prs.c k ∧ c.prs.c k ≤ 1000 := by
  obtain ⟨⟨hw1, hw2⟩, ⟨hh1, hh2⟩, ⟨hnb, -⟩, -, ⟨hnr, hr⟩, ⟨hnd, hd⟩⟩ := vCl_ok hc
  obtain ⟨Z, hZ⟩ : ∃ Z : Nat, (c.w - 1).toNat = Z := ⟨_, rfl⟩
  obtain ⟨H, hH⟩ : ∃ H : Nat, c.h = (H : Int) + 1 := ⟨(c.h - 1).toNat, by omega⟩
  have hw : c.w = (Z : Int) + 1 := by omega
  have hw3 : c.w.toNat = Z + 1 := by omega
  have n1 : c.nb = (Z + 1) * (H + 1) := by rw [hw, hH] at hnb; exact_mod_cast hnb
  have n2 : c.nr = Z * (H + 1) := by
    have : c.w - 1 = (Z : Int) := by omega
    rw [this, hH] at hnr; exact_mod_cast hnr
  have n3 : c.nd = (Z + 1) * H := by
    have : c.h - 1 = (H : Int) := by omega
    rw [this, hw] at hnd; exact_mod_cast hnd
  have hk' : k < c.nr + c.nd := hk
  have n4 : (Z + 1) * (H + 1) = (Z + 1) * H + (Z + 1) := by rw [Nat.mul_add, Nat.mul_one]
  unfold Cl.prs
  dsimp only
  rw [hZ, hw3]
  by_cases h : k < c.nr
  · rw [if_pos h, if_pos h, if_pos h]
    have hZ0 : 0 < Z := by
      rcases Nat.eq_zero_or_pos Z with e | e
      · rw [n2, e] at h; simp at h
      · exact e
    have q1 : k / Z < H + 1 := by rw [Nat.div_lt_iff_lt_mul hZ0, Nat.mul_comm, ← n2]; exact h
    have q2 : k % Z < Z := Nat.mod_lt _ hZ0
    have q3 : k / Z * (Z + 1) ≤ H * (Z + 1) := Nat.mul_le_mul_right _ (by omega)
    have q4 : H * (Z + 1) = (Z + 1) * H := Nat.mul_comm _ _
    exact ⟨_, _, rfl, rfl, by omega, by omega, (hr k h).1, (hr k h).2⟩
  · rw [if_neg h, if_neg h, if_neg h]
    exact ⟨_, _, rfl, rfl, by omega, by omega, (hd _ (by omega)).1, (hd _ (by omega)).2⟩

/-- what cell k costs -/
def Cl.dt (c : Cl) (r : Int) (l : Nat → Bool) (k : Nat) : Int := if l k = true then c.x k + r else c.b k
/-- what pair k costs -/
def Cl.pt (c : Cl) (l : Nat → Bool) (k : Nat) : Int := if l (c.prs.f k).toNat = l (c.prs.t k).toNat then 0 else c.prs.c k
/-- the energy -/
def Cl.en (c : Cl) (r : Int) (l : Nat → Bool) : Int := sm c.nb (c.dt r l) + sm c.prs.n (c.pt l)

theorem sm_abs {n : Nat} {f : Nat → Int} (h : ∀ i, i < n → -11000 ≤ f i ∧ f i ≤ 11000) : -(11000 * (n : Int)) ≤ sm n f ∧ sm n f ≤ 11000 * (n : Int) := by
  induction n with
  | zero => simp [sm]
  | succ n ih =>
    have h1 := ih (fun i hi => h i (by omega))
    have h2 := h n (by omega)
    show -(11000 * ((n + 1 : Nat) : Int)) ≤ sm n f + f n ∧ sm n f + f n ≤ 11000 * ((n + 1 : Nat) : Int)
    omega
theorem en_sub {c : Cl} (hc : vCl c = true) (r : Int) (s t : Nat → Bool) : c.en r (fun k => s k && t k) + c.en r (fun k => s k || t k) ≤ c.en r s + c.en r t := by
  have h1 : sm c.nb (c.dt r fun k => s k && t k) + sm c.nb (c.dt r fun k => s k || t k) = sm c.nb (c.dt r s) + sm c.nb (c.dt r t) := by
    rw [← sm_add, ← sm_add]
    refine sm_congr fun k hk => ?_
    unfold Cl.dt
    dsimp only
    have tt : ∀ a b : Bool, (if (a && b) = true then c.x k + r else c.b k) + (if (a || b) = true then c.x k + r else c.b k) = (if a = true then c.x k + r else c.b k) + (if b = true then c.x k + r else c.b k) := by
      intro a b
      cases a <;> cases b <;> simp <;> omega
    exact tt _ _
  have h2 : sm c.prs.n (c.pt fun k => s k && t k) + sm c.prs.n (c.pt fun k => s k || t k) ≤ sm c.prs.n (c.pt s) + sm c.prs.n (c.pt t) := by
    rw [← sm_add, ← sm_add]
    refine sm_le fun k hk => ?_
    obtain ⟨u, v, -, -, -, -, h0, -⟩ := prs_in hc hk
    unfold Cl.pt
    dsimp only
    have tt : ∀ a b e g : Bool, (if (a && e) = (b && g) then 0 else c.prs.c k) + (if (a || e) = (b || g) then 0 else c.prs.c k) ≤ (if a = b then 0 else c.prs.c k) + (if e = g then 0 else c.prs.c k) := by
      intro a b e g
      cases a <;> cases b <;> cases e <;> cases g <;> simp <;> omega
    exact tt _ _ _ _
  unfold Cl.en
  omega
theorem en_congr {c : Cl} (hc : vCl c = true) (r : Int) {s t : Nat → Bool} (h : ∀ k, k < c.nb → s k = t k) : c.en r s = c.en r t := by
  unfold Cl.en
  congr 1
  · exact sm_congr fun k hk => by unfold Cl.dt; rw [h k hk]
  · refine sm_congr fun k hk => ?_
    obtain ⟨u, v, h1, h2, h3, h4, -⟩ := prs_in hc hk
    unfold Cl.pt
    rw [h1, h2, Int.toNat_natCast, Int.toNat_natCast, h u h3, h v h4]
end Go.Proofs.Ytilcbbdmenknfaa
