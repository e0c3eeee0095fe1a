/- Webs: every arc in both directions: mathematics. -/
import Derived.Test.YtilcbbdmenknfaaD2
namespace Go.Proofs.Ytilcbbdmenknfaa

/-- every arc, and behind it the same one back -/
def dbl (a : Ar) : Ar := ⟨2 * a.n, fun k => if k % 2 = 0 then a.f (k / 2) else a.t (k / 2), fun k => if k % 2 = 0 then a.t (k / 2) else a.f (k / 2), fun k => a.c (k / 2)⟩
theorem dbl_ok {a : Ar} {N : Nat} {M : Int} (h : a.Ok N M) : (dbl a).Ok N M := by
  have hk : ∀ k, k < (dbl a).n → k / 2 < a.n := fun k hk => by have : k < 2 * a.n := hk; omega
  refine ⟨fun k h1 => ?_, fun k h1 => ?_, fun k h1 => ?_, fun k h1 => ?_, fun k h1 => ?_, fun k h1 => h.c0 _ (hk k h1), fun k h1 => h.cM _ (hk k h1)⟩
  · show 0 ≤ if k % 2 = 0 then a.f (k / 2) else a.t (k / 2); split; exact h.f0 _ (hk k h1); exact h.t0 _ (hk k h1)
  · show (if k % 2 = 0 then a.f (k / 2) else a.t (k / 2)) < (N : Int); split; exact h.fN _ (hk k h1); exact h.tN _ (hk k h1)
  · show 0 ≤ if k % 2 = 0 then a.t (k / 2) else a.f (k / 2); split; exact h.t0 _ (hk k h1); exact h.f0 _ (hk k h1)
  · show (if k % 2 = 0 then a.t (k / 2) else a.f (k / 2)) < (N : Int); split; exact h.tN _ (hk k h1); exact h.fN _ (hk k h1)
  · show (if k % 2 = 0 then a.f (k / 2) else a.t (k / 2)) ≠ if k % 2 = 0 then a.t (k / 2) else a.f (k / 2); split; exact h.ne _ (hk k h1); exact fun e => h.ne _ (hk k h1) e.symm
theorem acl_dbl (a : Ar) (k : Nat) : acl (dbl a) (2 * (k + 1)) = acl (dbl a) (2 * k) ++ [.int .i64 (a.f k), .int .i64 (a.t k), .int .i64 (a.c k), .int .i64 (a.t k), .int .i64 (a.f k), .int .i64 (a.c k)] := by
  have e0 : (2 * k) % 2 = 0 := by omega
  have e1 : ¬ (2 * k + 1) % 2 = 0 := by omega
  have e2 : 2 * k / 2 = k := by omega
  have e3 : (2 * k + 1) / 2 = k := by omega
  rw [show 2 * (k + 1) = 2 * k + 1 + 1 by omega, acl_succ, acl_succ]
  simp only [dbl, e0, e1, e2, e3, if_true, if_false, List.append_assoc]
  rfl
theorem sm_pair (n : Nat) (g : Nat → Int) : sm (2 * n) g = sm n fun k => g (2 * k) + g (2 * k + 1) := by
  induction n with
  | zero => rfl
  | succ n ih => rw [show 2 * (n + 1) = 2 * n + 1 + 1 by omega]; simp only [sm]; rw [ih]; omega
/-- what lies across S -/
def across (a : Ar) (S : Nat → Bool) : Int := sm a.n fun k => if S (a.f k).toNat = S (a.t k).toNat then 0 else a.c k
theorem ct_dbl (a : Ar) (S : Nat → Bool) : (dbl a).nw.ct S = across a S := by
  have e0 : ∀ k, (2 * k) % 2 = 0 := by omega
  have e1 : ∀ k, ¬ (2 * k + 1) % 2 = 0 := by omega
  have e2 : ∀ k, 2 * k / 2 = k := by omega
  have e3 : ∀ k, (2 * k + 1) / 2 = k := by omega
  have h : (dbl a).nw.ct S = sm (2 * a.n) fun k => if S ((dbl a).f k).toNat = true ∧ S ((dbl a).t k).toNat = false then (dbl a).c k else 0 := rfl
  rw [h, sm_pair]
  refine sm_congr fun k _ => ?_
  simp only [dbl, e0, e1, e2, e3, if_true, if_false]
  cases S (a.f k).toNat <;> cases S (a.t k).toNat <;> simp
theorem across_not (a : Ar) (S : Nat → Bool) : across a (fun i => !S i) = across a S := by
  refine sm_congr fun k _ => ?_
  show (if (!S (a.f k).toNat) = (!S (a.t k).toNat) then 0 else a.c k) = if S (a.f k).toNat = S (a.t k).toNat then 0 else a.c k
  generalize S (a.f k).toNat = p
  generalize S (a.t k).toNat = q
  cases p <;> cases q <;> rfl
theorem Mc.flip {a : Ar} {u v : Nat} {c : Int} (h : Mc (dbl a).nw u v c) : Mc (dbl a).nw v u c := by
  refine ⟨?_, fun S hS => ?_⟩
  · obtain ⟨S, h1, h2⟩ := h.is
    refine ⟨fun i => !S i, ⟨by simp [h1.2], by simp [h1.1]⟩, ?_⟩
    rw [ct_dbl] at h2 ⊢
    rw [across_not, h2]
  · have := h.le (fun i => !S i) ⟨by simp [hS.2], by simp [hS.1]⟩
    rw [ct_dbl] at this ⊢
    rwa [across_not] at this
theorem Mc.three {G : Nw} {u v w : Nat} {x y z : Int} (h1 : Mc G u v x) (h2 : Mc G v w y) (h3 : Mc G u w z) : x ≤ z ∨ y ≤ z := by
  obtain ⟨S, hS, rfl⟩ := h3.is
  cases hv : S v
  · exact .inl (h1.le S ⟨hS.1, hv⟩)
  · exact .inr (h2.le S ⟨hv, hS.2⟩)

/-- do the arguments of Cut fit? -/
def cutOk (N : Int) (a : Ar) (u v : Int) : Bool := (vNet N a && decide (N ≤ 12)) && bw u 0 (N - 1) && bw v 0 (N - 1) && !decide (u = v)
end Go.Proofs.Ytilcbbdmenknfaa
