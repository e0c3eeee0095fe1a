/- Cut with its answer fixed beforehand; a net with all arcs back behind it. -/
import Derived.Test.YtilcbbdmenknfaaD4
namespace Go.Proofs.Ytilcbbdmenknfaa
open Go.RowKit

theorem Nw.ct_nonneg (G : Nw) (hc : ∀ k, k < G.m → 0 ≤ G.cp k) (S : Nat → Bool) : 0 ≤ G.ct S := by
  refine sm_nonneg fun k hk => ?_
  split
  · exact hc k hk
  · omega
theorem Mc.ex {G : Nw} {s t : Nat} (hne : s ≠ t) (hc : ∀ k, k < G.m → 0 ≤ G.cp k) : ∃ v, Mc G s t v := by
  have h0 : ∃ n, ∃ S, Nw.Sd s t S ∧ (G.ct S).toNat = n := ⟨_, fun i => decide (i = s), ⟨by simp, by simp; exact fun e => hne e.symm⟩, rfl⟩
  obtain ⟨n, ⟨S, hS, hn⟩, hl⟩ := exists_least h0
  refine ⟨G.ct S, ⟨S, hS, rfl⟩, fun T hT => ?_⟩
  have h1 := hl _ ⟨T, hT, rfl⟩
  have h2 := G.ct_nonneg hc S
  have h3 := G.ct_nonneg hc T
  omega
theorem cutOk_iff {N : Int} {a : Ar} {u v : Int} : cutOk N a u v = true ↔ vNet N a = true ∧ N ≤ 12 ∧ (0 ≤ u ∧ u ≤ N - 1) ∧ (0 ≤ v ∧ v ≤ N - 1) ∧ u ≠ v := by
  unfold cutOk
  simp only [Bool.and_eq_true, decide_eq_true_iff, bw_iff, Bool.not_eq_true', decide_eq_false_iff_not]
  constructor
  · rintro ⟨⟨⟨⟨h1, h2⟩, h3⟩, h4⟩, h5⟩; exact ⟨h1, h2, h3, h4, h5⟩
  · rintro ⟨h1, h2, h3, h4, h5⟩; exact ⟨⟨⟨⟨h1, h2⟩, h3⟩, h4⟩, h5⟩
theorem cut_fix (N u v : Int) (a : Ar) : ∃ c er : Int, ((cutOk N a u v = false ∧ c = 0 ∧ er = 2) ∨ (cutOk N a u v = true ∧ er = 0 ∧ Mc (dbl a).nw u.toNat v.toNat c)) ∧
    ∀ (X : World) (o : Value), Al X o a → Calls Try.prog 33 #[.agg #[.int .i64 N, o], .int .i64 u, .int .i64 v] X fun e W' => e = .returned (.tuple #[.int .i64 c, .int .i64 er]) ∧ Ext X W' := by
  cases h : cutOk N a u v
  · refine ⟨0, 2, .inl ⟨rfl, rfl, rfl⟩, fun X o ho => ?_⟩
    refine (cut_any N u v a o X ho).mono ?_
    rintro e w ⟨c, er, rfl, hx, ⟨-, rfl, rfl⟩ | ⟨h2, -⟩⟩
    · exact ⟨rfl, hx⟩
    · rw [h] at h2; cases h2
  · obtain ⟨h1, h2, h3, h4, h5⟩ := cutOk_iff.1 h
    obtain ⟨m, rfl, -, -, -, hO⟩ := vNet_ok h1
    obtain ⟨c, hc⟩ := Mc.ex (G := (dbl a).nw) (s := u.toNat) (t := v.toNat) (by omega) (dbl_ok hO).c0
    refine ⟨c, 0, .inr ⟨rfl, rfl, hc⟩, fun X o ho => ?_⟩
    refine (cut_any m u v a o X ho).mono ?_
    rintro e w ⟨c', er, rfl, hx, ⟨h2, -⟩ | ⟨-, rfl, hm⟩⟩
    · rw [h] at h2; cases h2
    · rw [hm.one hc]; exact ⟨rfl, hx⟩

/-- a net, and all its arcs back behind it -/
def app (a : Ar) : Ar := ⟨2 * a.n, fun k => if k < a.n then a.f k else a.t (k - a.n), fun k => if k < a.n then a.t k else a.f (k - a.n), fun k => if k < a.n then a.c k else a.c (k - a.n)⟩
theorem acl_app (a : Ar) (k : Nat) : acl (app a) (a.n + k + 1) = acl (app a) (a.n + k) ++ [.int .i64 (a.t k), .int .i64 (a.f k), .int .i64 (a.c k)] := by
  have e : ¬ a.n + k < a.n := by omega
  rw [acl_succ]
  simp only [app, e, if_false, Nat.add_sub_cancel_left]
theorem acl_appk (a : Ar) : ∀ k, k ≤ a.n → acl (app a) k = acl a k := by
  intro k
  induction k with
  | zero => intro _; rfl
  | succ k ih =>
    intro hk
    have e : k < a.n := by omega
    rw [acl_succ, acl_succ, ih (by omega)]
    simp only [app, e, if_true]
theorem acl_app0 (a : Ar) : acl (app a) (a.n + 0) = acl a a.n := by rw [Nat.add_zero]; exact acl_appk a a.n (Nat.le_refl _)
theorem sm_split (n m : Nat) (g : Nat → Int) : sm (n + m) g = sm n g + sm m fun k => g (n + k) := by
  induction m with
  | zero => simp [sm]
  | succ m ih => rw [show n + (m + 1) = n + m + 1 by omega]; simp only [sm]; rw [ih]; omega
theorem ct_app (a : Ar) (S : Nat → Bool) : (app a).nw.ct S = across a S := by
  have h : (app a).nw.ct S = sm (2 * a.n) fun k => if S ((app a).f k).toNat = true ∧ S ((app a).t k).toNat = false then (app a).c k else 0 := rfl
  rw [h, Nat.two_mul, sm_split, ← sm_add]
  refine sm_congr fun k hk => ?_
  have e : ¬ a.n + k < a.n := by omega
  simp only [app, hk, e, if_true, if_false, Nat.add_sub_cancel_left]
  cases S (a.f k).toNat <;> cases S (a.t k).toNat <;> simp
theorem app_net {N : Int} {a : Ar} (h : vNet N a = true) (hn : a.n ≤ 80) : vNet N (app a) = true := by
  obtain ⟨h1, h2, h3⟩ := vNet_iff.1 h
  refine vNet_iff.2 ⟨h1, by show 2 * a.n ≤ 160; omega, fun k hk => ?_⟩
  have hk' : k < 2 * a.n := hk
  unfold okA
  by_cases e : k < a.n
  · have := h3 k e
    unfold okA at this
    simp only [app, e, if_true]
    exact this
  · have := h3 (k - a.n) (by omega)
    unfold okA at this
    simp only [app, e, if_false]
    rw [← this]
    rw [show decide (a.t (k - a.n) = a.f (k - a.n)) = decide (a.f (k - a.n) = a.t (k - a.n)) by rw [decide_eq_decide]; exact ⟨fun e => e.symm, fun e => e.symm⟩]
    cases bw (a.f (k - a.n)) 0 (N - 1) <;> cases bw (a.t (k - a.n)) 0 (N - 1) <;> rfl
theorem mc_app {a : Ar} {s t : Nat} {v w : Int} (h : Mc (app a).nw s t v) (k : Mc (dbl a).nw s t w) : v = w := by
  refine Mc.one (G := (dbl a).nw) ⟨?_, fun S hS => ?_⟩ k
  · obtain ⟨S, h1, h2⟩ := h.is
    exact ⟨S, h1, by rw [ct_dbl, ← ct_app, h2]⟩
  · have := h.le S hS
    rwa [ct_app, ← ct_dbl] at this
end Go.Proofs.Ytilcbbdmenknfaa
