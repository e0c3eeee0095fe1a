/- The network whose cuts are energies: mathematics. -/
import Derived.Test.YtilcbbdmenknfaaH6
import Derived.Test.YtilcbbdmenknfaaDc
namespace Go.Proofs.Ytilcbbdmenknfaa
open Go.RowKit

/-- one list of arcs behind another -/
def join (a b : Ar) : Ar := ⟨a.n + b.n, fun k => if k < a.n then a.f k else b.f (k - a.n), fun k => if k < a.n then a.t k else b.t (k - a.n), fun k => if k < a.n then a.c k else b.c (k - a.n)⟩
theorem acl_join1 (a b : Ar) : ∀ k, k ≤ a.n → acl (join a b) k = acl a k := by
  intro k
  induction k with
  | zero => intro _; rfl
  | succ k ih =>
    intro hk
    rw [acl_succ, acl_succ, ih (by omega)]
    simp only [join, if_pos (show k < a.n by omega)]
theorem acl_join2 (a b : Ar) : ∀ k, acl (join a b) (a.n + k) = acl a a.n ++ acl b k := by
  intro k
  induction k with
  | zero => rw [Nat.add_zero, acl_join1 a b _ (Nat.le_refl _)]; simp [acl]
  | succ k ih =>
    rw [← Nat.add_assoc, acl_succ, acl_succ, ih, List.append_assoc]
    simp only [join, if_neg (show ¬ a.n + k < a.n by omega), Nat.add_sub_cancel_left]
/-- what wax costs more than none at cell k -/
def Cl.more (c : Cl) (r : Int) (k : Nat) : Int := c.x k + r - c.b k
/-- the arcs of the cells -/
def Cl.cel (c : Cl) (r : Int) : Ar := ⟨c.nb, fun k => if 0 < c.more r k then (k : Int) else (c.nb : Int), fun k => if 0 < c.more r k then (c.nb : Int) + 1 else (k : Int), fun k => if 0 < c.more r k then c.more r k else -c.more r k⟩
/-- the network's arcs -/
def Cl.nwa (c : Cl) (r : Int) : Ar := join (c.cel r) (dbl c.prs)
theorem prs_ne {c : Cl} (hc : vCl c = true) {k : Nat} (hk : k < c.prs.n) : c.prs.f k ≠ c.prs.t k := by
  obtain ⟨⟨hw1, hw2⟩, -⟩ := vCl_ok hc
  unfold Cl.prs
  dsimp only
  split <;> omega
theorem prs_ok {c : Cl} (hc : vCl c = true) : c.prs.Ok (c.nb + 2) 2000000 := by
  refine ⟨fun k hk => ?_, fun k hk => ?_, fun k hk => ?_, fun k hk => ?_, fun k hk => prs_ne hc hk, fun k hk => ?_, fun k hk => ?_⟩ <;>
  · obtain ⟨u, v, h1, h2, h3, h4, h5, h6⟩ := prs_in hc hk
    omega
theorem nwa_ok {c : Cl} (hc : vCl c = true) {r : Int} (h1 : -100000 ≤ r) (h2 : r ≤ 100000) : (c.nwa r).Ok (c.nb + 2) 2000000 := by
  have hd := dbl_ok (prs_ok hc)
  obtain ⟨-, -, ⟨v5, v6⟩, ⟨v7, v8⟩, -, -⟩ := vCl_ok hc
  have hcel : ∀ k, k < c.nb → -200000 ≤ c.more r k ∧ c.more r k ≤ 200000 := fun k hk => by
    have h5 := v6 k hk; have h6 := v8 k (by omega)
    unfold Cl.more; omega
  have key : ∀ k, k < (c.nwa r).n → ¬ k < c.nb → k - c.nb < (dbl c.prs).n := fun k hk hn => by
    have : k < c.nb + (dbl c.prs).n := hk
    omega
  have hn : (c.cel r).n = c.nb := rfl
  refine ⟨fun k hk => ?_, fun k hk => ?_, fun k hk => ?_, fun k hk => ?_, fun k hk => ?_, fun k hk => ?_, fun k hk => ?_⟩ <;>
  · unfold Cl.nwa join
    dsimp only
    rw [hn]
    by_cases h : k < c.nb
    · have := hcel k h
      simp only [if_pos h]
      unfold Cl.cel
      dsimp only
      split <;> omega
    · simp only [if_neg h]
      have e := key k hk h
      first | exact hd.f0 _ e | exact hd.fN _ e | exact hd.t0 _ e | exact hd.tN _ e | exact hd.ne _ e | exact hd.c0 _ e | exact hd.cM _ e
/-- what is paid anyway -/
def Cl.any (c : Cl) (r : Int) : Int := sm c.nb fun k => if 0 < c.more r k then c.b k else c.x k + r
/-- the cost of a side is the energy, less what is paid anyway -/
theorem ct_en {c : Cl} (hc : vCl c = true) (r : Int) {S : Nat → Bool} (hS : Nw.Sd c.nb (c.nb + 1) S) : (c.nwa r).nw.ct S + c.any r = c.en r S := by
  have h1 : (c.nwa r).nw.ct S = sm (c.cel r).n (fun k => if S ((c.cel r).f k).toNat = true ∧ S ((c.cel r).t k).toNat = false then (c.cel r).c k else 0) + (dbl c.prs).nw.ct S := by
    show sm ((c.cel r).n + (dbl c.prs).n) _ = _
    rw [sm_split]
    congr 1
    · refine sm_congr fun k hk => ?_
      show (if S (if k < (c.cel r).n then (c.cel r).f k else _).toNat = true ∧ S (if k < (c.cel r).n then (c.cel r).t k else _).toNat = false then (if k < (c.cel r).n then (c.cel r).c k else _) else 0) = _
      simp only [if_pos hk]
    · refine sm_congr fun k hk => ?_
      have e : ¬ (c.cel r).n + k < (c.cel r).n := by omega
      show (if S (if (c.cel r).n + k < (c.cel r).n then _ else (dbl c.prs).f ((c.cel r).n + k - (c.cel r).n)).toNat = true ∧ S (if (c.cel r).n + k < (c.cel r).n then _ else (dbl c.prs).t ((c.cel r).n + k - (c.cel r).n)).toNat = false then (if (c.cel r).n + k < (c.cel r).n then _ else (dbl c.prs).c ((c.cel r).n + k - (c.cel r).n)) else 0) = _
      simp only [if_neg e, Nat.add_sub_cancel_left]
      rfl
  rw [h1, ct_dbl]
  have h2 : across c.prs S = sm c.prs.n (c.pt S) := rfl
  have h3 : sm (c.cel r).n (fun k => if S ((c.cel r).f k).toNat = true ∧ S ((c.cel r).t k).toNat = false then (c.cel r).c k else 0) + c.any r = sm c.nb (c.dt r S) := by
    unfold Cl.any
    show sm c.nb _ + _ = _
    rw [← sm_add]
    refine sm_congr fun k hk => ?_
    unfold Cl.cel Cl.dt Cl.more
    dsimp only
    have e1 : ((c.nb : Int) + 1).toNat = c.nb + 1 := by omega
    by_cases hm : 0 < c.x k + r - c.b k
    · simp only [if_pos hm, Int.toNat_natCast, e1, hS.2, and_true]
      split <;> omega
    · simp only [if_neg hm, Int.toNat_natCast, hS.1, true_and]
      cases S k <;> simp <;> omega
  unfold Cl.en
  rw [h2]
  omega
end Go.Proofs.Ytilcbbdmenknfaa
