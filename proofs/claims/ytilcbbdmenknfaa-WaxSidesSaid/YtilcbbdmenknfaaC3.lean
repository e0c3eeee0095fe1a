/- Walks: newNetwork. -/
import Derived.Test.YtilcbbdmenknfaaC2
namespace Go.Proofs.Ytilcbbdmenknfaa
open Go.RowKit

/-- the steps of the first k arcs that start at v -/
def stf (G : Nw) (k v : Nat) : List Nat := (List.range (2 * k)).filter fun j => decide (G.tl j = v)
theorem stf_stp (G : Nw) (N : Nat) : Stp G N (stf G G.m) := by
  refine ⟨fun v _ j => ?_, fun v _ => ?_⟩
  · unfold stf; simp
  · unfold stf; exact Nat.le_trans (List.length_filter_le _ _) (by simp)
theorem stf_succ (G : Nw) (k v : Nat) : stf G (k + 1) v = stf G k v ++ ((if G.fr k = v then [2 * k] else []) ++ (if G.to k = v then [2 * k + 1] else [])) := by
  have e : List.range (2 * (k + 1)) = List.range (2 * k) ++ [2 * k, 2 * k + 1] := by
    rw [show 2 * (k + 1) = 2 * k + 1 + 1 by omega, List.range_succ, List.range_succ]; simp
  unfold stf
  rw [e, List.filter_append]
  congr 1
  have t1 : G.tl (2 * k) = G.fr k := by unfold Nw.tl; rw [if_pos (by omega)]; congr 1; omega
  have t2 : G.tl (2 * k + 1) = G.to k := by unfold Nw.tl; rw [if_neg (by omega)]; congr 1; omega
  by_cases h1 : G.fr k = v <;> by_cases h2 : G.to k = v <;> simp [List.filter_cons, t1, t2, h1, h2]

theorem stf_up (G : Nw) {k fk tk : Nat} {st2 : Nat → List Nat} (hne : fk ≠ tk) (h1 : G.fr k = fk) (h2 : G.to k = tk) (h3 : st2 = up (stf G k) fk (stf G k fk ++ [2 * k])) : up st2 tk (st2 tk ++ [2 * k + 1]) = stf G (k + 1) := by
  funext v
  have hne2 : tk ≠ fk := fun e => hne e.symm
  rw [stf_succ, h1, h2, h3]
  by_cases e1 : v = tk
  · subst e1
    rw [up_self, up_ne _ _ hne2, if_neg hne, if_pos rfl]
    rfl
  · rw [up_ne _ _ e1, if_neg (fun e : tk = v => e1 e.symm), List.append_nil]
    by_cases e2 : v = fk
    · subst e2; rw [up_self, if_pos rfl]
    · rw [up_ne _ _ e2, if_neg (fun e : fk = v => e2 e.symm), List.append_nil]

/-- block g holds the rows u, each in a block of its own -/
structure Nst (w : World) (base g N : Nat) (u : Nat → Value) (st : Nat → List Nat) : Prop where
  blk : Bk w g 33 N u
  row : ∀ i, i < N → Qs w base (u i) (st i).length (fun k => (((st i).getD k 0 : Nat) : Int))
  dis : ∀ i j, i < N → j < N → i ≠ j → ∀ b, (u i).ownBlock = some b → (u j).ownBlock ≠ some b
theorem Nst.ext {w w' : World} {base g N : Nat} {u : Nat → Value} {st : Nat → List Nat} (h : Nst w base g N u st) (e : Ext w w') : Nst w' base g N u st :=
  ⟨h.blk.ext e, fun i hi => (h.row i hi).ext e, h.dis⟩
/-- one more in row i -/
theorem Nst.more {w w' : World} {base g N i z : Nat} {u : Nat → Value} {st : Nat → List Nat} {v' : Value} (h : Nst w base g N u st) (hi : i < N) (hg : g < base) (hq : Qs w' base v' ((st i).length + 1) (up (fun k => (((st i).getD k 0 : Nat) : Int)) (st i).length (z : Int))) (hgr : Grew w w' (u i) v') :
    Nst (w'.setCell ⟨g, i, none⟩ v') base g N (up u i v') (up st i (st i ++ [z])) := by
  have hl : g < w.heap.size := h.blk.lt
  have hgi : (u i).ownBlock ≠ some g := fun e => by have := ((h.row i hi).1 g e).1; omega
  have hb := hgr.bk h.blk hgi
  have hg' : v'.ownBlock ≠ some g := hgr.apart hl hgi
  have hfar : ∀ b, b ≠ g → (w'.setCell ⟨g, i, none⟩ v').heap[b]? = w'.heap[b]? := fun b hb => Below.heap_setCell w' ⟨g, i, none⟩ v' b hb
  refine ⟨Bk.set_ hb i v', fun j hj => ?_, fun a b ha hb' hab c hc => ?_⟩
  · by_cases e : j = i
    · subst e
      rw [up_self, up_self, List.length_append]
      refine Qs.congr (hq.block (by simp [World.setCell]) fun b hb2 => hfar b (fun e => hg' (by rw [hb2, e]))) fun k hk => ?_
      by_cases e : k = (st j).length
      · subst e; rw [up_self]; simp
      · rw [up_ne _ _ e]; simp only [List.getD_eq_getElem?_getD]; rw [List.getElem?_append_left (by simp at hk; omega)]
    · rw [up_ne _ _ e, up_ne _ _ e]
      refine (h.row j hj).block (by have := hgr.by_.size; simpa [World.setCell] using this) fun b hb2 => ?_
      obtain ⟨h1, hlt⟩ := (h.row j hj).1 b hb2
      rw [hfar b (by omega)]
      exact hgr.by_.block b hlt (fun e2 => h.dis j i hj hi e b hb2 e2.symm)
  · by_cases e1 : a = i
    · subst e1
      rw [up_self] at hc
      rw [up_ne _ _ (fun e => hab e.symm)]
      rcases hgr.own with e2 | ⟨b2, e2, h2⟩
      · rw [e2] at hc; exact h.dis a b ha hb' hab c hc
      · rw [e2] at hc; injection hc with hc
        intro hb3
        have := (h.row b hb').1 c hb3
        omega
    · rw [up_ne _ _ e1] at hc
      by_cases e2 : b = i
      · subst e2
        rw [up_self]
        rcases hgr.own with e3 | ⟨b2, e3, h2⟩
        · rw [e3]; exact h.dis a b ha hb' hab c hc
        · rw [e3]; intro hb3; injection hb3 with hb3
          have := (h.row a ha).1 c hc
          omega
      · rw [up_ne _ _ e2]; exact h.dis a b ha hb' hab c hc
end Go.Proofs.Ytilcbbdmenknfaa
