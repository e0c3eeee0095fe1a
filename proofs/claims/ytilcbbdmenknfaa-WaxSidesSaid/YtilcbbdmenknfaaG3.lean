/- Two rows of flags grown side by side; the least sides' lattice. -/
import Derived.Test.YtilcbbdmenknfaaG2
import Derived.Maps.AppendAt
namespace Go.Proofs.Ytilcbbdmenknfaa
open Go.RowKit

theorem mins_mem {G : Nw} {N k n : Nat} {v : Int} : k ∈ mins G N v n ↔ k < n ∧ G.ct (numb N k) = v := by unfold mins; simp
theorem ct_modular (G : Nw) (hc : ∀ k, k < G.m → 0 ≤ G.cp k) (S T : Nat → Bool) : G.ct (fun v => S v && T v) + G.ct (fun v => S v || T v) ≤ G.ct S + G.ct T := by
  unfold Nw.ct
  rw [← sm_add, ← sm_add]
  refine sm_le fun k hk => ?_
  have := hc k hk
  dsimp only
  have tt : ∀ a b c d : Bool, (if (a && c) = true ∧ (b && d) = false then G.cp k else 0) + (if (a || c) = true ∧ (b || d) = false then G.cp k else 0) ≤ (if a = true ∧ b = false then G.cp k else 0) + (if c = true ∧ d = false then G.cp k else 0) := by
    intro a b c d
    cases a <;> cases b <;> cases c <;> cases d <;> simp <;> omega
  exact tt _ _ _ _
theorem Mc.both {G : Nw} {s t : Nat} {v : Int} (hc : ∀ k, k < G.m → 0 ≤ G.cp k) (h : Mc G s t v) {S T : Nat → Bool} (hS : Nw.Sd s t S) (hT : Nw.Sd s t T) (h1 : G.ct S = v) (h2 : G.ct T = v) :
    G.ct (fun v => S v && T v) = v ∧ G.ct (fun v => S v || T v) = v := by
  have h3 := ct_modular G hc S T
  have h4 := h.le (fun v => S v && T v) ⟨by simp [hS.1, hT.1], by simp [hS.2]⟩
  have h5 := h.le (fun v => S v || T v) ⟨by simp [hS.1], by simp [hS.2, hT.2]⟩
  omega
/-- among the listed sides is each minimum side -/
theorem mins_has {G : Nw} {N : Nat} {v : Int} (hN : 2 ≤ N) (hin : G.In N) {S : Nat → Bool} (hS : Nw.Sd 0 (N - 1) S) (hv : G.ct S = v) : ∃ i, i < (mins G N v (2 ^ (N - 2))).length ∧ ∀ u, u < N → numb N ((mins G N v (2 ^ (N - 2))).getD i 0) u = S u := by
  obtain ⟨k, hk, hkS⟩ := numb_ex hN hS
  have : k ∈ mins G N v (2 ^ (N - 2)) := mins_mem.2 ⟨hk, by rw [← hv]; exact G.ct_congr hin hkS⟩
  obtain ⟨i, hi, he⟩ := List.mem_iff_getElem.1 this
  refine ⟨i, hi, fun u hu => ?_⟩
  rw [List.getD_eq_getElem?_getD, List.getElem?_eq_getElem hi, he]
  exact hkS u hu
theorem mins_lattice {G : Nw} {N : Nat} {v : Int} (hN : 2 ≤ N) (hin : G.In N) (hc : ∀ k, k < G.m → 0 ≤ G.cp k) (h : Mc G 0 (N - 1) v) {ks : List Nat} (hks : ks = mins G N v (2 ^ (N - 2))) {p q : Nat} (hp : p < ks.length) (hq : q < ks.length) :
    (∃ i, i < ks.length ∧ ∀ u, u < N → numb N (ks.getD i 0) u = (numb N (ks.getD p 0) u && numb N (ks.getD q 0) u)) ∧ ∃ i, i < ks.length ∧ ∀ u, u < N → numb N (ks.getD i 0) u = (numb N (ks.getD p 0) u || numb N (ks.getD q 0) u) := by
  have key : ∀ r, r < ks.length → G.ct (numb N (ks.getD r 0)) = v := by
    intro r hr
    have : ks.getD r 0 ∈ ks := by rw [List.getD_eq_getElem?_getD, List.getElem?_eq_getElem hr]; exact List.getElem_mem hr
    generalize ks.getD r 0 = y at this ⊢
    rw [hks] at this
    exact (mins_mem.1 this).2
  obtain ⟨e1, e2⟩ := h.both hc (numb_sd (ks.getD p 0) hN) (numb_sd (ks.getD q 0) hN) (key p hp) (key q hq)
  have s1 := numb_sd (ks.getD p 0) hN
  have s2 := numb_sd (ks.getD q 0) hN
  have h1 := mins_has hN hin (S := fun u => numb N (ks.getD p 0) u && numb N (ks.getD q 0) u) ⟨by dsimp only; rw [s1.1, s2.1]; rfl, by dsimp only; rw [s1.2]; rfl⟩ e1
  have h2 := mins_has hN hin (S := fun u => numb N (ks.getD p 0) u || numb N (ks.getD q 0) u) ⟨by dsimp only; rw [s1.1]; rfl, by dsimp only; rw [s1.2, s2.2]; rfl⟩ e2
  rw [← hks] at h1 h2
  exact ⟨h1, h2⟩

/-- some of the first k -/
def anyTo (f : Nat → Bool) (k : Nat) : Bool := (List.range k).any f
theorem anyTo_succ (f : Nat → Bool) (k : Nat) : anyTo f (k + 1) = (anyTo f k || f k) := by simp [anyTo, List.range_succ]
theorem anyTo_true {f : Nat → Bool} {n i : Nat} (hi : i < n) (h : f i = true) : anyTo f n = true := List.any_eq_true.2 ⟨i, List.mem_range.2 hi, h⟩

def bl (k : Nat) (s : Nat → Bool) : List Value := (List.range k).map fun j => Value.bool (s j)
theorem bl_succ (k : Nat) (s : Nat → Bool) : bl (k + 1) s = bl k s ++ [Value.bool (s k)] := by simp [bl, List.range_succ]
theorem ownsRow_bl {w : World} {base n : Nat} {v : Value} {s : Nat → Bool} (h : w.ownsRow base 4 1 v n (bl n s)) : Bl w v n s := by
  obtain ⟨h1, ⟨rfl, h2⟩ | ⟨g, cap, cur, rfl, hb, hh, h5, h6, h7, h8⟩⟩ := h
  · have : n = 0 := by omega
    subst this
    exact ⟨none, 0, rfl, Nat.le_refl _, by omega, fun h => by omega⟩
  · refine ⟨_, cap, rfl, by omega, by simp only [maxLen] at *; omega, fun hp => ⟨g, 0, rfl, (Array.getElem?_eq_some_iff.1 hh).1, fun j hj => ?_⟩⟩
    rw [Nat.zero_add, cell_of_row w g j cur 4 (0, 0) hh]
    have h11 : (bl n s)[j]? = some (.bool (s j)) := by unfold bl; rw [List.getElem?_map, List.getElem?_range hj]; rfl
    rw [← h8, List.getElem?_take, if_pos (by omega)] at h11
    simpa using h11
theorem ownsRow_far {w w' : World} {base n size : Nat} {e : TypeId} {v : Value} {xs : List Value} {r : Option Nat} (h : w.ownsRow base e size v n xs) (hg : w.grownBy w' r) (hne : ∀ b, v.ownBlock = some b → r ≠ some b) : w'.ownsRow base e size v n xs := by
  obtain ⟨h1, h2 | ⟨g, cap, cur, rfl, hb, hh, rest⟩⟩ := h
  · exact ⟨h1, .inl h2⟩
  · exact ⟨h1, .inr ⟨g, cap, cur, rfl, hb, (hg.block g (Array.getElem?_eq_some_iff.1 hh).1 (fun e => hne g rfl e.symm)).trans hh, rest⟩⟩
theorem ext_of_grow {X w w' : World} {base : Nat} {r : Option Nat} (e : Ext X w) (hg : w.grownBy w' r) (hr : ∀ b, r = some b → base ≤ b) (hb : X.heap.size ≤ base) : Ext X w' :=
  ⟨hg.os.trans e.os, hg.tape.trans e.tape, hg.output.trans e.output, Nat.le_trans e.size hg.size, fun b hb' => (hg.block b (Nat.lt_of_lt_of_le hb' e.size) (fun e2 => by have := hr b e2.symm; omega)).trans (e.block b hb')⟩
/-- two rows of flags of the call's own, in blocks of their own -/
structure Tw (w : World) (base : Nat) (u v : Value) (k l : Nat) (s t : Nat → Bool) : Prop where
  fst : w.ownsRow base 4 1 u k (bl k s)
  snd : w.ownsRow base 4 1 v l (bl l t)
  ne : ∀ b, u.ownBlock = some b → v.ownBlock ≠ some b
  le : base ≤ w.heap.size
theorem Tw.symm {w : World} {base : Nat} {u v : Value} {k l : Nat} {s t : Nat → Bool} (h : Tw w base u v k l s t) : Tw w base v u l k t s := ⟨h.snd, h.fst, fun b hb hu => h.ne b hu hb, h.le⟩
theorem Tw.ext {w x : World} {base : Nat} {u v : Value} {k l : Nat} {s t : Nat → Bool} (h : Tw w base u v k l s t) (e : Ext w x) : Tw x base u v k l s t := ⟨World.ownsRow.ext h.fst e, World.ownsRow.ext h.snd e, h.ne, Nat.le_trans h.le e.size⟩
theorem Tw.nil (w : World) (s t : Nat → Bool) : Tw w w.heap.size (.slice none 0 0) (.slice none 0 0) 0 0 s t := ⟨World.ownsRow_nil _ _ _ _, World.ownsRow_nil _ _ _ _, fun b h => by simp [Value.ownBlock] at h, Nat.le_refl _⟩
/-- one flag more onto the first -/
theorem Tw.one {w x : World} {base : Nat} {u v u' : Value} {k l : Nat} {s t : Nat → Bool} (h : Tw w base u v k l s t) {z : Bool} (hz : s k = z) (o : x.ownsRow base 4 1 u' (k + 1) (bl k s ++ [Value.bool z])) (g : w.grownBy x u.ownBlock)
    (a : u'.ownBlock = u.ownBlock ∨ u'.ownBlock = some w.heap.size) : Tw x base u' v (k + 1) l s t ∧ ∀ X : World, Ext X w → X.heap.size ≤ base → Ext X x := by
  refine ⟨⟨by rw [bl_succ, hz]; exact o, ownsRow_far h.snd g (fun b hb e => h.ne b e hb), fun b hb => ?_, Nat.le_trans h.le g.size⟩, fun X e hX => ext_of_grow e g (fun b hb => (World.ownsRow.lt h.fst b hb).1) hX⟩
  rcases a with e | e
  · exact h.ne b (by rw [← e]; exact hb)
  · intro hv
    rw [e] at hb
    injection hb with hb
    have := (World.ownsRow.lt h.snd b hv).2
    omega
end Go.Proofs.Ytilcbbdmenknfaa
