/- Walks: the reference's Sides. -/
import Derived.Test.YtilcbbdmenknfaaMl
import Derived.Test.YtilcbbdmenknfaaG3
import Derived.Test.YtilcbbdmenknfaaD8
namespace Go.Proofs.Ytilcbbdmenknfaa
open Go.RowKit

/-- side number k of N nodes, as the reference numbers them -/
def bnum (N k : Nat) : Nat → Bool := fun v => decide (k / 2 ^ (N - 1 - v) % 2 = 1)
theorem bnum_numb {N : Nat} (hN : 2 ≤ N) {j v : Nat} (hj : j < 2 ^ (N - 2)) (hv : v < N) : bnum N (2 ^ (N - 1) + 2 * j) v = numb N j v := by
  obtain ⟨M, rfl⟩ : ∃ M, N = M + 2 := ⟨N - 2, by omega⟩
  have e1 : M + 2 - 1 = M + 1 := by omega
  have e2 : M + 2 - 2 = M := by omega
  rw [e1]
  rw [e2] at hj
  have hp : 2 ^ (M + 1) = 2 * 2 ^ M := by rw [Nat.pow_succ]; omega
  by_cases h0 : v = 0
  · subst h0
    rw [numb_zero]
    unfold bnum
    rw [e1, Nat.sub_zero]
    have : (2 ^ (M + 1) + 2 * j) / 2 ^ (M + 1) = 1 := by
      rw [Nat.div_eq_of_lt_le] <;> omega
    rw [this]; rfl
  · by_cases h1 : v = M + 1
    · subst h1
      have := numb_last (N := M + 2) j (by omega)
      rw [e1] at this
      rw [this]
      unfold bnum
      rw [e1, Nat.sub_self, Nat.pow_zero, Nat.div_one]
      exact decide_eq_false (by omega)
    · rw [numb_mid j (by omega) (by omega)]
      unfold bnum
      rw [e1, e2]
      obtain ⟨d, hd⟩ : ∃ d, M - v = d := ⟨_, rfl⟩
      have e3 : M + 1 - v = d + 1 := by omega
      rw [e3, hd]
      have e4 : (2 ^ (M + 1) + 2 * j) / 2 ^ (d + 1) = 2 ^ v + j / 2 ^ d := by
        have a1 : 2 ^ (M + 1) = 2 ^ (d + 1) * 2 ^ v := by rw [← Nat.pow_add]; congr 1; omega
        rw [a1, Nat.mul_add_div (Nat.pow_pos (by omega))]
        congr 1
        rw [Nat.pow_succ, Nat.mul_comm (2 ^ d) 2, ← Nat.div_div_eq_div_mul]
        congr 1; omega
      have e5 : 2 ^ v = 2 * 2 ^ (v - 1) := by
        rw [show v = v - 1 + 1 by omega, Nat.pow_succ]
        simp only [Nat.add_sub_cancel]; omega
      rw [e4, e5]
      congr 1
      rw [Nat.mul_add_mod]
/-- is it a side? -/
theorem bnum_sd {N : Nat} (hN : 2 ≤ N) {k : Nat} (hk : k < 2 ^ N) : Nw.Sd 0 (N - 1) (bnum N k) ↔ 2 ^ (N - 1) ≤ k ∧ k % 2 = 0 := by
  have hp : 2 ^ N = 2 * 2 ^ (N - 1) := by rw [show N = N - 1 + 1 by omega, Nat.pow_succ]; simp only [Nat.add_sub_cancel]; omega
  have hpos : 0 < 2 ^ (N - 1) := Nat.pow_pos (by omega)
  unfold Nw.Sd bnum
  rw [Nat.sub_zero, Nat.sub_self, Nat.pow_zero, Nat.div_one]
  have h1 : k / 2 ^ (N - 1) < 2 := by rw [Nat.div_lt_iff_lt_mul hpos]; omega
  have h2 : (k / 2 ^ (N - 1) % 2 = 1) ↔ 2 ^ (N - 1) ≤ k := by
    rw [Nat.mod_eq_of_lt h1]
    constructor
    · intro h
      rcases Nat.lt_or_ge k (2 ^ (N - 1)) with h3 | h3
      · rw [Nat.div_eq_of_lt h3] at h; omega
      · exact h3
    · intro h
      have : 0 < k / 2 ^ (N - 1) := Nat.div_pos h hpos
      omega
  rw [decide_eq_true_iff, decide_eq_false_iff_not, h2]
  omega
/-- the numbers of the sides that cost v among the first k -/
def rmins (G : Nw) (N : Nat) (v : Int) (k : Nat) : List Nat := (List.range k).filter fun i => isSdB N (bnum N i) && decide (G.ct (bnum N i) = v)
theorem rmins_succ (G : Nw) (N : Nat) (v : Int) (k : Nat) : rmins G N v (k + 1) = rmins G N v k ++ (if isSdB N (bnum N k) = true ∧ G.ct (bnum N k) = v then [k] else []) := by
  unfold rmins
  rw [List.range_succ, List.filter_append]
  congr 1
  by_cases h1 : isSdB N (bnum N k) = true <;> by_cases h2 : G.ct (bnum N k) = v <;> simp [h1, h2]
theorem rmins_len (G : Nw) (N : Nat) (v : Int) (k : Nat) : (rmins G N v k).length ≤ k := Nat.le_trans (List.length_filter_le _ _) (by simp)
theorem rmins_nil {G : Nw} {N : Nat} {v : Int} {k : Nat} (h : ∀ i, i < k → isSdB N (bnum N i) = true → G.ct (bnum N i) ≠ v) : rmins G N v k = [] := by
  unfold rmins
  rw [List.filter_eq_nil_iff]
  intro i hi
  have hik := List.mem_range.1 hi
  by_cases h1 : isSdB N (bnum N i) = true
  · simp [h1, h i hik h1]
  · simp [h1]
theorem filter_low (a n : Nat) (p : Nat → Bool) (h : ∀ i, i < a → p i = false) : (List.range (a + n)).filter p = ((List.range n).filter fun j => p (a + j)).map (a + ·) := by
  induction n with
  | zero =>
    rw [Nat.add_zero]
    simp only [List.range_zero, List.filter_nil, List.map_nil]
    rw [List.filter_eq_nil_iff]
    intro i hi
    simp [h i (List.mem_range.1 hi)]
  | succ n ih =>
    rw [← Nat.add_assoc, List.range_succ, List.filter_append, ih, List.range_succ, List.filter_append, List.map_append]
    congr 1
    cases hq : p (a + n) <;> simp [hq]
theorem filter_even (n : Nat) (p : Nat → Bool) (h : ∀ i, p (2 * i + 1) = false) : (List.range (2 * n)).filter p = ((List.range n).filter fun j => p (2 * j)).map (2 * ·) := by
  induction n with
  | zero => rfl
  | succ n ih =>
    rw [show 2 * (n + 1) = 2 * n + 1 + 1 by omega, List.range_succ, List.range_succ, List.filter_append, List.filter_append, ih, List.range_succ, List.filter_append, List.map_append, List.append_assoc]
    congr 1
    cases hq : p (2 * n) <;> simp [hq, h n]
theorem filter_congr2 {n : Nat} {p q : Nat → Bool} (h : ∀ i, i < n → p i = q i) : (List.range n).filter p = (List.range n).filter q := List.filter_congr fun i hi => h i (List.mem_range.1 hi)
/-- both number the minimum sides in the same order -/
theorem rmins_mins {G : Nw} {N : Nat} {v : Int} (hN : 2 ≤ N) (hin : G.In N) : rmins G N v (2 ^ N) = (mins G N v (2 ^ (N - 2))).map fun j => 2 ^ (N - 1) + 2 * j := by
  have hp : 2 ^ N = 2 ^ (N - 1) + 2 ^ (N - 1) := by rw [show N = N - 1 + 1 by omega, Nat.pow_succ]; simp only [Nat.add_sub_cancel]; omega
  have hp2 : 2 ^ (N - 1) = 2 * 2 ^ (N - 2) := by rw [show N - 1 = N - 2 + 1 by omega, Nat.pow_succ]; omega
  have key : ∀ i, i < 2 ^ N → ¬ (2 ^ (N - 1) ≤ i ∧ i % 2 = 0) → (isSdB N (bnum N i) && decide (G.ct (bnum N i) = v)) = false := by
    intro i hi hn
    cases e : isSdB N (bnum N i)
    · rfl
    · exact absurd ((bnum_sd hN hi).1 (isSdB_iff.1 e)) hn
  unfold rmins
  rw [hp, filter_low _ _ _ (fun i hi => key i (by omega) (by omega))]
  have e1 : (List.range (2 ^ (N - 1))).filter (fun j => isSdB N (bnum N (2 ^ (N - 1) + j)) && decide (G.ct (bnum N (2 ^ (N - 1) + j)) = v)) = (mins G N v (2 ^ (N - 2))).map (2 * ·) := by
    have e2 : (List.range (2 ^ (N - 1))).filter (fun j => isSdB N (bnum N (2 ^ (N - 1) + j)) && decide (G.ct (bnum N (2 ^ (N - 1) + j)) = v)) = (List.range (2 ^ (N - 1))).filter (fun j => decide (j % 2 = 0) && decide (G.ct (numb N (j / 2)) = v)) := by
      refine filter_congr2 fun j hj => ?_
      by_cases ho : j % 2 = 0
      · have e3 : j = 2 * (j / 2) := by omega
        have hs : isSdB N (bnum N (2 ^ (N - 1) + j)) = true := isSdB_iff.2 ((bnum_sd hN (by omega)).2 ⟨by omega, by omega⟩)
        have hc : G.ct (bnum N (2 ^ (N - 1) + j)) = G.ct (numb N (j / 2)) := by
          refine G.ct_congr hin fun u hu => ?_
          rw [e3, bnum_numb hN (by omega) hu]
          congr 1; omega
        rw [hs, hc, decide_eq_true ho]
      · rw [key _ (by omega) (by omega), decide_eq_false ho]; rfl
    rw [e2, hp2, filter_even _ _ (fun i => by simp)]
    congr 1
    refine filter_congr2 fun j _ => ?_
    have h1 : 2 * j % 2 = 0 := by omega
    have h2 : 2 * j / 2 = j := by omega
    rw [h1, h2]; simp
  rw [e1, List.map_map]
  rfl

/-- the sides B of the numbers ks lie at slice q, in blocks from base on -/
def Sdb (B : Nat → Nat → Bool) (w : World) (base : Nat) (q : Value) (N : Nat) (ks : List Nat) : Prop :=
  ∃ gs : List Nat, gs.length = ks.length ∧ w.ownsRow base 40 1 q ks.length (gs.map fun g => .slice (some ⟨g, 0, none⟩) N N) ∧ ∀ i, i < ks.length → BB w (gs.getD i 0) N (B (ks.getD i 0))
theorem Sdb.ext {B : Nat → Nat → Bool} {w w' : World} {base : Nat} {q : Value} {N : Nat} {ks : List Nat} (h : Sdb B w base q N ks) (e : Ext w w') : Sdb B w' base q N ks := by
  obtain ⟨gs, h1, h2, h3⟩ := h
  exact ⟨gs, h1, World.ownsRow.ext h2 e, fun i hi => (h3 i hi).ext e⟩
theorem Sdb.more {B : Nat → Nat → Bool} {w w' : World} {base N k g : Nat} {q q' : Value} {ks gs : List Nat} (h1 : gs.length = ks.length) (h2 : w.ownsRow base 40 1 q ks.length (gs.map fun g => .slice (some ⟨g, 0, none⟩) N N)) (h3 : ∀ i, i < ks.length → BB w (gs.getD i 0) N (B (ks.getD i 0)))
    (hg : BB w g N (B k)) (hq : w'.ownsRow base 40 1 q' (ks.length + 1) ((gs.map fun g => .slice (some ⟨g, 0, none⟩) N N) ++ [.slice (some ⟨g, 0, none⟩) N N])) (hgr : w.grownBy w' q.ownBlock) : Sdb B w' base q' N (ks ++ [k]) := by
  have keep : ∀ b s, BB w b N s → BB w' b N s := fun b s hb => (hgr.block b (Bk.lt hb) (fun e => own_ne h2 hb e.symm)).trans hb
  refine ⟨gs ++ [g], by simp [h1], by rw [List.length_append, List.map_append]; exact hq, fun i hi => ?_⟩
  simp only [List.length_append, List.length_singleton] at hi
  simp only [List.getD_eq_getElem?_getD]
  by_cases e : i < ks.length
  · rw [List.getElem?_append_left (by omega), List.getElem?_append_left e]
    have := keep _ _ (h3 i e)
    simpa only [List.getD_eq_getElem?_getD] using this
  · have e2 : i = ks.length := by omega
    rw [List.getElem?_append_right (by omega), List.getElem?_append_right (by omega), h1, e2]
    simpa using keep _ _ hg
theorem Sdb.nil (B : Nat → Nat → Bool) (w : World) (base N : Nat) : Sdb B w base (.slice none 0 0) N [] := ⟨[], rfl, World.ownsRow_nil _ _ _ _, fun i hi => by simp at hi⟩
/-- as a plain list of rows of flags -/
def Rws (w : World) (q : Value) (N n : Nat) (f : Nat → Nat → Bool) : Prop :=
  ∃ A c, q = .slice A n c ∧ (0 < n → ∃ b off, A = some ⟨b, off, none⟩ ∧ b < w.heap.size ∧ ∀ i, i < n → ∃ u, w.cell? ⟨b, off + i, none⟩ = some u ∧ Bl w u N (f i))
theorem Rws.ext {w w' : World} {q : Value} {N n : Nat} {f : Nat → Nat → Bool} (h : Rws w q N n f) (e : Ext w w') : Rws w' q N n f := by
  obtain ⟨A, c, rfl, h1⟩ := h
  refine ⟨A, c, rfl, fun hp => ?_⟩
  obtain ⟨b, off, rfl, hb, hc⟩ := h1 hp
  exact ⟨b, off, rfl, Nat.lt_of_lt_of_le hb e.size, fun i hi => by obtain ⟨u, h2, h3⟩ := hc i hi; exact ⟨u, keepAt e hb h2, h3.ext e⟩⟩
theorem Sdb.rws {B : Nat → Nat → Bool} {w : World} {base N : Nat} {q : Value} {ks : List Nat} (h : Sdb B w base q N ks) (hN : N ≤ 1000) : Rws w q N ks.length (fun i => B (ks.getD i 0)) := by
  obtain ⟨gs, h1, ⟨h5, ⟨rfl, h0⟩ | ⟨g, cap, cur, rfl, hg, hh, h6, h7, h8, h9⟩⟩, h3⟩ := h
  · exact ⟨none, 0, by rw [h0], fun hp => by omega⟩
  · refine ⟨_, cap, rfl, fun hp => ⟨g, 0, rfl, (Array.getElem?_eq_some_iff.1 hh).1, fun i hi => ?_⟩⟩
    refine ⟨.slice (some ⟨gs.getD i 0, 0, none⟩) N N, ?_, BB.bl (h3 i hi) (by omega)⟩
    have h10 : (cur.toList.take (ks.length * 1))[i]? = some (.slice (some ⟨gs.getD i 0, 0, none⟩) N N) := by
      rw [h9, List.getElem?_map, List.getElem?_eq_getElem (by omega)]
      simp [List.getD_eq_getElem?_getD, List.getElem?_eq_getElem (show i < gs.length by omega)]
    rw [List.getElem?_take, if_pos (by omega)] at h10
    refine (cell_of_row w g (0 + i) cur 40 (0, 0) hh).trans ?_
    rw [Nat.zero_add]
    simpa using h10
end Go.Proofs.Ytilcbbdmenknfaa
