/- Walks: the reference's Sides. · Walks: the reference's Sides. -/
import Derived.Test.YtilcbbdmenknfaaM28
import Derived.Test.YtilcbbdmenknfaaM15
import Derived.Test.YtilcbbdmenknfaaM19
namespace Go.Proofs.Ytilcbbdmenknfaa
open Go.RowKit

/-- side number k of N nodes, as the reference numbers them -/
def bnum (N k : Nat) : Nat → Bool := fun v => decide (k / 2 ^ (N - 1 - v) % 2 = 1)
theorem bnum_numb {N : Nat} (hN : 2 ≤ N) {j v : Nat} (hj : j < 2 ^ (N - 2)) (hv : v < N) : bnum N (2 ^ (N - 1) + 2 * j) v = numb N j v := by
  obtain ⟨M, rfl⟩ : ∃ M, N = M + 2 := ⟨N - 2, by omega⟩
  have e1 : M + 2 - 1 = M + 1 := by omega
  have e2 : M + 2 - 2 = M := by omega
  rw [e1]
  rw [e2] at hj
  have hp : 2 ^ (M + 1) = 2 * 2 ^ M := by rw [Nat.pow_succ]; omega
  by_cases h0 : v = 0
  · subst h0
    rw [numb_zero]
    unfold bnum
    rw [e1, Nat.sub_zero]
    have : (2 ^ (M + 1) + 2 * j) / 2 ^ (M + 1) = 1 := by
      rw [Nat.div_eq_of_lt_le] <;> omega
    rw [this]; rfl
  · by_cases h1 : v = M + 1
    · subst h1
      have := numb_last (N := M + 2) j (by omega)
      rw [e1] at this
      rw [this]
      unfold bnum
      rw [e1, Nat.sub_self, Nat.pow_zero, Nat.div_one]
      exact decide_eq_false (by omega)
    · rw [numb_mid j (by omega) (by omega)]
      unfold bnum
      rw [e1, e2]
      obtain ⟨d, hd⟩ : ∃ d, M - v = d := ⟨_, rfl⟩
      have e3 : M + 1 - v = d + 1 := by omega
      rw [e3, hd]
      have e4 : (2 ^ (M + 1) + 2 * j) / 2 ^ (d + 1) = 2 ^ v + j / 2 ^ d := by
        have a1 : 2 ^ (M + 1) = 2 ^ (d + 1) * 2 ^ v := by rw [← Nat.pow_add]; congr 1; omega
        rw [a1, Nat.mul_add_div (Nat.pow_pos (by omega))]
        congr 1
        rw [Nat.pow_succ, Nat.mul_comm (2 ^ d) 2, ← Nat.div_div_eq_div_mul]
        congr 1; omega
      have e5 : 2 ^ v = 2 * 2 ^ (v - 1) := by
        rw [show v = v - 1 + 1 by omega, Nat.pow_succ]
        simp only [Nat.add_sub_cancel]; omega
      rw [e4, e5]
      congr 1
      rw [Nat.mul_add_mod]
/-- is it a side? -/
theorem bnum_sd {N : Nat} (hN : 2 ≤ N) {k : Nat} (hk : k < 2 ^ N) : Nw.Sd 0 (N - 1) (bnum N k) ↔ 2 ^ (N - 1) ≤ k ∧ k % 2 = 0 := by
  have hp : 2 ^ N = 2 * 2 ^ (N - 1) := by rw [show N = N - 1 + 1 by omega, Nat.pow_succ]; simp only [Nat.add_sub_cancel]; omega
  have hpos : 0 < 2 ^ (N - 1) := Nat.pow_pos (by omega)
  unfold Nw.Sd bnum
  rw [Nat.sub_zero, Nat.sub_self, Nat.pow_zero, Nat.div_one]
  have h1 : k / 2 ^ (N - 1) < 2 := by rw [Nat.div_lt_iff_lt_mul hpos]; omega
  have h2 : (k / 2 ^ (N - 1) % 2 = 1) ↔ 2 ^ (N - 1) ≤ k := by
    rw [Nat.mod_eq_of_lt h1]
    constructor
    · intro h
      rcases Nat.lt_or_ge k (2 ^ (N - 1)) with h3 | h3
      · rw [Nat.div_eq_of_lt h3] at h; omega
      · exact h3
    · intro h
      have : 0 < k / 2 ^ (N - 1) := Nat.div_pos h hpos
      omega
  rw [decide_eq_true_iff, decide_eq_false_iff_not, h2]
  omega
/-- the numbers of the sides that cost v among the first k -/
def rmins (G : Nw) (N : Nat) (v : Int) (k : Nat) : List Nat := (List.range k).filter fun i => isSdB N (bnum N i) && decide (G.ct (bnum N i) = v)
theorem rmins_succ (G : Nw) (N : Nat) (v : Int) (k : Nat) : rmins G N v (k + 1) = rmins G N v k ++ (if isSdB N (bnum N k) = true ∧ G.ct (bnum N k) = v then [k] else []) := by
  unfold rmins
  rw [List.range_succ, List.filter_append]
  congr 1
  by_cases h1 : isSdB N (bnum N k) = true <;> by_cases h2 : G.ct (bnum N k) = v <;> simp [h1, h2]
theorem rmins_len (G : Nw) (N : Nat) (v : Int) (k : Nat) : (rmins G N v k).length ≤ k := Nat.le_trans (List.length_filter_le _ _) (by simp)
theorem rmins_nil {G : Nw} {N : Nat} {v : Int} {k : Nat} (h : ∀ i, i < k → isSdB N (bnum N i) = true → G.ct (bnum N i) ≠ v) : rmins G N v k = [] := by
  unfold rmins
  rw [List.filter_eq_nil_iff]
  intro i hi
  have hik := List.mem_range.1 hi
  by_cases h1 : isSdB N (bnum N i) = true
  · simp [h1, h i hik h1]
  · simp [h1]
theorem filter_low (a n : Nat) (p : Nat → Bool) (h : ∀ i, i < a → p i = false) : (List.range (a + n)).filter p = ((List.range n).filter fun j => p (a + j)).map (a + ·) := by
  induction n with
  | zero =>
    rw [Nat.add_zero]
    simp only [List.range_zero, List.filter_nil, List.map_nil]
    rw [List.filter_eq_nil_iff]
    intro i hi
    simp [h i (List.mem_range.1 hi)]
  | succ n ih =>
    rw [← Nat.add_assoc, List.range_succ, List.filter_append, ih, List.range_succ, List.filter_append, List.map_append]
    congr 1
    cases hq : p (a + n) <;> simp [hq]
theorem filter_even (n : Nat) (p : Nat → Bool) (h : ∀ i, p (2 * i + 1) = false) : (List.range (2 * n)).filter p = ((List.range n).filter fun j => p (2 * j)).map (2 * ·) := by
  induction n with
  | zero => rfl
  | succ n ih =>
    rw [show 2 * (n + 1) = 2 * n + 1 + 1 by omega, List.range_succ, List.range_succ, List.filter_append, List.filter_append, ih, List.range_succ, List.filter_append, List.map_append, List.append_assoc]
    congr 1
    cases hq : p (2 * n) <;> simp [hq, h n]
theorem filter_congr2 {n : Nat} {p q : Nat → Bool} (h : ∀ i, i < n → p i = q i) : (List.range n).filter p = (List.range n).filter q := List.filter_congr fun i hi => h i (List.mem_range.1 hi)
/-- both number the minimum sides in the same order -/
theorem rmins_mins {G : Nw} {N : Nat} {v : Int} (hN : 2 ≤ N) (hin : G.In N) : rmins G N v (2 ^ N) = (mins G N v (2 ^ (N - 2))).map fun j => 2 ^ (N - 1) + 2 * j := by
  have hp : 2 ^ N = 2 ^ (N - 1) + 2 ^ (N - 1) := by rw [show N = N - 1 + 1 by omega, Nat.pow_succ]; simp only [Nat.add_sub_cancel]; omega
  have hp2 : 2 ^ (N - 1) = 2 * 2 ^ (N - 2) := by rw [show N - 1 = N - 2 + 1 by omega, Nat.pow_succ]; omega
  have key : ∀ i, i < 2 ^ N → ¬ (2 ^ (N - 1) ≤ i ∧ i % 2 = 0) → (isSdB N (bnum N i) && decide (G.ct (bnum N i) = v)) = false := by
    intro i hi hn
    cases e : isSdB N (bnum N i)
    · rfl
    · exact absurd ((bnum_sd hN hi).1 (isSdB_iff.1 e)) hn
  unfold rmins
  rw [hp, filter_low _ _ _ (fun i hi => key i (by omega) (by omega))]
  have e1 : (List.range (2 ^ (N - 1))).filter (fun j => isSdB N (bnum N (2 ^ (N - 1) + j)) && decide (G.ct (bnum N (2 ^ (N - 1) + j)) = v)) = (mins G N v (2 ^ (N - 2))).map (2 * ·) := by
    have e2 : (List.range (2 ^ (N - 1))).filter (fun j => isSdB N (bnum N (2 ^ (N - 1) + j)) && decide (G.ct (bnum N (2 ^ (N - 1) + j)) = v)) = (List.range (2 ^ (N - 1))).filter (fun j => decide (j % 2 = 0) && decide (G.ct (numb N (j / 2)) = v)) := by
      refine filter_congr2 fun j hj => ?_
      by_cases ho : j % 2 = 0
      · have e3 : j = 2 * (j / 2) := by omega
        have hs : isSdB N (bnum N (2 ^ (N - 1) + j)) = true := isSdB_iff.2 ((bnum_sd hN (by omega)).2 ⟨by omega, by omega⟩)
        have hc : G.ct (bnum N (2 ^ (N - 1) + j)) = G.ct (numb N (j / 2)) := by
          refine G.ct_congr hin fun u hu => ?_
          rw [e3, bnum_numb hN (by omega) hu]
          congr 1; omega
        rw [hs, hc, decide_eq_true ho]
      · rw [key _ (by omega) (by omega), decide_eq_false ho]; rfl
    rw [e2, hp2, filter_even _ _ (fun i => by simp)]
    congr 1
    refine filter_congr2 fun j _ => ?_
    have h1 : 2 * j % 2 = 0 := by omega
    have h2 : 2 * j / 2 = j := by omega
    rw [h1, h2]; simp
  rw [e1, List.map_map]
  rfl

/-- the sides B of the numbers ks lie at slice q, in blocks from base on -/
def Sdb (B : Nat → Nat → Bool) (w : World) (base : Nat) (q : Value) (N : Nat) (ks : List Nat) : Prop :=
  ∃ gs : List Nat, gs.length = ks.length ∧ w.ownsRow base 40 1 q ks.length (gs.map fun g => .slice (some ⟨g, 0, none⟩) N N) ∧ ∀ i, i < ks.length → BB w (gs.getD i 0) N (B (ks.getD i 0))
theorem Sdb.ext {B : Nat → Nat → Bool} {w w' : World} {base : Nat} {q : Value} {N : Nat} {ks : List Nat} (h : Sdb B w base q N ks) (e : Ext w w') : Sdb B w' base q N ks := by
  obtain ⟨gs, h1, h2, h3⟩ := h
  exact ⟨gs, h1, World.ownsRow.ext h2 e, fun i hi => (h3 i hi).ext e⟩
theorem Sdb.more {B : Nat → Nat → Bool} {w w' : World} {base N k g : Nat} {q q' : Value} {ks gs : List Nat} (h1 : gs.length = ks.length) (h2 : w.ownsRow base 40 1 q ks.length (gs.map fun g => .slice (some ⟨g, 0, none⟩) N N)) (h3 : ∀ i, i < ks.length → BB w (gs.getD i 0) N (B (ks.getD i 0)))
    (hg : BB w g N (B k)) (hq : w'.ownsRow base 40 1 q' (ks.length + 1) ((gs.map fun g => .slice (some ⟨g, 0, none⟩) N N) ++ [.slice (some ⟨g, 0, none⟩) N N])) (hgr : w.grownBy w' q.ownBlock) : Sdb B w' base q' N (ks ++ [k]) := by
  have keep : ∀ b s, BB w b N s → BB w' b N s := fun b s hb => (hgr.block b (Bk.lt hb) (fun e => own_ne h2 hb e.symm)).trans hb
  refine ⟨gs ++ [g], by simp [h1], by rw [List.length_append, List.map_append]; exact hq, fun i hi => ?_⟩
  simp only [List.length_append, List.length_singleton] at hi
  simp only [List.getD_eq_getElem?_getD]
  by_cases e : i < ks.length
  · rw [List.getElem?_append_left (by omega), List.getElem?_append_left e]
    have := keep _ _ (h3 i e)
    simpa only [List.getD_eq_getElem?_getD] using this
  · have e2 : i = ks.length := by omega
    rw [List.getElem?_append_right (by omega), List.getElem?_append_right (by omega), h1, e2]
    simpa using keep _ _ hg
theorem Sdb.nil (B : Nat → Nat → Bool) (w : World) (base N : Nat) : Sdb B w base (.slice none 0 0) N [] := ⟨[], rfl, World.ownsRow_nil _ _ _ _, fun i hi => by simp at hi⟩
/-- as a plain list of rows of flags -/
def Rws (w : World) (q : Value) (N n : Nat) (f : Nat → Nat → Bool) : Prop :=
  ∃ A c, q = .slice A n c ∧ (0 < n → ∃ b off, A = some ⟨b, off, none⟩ ∧ b < w.heap.size ∧ ∀ i, i < n → ∃ u, w.cell? ⟨b, off + i, none⟩ = some u ∧ Bl w u N (f i))
theorem Rws.ext {w w' : World} {q : Value} {N n : Nat} {f : Nat → Nat → Bool} (h : Rws w q N n f) (e : Ext w w') : Rws w' q N n f := by
  obtain ⟨A, c, rfl, h1⟩ := h
  refine ⟨A, c, rfl, fun hp => ?_⟩
  obtain ⟨b, off, rfl, hb, hc⟩ := h1 hp
  exact ⟨b, off, rfl, Nat.lt_of_lt_of_le hb e.size, fun i hi => by obtain ⟨u, h2, h3⟩ := hc i hi; exact ⟨u, keepAt e hb h2, h3.ext e⟩⟩
theorem Sdb.rws {B : Nat → Nat → Bool} {w : World} {base N : Nat} {q : Value} {ks : List Nat} (h : Sdb B w base q N ks) (hN : N ≤ 1000) : Rws w q N ks.length (fun i => B (ks.getD i 0)) := by
  obtain ⟨gs, h1, ⟨h5, ⟨rfl, h0⟩ | ⟨g, cap, cur, rfl, hg, hh, h6, h7, h8, h9⟩⟩, h3⟩ := h
  · exact ⟨none, 0, by rw [h0], fun hp => by omega⟩
  · refine ⟨_, cap, rfl, fun hp => ⟨g, 0, rfl, (Array.getElem?_eq_some_iff.1 hh).1, fun i hi => ?_⟩⟩
    refine ⟨.slice (some ⟨gs.getD i 0, 0, none⟩) N N, ?_, BB.bl (h3 i hi) (by omega)⟩
    have h10 : (cur.toList.take (ks.length * 1))[i]? = some (.slice (some ⟨gs.getD i 0, 0, none⟩) N N) := by
      rw [h9, List.getElem?_map, List.getElem?_eq_getElem (by omega)]
      simp [List.getD_eq_getElem?_getD, List.getElem?_eq_getElem (show i < gs.length by omega)]
    rw [List.getElem?_take, if_pos (by omega)] at h10
    refine (cell_of_row w g (0 + i) cur 40 (0, 0) hh).trans ?_
    rw [Nat.zero_add]
    simpa using h10
end Go.Proofs.Ytilcbbdmenknfaa
namespace Go.Proofs.Ytilcbbdmenknfaa
open Go.RowKit

theorem shl_twelve (r : Nat) (h : r ≤ 12) : wrap64 ((2 : Int) ^ r) = ((2 ^ r : Nat) : Int) := by
  have h1 : 2 ^ r ≤ 4096 := Nat.le_trans (Nat.pow_le_pow_right (by omega) h) (by decide)
  rw [pow_shl]
  generalize 2 ^ r = P at *
  unfold wrap64
  omega

/-- what the first K sides have shown -/
structure Rb (G : Nw) (N K : Nat) (β : Int) : Prop where
  lo : 0 ≤ β
  hi : β ≤ 1152921504606846976
  le : ∀ k, k < K → isSdB N (bnum N k) = true → β ≤ G.ct (bnum N k)
  has : (β = 1152921504606846976 ∧ ∀ k, k < K → isSdB N (bnum N k) = false) ∨ ∃ k, k < K ∧ isSdB N (bnum N k) = true ∧ G.ct (bnum N k) = β
theorem Rb.start (G : Nw) (N : Nat) : Rb G N 0 1152921504606846976 := ⟨by omega, by omega, fun k hk => by omega, .inl ⟨rfl, fun k hk => by omega⟩⟩
theorem Rb.no {G : Nw} {N K : Nat} {β : Int} (h : Rb G N K β) (hn : isSdB N (bnum N K) = false) : Rb G N (K + 1) β :=
  ⟨h.lo, h.hi, fun k hk hs => by
    by_cases e : k = K
    · subst e; rw [hn] at hs; cases hs
    · exact h.le k (by omega) hs, by
    rcases h.has with ⟨h1, h2⟩ | ⟨k, h1, h2, h3⟩
    · exact .inl ⟨h1, fun k hk => by
        by_cases e : k = K
        · subst e; exact hn
        · exact h2 k (by omega)⟩
    · exact .inr ⟨k, by omega, h2, h3⟩⟩
theorem Rb.more {G : Nw} {N K : Nat} {β : Int} (h : Rb G N K β) (hn : β < G.ct (bnum N K)) (hlt : G.ct (bnum N K) < 1152921504606846976) : Rb G N (K + 1) β :=
  ⟨h.lo, h.hi, fun k hk hs => by
    by_cases e : k = K
    · subst e; omega
    · exact h.le k (by omega) hs, by
    rcases h.has with ⟨h1, h2⟩ | ⟨k, h1, h2, h3⟩
    · omega
    · exact .inr ⟨k, by omega, h2, h3⟩⟩
theorem Rb.new {G : Nw} {N K : Nat} {β : Int} (h : Rb G N K β) (hs : isSdB N (bnum N K) = true) (hle : G.ct (bnum N K) ≤ β) (h0 : 0 ≤ G.ct (bnum N K)) : Rb G N (K + 1) (G.ct (bnum N K)) :=
  ⟨h0, by have := h.hi; omega, fun k hk hs => by
    by_cases e : k = K
    · subst e; omega
    · have := h.le k (by omega) hs; omega, .inr ⟨K, by omega, hs, rfl⟩⟩
theorem Rb.mc {G : Nw} {N : Nat} {β : Int} (hN : 2 ≤ N) (hin : G.In N) (h : Rb G N (2 ^ N) β) : Mc G 0 (N - 1) β := by
  have hp : 2 ^ N = 2 ^ (N - 1) + 2 ^ (N - 1) := by rw [show N = N - 1 + 1 by omega, Nat.pow_succ]; simp only [Nat.add_sub_cancel]; omega
  have hp2 : 2 ^ (N - 1) = 2 * 2 ^ (N - 2) := by rw [show N - 1 = N - 2 + 1 by omega, Nat.pow_succ]; omega
  have key : ∀ S, Nw.Sd 0 (N - 1) S → ∃ k, k < 2 ^ N ∧ isSdB N (bnum N k) = true ∧ G.ct (bnum N k) = G.ct S := by
    intro S hS
    obtain ⟨j, hj, hjS⟩ := numb_ex hN hS
    refine ⟨2 ^ (N - 1) + 2 * j, by omega, isSdB_iff.2 ((bnum_sd hN (by omega)).2 ⟨by omega, by omega⟩), G.ct_congr hin fun v hv => by rw [bnum_numb hN hj hv, hjS v hv]⟩
  refine ⟨?_, fun S hS => ?_⟩
  · rcases h.has with ⟨h1, h2⟩ | ⟨k, h1, h2, h3⟩
    · obtain ⟨k, a1, a2, -⟩ := key (numb N 0) (numb_sd 0 hN)
      rw [h2 k a1] at a2; cases a2
    · exact ⟨_, isSdB_iff.1 h2, h3⟩
  · obtain ⟨k, a1, a2, a3⟩ := key S hS
    rw [← a3]
    exact h.le k a1 a2
theorem own_slice {w : World} {base : Nat} {e : TypeId} {size n : Nat} {v : Value} {xs : List Value} (h : w.ownsRow base e size v n xs) : ∃ A m c, v = .slice A m c := by
  obtain ⟨-, ⟨rfl, -⟩ | ⟨g, cap, cur, rfl, -⟩⟩ := h
  · exact ⟨_, _, _, rfl⟩
  · exact ⟨_, _, _, rfl⟩

set_option maxHeartbeats 4000000 in
set_option maxRecDepth 100000 in
theorem sidesR_any (N : Int) (a : Ar) (AV : Value) (W : World) (hA : Al W AV a) :
    Calls Try.prog 29 #[.agg #[.int .i64 N, AV]] W fun e W' => ∃ (F : Value) (er : Int), e = .returned (.tuple #[F, .int .i64 er]) ∧ Ext W W' ∧
      ((vNet N a = false ∧ F = .slice none 0 0 ∧ er = 2) ∨ (vNet N a = true ∧ 12 < N ∧ F = .slice none 0 0 ∧ er = 3) ∨
        (vNet N a = true ∧ N ≤ 12 ∧ er = 0 ∧ ∃ v, Mc a.nw 0 (N.toNat - 1) v ∧ Rws W' F N.toNat (rmins a.nw N.toNat v (2 ^ N.toNat)).length (fun i => bnum N.toNat ((rmins a.nw N.toNat v (2 ^ N.toNat)).getD i 0)))) := by
  have HA := Lib.hid hA
  obtain ⟨A, c, rfl, hac, hcm, -⟩ := hA
  go_enter Try.func29, Try.ntmps29
  go_upto_region 1 with fail
  have bb := al1 W (.cells #[.int .i64 N, .slice A a.n c] 24)
  have hh := heap_alloc_new W (.cells #[.int .i64 N, .slice A a.n c] 24)
  have zz : W.heap.size < (W.alloc (.cells #[.int .i64 N, .slice A a.n c] 24)).heap.size := by simp
  generalize W.alloc (.cells #[.int .i64 N, .slice A a.n c] 24) = W1 at *
  have HB : Hid (Ext W W1) := Lib.hid bb
  obtain ⟨m0, m1, m2, m3⟩ := two hh
  have HM := Lib.hid (And.intro m0 m1)
  clear bb hh m2 m3
  go_wp2_with fail
  refine (validR_any N a _ _ (HA.out.ext HB.out)).mono ?_
  rintro e w1 ⟨rfl, hx⟩
  have HX : Hid (Ext W1 w1) := Lib.hid hx
  replace m0 := keepAt hx zz m0
  replace m1 := keepAt hx zz m1
  clear hx
  cases hv : vNet N a
  · have HV := Lib.hid hv; clear hv
    go_wp2
    refine bodyPost_ret (v := .tuple #[.slice none 0 0, .int .i64 2]) (by simp [results, Try.results29, go_sem]) rfl ⟨_, 2, rfl, HB.out.trans HX.out, .inl ⟨HV.out, rfl, rfl⟩⟩
  · obtain ⟨m, rfl, hm2, hm40, hn, hok⟩ := vNet_ok hv
    have HOK := Lib.hid hok; have HV := Lib.hid hv
    clear hv hok
    by_cases h12 : m ≤ 12
    · have h12' : ¬ (12 : Int) < m := by omega
      have hm1 : ∀ w, (Instr.makeSlice 40 (.int .i64 (m : Int)) (.int .i64 (m : Int))).run Try.prog w = .ok (.slice (some ⟨w.heap.size, 0, none⟩) m m) (w.alloc (.cells (Array.ofFn fun _ : Fin m => .bool false) 4)) := fun w => make_one 40 4 _ 1 Try.underlying40 info4 rfl (by omega) m (by omega) w
      obtain ⟨P, hP⟩ : ∃ P, P = 2 ^ m := ⟨_, rfl⟩
      have hsh : wrap64 ((2 : Int) ^ m) = (P : Int) := by rw [shl_twelve m h12, hP]
      have hP2 : P ≤ 4096 := by rw [hP]; exact Nat.le_trans (Nat.pow_le_pow_right (by omega) h12) (by decide)
      have HPP := Lib.hid hP
      clear hP
      have zw1 := Nat.lt_of_lt_of_le zz HX.out.size
      have hle1 := HX.out.size
      obtain ⟨i0, hi, hz0, hz1, hz2⟩ := info_parts info40
      have HI := Lib.hid (And.intro hi (And.intro hz0 (And.intro hz1 hz2)))
      clear hi hz0 hz1 hz2
      go_wp2_with fail
      rw [hsh]
      clear m0 m1 hsh
      go_loopw [4, 5, 20] (fun q be i wr => ∃ (k : Nat) (β : Int), i = .int .i64 k ∧ k ≤ P ∧ be = .int .i64 β ∧ Hid (Rb a.nw m k β ∧ Sdb (bnum m) wr w1.heap.size q m (rmins a.nw m β k) ∧ Ext W1 wr ∧ w1.heap.size ≤ wr.heap.size)) (fun _ _ i _ => P - (intOf i).toNat)
      case atStart => exact ⟨0, _, rfl, Nat.zero_le _, rfl, Lib.hid ⟨Rb.start _ _, Sdb.nil _ _ _ _, HX.out, Nat.le_refl _⟩⟩
      case round =>
        obtain ⟨k, β, rfl, hk, rfl, hin⟩ := hrel
        have m0 := keepAt hin.out.2.2.1 zz HM.out.1
        have m1 := keepAt hin.out.2.2.1 zz HM.out.2
        have zwr := Nat.lt_of_lt_of_le zz hin.out.2.2.1.size
        by_cases hlt : k < P
        · have hkP : k < 2 ^ m := by rw [← HPP.out]; exact hlt
          have HKP := Lib.hid hkP; clear hkP
          have hk2 : k < 4096 := by omega
          obtain ⟨wr0, hwr0⟩ : ∃ w, w = wr := ⟨_, rfl⟩
          rw [← hwr0] at hin m0 m1 zwr ⊢
          clear hwr0
          obtain ⟨g, hg⟩ : ∃ g, g = wr0.heap.size := ⟨_, rfl⟩
          have y1 : BB (wr0.alloc (.cells (Array.ofFn fun _ : Fin m => Value.bool false) 4)) g m (fun _ => false) := by rw [hg]; exact heap_alloc_new wr0 _
          have e1 : Ext wr0 (wr0.alloc (.cells (Array.ofFn fun _ : Fin m => Value.bool false) 4)) := Ext.alc (Ext.refl _) _
          have Y1 := Lib.hid (And.intro y1 e1)
          have HGG := Lib.hid hg
          clear y1 e1
          go_wp2_with fail
          rw [← hg]
          clear hg
          generalize wr0.alloc (.cells (Array.ofFn fun _ : Fin m => Value.bool false) 4) = w2 at *
          go_loopw [28] (fun i wr => ∃ v : Nat, i = .int .i64 v ∧ v ≤ m ∧ Hid (BB wr g m (fun u => if u < v then bnum m k u else false) ∧ Ext wr0 wr)) (fun i _ => m - (intOf i).toNat)
          case atStart => exact ⟨0, rfl, Nat.zero_le _, Lib.hid ⟨Bk.congr Y1.out.1 (fun j _ => by simp), Y1.out.2⟩⟩
          case round =>
            obtain ⟨v, rfl, hv2, hin2⟩ := hrel
            have n0 := keepAt hin2.out.2 zwr m0
            by_cases hlt2 : v < m
            · have cv := Bk.cell hin2.out.1 hlt2
              have fv := Bk.free hin2.out.1 v
              obtain ⟨sh, hsh⟩ : ∃ sh : Nat, sh = m - 1 - v := ⟨_, rfl⟩
              have hsub : (m : Int) - 1 - v = sh := by omega
              have hsh2 : sh ≤ 12 := by omega
              have HS := Lib.hid hsh
              clear hsh
              obtain ⟨q, hq⟩ : ∃ q, q = decide (k / 2 ^ sh % 2 = 1) := ⟨_, rfl⟩
              have hbit : (bits BinOp.and IntKind.i64 ((k : Int) / 2 ^ sh) 1 == 1) = q := by
                have h1 : ((k : Int) / 2 ^ sh) = ((k / 2 ^ sh : Nat) : Int) := by rw [Int.natCast_ediv, Int.natCast_pow]; rfl
                have h2 : k / 2 ^ sh < 1000000 := Nat.lt_of_le_of_lt (Nat.div_le_self _ _) (by omega)
                rw [h1, bits_and1 _ h2, hq]
                exact Bool.eq_iff_iff.2 (by simp; omega)
              have HQ := Lib.hid hq; have HBIT := Lib.hid hbit
              have y := BB.set_ hin2.out.1 v q
              have Y := Lib.hid y
              clear hq hbit y
              go_wp2
              rw [HBIT.out]
              go_roundw
              case rel =>
                refine ⟨v + 1, by go_num, by omega, Lib.hid ⟨Bk.congr Y.out (fun j hj => ?_), hin2.out.2.sc (by have := HGG.out; omega)⟩⟩
                congr 1
                by_cases e : j = v
                · subst e; rw [up_self]; dsimp only; rw [if_pos (by omega)]; unfold bnum; rw [HQ.out, HS.out]
                · rw [up_ne _ _ e]; dsimp only
                  by_cases e2 : j < v
                  · rw [if_pos e2, if_pos (by omega)]
                  · rw [if_neg e2, if_neg (by omega)]
              case measure => simp [intOf]; omega
            · obtain rfl : v = m := by omega
              have n1 := keepAt hin2.out.2 zwr m1
              obtain ⟨w3, hw3⟩ : ∃ w, w = wr := ⟨_, rfl⟩
              rw [← hw3] at hin2 n0 n1 ⊢
              clear hw3 m0 m1
              have zw3 : W.heap.size < w3.heap.size := Nat.lt_of_lt_of_le zwr hin2.out.2.size
              have hbb : BB w3 g v (bnum v k) := Bk.congr hin2.out.1 fun j hj => by dsimp only; rw [if_pos hj]
              have HBB := Lib.hid hbb
              have HX3 : Hid (Ext W1 w3) := Lib.hid (hin.out.2.2.1.trans hin2.out.2)
              have HS3 := Lib.hid (And.intro hin.out.1 (And.intro (hin.out.2.1.ext hin2.out.2) (Nat.le_trans hin.out.2.2.2 hin2.out.2.size)))
              clear hbb hin hin2 Y1
              go_wp2_with fail
              refine (sideR_any a v (bnum v k) _ _ _ (HA.out.ext (HB.out.trans HX3.out)) (BB.bl HBB.out (by omega)) HOK.out (by omega) hm2 (by omega)).mono ?_
              rintro e w5 ⟨rfl, hx⟩
              have HX5 : Hid (Ext W1 w5) := Lib.hid (HX3.out.trans hx)
              have HB5 := Lib.hid (HBB.out.ext hx)
              have HS5 := Lib.hid (And.intro HS3.out.1 (And.intro (HS3.out.2.1.ext hx) (Nat.le_trans HS3.out.2.2 hx.size)))
              obtain ⟨y, hy⟩ : ∃ y, y = a.nw.ct (bnum v k) := ⟨_, rfl⟩
              obtain ⟨ok, hok⟩ : ∃ ok, ok = isSdB v (bnum v k) := ⟨_, rfl⟩
              have hyb : 0 ≤ y ∧ y ≤ 1000000000 := by
                have h1 : y ≤ a.nw.m * 1000000 := by
                  rw [hy]; refine sm_const_le fun q hq => ?_
                  split
                  · exact HOK.out.cM q hq
                  · omega
                have h2 : 0 ≤ y := by
                  rw [hy]; refine sm_nonneg fun q hq => ?_
                  split
                  · exact HOK.out.c0 q hq
                  · omega
                have h3 : a.nw.m = a.n := rfl
                rw [h3] at h1
                omega
              rw [← hy, ← hok]
              have HY := Lib.hid (And.intro hy hok)
              clear hx n0 n1 hy hok HBB HS3 HX3
              cases ok
              · clear hyb
                go_wp2
                go_roundw
                case rel => exact ⟨k + 1, β, by go_num, by omega, rfl, Lib.hid ⟨HS5.out.1.no HY.out.2.symm, by rw [rmins_succ, if_neg (fun h => by rw [← HY.out.2] at h; cases h.1), List.append_nil]; exact HS5.out.2.1, HX5.out, HS5.out.2.2⟩⟩
                case measure => simp [intOf]; omega
              · by_cases hgt : β < y
                · go_wp2
                  go_roundw
                  case rel => exact ⟨k + 1, β, by go_num, by omega, rfl, Lib.hid ⟨HS5.out.1.more (by rw [← HY.out.1]; exact hgt) (by rw [← HY.out.1]; omega), by rw [rmins_succ, if_neg (fun h => by rw [← HY.out.1] at h; omega), List.append_nil]; exact HS5.out.2.1, HX5.out, HS5.out.2.2⟩⟩
                  case measure => simp [intOf]; omega
                · have hnew := HS5.out.1.new HY.out.2.symm (by rw [← HY.out.1]; omega) (by rw [← HY.out.1]; omega)
                  rw [← HY.out.1] at hnew
                  have HNEW := Lib.hid hnew
                  clear hnew
                  by_cases hlt3 : y < β
                  · have hnil : rmins a.nw v y k = [] := rmins_nil fun i hi hs => by have := HS5.out.1.le i hi hs; omega
                    have hown := World.ownsRow_nil (w5.alloc (.cells #[.slice (some ⟨g, 0, none⟩) v v] 40)) w1.heap.size 40 1
                    have hsz5 := HS5.out.2.2
                    have HNIL := Lib.hid hnil
                    clear hnil
                    go_wp2_with (at_builtin; refine wpList_append_own _ rfl _ _ 49 rfl w1.heap.size 40 i0 (.slice none 0 0) 1 24 Try.underlying49 HI.out.1 HI.out.2.1 HI.out.2.2.1 HI.out.2.2.2 rfl (by decide) _ 0 _ rfl hown ⟨w5.heap.size, 0, none⟩ 1 1 [.slice (some ⟨g, 0, none⟩) v v] rfl rfl ?c1 ?c2 ?c3 ?c4 ?c5 ?_)
                    case c1 =>
                      intro j u hj
                      match j, hj with
                      | 0, hj => simp at hj; subst hj; simp [Addr.add]
                      | j + 1, hj => simp at hj
                    case c2 => intro u hu; simp at hu; subst hu; rfl
                    case c3 => unfold maxLen; omega
                    case c4 => omega
                    case c5 => simp; omega
                    intro v' w6 hown' hgrow hnil9
                    clear hnil9
                    have HN : Hid (Sdb (bnum v) w6 w1.heap.size v' v (rmins a.nw v y (k + 1)) ∧ Ext W1 w6 ∧ w1.heap.size ≤ w6.heap.size) := by
                      have hxa : Ext w5 (w5.alloc (.cells #[.slice (some ⟨g, 0, none⟩) v v] 40)) := Ext.alc (Ext.refl w5) _
                      have how : w5.ownsRow w1.heap.size 40 1 (.slice none 0 0) ([] : List Nat).length (([] : List Nat).map fun g => Value.slice (some ⟨g, 0, none⟩) v v) := World.ownsRow_nil _ _ _ _
                      have hsd := Sdb.more (B := bnum v) (ks := []) (gs := []) (k := k) rfl (World.ownsRow.ext how hxa) (fun i hi => by simp at hi) (HB5.out.ext hxa) hown' hgrow
                      refine Lib.hid ⟨?_, ?_, ?_⟩
                      · rw [rmins_succ, if_pos ⟨HY.out.2.symm, HY.out.1.symm⟩, HNIL.out]; exact hsd
                      · have hb0 := World.ownsRow.lt how
                        have e := HX5.out
                        exact ⟨hgrow.os.trans e.os, hgrow.tape.trans e.tape, hgrow.output.trans e.output, by have h1 := hgrow.size; have h2 := e.size; simp at h1; omega, fun b hb => (hgrow.block b (by have h2 := e.size; simp; omega) (fun e2 => by have := (hb0 b e2.symm).1; omega)).trans ((Below.heap_alloc _ _ b (by have h2 := e.size; omega)).trans (e.block b hb))⟩
                      · have h1 := hgrow.size; simp at h1; omega
                    clear hown' hgrow hown
                    go_wp2
                    go_roundw
                    case rel => exact ⟨k + 1, y, by go_num, by omega, rfl, Lib.hid ⟨HNEW.out, HN.out⟩⟩
                    case measure => simp [intOf]; omega
                  · obtain rfl : y = β := by omega
                    obtain ⟨gs, hgl, how, hbs⟩ := HS5.out.2.1
                    have hown := World.ownsRow.ext how (Ext.alc (Ext.refl w5) (.cells #[.slice (some ⟨g, 0, none⟩) v v] 40))
                    have HBS := Lib.hid (And.intro hgl (And.intro how hbs))
                    have hvs := own_slice how
                    have hml := rmins_len a.nw v y k
                    have hsz5 := HS5.out.2.2
                    obtain ⟨L, hL⟩ : ∃ L, L = (rmins a.nw v y k).length := ⟨_, rfl⟩
                    rw [← hL] at hown hml
                    have HLL := Lib.hid hL
                    clear hgl how hbs hL
                    obtain ⟨Av, nv, cv, rfl⟩ := hvs
                    go_wp2_with (at_builtin; refine wpList_append_own _ rfl _ _ 49 rfl w1.heap.size 40 i0 (.slice none 0 0) 1 24 Try.underlying49 HI.out.1 HI.out.2.1 HI.out.2.2.1 HI.out.2.2.2 rfl (by decide) _ L _ rfl hown ⟨w5.heap.size, 0, none⟩ 1 1 [.slice (some ⟨g, 0, none⟩) v v] rfl rfl ?c1 ?c2 ?c3 ?c4 ?c5 ?_)
                    case c1 =>
                      intro j u hj
                      match j, hj with
                      | 0, hj => simp at hj; subst hj; simp [Addr.add]
                      | j + 1, hj => simp at hj
                    case c2 => intro u hu; simp at hu; subst hu; rfl
                    case c3 => unfold maxLen; omega
                    case c4 => omega
                    case c5 => simp; omega
                    intro v' w6 hown' hgrow hnil9
                    clear hnil9
                    have HN : Hid (Sdb (bnum v) w6 w1.heap.size v' v (rmins a.nw v y (k + 1)) ∧ Ext W1 w6 ∧ w1.heap.size ≤ w6.heap.size) := by
                      have hxa : Ext w5 (w5.alloc (.cells #[.slice (some ⟨g, 0, none⟩) v v] 40)) := Ext.alc (Ext.refl w5) _
                      obtain ⟨hgl, how, hbs⟩ := HBS.out
                      rw [HLL.out] at hown'
                      have hsd := Sdb.more hgl (World.ownsRow.ext how hxa) (fun i hi => (hbs i hi).ext hxa) (HB5.out.ext hxa) hown' hgrow
                      refine Lib.hid ⟨?_, ?_, ?_⟩
                      · rw [rmins_succ, if_pos ⟨HY.out.2.symm, HY.out.1.symm⟩]; exact hsd
                      · have hb0 := World.ownsRow.lt how
                        have e := HX5.out
                        exact ⟨hgrow.os.trans e.os, hgrow.tape.trans e.tape, hgrow.output.trans e.output, by have h1 := hgrow.size; have h2 := e.size; simp at h1; omega, fun b hb => (hgrow.block b (by have h2 := e.size; simp; omega) (fun e2 => by have := (hb0 b e2.symm).1; omega)).trans ((Below.heap_alloc _ _ b (by have h2 := e.size; omega)).trans (e.block b hb))⟩
                      · have h1 := hgrow.size; simp at h1; omega
                    clear hown' hgrow hown
                    go_wp2
                    go_roundw
                    case rel => exact ⟨k + 1, y, by go_num, by omega, rfl, Lib.hid ⟨HNEW.out, HN.out⟩⟩
                    case measure => simp [intOf]; omega
        · obtain rfl : k = P := by omega
          have hrb := hin.out.1
          rw [HPP.out] at hrb
          have HMC := Lib.hid (hrb.mc hm2 HOK.out.in_)
          have hr := hin.out.2.1.rws (by omega)
          have hq := hr
          obtain ⟨Aq, cq, hq, -⟩ := hq
          have HR := Lib.hid hr
          clear hrb hr m0 m1
          go_wp2
          refine bodyPost_ret (v := .tuple #[u4, .int .i64 0]) (by simp [results, Try.results29, go_sem]) rfl ⟨_, 0, rfl, HB.out.trans hin.out.2.2.1, .inr (.inr ⟨HV.out, by omega, rfl, β, ?_, ?_⟩)⟩
          · rw [Int.toNat_natCast]; exact HMC.out
          · rw [Int.toNat_natCast, ← HPP.out]; exact HR.out
    · have h12' : (12 : Int) < m := by omega
      go_wp2
      refine bodyPost_ret (v := .tuple #[.slice none 0 0, .int .i64 3]) (by simp [results, Try.results29, go_sem]) rfl ⟨_, 3, rfl, HB.out.trans HX.out, .inr (.inl ⟨HV.out, h12', rfl, rfl⟩)⟩
end Go.Proofs.Ytilcbbdmenknfaa
