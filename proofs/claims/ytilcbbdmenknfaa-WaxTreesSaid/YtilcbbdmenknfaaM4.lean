/- Walks: the closures that say which steps are open. · Slices of slices of numbers; a network in memory. · A walk through a network, node after node: mathematics. -/
import Derived.Test.YtilcbbdmenknfaaM2
import Derived.Test.YtilcbbdmenknfaaM3
namespace Go.Proofs.Ytilcbbdmenknfaa
open Go.RowKit

set_option maxRecDepth 100000 in
theorem open89 (g n c b off j : Nat) (x : Int) (W : World) (h4 : W.cell? ⟨g, 4, none⟩ = some (.slice (some ⟨b, off, none⟩) n c)) (hj : j < n) (hc : W.cell? ⟨b, off + j, none⟩ = some (.int .i64 x)) :
    Calls Try.prog 89 #[.int .i64 j, .pointer (some ⟨g, 0, none⟩)] W fun e W' => e = .returned (.bool (decide (0 < x))) ∧ Ext W W' := by
  go_enter Try.func89, Try.ntmps89
  go_wp2
  go_ret
  exact ⟨by rfl, Ext.refl _⟩
set_option maxRecDepth 100000 in
theorem open81 (g n c b off j : Nat) (x : Int) (W : World) (h4 : W.cell? ⟨g, 4, none⟩ = some (.slice (some ⟨b, off, none⟩) n c)) (hj : j < n) (hc : W.cell? ⟨b, off + j, none⟩ = some (.int .i64 x)) :
    Calls Try.prog 81 #[.int .i64 j, .pointer (some ⟨g, 0, none⟩)] W fun e W' => e = .returned (.bool (decide (0 < x))) ∧ Ext W W' := by
  go_enter Try.func81, Try.ntmps81
  go_wp2
  go_ret
  exact ⟨by rfl, Ext.refl _⟩

set_option maxRecDepth 100000 in
theorem open82 (g n c b off j : Nat) (x : Int) (W : World) (h4 : W.cell? ⟨g, 4, none⟩ = some (.slice (some ⟨b, off, none⟩) n c)) (hb : b < W.heap.size) (hj : j < 1000) (hr : rev j < n) (hc : W.cell? ⟨b, off + rev j, none⟩ = some (.int .i64 x)) :
    Calls Try.prog 82 #[.int .i64 j, .pointer (some ⟨g, 0, none⟩)] W fun e W' => e = .returned (.bool (decide (0 < x))) ∧ Ext W W' := by
  have hg : g < W.heap.size := World.block_lt_of_cell? W ⟨g, 4, none⟩ h4
  obtain ⟨r, hr'⟩ : ∃ r, r = rev j := ⟨_, rfl⟩
  have hcl : ∀ X, Calls Try.prog 83 #[.int .i64 j] X fun e W' => e = .returned (.int .i64 r) ∧ X = W' := fun X => by rw [hr']; exact reverse_any j X (by omega)
  rw [← hr'] at hr hc
  clear hr'
  have HCL := Lib.hid hcl; clear hcl
  go_enter Try.func82, Try.ntmps82
  go_wp2_with fail
  refine wp_region_noPanic ?_
  refine wp_pool 7 [some 4, some 5, some 6, some 7, some 8, some 9, some 10] [] [] [(fun (v : Value) (_ : World) => v = .pointer (some ⟨g, 4, none⟩)), (fun (v : Value) (_ : World) => v = .slice (some ⟨b, off, none⟩) n c), (fun (v : Value) (_ : World) => v = .int .i64 j), (fun (v : Value) (_ : World) => v = .int .i64 r), (fun (v : Value) (_ : World) => v = .pointer (some ⟨b, off + r, none⟩)), (fun (v : Value) (_ : World) => v = .int .i64 x), (fun (v : Value) (_ : World) => v = .bool (decide (0 < x)))] [noF, noF, noF, noF, noF, noF, noF] (by kernel_rfl) (by kernel_rfl) (by kernel_rfl) (by kernel_rfl) (by kernel_rfl) (by kernel_rfl) (by kernel_rfl) (by kernel_rfl) (fun _ _ _ _ h => h) ⟨Stays.pure _, Stays.pure _, Stays.pure _, Stays.pure _, Stays.pure _, Stays.pure _, Stays.pure _, True.intro⟩ ?steps ?done
  case steps =>
    simp only [List.take_succ_cons, List.take_zero]
    refine Steps.cons (fun (v : Value) (_ : World) => v = .pointer (some ⟨g, 4, none⟩)) [] rfl (by kernel_rfl) rfl (by kernel_rfl) (fun y X ex0 hf K hK => ?_) ?_
    · clear hf
      have ex := (Ext.drw (Ext.refl _)).trans ex0
      refine Box.mk ?_
      simp only [fill, Act.put, Nat.reduceAdd, List.setIfInBounds_toArray, List.set_cons_zero, List.set_cons_succ] at hK ⊢
      go_simp
      exact hK.out _ _ rfl (Ext.refl _) (fun b hb => by cases hb)
    refine Steps.cons (fun (v : Value) (_ : World) => v = .slice (some ⟨b, off, none⟩) n c) [0] rfl (by kernel_rfl) rfl (by kernel_rfl) (fun y X ex0 hf K hK => ?_) ?_
    · have h0 : ((fun (v : Value) (_ : World) => v = .pointer (some ⟨g, 4, none⟩))) (y 0) X := hf.1
      clear hf
      have ex := (Ext.drw (Ext.refl _)).trans ex0
      refine Box.mk ?_
      simp only [fill, Act.put, Nat.reduceAdd, List.setIfInBounds_toArray, List.set_cons_zero, List.set_cons_succ, h0] at hK ⊢
      have q4 := keepAt ex hg h4
      go_simp
      exact hK.out _ _ rfl (Ext.refl _) (fun b hb => by cases hb)
    refine Steps.cons (fun (v : Value) (_ : World) => v = .int .i64 j) [] rfl (by kernel_rfl) rfl (by kernel_rfl) (fun y X ex0 hf K hK => ?_) ?_
    · clear hf
      have ex := (Ext.drw (Ext.refl _)).trans ex0
      refine Box.mk ?_
      simp only [fill, Act.put, Nat.reduceAdd, List.setIfInBounds_toArray, List.set_cons_zero, List.set_cons_succ] at hK ⊢
      go_simp
      exact hK.out _ _ rfl (Ext.refl _) (fun b hb => by cases hb)
    refine Steps.cons (fun (v : Value) (_ : World) => v = .int .i64 r) [2] rfl (by kernel_rfl) rfl (by kernel_rfl) (fun y X ex0 hf K hK => ?_) ?_
    · have h2 : ((fun (v : Value) (_ : World) => v = .int .i64 j)) (y 2) X := hf.1
      clear hf
      have ex := (Ext.drw (Ext.refl _)).trans ex0
      refine Box.mk ?_
      simp only [fill, Act.put, Nat.reduceAdd, List.setIfInBounds_toArray, List.set_cons_zero, List.set_cons_succ, h2] at hK ⊢
      go_simp
      refine (HCL.out _).mono ?_
      rintro e V ⟨rfl, rfl⟩
      try go_wp2_with fail
      exact hK.out _ _ rfl (Ext.refl _) (fun b hb => by cases hb)
    refine Steps.cons (fun (v : Value) (_ : World) => v = .pointer (some ⟨b, off + r, none⟩)) [1, 3] rfl (by kernel_rfl) rfl (by kernel_rfl) (fun y X ex0 hf K hK => ?_) ?_
    · have h1 : ((fun (v : Value) (_ : World) => v = .slice (some ⟨b, off, none⟩) n c)) (y 1) X := hf.1
      have h3 : ((fun (v : Value) (_ : World) => v = .int .i64 r)) (y 3) X := hf.2.1
      clear hf
      have ex := (Ext.drw (Ext.refl _)).trans ex0
      refine Box.mk ?_
      simp only [fill, Act.put, Nat.reduceAdd, List.setIfInBounds_toArray, List.set_cons_zero, List.set_cons_succ, h1, h3] at hK ⊢
      go_simp
      exact hK.out _ _ rfl (Ext.refl _) (fun b hb => by cases hb)
    refine Steps.cons (fun (v : Value) (_ : World) => v = .int .i64 x) [4] rfl (by kernel_rfl) rfl (by kernel_rfl) (fun y X ex0 hf K hK => ?_) ?_
    · have h4 : ((fun (v : Value) (_ : World) => v = .pointer (some ⟨b, off + r, none⟩))) (y 4) X := hf.1
      clear hf
      have ex := (Ext.drw (Ext.refl _)).trans ex0
      refine Box.mk ?_
      simp only [fill, Act.put, Nat.reduceAdd, List.setIfInBounds_toArray, List.set_cons_zero, List.set_cons_succ, h4] at hK ⊢
      have q5 := keepAt ex hb hc
      go_simp
      exact hK.out _ _ rfl (Ext.refl _) (fun b hb => by cases hb)
    refine Steps.cons (fun (v : Value) (_ : World) => v = .bool (decide (0 < x))) [5] rfl (by kernel_rfl) rfl (by kernel_rfl) (fun y X ex0 hf K hK => ?_) ?_
    · have h5 : ((fun (v : Value) (_ : World) => v = .int .i64 x)) (y 5) X := hf.1
      clear hf
      have ex := (Ext.drw (Ext.refl _)).trans ex0
      refine Box.mk ?_
      simp only [fill, Act.put, Nat.reduceAdd, List.setIfInBounds_toArray, List.set_cons_zero, List.set_cons_succ, h5] at hK ⊢
      go_simp
      exact hK.out _ _ rfl (Ext.refl _) (fun b hb => by cases hb)
    exact Steps.nil
  case done =>
    intro y X ex hf hlt hsep
    have h0 : ((fun (v : Value) (_ : World) => v = .pointer (some ⟨g, 4, none⟩))) (y 0) X := hf.1
    have h1 : ((fun (v : Value) (_ : World) => v = .slice (some ⟨b, off, none⟩) n c)) (y 1) X := hf.2.1
    have h2 : ((fun (v : Value) (_ : World) => v = .int .i64 j)) (y 2) X := hf.2.2.1
    have h3 : ((fun (v : Value) (_ : World) => v = .int .i64 r)) (y 3) X := hf.2.2.2.1
    have h4 : ((fun (v : Value) (_ : World) => v = .pointer (some ⟨b, off + r, none⟩))) (y 4) X := hf.2.2.2.2.1
    have h5 : ((fun (v : Value) (_ : World) => v = .int .i64 x)) (y 5) X := hf.2.2.2.2.2.1
    have h6 : ((fun (v : Value) (_ : World) => v = .bool (decide (0 < x)))) (y 6) X := hf.2.2.2.2.2.2.1
    clear hf
    clear hsep hlt
    refine Box.mk ?_
    simp only [List.drop_succ_cons, List.drop_zero, fill, Act.put, Nat.reduceAdd, List.setIfInBounds_toArray, List.set_cons_zero, List.set_cons_succ, h0, h1, h2, h3, h4, h5, h6]
    clear h0 h1 h2 h3 h4 h5 h6
    have EX := Lib.hid ex; clear ex
    go_wp2_with fail
    refine NoPanic.normal ?_
    go_wp2
    go_ret
    exact ⟨rfl, EX.out⟩
end Go.Proofs.Ytilcbbdmenknfaa
namespace Go.Proofs.Ytilcbbdmenknfaa
open Go.RowKit

/-- for each node the list of its steps, in blocks from bs on -/
def Sl (w : World) (bs : Nat) (v : Value) (N : Nat) (st : Nat → List Nat) : Prop :=
  ∃ b c, v = .slice (some ⟨b, 0, none⟩) N c ∧ b < w.heap.size ∧ bs ≤ b ∧ ∀ i, i < N → ∃ u, w.cell? ⟨b, i, none⟩ = some u ∧ Il w u (st i).length (fun k => (((st i).getD k 0 : Nat) : Int)) ∧ ∀ b', u.ownBlock = some b' → bs ≤ b'
theorem Sl.ext {w w' : World} {bs : Nat} {v : Value} {N : Nat} {st : Nat → List Nat} (h : Sl w bs v N st) (e : Ext w w') : Sl w' bs v N st := by
  obtain ⟨b, c, rfl, hb, h0, hc⟩ := h
  refine ⟨b, c, rfl, Nat.lt_of_lt_of_le hb e.size, h0, fun i hi => ?_⟩
  obtain ⟨u, h1, h2, h3⟩ := hc i hi
  exact ⟨u, keepAt e hb h1, h2.ext e, h3⟩
/-- .. also where blocks below bs change -/
theorem Sl.keep {w w' : World} {bs : Nat} {v : Value} {N : Nat} {st : Nat → List Nat} (h : Sl w bs v N st) (hs : w.heap.size ≤ w'.heap.size) (hk : ∀ b, bs ≤ b → w'.heap[b]? = w.heap[b]?) : Sl w' bs v N st := by
  obtain ⟨b, c, rfl, hb, h0, hc⟩ := h
  refine ⟨b, c, rfl, Nat.lt_of_lt_of_le hb hs, h0, fun i hi => ?_⟩
  obtain ⟨u, h1, ⟨A, c', rfl, h4, h5, h6⟩, h3⟩ := hc i hi
  refine ⟨_, (World.cell?_of_block (hk b h0)).trans h1, ⟨A, c', rfl, h4, h5, fun hp => ?_⟩, h3⟩
  obtain ⟨g, off, rfl, hg, hcc⟩ := h6 hp
  exact ⟨g, off, rfl, Nat.lt_of_lt_of_le hg hs, fun j hj => (World.cell?_of_block (hk g (h3 g rfl))).trans (hcc j hj)⟩
/-- the steps are those of the arcs -/
structure Stp (G : Nw) (N : Nat) (st : Nat → List Nat) : Prop where
  mem : ∀ v, v < N → ∀ j, j ∈ st v ↔ (j < 2 * G.m ∧ G.tl j = v)
  len : ∀ v, v < N → (st v).length ≤ 2 * G.m
/-- a block of four cells -/
theorem four {w : World} {b : Nat} {t : TypeId} {x0 x1 x2 x3 : Value} (h : w.heap[b]? = some (.cells #[x0, x1, x2, x3] t (0, 0))) :
    w.cell? ⟨b, 0, none⟩ = some x0 ∧ w.cell? ⟨b, 1, none⟩ = some x1 ∧ w.cell? ⟨b, 2, none⟩ = some x2 ∧ w.cell? ⟨b, 3, none⟩ = some x3 ∧ (∀ o, w.frozen? ⟨b, o, none⟩ = false) ∧ b < w.heap.size :=
  ⟨cell_of_row w b 0 _ t (0, 0) h, cell_of_row w b 1 _ t (0, 0) h, cell_of_row w b 2 _ t (0, 0) h, cell_of_row w b 3 _ t (0, 0) h, fun o => by simp [World.frozen?, h], (Array.getElem?_eq_some_iff.1 h).1⟩
theorem five {w : World} {b : Nat} {t : TypeId} {x0 x1 x2 x3 x4 : Value} (h : w.heap[b]? = some (.cells #[x0, x1, x2, x3, x4] t (0, 0))) :
    w.cell? ⟨b, 0, none⟩ = some x0 ∧ w.cell? ⟨b, 1, none⟩ = some x1 ∧ w.cell? ⟨b, 2, none⟩ = some x2 ∧ w.cell? ⟨b, 3, none⟩ = some x3 ∧ w.cell? ⟨b, 4, none⟩ = some x4 ∧ (∀ o, w.frozen? ⟨b, o, none⟩ = false) ∧ b < w.heap.size :=
  ⟨cell_of_row w b 0 _ t (0, 0) h, cell_of_row w b 1 _ t (0, 0) h, cell_of_row w b 2 _ t (0, 0) h, cell_of_row w b 3 _ t (0, 0) h, cell_of_row w b 4 _ t (0, 0) h, fun o => by simp [World.frozen?, h], (Array.getElem?_eq_some_iff.1 h).1⟩
end Go.Proofs.Ytilcbbdmenknfaa
namespace Go.Proofs.Ytilcbbdmenknfaa

/-- how many nodes below n are not in R -/
def un (R : Nat → Bool) : Nat → Nat
  | 0 => 0
  | n + 1 => un R n + if R n = true then 0 else 1
theorem un_le (R : Nat → Bool) (n : Nat) : un R n ≤ n := by
  induction n with
  | zero => exact Nat.le_refl _
  | succ n ih => simp only [un]; split <;> omega
theorem un_congr {R S : Nat → Bool} {n : Nat} (h : ∀ i, i < n → R i = S i) : un R n = un S n := by
  induction n with
  | zero => rfl
  | succ n ih => simp only [un]; rw [ih (fun i hi => h i (by omega)), h n (by omega)]
theorem un_up {R : Nat → Bool} {n v : Nat} (hv : v < n) (hR : R v = false) : un (up R v true) n + 1 = un R n := by
  induction n with
  | zero => omega
  | succ n ih =>
    simp only [un]
    by_cases e : v = n
    · subst e
      rw [un_congr (S := R) (fun i hi => up_ne R true (by omega)), up_self, hR]; simp
    · rw [up_ne R true (by omega : n ≠ v), ← ih (by omega)]; omega

structure Wq (G : Nw) (N a : Nat) (op R : Nat → Bool) (la rk : Nat → Nat) (big : Nat) (q : List Nat) (ex : Nat → Prop) : Prop where
  root : R a = true
  low : ∀ v, R v = true → v < N
  tree : ∀ v, v < N → R v = true → v ≠ a → la v < 2 * G.m ∧ op (la v) = true ∧ G.hd (la v) = v ∧ G.tl (la v) < N ∧ R (G.tl (la v)) = true ∧ rk (G.tl (la v)) < rk v
  rkb : ∀ v, R v = true → rk v < big
  qin : ∀ v ∈ q, v < N ∧ R v = true
  fin : ∀ v, v < N → R v = true → v ∉ q → ¬ ex v → ∀ j, j < 2 * G.m → G.tl j = v → op j = true → R (G.hd j) = true

section
variable {G : Nw} {N a : Nat} {op R : Nat → Bool} {la rk : Nat → Nat} {big : Nat} {q : List Nat} {ex : Nat → Prop}
theorem Wq.start (ha : a < N) (la : Nat → Nat) : Wq G N a op (up (fun _ => false) a true) la (fun _ => 0) 1 [a] (fun _ => False) := by
  have h1 : ∀ v, up (fun _ => false) a true v = true → v = a := by
    intro v h
    by_cases e : v = a
    · exact e
    · rw [up_ne _ _ e] at h; cases h
  refine ⟨up_self _ _ _, fun v h => by rw [h1 v h]; exact ha, fun v _ h hne => absurd (h1 v h) hne, fun _ _ => by omega, fun v hv => ?_, fun v _ h hq => ?_⟩
  · simp at hv; subst hv; exact ⟨ha, up_self _ _ _⟩
  · exact absurd (by rw [h1 v h]; simp) hq
theorem Wq.pop {u : Nat} (h : Wq G N a op R la rk big (u :: q) (fun _ => False)) : Wq G N a op R la rk big q (fun v => v = u) :=
  ⟨h.root, h.low, h.tree, h.rkb, fun v hv => h.qin v (List.mem_cons_of_mem _ hv), fun v hv hR hq hne => h.fin v hv hR (by simp; exact ⟨hne, hq⟩) (fun f => f)⟩
theorem Wq.shut {u : Nat} (h : Wq G N a op R la rk big q (fun v => v = u)) (hu : ∀ j, j < 2 * G.m → G.tl j = u → op j = true → R (G.hd j) = true) : Wq G N a op R la rk big q (fun _ => False) :=
  ⟨h.root, h.low, h.tree, h.rkb, h.qin, fun v hv hR hq _ => by
    by_cases e : v = u
    · subst e; exact hu
    · exact h.fin v hv hR hq e⟩
theorem Wq.push {j : Nat} (h : Wq G N a op R la rk big q ex) (hj : j < 2 * G.m) (ho : op j = true) (ht : R (G.tl j) = true) (hn : R (G.hd j) = false) (hN : G.hd j < N) :
    Wq G N a op (up R (G.hd j) true) (up la (G.hd j) j) (up rk (G.hd j) big) (big + 1) (q ++ [G.hd j]) ex := by
  have hm : ∀ w, R w = true → w ≠ G.hd j := fun w hw e => by rw [e, hn] at hw; cases hw
  have hup : ∀ w, R w = true → up R (G.hd j) true w = true := fun w hw => by rw [up_ne _ _ (hm w hw)]; exact hw
  have hor : ∀ w, up R (G.hd j) true w = true → w = G.hd j ∨ (w ≠ G.hd j ∧ R w = true) := by
    intro w hw
    by_cases e : w = G.hd j
    · exact .inl e
    · rw [up_ne _ _ e] at hw; exact .inr ⟨e, hw⟩
  refine ⟨hup _ h.root, fun v hv => ?_, fun v hv hR hne => ?_, fun v hv => ?_, fun v hv => ?_, fun v hv hR hq hx i hi hti hoi => ?_⟩
  · rcases hor v hv with rfl | ⟨_, h1⟩
    · exact hN
    · exact h.low v h1
  · rcases hor v hR with rfl | ⟨h0, h1⟩
    · rw [up_self, up_self, up_ne rk big (hm _ ht)]
      exact ⟨hj, ho, rfl, h.low _ ht, hup _ ht, h.rkb _ ht⟩
    · obtain ⟨a1, a2, a3, a4, a5, a6⟩ := h.tree v hv h1 hne
      rw [up_ne la j h0, up_ne rk big h0, up_ne rk big (hm _ a5)]
      exact ⟨a1, a2, a3, a4, hup _ a5, a6⟩
  · rcases hor v hv with rfl | ⟨h0, h1⟩
    · rw [up_self]; omega
    · rw [up_ne _ _ h0]; have := h.rkb v h1; omega
  · rcases List.mem_append.1 hv with h1 | h1
    · exact ⟨(h.qin v h1).1, hup v (h.qin v h1).2⟩
    · simp at h1; subst h1; exact ⟨hN, up_self _ _ _⟩
  · simp at hq
    rcases hor v hR with rfl | ⟨h0, h1⟩
    · exact absurd rfl hq.2
    · exact hup _ (h.fin v hv h1 hq.1 hx i hi hti hoi)
theorem Wq.wk (h : Wq G N a op R la rk big [] (fun _ => False)) : G.Wk N a op R la rk :=
  ⟨h.root, h.tree, fun j hj ho ht => h.fin _ (h.low _ ht) ht (by simp) (fun f => f) j hj rfl ho⟩
end
end Go.Proofs.Ytilcbbdmenknfaa
