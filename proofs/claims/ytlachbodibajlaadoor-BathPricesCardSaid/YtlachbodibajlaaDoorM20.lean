/- Orders as mathematics: the greedy order step by step, orders as slices, the first of the cheapest. · Walks: courseOf, planCourse. · Walks: planCourse. -/
import Derived.Test.YtlachbodibajlaaDoorM19
namespace Go.Proofs.YtlachbodibajlaaDoor
open Go.RowKit

theorem grd_snoc (c : Crs) (pr : Nat → Int) : ∀ m s l, c.grd pr (m + 1) s l = c.grd pr m s l ++ [(c.chp pr (fin s (c.grd pr m s l)) (lst l (c.grd pr m s l))).1.toNat]
  | 0, s, l => rfl
  | m + 1, s, l => by
    have h1 : c.grd pr (m + 1 + 1) s l = (c.chp pr s l).1.toNat :: c.grd pr (m + 1) (s ||| 2 ^ (c.chp pr s l).1.toNat) (c.chp pr s l).1.toNat := rfl
    have h2 : c.grd pr (m + 1) s l = (c.chp pr s l).1.toNat :: c.grd pr m (s ||| 2 ^ (c.chp pr s l).1.toNat) (c.chp pr s l).1.toNat := rfl
    rw [h1, grd_snoc c pr m, h2]
    rfl
theorem grd_fol {c : Crs} (hh : c.has = true) (pr : Nat → Int) : ∀ m s l, cntN c.n s + m ≤ c.n → s < 2 ^ c.n → c.fol s (c.grd pr m s l) = true
  | 0, _, _, _, _ => rfl
  | m + 1, s, l, hc, hs => by
    have hna : s ≠ c.all := fun e => by rw [e, cntN_all] at hc; omega
    obtain ⟨y, hy, hcy, hv, -⟩ := chp_first (pr := pr) (l := l) (has_next hh hs hna)
    have hy9 : (c.chp pr s l).1.toNat = y := by rw [hv]; simp
    have hcn := cntN_or c.n s y hy (can_bit hcy)
    have ih := grd_fol hh pr m (s ||| 2 ^ y) y (by omega) (or_lt hs hy)
    rw [Crs.grd, hy9]
    unfold Crs.fol
    rw [decide_eq_true hy, hcy, ih]; rfl
theorem lst_in {n : Nat} : ∀ (o : List Nat) (l : Nat), l < n → (∀ x ∈ o, x < n) → lst l o < n
  | [], _, h, _ => h
  | x :: o, _, _, h => lst_in o x (h x (by simp)) fun y hy => h y (by simp [hy])
/-- where the greedy order stands behind j baths -/
theorem grd_at {c : Crs} (hh : c.has = true) (hn : 1 ≤ c.n) (pr : Nat → Int) {j : Nat} (hj : j < c.n) : ∃ y, y < c.n ∧ fin 0 (c.grd pr j 0 0) < 2 ^ c.n ∧ lst 0 (c.grd pr j 0 0) < c.n ∧ c.can (fin 0 (c.grd pr j 0 0)) y = true ∧
    (c.chp pr (fin 0 (c.grd pr j 0 0)) (lst 0 (c.grd pr j 0 0))).1 = (y : Int) ∧ c.grd pr (j + 1) 0 0 = c.grd pr j 0 0 ++ [y] := by
  have hf := grd_fol hh pr j 0 0 (by rw [cntN_zero]; omega) (Nat.two_pow_pos _)
  have hin := fol_in _ _ hf
  have hs := fin_lt (c := c) _ 0 (Nat.two_pow_pos _) hin
  have hc := fol_cnt _ _ hf
  rw [cntN_zero, grd_len] at hc
  have hna : fin 0 (c.grd pr j 0 0) ≠ c.all := fun e => by rw [e, cntN_all] at hc; omega
  obtain ⟨y, hy, hcy, hv, -⟩ := chp_first (pr := pr) (l := lst 0 (c.grd pr j 0 0)) (has_next hh hs hna)
  exact ⟨y, hy, hs, lst_in _ _ (by omega) hin, hcy, by rw [hv], by rw [grd_snoc, hv]; simp⟩

/-- the numbers of a slice as baths -/
def ordL (k : Nat) (x : Nat → Int) : List Nat := (List.range k).map fun i => (x i).toNat
theorem ordL_succ (k : Nat) (x : Nat → Int) : ordL (k + 1) x = ordL k x ++ [(x k).toNat] := by unfold ordL; rw [List.range_succ, List.map_append]; rfl
theorem ordL_len (k : Nat) (x : Nat → Int) : (ordL k x).length = k := by simp [ordL]
theorem ordL_pre (x : Nat → Int) (i : Nat) : ∀ k, i ≤ k → ∃ r, ordL k x = ordL i x ++ r
  | 0, h => by obtain rfl : i = 0 := by omega
               exact ⟨[], rfl⟩
  | k + 1, h => by
    rcases Nat.lt_or_ge k i with h1 | h1
    · obtain rfl : i = k + 1 := by omega
      exact ⟨[], by simp⟩
    · obtain ⟨r, hr⟩ := ordL_pre x i k h1
      exact ⟨r ++ [(x k).toNat], by rw [ordL_succ, hr, List.append_assoc]⟩
theorem fol_app (c : Crs) : ∀ (o r : List Nat) (s : Nat), c.fol s (o ++ r) = (c.fol s o && c.fol (fin s o) r)
  | [], r, s => by simp [Crs.fol, fin]
  | y :: o, r, s => by rw [List.cons_append, Crs.fol, fol_app c o, Crs.fol, fin]; simp only [Bool.and_assoc]
/-- is it an order? -/
def Crs.okO (c : Crs) (k : Nat) (x : Nat → Int) : Bool := (decide (k = c.n) && btw x 0 ((c.n : Int) - 1) k) && c.fol 0 (ordL k x)
theorem fol_no {c : Crs} {k i : Nat} {x : Nat → Int} (hi : i < k) (h : c.fol 0 (ordL (i + 1) x) = false) : c.fol 0 (ordL k x) = false := by
  obtain ⟨r, hr⟩ := ordL_pre x (i + 1) k hi
  rw [hr, fol_app, h]; rfl
theorem ordL_get (o : List Nat) : ordL o.length (fun i => ((o.getD i 0 : Nat) : Int)) = o := by
  unfold ordL
  refine List.ext_getElem? fun i => ?_
  rw [List.getElem?_map]
  by_cases h : i < o.length
  · rw [List.getElem?_range h]
    simp [List.getD_eq_getElem?_getD, h]
  · rw [List.getElem?_eq_none (by simp; omega), List.getElem?_eq_none (by omega)]; rfl
theorem okO_of {c : Crs} {o : List Nat} (hl : o.length = c.n) (h : c.fol 0 o = true) : c.okO c.n (fun i => ((o.getD i 0 : Nat) : Int)) = true := by
  have hin := fol_in _ _ h
  have h1 := ordL_get o
  rw [hl] at h1
  unfold Crs.okO
  rw [h1, h, decide_eq_true rfl, Bool.true_and, Bool.and_true, btw_iff]
  intro i hi
  have h2 : o.getD i 0 < c.n := by
    rw [List.getD_eq_getElem?_getD, List.getElem?_eq_getElem (by omega)]
    exact hin _ (List.getElem_mem _)
  omega
/-- the first cheapest order -/
def Crs.best (c : Crs) : List Nat := c.grd c.pz c.n 0 0
theorem best_ok {c : Crs} (hh : c.has = true) (hn : 1 ≤ c.n) (he : ∀ i, i < c.n → c.en i = 0) : c.best.length = c.n ∧ c.fol 0 c.best = true ∧ c.cst 0 0 c.best = c.due c.pz 0 0 := by
  obtain ⟨h1, -, h3⟩ := grd_ok hh c.n 0 0 (by rw [cntN_zero]; omega) (Nat.two_pow_pos _) hn
  rw [he _ (lst_in _ _ hn (fol_in _ _ h1))] at h3
  exact ⟨grd_len _ _ _ _ _, h1, by unfold Crs.best; omega⟩
theorem best_low {c : Crs} (hn : 1 ≤ c.n) (he : ∀ i, i < c.n → c.en i = 0) {t : Nat → Int} (ht : c.snd t) {o : List Nat} (hl : o.length = c.n) (h : c.fol 0 o = true) : c.due t 0 0 ≤ c.cst 0 0 o := by
  have := snd_low ht o 0 0 (Nat.two_pow_pos _) hn h (fol_all h hl)
  rw [he _ (lst_in _ _ hn (fol_in _ _ h))] at this
  omega
theorem best_first {c : Crs} (hh : c.has = true) (hn : 1 ≤ c.n) (he : ∀ i, i < c.n → c.en i = 0) {o : List Nat} (hl : o.length = c.n) (h : c.fol 0 o = true) (hc : c.cst 0 0 o = c.cst 0 0 c.best) : lx c.best o := by
  refine grd_first hh o c.n 0 0 (by rw [cntN_zero]; omega) (Nat.two_pow_pos _) hn h (fol_all h hl) ?_
  rw [he _ (lst_in _ _ hn (fol_in _ _ h)), hc, (best_ok hh hn he).2.2]; omega
/-- the order of slices, place by place -/
theorem lx_at : ∀ (a b : List Nat), lx a b → a.length = b.length → (∀ i, i < a.length → a.getD i 0 = b.getD i 0) ∨ ∃ k, k < a.length ∧ (∀ i, i < k → a.getD i 0 = b.getD i 0) ∧ a.getD k 0 < b.getD k 0
  | [], _, _, _ => Or.inl fun i hi => absurd hi (Nat.not_lt_zero _)
  | x :: a, [], _, hl => by simp at hl
  | x :: a, y :: b, h, hl => by
    unfold lx at h
    rcases h with h | ⟨rfl, h⟩
    · exact Or.inr ⟨0, by simp, fun i hi => absurd hi (Nat.not_lt_zero _), by simpa using h⟩
    · rcases lx_at a b h (by simpa using hl) with h1 | ⟨k, h1, h2, h3⟩
      · left
        intro i hi
        cases i with
        | zero => rfl
        | succ i => simpa using h1 i (by simpa using hi)
      · right
        refine ⟨k + 1, by simpa using h1, fun i hi => ?_, by simpa using h3⟩
        cases i with
        | zero => rfl
        | succ i => simpa using h2 i (by omega)
/-- an order that keeps more pairs keeps the fewer -/
theorem fol_mono {c d : Crs} (hn : d.n = c.n) (h : ∀ s x, x < c.n → d.can s x = true → c.can s x = true) : ∀ (o : List Nat) (s : Nat), d.fol s o = true → c.fol s o = true
  | [], _, _ => rfl
  | x :: o, s, hf => by
    unfold Crs.fol at hf ⊢
    rw [Bool.and_eq_true, Bool.and_eq_true, hn] at hf
    obtain ⟨⟨h1, h2⟩, h3⟩ := hf
    rw [h1, h s x (of_decide_eq_true h1) h2, fol_mono hn h o _ h3]; rfl
theorem cst_same {c d : Crs} (hs : ∀ s l x, d.stp s l x = c.stp s l x) : ∀ (o : List Nat) (s l : Nat), d.cst s l o = c.cst s l o
  | [], _, _ => rfl
  | x :: o, s, l => by unfold Crs.cst; rw [hs, cst_same hs o]
end Go.Proofs.YtlachbodibajlaaDoor
namespace Go.Proofs.YtlachbodibajlaaDoor
open Go.RowKit Go.Shelf

theorem Mx.mt' {W : World} {V : Value} {n mc : Nat} {ln : Nat → Nat} {y : Nat → Nat → Int} (h : Mx W V mc ln y) (hm : mc = n) (hl : ∀ i, i < n → ln i = n) : Mt W V n y := by subst hm; exact h.mt hl

set_option maxHeartbeats 4000000 in
set_option maxRecDepth 100000 in
theorem courseOf_any (S C B E : Value) (n mc m : Nat) (st : Nat → Int) (ln : Nat → Nat) (y : Nat → Nat → Int) (a b : Nat → Int) (W : World) (h : Pv W S C B n mc m st ln y a b) (hk : Okp n mc m st ln y a b) (hE : Il W E n fun _ => 0) :
    Calls Tryd.prog 88 #[.agg #[S, C, B], E] W fun e W' => ∃ N, e = .returned (.agg #[S, C, E, N]) ∧ Cv W' S C E N (crs n m st y a b) ∧ Ext W W' := by
  have HV := Lib.hid h; have HK := Lib.hid hk; have HE := Lib.hid hE
  obtain ⟨A, k, rfl, hk1, hk2, -⟩ := id h.vs
  obtain ⟨A2, k2, rfl, hk3, hk4, -⟩ := id h.vc
  obtain ⟨A3, k3, rfl, hk5, hk6, hpr⟩ := id h.vb
  obtain ⟨A4, k4, rfl, hk7, hk8, -⟩ := id hE
  have HPR := Lib.hid hpr
  have hn10 := hk.n10
  have hm40 := hk.m40
  have hm1 : ∀ w, (Instr.makeSlice 32 (.int .i64 (n : Int)) (.int .i64 (n : Int))).run Tryd.prog w = .ok (.slice (some ⟨w.heap.size, 0, none⟩) n n) (w.alloc (.cells (Array.ofFn fun _ : Fin n => .int .i64 0) 3)) :=
    fun w => make_one 32 3 _ 8 Tryd.underlying32 info3 rfl (by omega) n (by omega) w
  obtain ⟨C1, hC1⟩ : ∃ C, C = (Array.ofFn fun _ : Fin n => Value.int .i64 0) := ⟨_, rfl⟩
  rw [← hC1] at hm1
  have HC1 := Lib.hid hC1
  have e1 : Ext W ((W.alloc (.cells #[.slice A n k, .slice A2 mc k2, .slice A3 m k3] 50)).alloc (.cells #[.slice none 0 0, .slice none 0 0, .slice none 0 0, .slice none 0 0] 93)) := al2 W (.cells #[.slice A n k, .slice A2 mc k2, .slice A3 m k3] 50) (.cells #[.slice none 0 0, .slice none 0 0, .slice none 0 0, .slice none 0 0] 93)
  have hb1 : ((W.alloc (.cells #[.slice A n k, .slice A2 mc k2, .slice A3 m k3] 50)).alloc (.cells #[.slice none 0 0, .slice none 0 0, .slice none 0 0, .slice none 0 0] 93)).heap[W.heap.size]? = some (.cells #[.slice A n k, .slice A2 mc k2, .slice A3 m k3] 50 (0, 0)) := (Below.heap_alloc _ _ _ (by simp)).trans (heap_alloc_new W _)
  have hb2 := heap_alloc_new (W.alloc (.cells #[.slice A n k, .slice A2 mc k2, .slice A3 m k3] 50)) (.cells #[.slice none 0 0, .slice none 0 0, .slice none 0 0, .slice none 0 0] 93)
  simp only [World.size_alloc] at hb2
  have hz : ((W.alloc (.cells #[.slice A n k, .slice A2 mc k2, .slice A3 m k3] 50)).alloc (.cells #[.slice none 0 0, .slice none 0 0, .slice none 0 0, .slice none 0 0] 93)).heap.size = W.heap.size + 1 + 1 := by simp
  clear h hk hE hpr hC1 hk1 hk2 hk3 hk4 hk5 hk6 hk7 hk8
  go_enter Tryd.func88, Tryd.ntmps88
  go_upto_region 1 with fail
  obtain ⟨s, hs⟩ : ∃ s, s = W.heap.size := ⟨_, rfl⟩
  rw [← hs] at hb1 hb2 hz ⊢
  have HS := Lib.hid hs
  generalize (W.alloc (.cells #[.slice A n k, .slice A2 mc k2, .slice A3 m k3] 50)).alloc (.cells #[.slice none 0 0, .slice none 0 0, .slice none 0 0, .slice none 0 0] 93) = W1 at *
  clear hs
  have E1 := Lib.hid e1
  clear e1
  have HB := Lib.hid (And.intro hb1 (And.intro hb2 hz))
  obtain ⟨c0, c1, c2, z0⟩ := three_c hb1
  clear hb1 hb2 hz
  go_region
  · have hcb : (((W1.alloc (.cells C1 3)).alloc (.cells #[.slice A n k, .slice A2 mc k2, .slice A4 n k4, .slice (some ⟨W1.heap.size, 0, none⟩) n n] 93)).drew).heap[W1.heap.size + 1]? = some (.cells #[.slice A n k, .slice A2 mc k2, .slice A4 n k4, .slice (some ⟨W1.heap.size, 0, none⟩) n n] 93 (0, 0)) := by have h1 := heap_alloc_new (W1.alloc (.cells C1 3)) (.cells #[.slice A n k, .slice A2 mc k2, .slice A4 n k4, .slice (some ⟨W1.heap.size, 0, none⟩) n n] 93); simp only [World.size_alloc] at h1; exact h1
    have hg0 : (((W1.alloc (.cells C1 3)).alloc (.cells #[.slice A n k, .slice A2 mc k2, .slice A4 n k4, .slice (some ⟨W1.heap.size, 0, none⟩) n n] 93)).drew).heap[W1.heap.size]? = some (.cells C1 3 (0, 0)) := (Below.heap_alloc _ _ _ (by simp)).trans (heap_alloc_new W1 _)
    have hx1 : Ext W1 (((W1.alloc (.cells C1 3)).alloc (.cells #[.slice A n k, .slice A2 mc k2, .slice A4 n k4, .slice (some ⟨W1.heap.size, 0, none⟩) n n] 93)).drew) := (((Ext.refl W1).alc _).alc _).drw
    obtain ⟨cb, hcb9⟩ : ∃ t, t = W1.heap.size + 1 := ⟨_, rfl⟩
    obtain ⟨g, hg9⟩ : ∃ t, t = W1.heap.size := ⟨_, rfl⟩
    have hcg : cb ≠ g ∧ s + 1 < cb ∧ s + 1 < g := by have := HB.out.2.2; omega
    generalize ((W1.alloc (.cells C1 3)).alloc (.cells #[.slice A n k, .slice A2 mc k2, .slice A4 n k4, .slice (some ⟨W1.heap.size, 0, none⟩) n n] 93)).drew = X at *
    rw [HC1.out] at hg0
    rw [← hcb9] at hcb ⊢
    rw [← hg9] at hcb hg0 ⊢
    have hg : BI X g n (fun t => (ndk a b t 0 : Nat)) := hg0
    clear hcb9 hg9 hg0 c0 c1 c2 z0
    have HCG := Lib.hid hcg
    have HG := Lib.hid (And.intro hx1 (And.intro hcb hg))
    obtain ⟨c0, c1, c2, z0⟩ := three_c HB.out.1
    replace c0 := hx1.at z0 c0
    replace c1 := hx1.at z0 c1
    replace c2 := hx1.at z0 c2
    replace z0 := Nat.lt_of_lt_of_le z0 hx1.size
    clear hcg hx1 hcb hg
    go_wp2_with fail
    go_loopw [7, 21] (fun _ i wr => ∃ j : Nat, i = .int .i64 j ∧ j ≤ m ∧ Hid (Ext W1 wr ∧ wr.heap[cb]? = some (.cells #[.slice A n k, .slice A2 mc k2, .slice A4 n k4, .slice (some ⟨g, 0, none⟩) n n] 93 (0, 0)) ∧ BI wr g n (fun t => (ndk a b t j : Nat)))) (fun _ i _ => m - (intOf i).toNat)
    case atStart => exact ⟨0, rfl, Nat.zero_le _, HG⟩
    case round =>
      clear HG c0 c1 c2 z0
      obtain ⟨j, rfl, hj, hin⟩ := hrel
      by_cases hlt : j < m
      · obtain ⟨pg, po, rfl, zg, hcell⟩ := HPR.out (by omega)
        obtain ⟨q1, q2⟩ := hcell j hlt
        replace q1 := (E1.out.trans hin.out.1).at zg q1
        replace q2 := (E1.out.trans hin.out.1).at zg q2
        have zg2 := Nat.lt_of_lt_of_le zg (E1.out.trans hin.out.1).size
        obtain ⟨ha0, han, hb0, hbn, -⟩ := HK.out.pr j hlt
        obtain ⟨p, hp⟩ : ∃ t : Nat, a j = (t : Int) := ⟨(a j).toNat, by omega⟩
        obtain ⟨q, hq⟩ : ∃ t : Nat, b j = (t : Int) := ⟨(b j).toNat, by omega⟩
        rw [hp] at q1 han
        rw [hq] at q2 hbn
        have hpn : p < n := by omega
        have hqn : q < n := by omega
        have HPQ := Lib.hid (And.intro hp hq)
        clear hcell zg ha0 han hb0 hbn hp hq
        go_upto_region 5 with fail
        have e2 : Ext wr (wr.alloc (.cells #[.int .i64 p, .int .i64 q] 60)) := al1 wr _
        have hb2 := heap_alloc_new wr (.cells #[.int .i64 p, .int .i64 q] 60)
        have hcb := (e2.block cb (Array.getElem?_eq_some_iff.1 hin.out.2.1).1).trans hin.out.2.1
        have hg := hin.out.2.2.ext e2
        have hx3 := hin.out.1.trans e2
        obtain ⟨pb, hpb⟩ : ∃ t, t = wr.heap.size := ⟨_, rfl⟩
        have hpbl : cb ≠ pb := by have := (Array.getElem?_eq_some_iff.1 hin.out.2.1).1; omega
        rw [← hpb] at hb2 ⊢
        generalize wr.alloc (.cells #[.int .i64 p, .int .i64 q] 60) = w4 at *
        obtain ⟨d0, d1, dz, -⟩ := two_c hb2
        obtain ⟨f0, f1, f2, f3, fz⟩ := four_c hcb
        obtain ⟨z, hz9⟩ : ∃ z, z = ndk a b q j := ⟨_, rfl⟩
        have u0 := Bk.cell hg hqn
        dsimp only at u0
        rw [← hz9] at u0
        have uf := Bk.free hg q
        have uz := Bk.lt hg
        have hzl : z < 1024 := by rw [hz9]; exact Nat.lt_of_lt_of_le (ndk_lt (fun i hi => ⟨(HK.out.pr i hi).1, (HK.out.pr i hi).2.1⟩) q j hj) (pow_1024 hn10)
        obtain ⟨px, hpx⟩ : ∃ t : Nat, t = 2 ^ p := ⟨_, rfl⟩
        obtain ⟨zx, hzx⟩ : ∃ t : Nat, t = z ||| 2 ^ p := ⟨_, rfl⟩
        have hpl : px < 1024 := by rw [hpx]; exact Nat.lt_of_lt_of_le (Nat.pow_lt_pow_right (by omega) hpn) (pow_1024 hn10)
        have y1 : (2 : Int) ^ p = (px : Int) := by rw [hpx]; simp
        have y2 : bits .or .i64 (z : Int) (px : Int) = (zx : Int) := by rw [or_nat hzl hpl, hzx, hpx]
        have y4 : IntKind.i64.wrap (px : Int) = (px : Int) := IntWalk.i64_in _ (by omega)
        have hgs : BI (w4.setCell ⟨g, q, none⟩ (.int .i64 zx)) g n (fun t => (ndk a b t (j + 1) : Nat)) := by
          refine Bk.congr (BI.set_ hg q zx) fun i hi => ?_
          dsimp only
          congr 1
          have hnd : ndk a b i (j + 1) = if b j = (i : Int) then ndk a b i j ||| 2 ^ (a j).toNat else ndk a b i j := rfl
          rw [hnd, HPQ.out.1, HPQ.out.2, Int.toNat_natCast]
          by_cases e : i = q
          · subst e
            rw [up_self, if_pos rfl, hzx, hz9]
          · rw [up_ne _ _ e, if_neg (by omega)]
        have hcs := (heap_far (Y := w4) (g := g) (i := q) (v := .int .i64 zx) HCG.out.1).trans hcb
        have hxs : Ext W1 (w4.setCell ⟨g, q, none⟩ (.int .i64 zx)) := hx3.sc (by have := HCG.out; have := HB.out.2.2; omega)
        have HN := Lib.hid (And.intro hxs (And.intro hcs hgs))
        clear hgs hcs hxs hx3 hg hcb e2 hin hzl hpx hzx hz9 hpl hb2 hpb hpbl q1 q2 zg2
        go_region
        go_wp2
        go_roundw
        case rel => exact ⟨j + 1, by go_num, by omega, Lib.hid ⟨HN.out.1.drw, HN.out.2.1, Bk.drew HN.out.2.2⟩⟩
        case measure => simp [intOf] <;> omega
      · obtain rfl : j = m := by omega
        have hx9 : ¬ (j : Int) < (j : Int) := by omega
        obtain ⟨f0, f1, f2, f3, fz⟩ := four_c hin.out.2.1
        obtain ⟨g0, g1, g2, g3, gz⟩ := four_c HB.out.2.1
        have gh := (hin.out.1.block (s + 1) gz).trans HB.out.2.1
        have gf : ∀ o, wr.frozen? ⟨s + 1, o, none⟩ = false := fun o => by simp [World.frozen?, gh]
        clear gh
        replace g0 := hin.out.1.at gz g0
        replace g1 := hin.out.1.at gz g1
        replace g2 := hin.out.1.at gz g2
        replace g3 := hin.out.1.at gz g3
        go_wp2
        refine bodyPost_ret (v := .agg #[.slice A n k, .slice A2 mc k2, .slice A4 n k4, .slice (some ⟨g, 0, none⟩) n n]) (by simp [results, Tryd.results88, go_sem, g0, g1, g2, g3]) rfl ?_
        have hse := HS.out
        have hxx := ((((E1.out.trans hin.out.1).sc (g := s + 1) (i := 0) (v := .slice A n k) (by omega)).sc (g := s + 1) (i := 1) (v := .slice A2 mc k2) (by omega)).sc (g := s + 1) (i := 2) (v := .slice A4 n k4) (by omega)).sc (g := s + 1) (i := 3) (v := .slice (some ⟨g, 0, none⟩) n n) (by omega)
        have hgne : g ≠ s + 1 := by have := HCG.out; omega
        refine ⟨_, rfl, ⟨Vl.ext HV.out.vs hxx, (HV.out.vc.ext hxx).mt' HK.out.mn HK.out.ln, Vl.ext HE.out hxx, ?_⟩, hxx⟩
        exact BI.il (Bk.far (Bk.far (Bk.far (Bk.far hin.out.2.2 hgne _) hgne _) hgne _) hgne _) (by omega)
  · have hcb : (((W1.alloc (.cells #[.slice A n k, .slice A2 mc k2, .slice A4 n k4, .slice (some ⟨W1.heap.size + 1, 0, none⟩) n n] 93)).alloc (.cells C1 3)).drew).heap[W1.heap.size]? = some (.cells #[.slice A n k, .slice A2 mc k2, .slice A4 n k4, .slice (some ⟨W1.heap.size + 1, 0, none⟩) n n] 93 (0, 0)) := (Below.heap_alloc _ _ _ (by simp)).trans (heap_alloc_new W1 _)
    have hg0 : (((W1.alloc (.cells #[.slice A n k, .slice A2 mc k2, .slice A4 n k4, .slice (some ⟨W1.heap.size + 1, 0, none⟩) n n] 93)).alloc (.cells C1 3)).drew).heap[W1.heap.size + 1]? = some (.cells C1 3 (0, 0)) := by have h1 := heap_alloc_new (W1.alloc (.cells #[.slice A n k, .slice A2 mc k2, .slice A4 n k4, .slice (some ⟨W1.heap.size + 1, 0, none⟩) n n] 93)) (.cells C1 3); simp only [World.size_alloc] at h1; exact h1
    have hx1 : Ext W1 (((W1.alloc (.cells #[.slice A n k, .slice A2 mc k2, .slice A4 n k4, .slice (some ⟨W1.heap.size + 1, 0, none⟩) n n] 93)).alloc (.cells C1 3)).drew) := (((Ext.refl W1).alc _).alc _).drw
    obtain ⟨cb, hcb9⟩ : ∃ t, t = W1.heap.size := ⟨_, rfl⟩
    obtain ⟨g, hg9⟩ : ∃ t, t = W1.heap.size + 1 := ⟨_, rfl⟩
    have hcg : cb ≠ g ∧ s + 1 < cb ∧ s + 1 < g := by have := HB.out.2.2; omega
    generalize ((W1.alloc (.cells #[.slice A n k, .slice A2 mc k2, .slice A4 n k4, .slice (some ⟨W1.heap.size + 1, 0, none⟩) n n] 93)).alloc (.cells C1 3)).drew = X at *
    rw [HC1.out] at hg0
    rw [← hg9] at hcb hg0 ⊢
    rw [← hcb9] at hcb ⊢
    have hg : BI X g n (fun t => (ndk a b t 0 : Nat)) := hg0
    clear hcb9 hg9 hg0 c0 c1 c2 z0
    have HCG := Lib.hid hcg
    have HG := Lib.hid (And.intro hx1 (And.intro hcb hg))
    obtain ⟨c0, c1, c2, z0⟩ := three_c HB.out.1
    replace c0 := hx1.at z0 c0
    replace c1 := hx1.at z0 c1
    replace c2 := hx1.at z0 c2
    replace z0 := Nat.lt_of_lt_of_le z0 hx1.size
    clear hcg hx1 hcb hg
    go_wp2_with fail
    go_loopw [7, 21] (fun _ i wr => ∃ j : Nat, i = .int .i64 j ∧ j ≤ m ∧ Hid (Ext W1 wr ∧ wr.heap[cb]? = some (.cells #[.slice A n k, .slice A2 mc k2, .slice A4 n k4, .slice (some ⟨g, 0, none⟩) n n] 93 (0, 0)) ∧ BI wr g n (fun t => (ndk a b t j : Nat)))) (fun _ i _ => m - (intOf i).toNat)
    case atStart => exact ⟨0, rfl, Nat.zero_le _, HG⟩
    case round =>
      clear HG c0 c1 c2 z0
      obtain ⟨j, rfl, hj, hin⟩ := hrel
      by_cases hlt : j < m
      · obtain ⟨pg, po, rfl, zg, hcell⟩ := HPR.out (by omega)
        obtain ⟨q1, q2⟩ := hcell j hlt
        replace q1 := (E1.out.trans hin.out.1).at zg q1
        replace q2 := (E1.out.trans hin.out.1).at zg q2
        have zg2 := Nat.lt_of_lt_of_le zg (E1.out.trans hin.out.1).size
        obtain ⟨ha0, han, hb0, hbn, -⟩ := HK.out.pr j hlt
        obtain ⟨p, hp⟩ : ∃ t : Nat, a j = (t : Int) := ⟨(a j).toNat, by omega⟩
        obtain ⟨q, hq⟩ : ∃ t : Nat, b j = (t : Int) := ⟨(b j).toNat, by omega⟩
        rw [hp] at q1 han
        rw [hq] at q2 hbn
        have hpn : p < n := by omega
        have hqn : q < n := by omega
        have HPQ := Lib.hid (And.intro hp hq)
        clear hcell zg ha0 han hb0 hbn hp hq
        go_upto_region 5 with fail
        have e2 : Ext wr (wr.alloc (.cells #[.int .i64 p, .int .i64 q] 60)) := al1 wr _
        have hb2 := heap_alloc_new wr (.cells #[.int .i64 p, .int .i64 q] 60)
        have hcb := (e2.block cb (Array.getElem?_eq_some_iff.1 hin.out.2.1).1).trans hin.out.2.1
        have hg := hin.out.2.2.ext e2
        have hx3 := hin.out.1.trans e2
        obtain ⟨pb, hpb⟩ : ∃ t, t = wr.heap.size := ⟨_, rfl⟩
        have hpbl : cb ≠ pb := by have := (Array.getElem?_eq_some_iff.1 hin.out.2.1).1; omega
        rw [← hpb] at hb2 ⊢
        generalize wr.alloc (.cells #[.int .i64 p, .int .i64 q] 60) = w4 at *
        obtain ⟨d0, d1, dz, -⟩ := two_c hb2
        obtain ⟨f0, f1, f2, f3, fz⟩ := four_c hcb
        obtain ⟨z, hz9⟩ : ∃ z, z = ndk a b q j := ⟨_, rfl⟩
        have u0 := Bk.cell hg hqn
        dsimp only at u0
        rw [← hz9] at u0
        have uf := Bk.free hg q
        have uz := Bk.lt hg
        have hzl : z < 1024 := by rw [hz9]; exact Nat.lt_of_lt_of_le (ndk_lt (fun i hi => ⟨(HK.out.pr i hi).1, (HK.out.pr i hi).2.1⟩) q j hj) (pow_1024 hn10)
        obtain ⟨px, hpx⟩ : ∃ t : Nat, t = 2 ^ p := ⟨_, rfl⟩
        obtain ⟨zx, hzx⟩ : ∃ t : Nat, t = z ||| 2 ^ p := ⟨_, rfl⟩
        have hpl : px < 1024 := by rw [hpx]; exact Nat.lt_of_lt_of_le (Nat.pow_lt_pow_right (by omega) hpn) (pow_1024 hn10)
        have y1 : (2 : Int) ^ p = (px : Int) := by rw [hpx]; simp
        have y2 : bits .or .i64 (z : Int) (px : Int) = (zx : Int) := by rw [or_nat hzl hpl, hzx, hpx]
        have y4 : IntKind.i64.wrap (px : Int) = (px : Int) := IntWalk.i64_in _ (by omega)
        have hgs : BI (w4.setCell ⟨g, q, none⟩ (.int .i64 zx)) g n (fun t => (ndk a b t (j + 1) : Nat)) := by
          refine Bk.congr (BI.set_ hg q zx) fun i hi => ?_
          dsimp only
          congr 1
          have hnd : ndk a b i (j + 1) = if b j = (i : Int) then ndk a b i j ||| 2 ^ (a j).toNat else ndk a b i j := rfl
          rw [hnd, HPQ.out.1, HPQ.out.2, Int.toNat_natCast]
          by_cases e : i = q
          · subst e
            rw [up_self, if_pos rfl, hzx, hz9]
          · rw [up_ne _ _ e, if_neg (by omega)]
        have hcs := (heap_far (Y := w4) (g := g) (i := q) (v := .int .i64 zx) HCG.out.1).trans hcb
        have hxs : Ext W1 (w4.setCell ⟨g, q, none⟩ (.int .i64 zx)) := hx3.sc (by have := HCG.out; have := HB.out.2.2; omega)
        have HN := Lib.hid (And.intro hxs (And.intro hcs hgs))
        clear hgs hcs hxs hx3 hg hcb e2 hin hzl hpx hzx hz9 hpl hb2 hpb hpbl q1 q2 zg2
        go_region
        go_wp2
        go_roundw
        case rel => exact ⟨j + 1, by go_num, by omega, Lib.hid ⟨HN.out.1.drw, HN.out.2.1, Bk.drew HN.out.2.2⟩⟩
        case measure => simp [intOf] <;> omega
      · obtain rfl : j = m := by omega
        have hx9 : ¬ (j : Int) < (j : Int) := by omega
        obtain ⟨f0, f1, f2, f3, fz⟩ := four_c hin.out.2.1
        obtain ⟨g0, g1, g2, g3, gz⟩ := four_c HB.out.2.1
        have gh := (hin.out.1.block (s + 1) gz).trans HB.out.2.1
        have gf : ∀ o, wr.frozen? ⟨s + 1, o, none⟩ = false := fun o => by simp [World.frozen?, gh]
        clear gh
        replace g0 := hin.out.1.at gz g0
        replace g1 := hin.out.1.at gz g1
        replace g2 := hin.out.1.at gz g2
        replace g3 := hin.out.1.at gz g3
        go_wp2
        refine bodyPost_ret (v := .agg #[.slice A n k, .slice A2 mc k2, .slice A4 n k4, .slice (some ⟨g, 0, none⟩) n n]) (by simp [results, Tryd.results88, go_sem, g0, g1, g2, g3]) rfl ?_
        have hse := HS.out
        have hxx := ((((E1.out.trans hin.out.1).sc (g := s + 1) (i := 0) (v := .slice A n k) (by omega)).sc (g := s + 1) (i := 1) (v := .slice A2 mc k2) (by omega)).sc (g := s + 1) (i := 2) (v := .slice A4 n k4) (by omega)).sc (g := s + 1) (i := 3) (v := .slice (some ⟨g, 0, none⟩) n n) (by omega)
        have hgne : g ≠ s + 1 := by have := HCG.out; omega
        refine ⟨_, rfl, ⟨Vl.ext HV.out.vs hxx, (HV.out.vc.ext hxx).mt' HK.out.mn HK.out.ln, Vl.ext HE.out hxx, ?_⟩, hxx⟩
        exact BI.il (Bk.far (Bk.far (Bk.far (Bk.far hin.out.2.2 hgne _) hgne _) hgne _) hgne _) (by omega)
end Go.Proofs.YtlachbodibajlaaDoor
namespace Go.Proofs.YtlachbodibajlaaDoor
open Go.RowKit Go.Shelf

set_option maxHeartbeats 4000000 in
set_option maxRecDepth 100000 in
theorem planCourse_no (S C B : Value) (n mc m : Nat) (st : Nat → Int) (ln : Nat → Nat) (y : Nat → Nat → Int) (a b : Nat → Int) (W : World) (h : Pv W S C B n mc m st ln y a b) (hno : okPlan n mc m st ln y a b = false) :
    Calls Tryd.prog 68 #[.agg #[S, C, B]] W fun e W' => e = .returned (.tuple #[.agg #[.slice none 0 0, .slice none 0 0, .slice none 0 0, .slice none 0 0], .bool false]) ∧ Ext W W' := by
  have HV := Lib.hid h
  have HIP := Lib.hid fun X hX => isPlan_any S C B n mc m st ln y a b X hX
  obtain ⟨A, k, rfl, -⟩ := id h.vs
  obtain ⟨A2, k2, rfl, -⟩ := id h.vc
  obtain ⟨A3, k3, rfl, -⟩ := id h.vb
  have e1 : Ext W ((W.alloc (.cells #[.slice A n k, .slice A2 mc k2, .slice A3 m k3] 50)).alloc (.cells #[.slice none 0 0, .slice none 0 0, .slice none 0 0, .slice none 0 0] 93)) := al2 W (.cells #[.slice A n k, .slice A2 mc k2, .slice A3 m k3] 50) (.cells #[.slice none 0 0, .slice none 0 0, .slice none 0 0, .slice none 0 0] 93)
  have hb1 : ((W.alloc (.cells #[.slice A n k, .slice A2 mc k2, .slice A3 m k3] 50)).alloc (.cells #[.slice none 0 0, .slice none 0 0, .slice none 0 0, .slice none 0 0] 93)).heap[W.heap.size]? = some (.cells #[.slice A n k, .slice A2 mc k2, .slice A3 m k3] 50 (0, 0)) := (Below.heap_alloc _ _ _ (by simp)).trans (heap_alloc_new W _)
  have hb2 := heap_alloc_new (W.alloc (.cells #[.slice A n k, .slice A2 mc k2, .slice A3 m k3] 50)) (.cells #[.slice none 0 0, .slice none 0 0, .slice none 0 0, .slice none 0 0] 93)
  simp only [World.size_alloc] at hb2
  have hz : ((W.alloc (.cells #[.slice A n k, .slice A2 mc k2, .slice A3 m k3] 50)).alloc (.cells #[.slice none 0 0, .slice none 0 0, .slice none 0 0, .slice none 0 0] 93)).heap.size = W.heap.size + 1 + 1 := by simp
  clear h
  go_enter Tryd.func68, Tryd.ntmps68
  go_upto_region 1 with fail
  obtain ⟨s, hs⟩ : ∃ s, s = W.heap.size := ⟨_, rfl⟩
  rw [← hs] at hb1 hb2 hz ⊢
  have HS := Lib.hid hs
  generalize (W.alloc (.cells #[.slice A n k, .slice A2 mc k2, .slice A3 m k3] 50)).alloc (.cells #[.slice none 0 0, .slice none 0 0, .slice none 0 0, .slice none 0 0] 93) = W1 at *
  clear hs
  have E1 := Lib.hid e1
  clear e1
  have HB := Lib.hid (And.intro hb1 (And.intro hb2 hz))
  obtain ⟨c0, c1, c2, z0⟩ := three_c hb1
  clear hb1 hb2 hz
  go_wp2_with fail
  refine (HIP.out _ (HV.out.ext E1.out)).mono ?_
  rintro e w2 ⟨rfl, hx⟩
  rw [hno]
  replace c0 := hx.at z0 c0
  replace c1 := hx.at z0 c1
  replace c2 := hx.at z0 c2
  replace z0 := Nat.lt_of_lt_of_le z0 hx.size
  have HX := Lib.hid hx
  clear hx
  have gz : s + 1 < W1.heap.size := by have := HB.out.2.2; omega
  have gh := (HX.out.block (s + 1) gz).trans HB.out.2.1
  obtain ⟨g0, g1, g2, g3, -⟩ := four_c gh
  have gf : ∀ o, w2.frozen? ⟨s + 1, o, none⟩ = false := fun o => by simp [World.frozen?, gh]
  clear gh
  go_wp2
  refine bodyPost_ret (v := .tuple #[.agg #[.slice none 0 0, .slice none 0 0, .slice none 0 0, .slice none 0 0], .bool false]) (by simp [results, Tryd.results68, go_sem, g0, g1, g2, g3]) rfl ?_
  have hse := HS.out
  exact ⟨rfl, ((((E1.out.trans HX.out).sc (g := s + 1) (i := 0) (v := .slice none 0 0) (by omega)).sc (g := s + 1) (i := 1) (v := .slice none 0 0) (by omega)).sc (g := s + 1) (i := 2) (v := .slice none 0 0) (by omega)).sc (g := s + 1) (i := 3) (v := .slice none 0 0) (by omega)⟩

theorem il_apart {w : World} {n c k : Nat} {A : Option Addr} {x : Nat → Int} (h : Il w (.slice A n c) n x) (hn : 0 < n) (hk : w.heap[k]? = some (.cells #[.slice none 0 0, .slice none 0 0, .slice none 0 0, .slice none 0 0] 93 (0, 0))) : ∀ g, (Value.slice A n c).ownBlock = some g → g ≠ k := by
  obtain ⟨A', c', e, h1, h2, h3⟩ := h
  obtain ⟨b, o, rfl, hb, hc⟩ := h3 hn
  injection e with e1 _ _
  subst e1
  intro g hg e
  simp [Value.ownBlock] at hg
  subst hg
  subst e
  have h4 := hc 0 hn
  rw [cell_of_row w b (o + 0) _ 93 (0, 0) hk] at h4
  match o with
  | 0 => simp at h4
  | 1 => simp at h4
  | 2 => simp at h4
  | 3 => simp at h4
  | o + 4 => simp at h4
theorem il_sc4 {w : World} {n k : Nat} {v : Value} {x : Nat → Int} (h : Il w v n x) (hk : ∀ g, v.ownBlock = some g → g ≠ k) (u0 u1 u2 u3 : Value) :
    Il ((((w.setCell ⟨k, 0, none⟩ u0).setCell ⟨k, 1, none⟩ u1).setCell ⟨k, 2, none⟩ u2).setCell ⟨k, 3, none⟩ u3) v n x := by
  obtain ⟨A, c, rfl, h1, h2, h3⟩ := h
  refine ⟨A, c, rfl, h1, h2, fun hp => ?_⟩
  obtain ⟨b, o, rfl, hb, hc⟩ := h3 hp
  have hne : b ≠ k := hk b rfl
  refine ⟨b, o, rfl, by simpa [World.setCell] using hb, fun j hj => ?_⟩
  refine (World.cell?_of_block ?_).trans (hc j hj)
  exact (heap_far hne).trans ((heap_far hne).trans ((heap_far hne).trans (heap_far hne)))

set_option maxHeartbeats 4000000 in
set_option maxRecDepth 100000 in
theorem planCourse_yes (S C B : Value) (n mc m : Nat) (st : Nat → Int) (ln : Nat → Nat) (y : Nat → Nat → Int) (a b : Nat → Int) (W : World) (h : Pv W S C B n mc m st ln y a b) (hk : Okp n mc m st ln y a b) :
    Calls Tryd.prog 68 #[.agg #[S, C, B]] W fun e W' => ∃ E N, e = .returned (.tuple #[.agg #[S, C, E, N], .bool true]) ∧ Cv W' S C E N (crs n m st y a b) ∧ Ext W W' := by
  have hn10 := hk.n10
  have HK := Lib.hid hk
  have hok := okPlan_iff.2 hk
  have hm1 : ∀ w, (Instr.makeSlice 32 (.int .i64 (n : Int)) (.int .i64 (n : Int))).run Tryd.prog w = .ok (.slice (some ⟨w.heap.size, 0, none⟩) n n) (w.alloc (.cells (Array.ofFn fun _ : Fin n => .int .i64 0) 3)) :=
    fun w => make_one 32 3 _ 8 Tryd.underlying32 info3 rfl (by omega) n (by omega) w
  obtain ⟨C1, hC1⟩ : ∃ C, C = (Array.ofFn fun _ : Fin n => Value.int .i64 0) := ⟨_, rfl⟩
  rw [← hC1] at hm1
  have HC1 := Lib.hid hC1
  have HCO := Lib.hid fun E X hX hE => courseOf_any S C B E n mc m st ln y a b X hX hk hE
  clear hk hC1
  have HV := Lib.hid h
  have HIP := Lib.hid fun X hX => isPlan_any S C B n mc m st ln y a b X hX
  obtain ⟨A, k, rfl, -⟩ := id h.vs
  obtain ⟨A2, k2, rfl, -⟩ := id h.vc
  obtain ⟨A3, k3, rfl, -⟩ := id h.vb
  have e1 : Ext W ((W.alloc (.cells #[.slice A n k, .slice A2 mc k2, .slice A3 m k3] 50)).alloc (.cells #[.slice none 0 0, .slice none 0 0, .slice none 0 0, .slice none 0 0] 93)) := al2 W (.cells #[.slice A n k, .slice A2 mc k2, .slice A3 m k3] 50) (.cells #[.slice none 0 0, .slice none 0 0, .slice none 0 0, .slice none 0 0] 93)
  have hb1 : ((W.alloc (.cells #[.slice A n k, .slice A2 mc k2, .slice A3 m k3] 50)).alloc (.cells #[.slice none 0 0, .slice none 0 0, .slice none 0 0, .slice none 0 0] 93)).heap[W.heap.size]? = some (.cells #[.slice A n k, .slice A2 mc k2, .slice A3 m k3] 50 (0, 0)) := (Below.heap_alloc _ _ _ (by simp)).trans (heap_alloc_new W _)
  have hb2 := heap_alloc_new (W.alloc (.cells #[.slice A n k, .slice A2 mc k2, .slice A3 m k3] 50)) (.cells #[.slice none 0 0, .slice none 0 0, .slice none 0 0, .slice none 0 0] 93)
  simp only [World.size_alloc] at hb2
  have hz : ((W.alloc (.cells #[.slice A n k, .slice A2 mc k2, .slice A3 m k3] 50)).alloc (.cells #[.slice none 0 0, .slice none 0 0, .slice none 0 0, .slice none 0 0] 93)).heap.size = W.heap.size + 1 + 1 := by simp
  clear h
  go_enter Tryd.func68, Tryd.ntmps68
  go_upto_region 1 with fail
  obtain ⟨s, hs⟩ : ∃ s, s = W.heap.size := ⟨_, rfl⟩
  rw [← hs] at hb1 hb2 hz ⊢
  have HS := Lib.hid hs
  generalize (W.alloc (.cells #[.slice A n k, .slice A2 mc k2, .slice A3 m k3] 50)).alloc (.cells #[.slice none 0 0, .slice none 0 0, .slice none 0 0, .slice none 0 0] 93) = W1 at *
  clear hs
  have E1 := Lib.hid e1
  clear e1
  have HB := Lib.hid (And.intro hb1 (And.intro hb2 hz))
  obtain ⟨c0, c1, c2, z0⟩ := three_c hb1
  clear hb1 hb2 hz
  go_wp2_with fail
  refine (HIP.out _ (HV.out.ext E1.out)).mono ?_
  rintro e w2 ⟨rfl, hx⟩
  rw [hok]
  replace c0 := hx.at z0 c0
  replace c1 := hx.at z0 c1
  replace c2 := hx.at z0 c2
  replace z0 := Nat.lt_of_lt_of_le z0 hx.size
  have HX := Lib.hid hx
  clear hx
  clear hok
  go_upto_region 3 with fail
  refine wp_region_noPanic ?_
  refine wp_split (S := fun X => Ext w2 X) 6 (by kernel_rfl) (by kernel_rfl) (Ext.drw (Ext.refl _)) ?_
  simp only [List.take_succ_cons, List.take_zero, List.drop_succ_cons, List.drop_zero]
  refine take_at 0 (some 8) (.agg #[.slice A n k, .slice A2 mc k2, .slice A3 m k3]) rfl rfl (by kernel_rfl) (by kernel_rfl) (by kernel_rfl) (fun _ _ _ h => h) (Or.inl ⟨by rfl, fun w' hSw => ?_⟩) (Ext.drw (Ext.refl _)) ?_
  · have m0 := keepAt hSw z0 c0
    have m1 := keepAt hSw z0 c1
    have m2 := keepAt hSw z0 c2
    try clear hSw
    go_simp
    all_goals (with_reducible rfl)
  try simp only [Act.put, List.setIfInBounds_toArray, List.set_cons_zero, List.set_cons_succ]
  refine take_at 1 (some 9) (.pointer (some ⟨s, 0, none⟩)) rfl rfl (by kernel_rfl) (by kernel_rfl) (by kernel_rfl) (fun _ _ _ h => h) (Or.inl ⟨by rfl, fun w' hSw => ?_⟩) (Ext.drw (Ext.refl _)) ?_
  · skip
    try clear hSw
    go_simp
    all_goals (with_reducible rfl)
  try simp only [Act.put, List.setIfInBounds_toArray, List.set_cons_zero, List.set_cons_succ]
  refine take_at 2 (some 10) (.slice A n k) rfl rfl (by kernel_rfl) (by kernel_rfl) (by kernel_rfl) (fun _ _ _ h => h) (Or.inl ⟨by rfl, fun w' hSw => ?_⟩) (Ext.drw (Ext.refl _)) ?_
  · have m0 := keepAt hSw z0 c0
    have m1 := keepAt hSw z0 c1
    have m2 := keepAt hSw z0 c2
    try clear hSw
    go_simp
    all_goals (with_reducible rfl)
  try simp only [Act.put, List.setIfInBounds_toArray, List.set_cons_zero, List.set_cons_succ]
  refine take_at 3 (some 11) (.int .i64 (n : Nat)) rfl rfl (by kernel_rfl) (by kernel_rfl) (by kernel_rfl) (fun _ _ _ h => h) (Or.inl ⟨by rfl, fun w' hSw => ?_⟩) (Ext.drw (Ext.refl _)) ?_
  · skip
    try clear hSw
    go_simp
    all_goals (with_reducible rfl)
  try simp only [Act.put, List.setIfInBounds_toArray, List.set_cons_zero, List.set_cons_succ]
  refine wpAnyH_ready (rs := [4]) (by kernel_rfl) (by simp) ?_
  refine AllReadyH.cons rfl (fun K hK => ?_) AllReadyH.nil
  go_simp
  refine hK.out _ _ (Ext.alc (Ext.drw (Ext.refl _)) _) (fun _ => ?_)
  clear hK K
  try simp only [Act.put, List.setIfInBounds_toArray, List.set_cons_zero, List.set_cons_succ]
  obtain ⟨sE, hsE⟩ : ∃ t, t = w2.heap.size := ⟨_, rfl⟩
  have hbE : (w2.alloc (.cells C1 3)).drew.heap[w2.heap.size]? = some (.cells C1 3 (0, 0)) := heap_alloc_new w2 (.cells C1 3)
  have e4 : Ext w2 (w2.alloc (.cells C1 3)).drew := Ext.drw (Ext.alc (Ext.refl _) _)
  rw [← hsE] at hbE ⊢
  generalize (w2.alloc (.cells C1 3)).drew = w3 at *
  rw [HC1.out] at hbE
  have hE : BI w3 sE n (fun _ => 0) := hbE
  have HEI := Lib.hid (BI.il hE (by omega))
  clear hbE hE hsE
  refine wpAnyH_ready (rs := [5]) (by kernel_rfl) (by simp) ?_
  refine AllReadyH.cons rfl (fun K hK => ?_) AllReadyH.nil
  go_simp
  refine (HCO.out _ _ (HV.out.ext (E1.out.trans (HX.out.trans e4))) HEI.out).mono ?_
  rintro e w4 ⟨N, rfl, hcv, hx5⟩
  have e5 : Ext w2 w4 := e4.trans hx5
  try go_wp2_with fail
  refine hK.out _ _ e5 (fun _ => ?_)
  clear hK K
  try simp only [Act.put, List.setIfInBounds_toArray, List.set_cons_zero, List.set_cons_succ]
  refine wpAnyH_done (by kernel_rfl) ?_ _
  refine cut_normal ?_
  obtain ⟨A4, k4, rfl⟩ : ∃ A k, N = .slice A n k := by
    obtain ⟨A, k, e, -⟩ := hcv.vn
    exact ⟨A, k, e⟩
  have HCV := Lib.hid hcv
  have HX4 := Lib.hid (HX.out.trans e5)
  clear hx5 e4 e5 hcv c0 c1 c2 z0
  have gz : s + 1 < W1.heap.size := by have := HB.out.2.2; omega
  have gh := (HX4.out.block (s + 1) gz).trans HB.out.2.1
  obtain ⟨g0, g1, g2, g3, -⟩ := four_c gh
  have gf : ∀ o, w4.frozen? ⟨s + 1, o, none⟩ = false := fun o => by simp [World.frozen?, gh]
  have GH := Lib.hid gh
  clear gh
  go_wp2_with fail
  refine NoPanic.normal ?_
  go_wp2
  refine bodyPost_ret (v := .tuple #[.agg #[.slice A n k, .slice A2 mc k2, .slice (some ⟨sE, 0, none⟩) n n, .slice A4 n k4], .bool true]) (by simp [results, Tryd.results68, go_sem, g0, g1, g2, g3]) rfl ?_
  have hse := HS.out
  have hxx := ((((E1.out.trans HX4.out).sc (g := s + 1) (i := 0) (v := .slice A n k) (by omega)).sc (g := s + 1) (i := 1) (v := .slice A2 mc k2) (by omega)).sc (g := s + 1) (i := 2) (v := .slice (some ⟨sE, 0, none⟩) n n) (by omega)).sc (g := s + 1) (i := 3) (v := .slice A4 n k4) (by omega)
  refine ⟨_, _, rfl, ⟨Vl.ext HV.out.vs hxx, (HV.out.vc.ext hxx).mt' HK.out.mn HK.out.ln, ?_, ?_⟩, hxx⟩
  · exact il_sc4 HCV.out.ve (il_apart HCV.out.ve HK.out.n1 GH.out) _ _ _ _
  · exact il_sc4 HCV.out.vn (il_apart HCV.out.vn HK.out.n1 GH.out) _ _ _ _
end Go.Proofs.YtlachbodibajlaaDoor
