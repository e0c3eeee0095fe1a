/- The prices of a cloth: mathematics. · Walks: settle. -/
import Derived.Test.YtilcbbdmenknfaaM25
import Derived.Test.YtilcbbdmenknfaaM18
import Derived.Test.YtilcbbdmenknfaaM23
import Derived.Test.YtilcbbdmenknfaaM17
namespace Go.Proofs.Ytilcbbdmenknfaa
open Go.RowKit

/-- there is a minimum side -/
theorem ms_ex (G : Nw) (hc : ∀ k, k < G.m → 0 ≤ G.cp k) {s t : Nat} (hst : s ≠ t) : ∃ S, Ms G s t S := by
  have hnn : ∀ T, 0 ≤ G.ct T := fun T => sm_nonneg fun k hk => by
    split
    · exact hc k hk
    · omega
  have key : ∀ n : Nat, ∀ S, Nw.Sd s t S → G.ct S ≤ n → ∃ S, Ms G s t S := by
    intro n
    induction n with
    | zero =>
      intro S hS h0
      exact ⟨S, hS, fun T _ => by have := hnn T; omega⟩
    | succ n ih =>
      intro S hS hn
      by_cases h : ∃ T, Nw.Sd s t T ∧ G.ct T < G.ct S
      · obtain ⟨T, hT, hlt⟩ := h
        exact ih T hT (by omega)
      · exact ⟨S, hS, fun T hT => by
          rcases Int.lt_or_le (G.ct T) (G.ct S) with h1 | h1
          · exact absurd ⟨T, hT, h1⟩ h
          · exact h1⟩
  exact key (G.ct (fun v => decide (v = s))).toNat (fun v => decide (v = s)) ⟨by simp, by simp; omega⟩ (by omega)
theorem ms_or {G : Nw} (hc : ∀ k, k < G.m → 0 ≤ G.cp k) {s t : Nat} {S T : Nat → Bool} (hS : Ms G s t S) (hT : Ms G s t T) : Ms G s t (fun v => S v || T v) := by
  have hm := ct_modular G hc S T
  have h1 := hS.le (fun v => S v && T v) ⟨by simp [hS.sd.1, hT.sd.1], by simp [hS.sd.2]⟩
  refine ⟨⟨by simp [hS.sd.1], by simp [hS.sd.2, hT.sd.2]⟩, fun U hU => ?_⟩
  have h2 := hT.le U hU
  omega
/-- there is a greatest one -/
theorem gst_ex (G : Nw) (hc : ∀ k, k < G.m → 0 ≤ G.cp k) (N : Nat) {s t : Nat} (hst : s ≠ t) : ∃ L, Gst G N s t L := by
  have key : ∀ k, ∃ L, Ms G s t L ∧ ∀ S, Ms G s t S → ∀ v, v < k → S v = true → L v = true := by
    intro k
    induction k with
    | zero =>
      obtain ⟨L, hL⟩ := ms_ex G hc hst
      exact ⟨L, hL, fun _ _ v hv => by omega⟩
    | succ k ih =>
      obtain ⟨L, hL, hm⟩ := ih
      by_cases h : ∃ T, Ms G s t T ∧ T k = true
      · obtain ⟨T, hT, hk⟩ := h
        refine ⟨_, ms_or hc hL hT, fun S hS v hv hSv => ?_⟩
        by_cases e : v = k
        · subst e; simp [hk]
        · simp [hm S hS v (by omega) hSv]
      · refine ⟨L, hL, fun S hS v hv hSv => ?_⟩
        by_cases e : v = k
        · subst e; exact absurd ⟨S, hS, hSv⟩ h
        · exact hm S hS v (by omega) hSv
  exact key N
theorem gst_one {G : Nw} {N s t : Nat} {L M : Nat → Bool} (h : Gst G N s t L) (k : Gst G N s t M) : ∀ v, v < N → L v = M v := by
  intro v hv
  have h1 := h.2 M k.1 v hv
  have h2 := k.2 L h.1 v hv
  cases a : L v <;> cases b : M v <;> simp_all
theorem nwa_c0 {c : Cl} (hc : vCl c = true) {r : Int} (h1 : -100000 ≤ r) (h2 : r ≤ 100000) : ∀ k, k < (c.nwa r).nw.m → 0 ≤ (c.nwa r).nw.cp k := fun k hk => (nwa_ok hc h1 h2).c0 k hk
/-- the side of a labelling -/
def lsd (n : Nat) (l : Nat → Bool) : Nat → Bool := fun v => if v < n then l v else decide (v = n)
theorem lsd_sd (n : Nat) (l : Nat → Bool) : Nw.Sd n (n + 1) (lsd n l) := by
  unfold lsd
  refine ⟨?_, ?_⟩
  · dsimp only; rw [if_neg (by omega)]; simp
  · dsimp only; rw [if_neg (by omega)]; simp
theorem lsd_in {n : Nat} (l : Nat → Bool) {k : Nat} (hk : k < n) : lsd n l k = l k := by unfold lsd; rw [if_pos hk]
theorem ms_en {c : Cl} (hc : vCl c = true) {r : Int} {M : Nat → Bool} (hM : Ms (c.nwa r).nw c.nb (c.nb + 1) M) (l : Nat → Bool) : c.en r M ≤ c.en r l := by
  have e2 := ct_en hc r hM.sd
  have e3 := ct_en hc r (lsd_sd c.nb l)
  have e4 := en_congr hc r (s := lsd c.nb l) (t := l) (fun k hk => lsd_in l hk)
  have l3 := hM.le _ (lsd_sd c.nb l)
  omega
theorem en_ms {c : Cl} (hc : vCl c = true) {r : Int} {l : Nat → Bool} (h : ∀ m, c.en r l ≤ c.en r m) : Ms (c.nwa r).nw c.nb (c.nb + 1) (lsd c.nb l) := by
  refine ⟨lsd_sd _ _, fun T hT => ?_⟩
  have e2 := ct_en hc r (lsd_sd c.nb l)
  have e3 := ct_en hc r hT
  have e4 := en_congr hc r (s := lsd c.nb l) (t := l) (fun k hk => lsd_in l hk)
  have := h T
  omega
/-- more rise takes wax away -/
theorem gst_mono {c : Cl} (hc : vCl c = true) {r q : Int} (h : r < q) {L M : Nat → Bool} (hL : Ms (c.nwa r).nw c.nb (c.nb + 1) L) (hM : Ms (c.nwa q).nw c.nb (c.nb + 1) M) : ∀ i, i < c.nb → M i = true → L i = true := by
  obtain ⟨d, rfl⟩ : ∃ d, q = r + d := ⟨q - r, by omega⟩
  exact nested hc (by omega) (ms_en hc hL) (ms_en hc hM)
/-- at a low rise all is waxed .. -/
theorem gst_all {c : Cl} (hc : vCl c = true) {r : Int} (h : r ≤ -1000) {L : Nat → Bool} (hL : Gst (c.nwa r).nw (c.nb + 2) c.nb (c.nb + 1) L) : ∀ i, i < c.nb → L i = true := by
  obtain ⟨-, -, ⟨v5, v6⟩, ⟨v7, v8⟩, -, -⟩ := vCl_ok hc
  have hms := en_ms hc (r := r) (l := fun _ => true) (fun m => by
    unfold Cl.en
    have h1 : sm c.nb (c.dt r fun _ => true) ≤ sm c.nb (c.dt r m) := sm_le fun k hk => by
      have h5 := v6 k hk; have h6 := v8 k (by omega)
      unfold Cl.dt
      split <;> split <;> first | omega | simp_all
    have h2 : sm c.prs.n (c.pt fun _ => true) ≤ sm c.prs.n (c.pt m) := sm_le fun k hk => by
      obtain ⟨u, v, -, -, -, -, h5, -⟩ := prs_in hc hk
      unfold Cl.pt
      split <;> split <;> first | omega | simp_all
    omega)
  intro i hi
  exact hL.2 _ hms i (by omega) (lsd_in _ hi)
/-- .. and at a high one nothing -/
theorem ms_none {c : Cl} (hc : vCl c = true) {r : Int} (h : 1000 < r) {L : Nat → Bool} (hL : Ms (c.nwa r).nw c.nb (c.nb + 1) L) : ∀ i, i < c.nb → L i = false := by
  obtain ⟨-, -, ⟨v5, v6⟩, ⟨v7, v8⟩, -, -⟩ := vCl_ok hc
  have h1 := ms_en hc hL (fun _ => false)
  unfold Cl.en at h1
  have h2 : sm c.prs.n (c.pt fun _ => false) ≤ sm c.prs.n (c.pt L) := sm_le fun k hk => by
    obtain ⟨u, v, -, -, -, -, h5, -⟩ := prs_in hc hk
    unfold Cl.pt
    split <;> split <;> first | omega | simp_all
  have h3 : sm c.nb (fun k => c.dt r L k - c.dt r (fun _ => false) k) ≤ 0 := by rw [sm_sub]; omega
  have h4 : ∀ k, k < c.nb → 0 ≤ c.dt r L k - c.dt r (fun _ => false) k ∧ (L k = true → 0 < c.dt r L k - c.dt r (fun _ => false) k) := fun k hk => by
    have h5 := v6 k hk; have h6 := v8 k (by omega)
    unfold Cl.dt
    cases q : L k <;> simp <;> omega
  have h5 : sm c.nb (fun k => c.dt r L k - c.dt r (fun _ => false) k) = 0 := by
    have := sm_nonneg (n := c.nb) (f := fun k => c.dt r L k - c.dt r (fun _ => false) k) (fun k hk => (h4 k hk).1)
    omega
  have h6 := sm_all_zero (n := c.nb) (f := fun k => c.dt r L k - c.dt r (fun _ => false) k) (fun k hk => (h4 k hk).1) h5
  intro i hi
  cases q : L i
  · rfl
  · have a := (h4 i hi).2 q
    have b := h6 i hi
    omega

/-- P: up to which rise each cell is waxed -/
def Prc (c : Cl) (P : Nat → Int) : Prop := ∀ r : Int, -10000 ≤ r → r ≤ 10000 → ∀ L, Gst (c.nwa r).nw (c.nb + 2) c.nb (c.nb + 1) L → ∀ v, v < c.nb → L v = decide (r ≤ P v)
theorem prc_ex {c : Cl} (hc : vCl c = true) : ∃ P, Prc c P := by
  have hg : ∀ r : Int, -10000 ≤ r → r ≤ 10000 → ∃ L, Gst (c.nwa r).nw (c.nb + 2) c.nb (c.nb + 1) L := fun r h1 h2 => gst_ex _ (nwa_c0 hc (by omega) (by omega)) _ (by omega)
  have key : ∀ v, v < c.nb → ∀ n : Nat, n ≤ 20000 → ∃ p : Int, ∀ r : Int, -10000 ≤ r → r ≤ -10000 + n → ∀ L, Gst (c.nwa r).nw (c.nb + 2) c.nb (c.nb + 1) L → L v = decide (r ≤ p) := by
    intro v hv n
    induction n with
    | zero =>
      intro _
      obtain ⟨L, hL⟩ := hg (-10000) (by omega) (by omega)
      cases q : L v
      · refine ⟨-10001, fun r h1 h2 M hM => ?_⟩
        obtain rfl : r = -10000 := by omega
        rw [gst_one hM hL v (by omega), q]; simp
      · refine ⟨-10000, fun r h1 h2 M hM => ?_⟩
        obtain rfl : r = -10000 := by omega
        rw [gst_one hM hL v (by omega), q]; simp
    | succ n ih =>
      intro hn
      obtain ⟨p, hp⟩ := ih (by omega)
      obtain ⟨t, ht⟩ : ∃ t : Int, t = -10000 + (n + 1 : Nat) := ⟨_, rfl⟩
      obtain ⟨L, hL⟩ := hg t (by omega) (by omega)
      cases q : L v
      · refine ⟨min p (t - 1), fun r h1 h2 M hM => ?_⟩
        by_cases e : r = t
        · subst e
          rw [gst_one hM hL v (by omega), q]
          exact (decide_eq_false (by omega)).symm
        · rw [hp r h1 (by omega) M hM]
          by_cases g : r ≤ p
          · have g2 : r ≤ min p (t - 1) := by omega
            rw [decide_eq_true g, decide_eq_true g2]
          · have g2 : ¬ r ≤ min p (t - 1) := by omega
            rw [decide_eq_false g, decide_eq_false g2]
      · refine ⟨t, fun r h1 h2 M hM => ?_⟩
        have g2 : r ≤ t := by omega
        rw [decide_eq_true g2]
        by_cases e : r = t
        · subst e
          rw [gst_one hM hL v (by omega), q]
        · exact gst_mono hc (show r < t by omega) hM.1 hL.1 v hv q
  have hch : ∀ v, ∃ p : Int, v < c.nb → ∀ r : Int, -10000 ≤ r → r ≤ 10000 → ∀ L, Gst (c.nwa r).nw (c.nb + 2) c.nb (c.nb + 1) L → L v = decide (r ≤ p) := by
    intro v
    by_cases hv : v < c.nb
    · obtain ⟨p, hp⟩ := key v hv 20000 (by omega)
      exact ⟨p, fun _ r h1 h2 => hp r h1 (by omega)⟩
    · exact ⟨0, fun h => absurd h hv⟩
  exact ⟨fun v => Classical.choose (hch v), fun r h1 h2 L hL v hv => Classical.choose_spec (hch v) hv r h1 h2 L hL⟩
theorem Prc.bd {c : Cl} (hc : vCl c = true) {P : Nat → Int} (h : Prc c P) {v : Nat} (hv : v < c.nb) : -1000 ≤ P v ∧ P v ≤ 1000 := by
  have hg : ∀ r : Int, -10000 ≤ r → r ≤ 10000 → ∃ L, Gst (c.nwa r).nw (c.nb + 2) c.nb (c.nb + 1) L := fun r h1 h2 => gst_ex _ (nwa_c0 hc (by omega) (by omega)) _ (by omega)
  obtain ⟨L, hL⟩ := hg (-1000) (by omega) (by omega)
  obtain ⟨M, hM⟩ := hg 1001 (by omega) (by omega)
  have a := h _ (by omega) (by omega) L hL v hv
  have b := h _ (by omega) (by omega) M hM v hv
  rw [gst_all hc (by omega) hL v hv] at a
  rw [ms_none hc (by omega) hM.1 v hv] at b
  have a1 := of_decide_eq_true a.symm
  have b1 := of_decide_eq_false b.symm
  omega
end Go.Proofs.Ytilcbbdmenknfaa
namespace Go.Proofs.Ytilcbbdmenknfaa
open Go.RowKit

/-- all but block g of w is as it was -/
structure Kp (g : Nat) (w w' : World) : Prop where
  os : w'.os = w.os
  tape : w'.tape = w.tape
  output : w'.output = w.output
  size : w.heap.size ≤ w'.heap.size
  block : ∀ b, b < w.heap.size → b ≠ g → w'.heap[b]? = w.heap[b]?
theorem Kp.refl (g : Nat) (w : World) : Kp g w w := ⟨rfl, rfl, rfl, Nat.le_refl _, fun _ _ _ => rfl⟩
theorem Kp.trans {g : Nat} {w x y : World} (h : Kp g w x) (k : Kp g x y) : Kp g w y :=
  ⟨k.os.trans h.os, k.tape.trans h.tape, k.output.trans h.output, Nat.le_trans h.size k.size, fun b hb hg => (k.block b (Nat.lt_of_lt_of_le hb h.size) hg).trans (h.block b hb hg)⟩
theorem Kp.of {w x : World} (g : Nat) (h : Ext w x) : Kp g w x := ⟨h.os, h.tape, h.output, h.size, fun b hb _ => h.block b hb⟩
theorem Kp.ext {g : Nat} {w0 w x : World} (h : Kp g w x) (e : Ext w0 w) (hg : w0.heap.size ≤ g) : Ext w0 x :=
  ⟨h.os.trans e.os, h.tape.trans e.tape, h.output.trans e.output, Nat.le_trans e.size h.size, fun b hb => (h.block b (Nat.lt_of_lt_of_le hb e.size) (by omega)).trans (e.block b hb)⟩
theorem Kp.sc {g i : Nat} {w x : World} (h : Kp g w x) (v : Value) : Kp g w (x.setCell ⟨g, i, none⟩ v) :=
  ⟨h.os, h.tape, h.output, by simp [World.setCell]; exact h.size, fun b hb hg => (Below.heap_setCell x ⟨g, i, none⟩ v b hg).trans (h.block b hb hg)⟩
theorem Kp.cell {g b i : Nat} {w x : World} {v : Value} (h : Kp g w x) (hb : b < w.heap.size) (hg : b ≠ g) (hc : w.cell? ⟨b, i, none⟩ = some v) : x.cell? ⟨b, i, none⟩ = some v :=
  (World.cell?_of_block (h.block b hb hg)).trans hc
/-- flags that lie in another block than g -/
def Bg (g : Nat) (w : World) (v : Value) (n : Nat) (s : Nat → Bool) : Prop := Bl w v n s ∧ ∀ A m c, v = .slice A m c → ∀ b off, A = some ⟨b, off, none⟩ → b ≠ g
theorem Bg.kp {g n : Nat} {w x : World} {v : Value} {s : Nat → Bool} (h : Bg g w v n s) (k : Kp g w x) : Bg g x v n s := by
  refine ⟨?_, h.2⟩
  obtain ⟨⟨A, c, rfl, h1, h2, h3⟩, hg⟩ := h
  refine ⟨A, c, rfl, h1, h2, fun hp => ?_⟩
  obtain ⟨b, off, rfl, hb, hc⟩ := h3 hp
  exact ⟨b, off, rfl, Nat.lt_of_lt_of_le hb k.size, fun j hj => k.cell hb (hg _ _ _ rfl _ _ rfl) (hc j hj)⟩
/-- the prices of the cells whose price lies from lo on and below hi are set -/
def setP (P p : Nat → Int) (lo hi : Int) : Nat → Int := fun v => if lo ≤ P v ∧ P v < hi then P v else p v

set_option maxHeartbeats 4000000 in
set_option maxRecDepth 100000 in
theorem settle_any (c : Cl) (P : Nat → Int) (hvc : vCl c = true) (hP : Prc c P) : ∀ (n : Nat) (lo hi : Int) (g nb : Nat) (p : Nat → Int) (V BV AV : Value) (W0 W : World), nb = c.nb → hi - lo ≤ n → lo < hi → -10000 ≤ lo → hi ≤ 10000 →
    Kl W0 V c → Ext W0 W → W0.heap.size ≤ g → BI W g nb p → Bg g W BV nb (fun v => decide (lo ≤ P v)) → Bg g W AV nb (fun v => decide (hi ≤ P v)) →
    Calls Try.prog 74 #[V, .slice (some ⟨g, 0, none⟩) nb nb, .agg #[.int .i64 lo, BV], .agg #[.int .i64 hi, AV]] W fun e W' => (∃ v, e = .returned v) ∧ BI W' g nb (setP P p lo hi) ∧ Kp g W W' := by
  intro n
  induction n with
  | zero => intro lo hi g nb p V BV AV W0 W _ h1 h2; omega
  | succ n ih =>
    intro lo hi g nb p V BV AV W0 W hnb hn hlt hlo hhi hV h0 hg hBI hBV hAV
    have HIH := Lib.hid ih
    have HVC := Lib.hid hvc; have HP := Lib.hid hP; have HV := Lib.hid hV; have H0 := Lib.hid h0; have HBI := Lib.hid hBI; have HBV := Lib.hid hBV; have HAV := Lib.hid hAV
    have HNB := Lib.hid hnb
    have hnb36 : nb ≤ 36 := by
      obtain ⟨⟨v1, v2⟩, ⟨v3, v4⟩, ⟨v5, -⟩, -⟩ := vCl_ok hvc
      have h1 := (side_prod (show 0 ≤ c.w by omega) v2 (show 0 ≤ c.h by omega) v4).2
      omega
    have hgW : g < W.heap.size := Bk.lt hBI
    clear ih hvc hP hBI h0 hnb
    obtain ⟨B, X, R, D, rfl, -, -, -, -⟩ := hV
    obtain ⟨AB, cB, rfl, hcB, hdB, -⟩ := hBV.1
    obtain ⟨AA, cA, rfl, hcA, hdA, -⟩ := hAV.1
    obtain ⟨w, hw⟩ : ∃ w, w = c.w := ⟨_, rfl⟩
    obtain ⟨h, hh⟩ : ∃ h, h = c.h := ⟨_, rfl⟩
    rw [← hw, ← hh] at HV ⊢
    clear hBV hAV hw hh
    go_enter Try.func74, Try.ntmps74
    go_upto_region 1 with fail
    have hh0 : (((W.alloc (.cells #[.int .i64 w, .int .i64 h, B, X, R, D] 70)).alloc (.cells #[.int .i64 lo, .slice AB nb cB] 115)).alloc (.cells #[.int .i64 hi, .slice AA nb cA] 115)).heap[W.heap.size]? = some (.cells #[.int .i64 w, .int .i64 h, B, X, R, D] 70 (0, 0)) := (Below.heap_alloc _ _ _ (by simp; omega)).trans ((Below.heap_alloc _ _ _ (by simp)).trans (heap_alloc_new W _))
    have hh1 : (((W.alloc (.cells #[.int .i64 w, .int .i64 h, B, X, R, D] 70)).alloc (.cells #[.int .i64 lo, .slice AB nb cB] 115)).alloc (.cells #[.int .i64 hi, .slice AA nb cA] 115)).heap[W.heap.size + 1]? = some (.cells #[.int .i64 lo, .slice AB nb cB] 115 (0, 0)) := by
      have h1 := heap_alloc_new (W.alloc (.cells #[.int .i64 w, .int .i64 h, B, X, R, D] 70)) (.cells #[.int .i64 lo, .slice AB nb cB] 115)
      simp only [World.size_alloc] at h1
      exact (Below.heap_alloc _ _ _ (by simp)).trans h1
    have hh2 := heap_alloc_new ((W.alloc (.cells #[.int .i64 w, .int .i64 h, B, X, R, D] 70)).alloc (.cells #[.int .i64 lo, .slice AB nb cB] 115)) (.cells #[.int .i64 hi, .slice AA nb cA] 115)
    simp only [World.size_alloc] at hh2
    have hz : (((W.alloc (.cells #[.int .i64 w, .int .i64 h, B, X, R, D] 70)).alloc (.cells #[.int .i64 lo, .slice AB nb cB] 115)).alloc (.cells #[.int .i64 hi, .slice AA nb cA] 115)).heap.size = W.heap.size + 1 + 1 + 1 := by simp
    have bb : Ext W (((W.alloc (.cells #[.int .i64 w, .int .i64 h, B, X, R, D] 70)).alloc (.cells #[.int .i64 lo, .slice AB nb cB] 115)).alloc (.cells #[.int .i64 hi, .slice AA nb cA] 115)) := (((Ext.refl W).alc _).alc _).alc _
    generalize ((W.alloc (.cells #[.int .i64 w, .int .i64 h, B, X, R, D] 70)).alloc (.cells #[.int .i64 lo, .slice AB nb cB] 115)).alloc (.cells #[.int .i64 hi, .slice AA nb cA] 115) = W1 at *
    have HB : Hid (Ext W W1) := Lib.hid bb
    obtain ⟨m0, m1, m2, m3, m4, m5, -, -⟩ := six hh0
    obtain ⟨b0, b1, -, -⟩ := two_at hh1
    obtain ⟨a0, a1, -, -⟩ := two_at hh2
    have mz : W.heap.size < W1.heap.size := by omega
    have bz : W.heap.size + 1 < W1.heap.size := by omega
    have az : W.heap.size + 1 + 1 < W1.heap.size := by omega
    have hgm : W.heap.size ≠ g := by omega
    have hgb : W.heap.size + 1 ≠ g := by omega
    have hga : W.heap.size + 1 + 1 ≠ g := by omega
    have HM := Lib.hid (And.intro m0 (And.intro m1 (And.intro m2 (And.intro m3 (And.intro m4 m5)))))
    have HBA := Lib.hid (And.intro (And.intro b0 b1) (And.intro a0 a1))
    replace HBV := Lib.hid (HBV.out.kp (Kp.of g bb))
    replace HAV := Lib.hid (HAV.out.kp (Kp.of g bb))
    replace HBI := Lib.hid (HBI.out.ext bb)
    clear bb hh0 hh1 hh2 hz m0 m1 m2 m3 m4 m5 b0 a0
    go_wp2_with fail
    refine (equalB_any nb nb _ _ _ _ _ HBV.out.1 HAV.out.1 (by omega)).mono ?_
    rintro e w1 ⟨rfl, hx⟩
    have HK : Hid (Kp g W1 w1) := Lib.hid (Kp.of g hx)
    replace HBI := Lib.hid (HBI.out.ext hx)
    clear hx b1 a1
    cases heq : eqB nb nb (fun v => decide (lo ≤ P v)) (fun v => decide (hi ≤ P v))
    · clear heq
      have b0 := HK.out.cell bz hgb HBA.out.1.1
      have a0 := HK.out.cell az hga HBA.out.2.1
      by_cases h1 : lo + 1 = hi
      · have b1 := HK.out.cell bz hgb HBA.out.1.2
        have h1b : (lo + 1 == hi) = true := by simp; exact h1
        go_wp2_with fail
        clear b1 b0 a0
        go_loopw [25] (fun i wr => ∃ k : Nat, i = .int .i64 k ∧ k ≤ nb ∧ Hid (BI wr g nb (fun v => if v < k then setP P p lo hi v else p v) ∧ Kp g W1 wr)) (fun i _ => nb - (intOf i).toNat)
        case atStart => exact ⟨0, rfl, Nat.zero_le _, Lib.hid ⟨Bk.congr HBI.out (fun j _ => by simp), HK.out⟩⟩
        case round =>
          obtain ⟨k, rfl, hk, hin⟩ := hrel
          by_cases hlt2 : k < nb
          · have b0 := hin.out.2.cell bz hgb HBA.out.1.1
            have a1 := hin.out.2.cell az hga HBA.out.2.2
            obtain ⟨bB, oB, e3, hbB, cb⟩ := Vl.at (HBV.out.kp hin.out.2).1 (Ext.refl _) hlt2
            obtain ⟨bA, oA, e4, hbA, ca⟩ := Vl.at (HAV.out.kp hin.out.2).1 (Ext.refl _) hlt2
            subst e3 e4
            dsimp only at cb ca
            have c6 := Bk.cell hin.out.1 hlt2
            have f6 := Bk.free hin.out.1 k
            have hnext : ∀ z, z = setP P p lo hi k → BI (wr.setCell ⟨g, k, none⟩ (.int .i64 z)) g nb (fun v => if v < k + 1 then setP P p lo hi v else p v) := fun z hz => by
              refine Bk.congr (BI.set_ hin.out.1 k z) fun j _ => ?_
              by_cases e : j = k
              · subst e; rw [up_self]; dsimp only; rw [if_pos (by omega), hz]
              · rw [up_ne _ _ e]; dsimp only
                by_cases e2 : j < k
                · rw [if_pos e2, if_pos (by omega)]
                · rw [if_neg e2, if_neg (by omega)]
            have hstay : p k = setP P p lo hi k → BI wr g nb (fun v => if v < k + 1 then setP P p lo hi v else p v) := fun hz => by
              refine Bk.congr hin.out.1 fun j _ => ?_
              dsimp only
              by_cases e : j = k
              · subst e; rw [if_neg (by omega), if_pos (by omega), hz]
              · by_cases e2 : j < k
                · rw [if_pos e2, if_pos (by omega)]
                · rw [if_neg e2, if_neg (by omega)]
            have HNX := Lib.hid (And.intro hnext hstay)
            clear hnext hstay
            by_cases q1 : lo ≤ P k
            · rw [decide_eq_true q1] at cb
              by_cases q2 : hi ≤ P k
              · rw [decide_eq_true q2] at ca
                have hs : p k = setP P p lo hi k := by unfold setP; rw [if_neg (by omega)]
                have HS := Lib.hid (HNX.out.2 hs)
                clear hs q1 q2 c6 f6
                go_wp2
                go_roundw
                case rel => exact ⟨k + 1, by go_num, by omega, Lib.hid ⟨HS.out, hin.out.2⟩⟩
                case measure => simp [intOf]; omega
              · rw [decide_eq_false q2] at ca
                have hs : lo = setP P p lo hi k := by unfold setP; rw [if_pos (by omega)]; omega
                have HS := Lib.hid (HNX.out.1 lo hs)
                clear hs q1 q2
                go_wp2
                go_roundw
                case rel => exact ⟨k + 1, by go_num, by omega, Lib.hid ⟨HS.out, hin.out.2.sc _⟩⟩
                case measure => simp [intOf]; omega
            · rw [decide_eq_false q1] at cb
              have hs : p k = setP P p lo hi k := by unfold setP; rw [if_neg (by omega)]
              have HS := Lib.hid (HNX.out.2 hs)
              clear hs q1 c6 f6 ca
              go_wp2
              go_roundw
              case rel => exact ⟨k + 1, by go_num, by omega, Lib.hid ⟨HS.out, hin.out.2⟩⟩
              case measure => simp [intOf]; omega
          · obtain rfl : k = nb := by omega
            go_wp2
            refine bodyPost_ret (v := .tuple #[]) (by simp [results, Try.results74, go_sem]) rfl ?_
            exact ⟨⟨_, rfl⟩, Bk.congr hin.out.1 (fun j hj => by dsimp only; rw [if_pos hj]), (Kp.of g HB.out).trans hin.out.2⟩
      · have h1b : (lo + 1 == hi) = false := by simp; exact h1
        obtain ⟨d, hd⟩ : ∃ d, (hi - lo).tdiv 2 = d := ⟨_, rfl⟩
        have hd2 : 0 < d ∧ d < hi - lo := by rw [← hd, Int.tdiv_eq_ediv_of_nonneg (by omega)]; omega
        obtain ⟨mid, hmid⟩ : ∃ mid, lo + d = mid := ⟨_, rfl⟩
        have hm1 : lo < mid ∧ mid < hi := by omega
        have m0 := HK.out.cell mz hgm HM.out.1
        have m1 := HK.out.cell mz hgm HM.out.2.1
        have m2 := HK.out.cell mz hgm HM.out.2.2.1
        have m3 := HK.out.cell mz hgm HM.out.2.2.2.1
        have m4 := HK.out.cell mz hgm HM.out.2.2.2.2.1
        have m5 := HK.out.cell mz hgm HM.out.2.2.2.2.2
        have hw1 : IntKind.i64.wrap (hi - lo) = hi - lo := IntWalk.i64_in _ (by omega)
        have hw2 : IntKind.i64.wrap d = d := IntWalk.i64_in _ (by omega)
        have hw3 : IntKind.i64.wrap mid = mid := IntWalk.i64_in _ (by omega)
        have HX0 : Hid (Ext W0 w1) := Lib.hid (((Kp.of g HB.out).trans HK.out).ext H0.out hg)
        go_wp2_with fail
        refine (stageOf_any c mid _ _ (HV.out.ext HX0.out) HVC.out (by omega) (by omega)).mono ?_
        clear m0 m1 m2 m3 m4 m5 b0 a0 hd hw1 hw2 hw3 hd2 hmid
        rintro e w2 ⟨g9, N9, M, rfl, hg9, hG, hM, hx⟩
        have hMb : ∀ v, v < nb → M v = decide (mid ≤ P v) := fun v hv => HP.out mid (by omega) (by omega) M hM v (by rw [← HNB.out]; exact hv)
        rw [← HNB.out] at hG ⊢
        have hgw1 : g < w1.heap.size := Nat.lt_of_lt_of_le hgW (Nat.le_trans HB.out.size HK.out.size)
        have hne9 : g9 ≠ g := by omega
        have hG2 : Bg g w2 (.slice (some ⟨g9, 0, none⟩) nb N9) nb (fun v => decide (mid ≤ P v)) := ⟨hG.congr hMb, fun A m c e b off e2 => by
          injection e with e; rw [← e] at e2; injection e2 with e2; injection e2 with e2; omega⟩
        have HG := Lib.hid hG2
        replace HK := Lib.hid (HK.out.trans (Kp.of g hx))
        replace HBI := Lib.hid (HBI.out.ext hx)
        clear hG hM hx hMb hG2 HX0
        go_upto_region 10 with fail
        have hh3 := heap_alloc_new w2 (.cells #[.int .i64 mid, .slice (some ⟨g9, 0, none⟩) nb N9] 115)
        have hz3 : w2.heap.size < (w2.alloc (.cells #[.int .i64 mid, .slice (some ⟨g9, 0, none⟩) nb N9] 115)).heap.size := by simp
        have e3 : Ext w2 (w2.alloc (.cells #[.int .i64 mid, .slice (some ⟨g9, 0, none⟩) nb N9] 115)) := Ext.alc (Ext.refl _) _
        have hg2 : w2.heap.size ≠ g := by have := Bk.lt HBI.out; omega
        obtain ⟨z2, hz2⟩ : ∃ z, z = w2.heap.size := ⟨_, rfl⟩
        rw [← hz2] at hh3 hz3 hg2 ⊢
        clear hz2
        replace HK := Lib.hid (HK.out.trans (Kp.of g e3))
        replace HBI := Lib.hid (HBI.out.ext e3)
        replace HG := Lib.hid (HG.out.kp (Kp.of g e3))
        clear e3
        generalize w2.alloc (.cells #[.int .i64 mid, .slice (some ⟨g9, 0, none⟩) nb N9] 115) = w3 at *
        obtain ⟨c0, c1, -, -⟩ := two_at hh3
        have HC := Lib.hid (And.intro c0 c1)
        have m0 := HK.out.cell mz hgm HM.out.1
        have m1 := HK.out.cell mz hgm HM.out.2.1
        have m2 := HK.out.cell mz hgm HM.out.2.2.1
        have m3 := HK.out.cell mz hgm HM.out.2.2.2.1
        have m4 := HK.out.cell mz hgm HM.out.2.2.2.2.1
        have m5 := HK.out.cell mz hgm HM.out.2.2.2.2.2
        have b0 := HK.out.cell bz hgb HBA.out.1.1
        have b1 := HK.out.cell bz hgb HBA.out.1.2
        have HX3 : Hid (Ext W0 w3) := Lib.hid (((Kp.of g HB.out).trans HK.out).ext H0.out hg)
        clear hh3
        go_wp2_with fail
        refine (HIH.out lo mid g nb p (.agg #[.int .i64 w, .int .i64 h, B, X, R, D]) _ _ W0 _ HNB.out (by omega) hm1.1 hlo (by omega) HV.out HX3.out hg HBI.out (HBV.out.kp HK.out) HG.out).mono ?_
        clear m0 m1 m2 m3 m4 m5 b0 b1 c0 c1
        rintro e w4 ⟨⟨v4, rfl⟩, hbi, hk4⟩
        have HB4 := Lib.hid hbi
        have m0 := (HK.out.trans hk4).cell mz hgm HM.out.1
        have m1 := (HK.out.trans hk4).cell mz hgm HM.out.2.1
        have m2 := (HK.out.trans hk4).cell mz hgm HM.out.2.2.1
        have m3 := (HK.out.trans hk4).cell mz hgm HM.out.2.2.2.1
        have m4 := (HK.out.trans hk4).cell mz hgm HM.out.2.2.2.2.1
        have m5 := (HK.out.trans hk4).cell mz hgm HM.out.2.2.2.2.2
        have a0 := (HK.out.trans hk4).cell az hga HBA.out.2.1
        have a1 := (HK.out.trans hk4).cell az hga HBA.out.2.2
        have c0 := hk4.cell hz3 hg2 HC.out.1
        have c1 := hk4.cell hz3 hg2 HC.out.2
        replace HG := Lib.hid (HG.out.kp hk4)
        replace HK := Lib.hid (HK.out.trans hk4)
        have HX4 : Hid (Ext W0 w4) := Lib.hid (((Kp.of g HB.out).trans HK.out).ext H0.out hg)
        clear hbi hk4
        go_wp2_with fail
        refine (HIH.out mid hi g nb (setP P p lo mid) (.agg #[.int .i64 w, .int .i64 h, B, X, R, D]) _ _ W0 _ HNB.out (by omega) hm1.2 (by omega) hhi HV.out HX4.out hg HB4.out HG.out (HAV.out.kp HK.out)).mono ?_
        clear m0 m1 m2 m3 m4 m5 a0 a1 c0 c1
        rintro e w5 ⟨⟨v5, rfl⟩, hbi, hk5⟩
        have HB5 : Hid (BI w5 g nb (setP P p lo hi)) := Lib.hid (Bk.congr hbi fun j _ => by
          congr 1
          unfold setP
          by_cases q1 : mid ≤ P j ∧ P j < hi
          · rw [if_pos q1, if_pos (by omega)]
          · rw [if_neg q1]
            by_cases q2 : lo ≤ P j ∧ P j < mid
            · rw [if_pos q2, if_pos (by omega)]
            · rw [if_neg q2, if_neg (by omega)])
        have HK5 := Lib.hid (((Kp.of g HB.out).trans HK.out).trans hk5)
        clear hbi hk5
        go_wp2
        refine bodyPost_end (v := .tuple #[]) (results_none (by rfl) _ _ _) rfl ?_
        exact ⟨⟨_, rfl⟩, HB5.out, HK5.out⟩
    · have hs : ∀ v, v < nb → p v = setP P p lo hi v := fun v hv => by
        have h1 := (eqB_iff.1 heq).2 v hv
        have h2 : (lo ≤ P v) ↔ (hi ≤ P v) := by
          constructor
          · intro h; rw [decide_eq_true h] at h1; exact of_decide_eq_true h1.symm
          · intro h; rw [decide_eq_true h] at h1; exact of_decide_eq_true h1
        unfold setP; rw [if_neg (by omega)]
      have HS := Lib.hid hs
      clear hs heq
      go_wp2
      refine bodyPost_ret (v := .tuple #[]) (by simp [results, Try.results74, go_sem]) rfl ?_
      exact ⟨⟨_, rfl⟩, Bk.congr HBI.out (fun j hj => by rw [HS.out j hj]), (Kp.of g HB.out).trans HK.out⟩
end Go.Proofs.Ytilcbbdmenknfaa
