/- Walks: Cut. · Cut with its answer fixed beforehand; a net with all arcs back behind it. · The network whose cuts are energies: mathematics. · A cloth's network as a grid: mathematics. · A walk through a matrix, and the way back: mathematics. · A grid of numbers in memory. -/
import Derived.Test.YtilcbbdmenknfaaM14
import Derived.Test.YtilcbbdmenknfaaM12
import Derived.Test.YtilcbbdmenknfaaM4
import Derived.Test.YtilcbbdmenknfaaM9
namespace Go.Proofs.Ytilcbbdmenknfaa
open Go.RowKit

set_option maxHeartbeats 4000000 in
set_option maxRecDepth 100000 in
theorem cut_any (N u v : Int) (a : Ar) (AV : Value) (W : World) (hA : Al W AV a) :
    Calls Try.prog 33 #[.agg #[.int .i64 N, AV], .int .i64 u, .int .i64 v] W fun e W' => ∃ c er : Int, e = .returned (.tuple #[.int .i64 c, .int .i64 er]) ∧ Ext W W' ∧
      ((cutOk N a u v = false ∧ c = 0 ∧ er = 2) ∨ (cutOk N a u v = true ∧ er = 0 ∧ Mc (dbl a).nw u.toNat v.toNat c)) := by
  have HA := Lib.hid hA
  obtain ⟨A, c, rfl, hac, hcm, -⟩ := hA
  obtain ⟨ok, hok⟩ : ∃ ok, ok = cutOk N a u v := ⟨_, rfl⟩
  rw [← hok]
  unfold cutOk at hok
  go_enter Try.func33, Try.ntmps33
  go_upto_region 1 with fail
  have bb := al1 W (.cells #[.int .i64 N, .slice A a.n c] 30)
  have m0 : (W.alloc (.cells #[.int .i64 N, .slice A a.n c] 30)).cell? ⟨W.heap.size, 0, none⟩ = some (.int .i64 N) := by rw [World.cell?_alloc_new]; rfl
  have m1 : (W.alloc (.cells #[.int .i64 N, .slice A a.n c] 30)).cell? ⟨W.heap.size, 1, none⟩ = some (.slice A a.n c) := by rw [World.cell?_alloc_new]; rfl
  have zz : W.heap.size < (W.alloc (.cells #[.int .i64 N, .slice A a.n c] 30)).heap.size := by simp
  generalize W.alloc (.cells #[.int .i64 N, .slice A a.n c] 30) = W1 at *
  have HB : Hid (Ext W W1) := Lib.hid bb
  clear bb
  go_wp2_with fail
  refine (isWeb_any N a _ _ (HA.out.ext HB.out)).mono ?_
  rintro e w1 ⟨rfl, hx⟩
  replace m0 := keepAt hx zz m0
  replace m1 := keepAt hx zz m1
  have HX : Hid (Ext W w1) := Lib.hid (HB.out.trans hx)
  clear hx
  cases hv : (vNet N a && decide (N ≤ 12))
  · rw [hv] at hok
    have HOK := Lib.hid hok; clear hok hv
    go_wp2
    refine bodyPost_ret (v := .tuple #[.int .i64 0, .int .i64 2]) (by simp [results, Try.results33, go_sem]) rfl ⟨0, 2, rfl, HX.out, .inl ⟨by rw [HOK.out]; rfl, rfl, rfl⟩⟩
  · rw [hv] at hok
    rw [Bool.and_eq_true, decide_eq_true_iff] at hv
    obtain ⟨m, rfl, hm2, hm40, hn, hO⟩ := vNet_ok hv.1
    have HO := Lib.hid hO
    clear hv hO
    go_wp2_with fail
    refine (isBetween_bw _ _ _ _).mono ?_
    rintro e w2 ⟨rfl, rfl⟩
    cases h1 : bw u 0 ((m : Int) - 1)
    · rw [h1] at hok
      have HOK := Lib.hid hok; clear hok h1
      go_wp2
      refine bodyPost_ret (v := .tuple #[.int .i64 0, .int .i64 2]) (by simp [results, Try.results33, go_sem]) rfl ⟨0, 2, rfl, HX.out, .inl ⟨by rw [HOK.out]; rfl, rfl, rfl⟩⟩
    · rw [h1] at hok
      obtain ⟨hu0, hu1⟩ := bw_iff.1 h1
      clear h1
      go_wp2_with fail
      refine (isBetween_bw _ _ _ _).mono ?_
      rintro e w2 ⟨rfl, rfl⟩
      cases h2 : bw v 0 ((m : Int) - 1)
      · rw [h2] at hok
        have HOK := Lib.hid hok; clear hok h2
        go_wp2
        refine bodyPost_ret (v := .tuple #[.int .i64 0, .int .i64 2]) (by simp [results, Try.results33, go_sem]) rfl ⟨0, 2, rfl, HX.out, .inl ⟨by rw [HOK.out]; rfl, rfl, rfl⟩⟩
      · rw [h2] at hok
        obtain ⟨hv0, hv1⟩ := bw_iff.1 h2
        clear h2
        by_cases h3 : u = v
        · rw [decide_eq_true h3] at hok
          have HOK := Lib.hid hok; clear hok
          subst h3
          go_wp2
          refine bodyPost_ret (v := .tuple #[.int .i64 0, .int .i64 2]) (by simp [results, Try.results33, go_sem]) rfl ⟨0, 2, rfl, HX.out, .inl ⟨by rw [HOK.out]; rfl, rfl, rfl⟩⟩
        · rw [decide_eq_false h3] at hok
          have HOK := Lib.hid hok; clear hok
          obtain ⟨p, rfl⟩ : ∃ p : Nat, u = p := ⟨u.toNat, by omega⟩
          obtain ⟨q, rfl⟩ : ∃ q : Nat, v = q := ⟨v.toNat, by omega⟩
          go_wp2_with fail
          refine (parted_any m a p q _ _ (HA.out.ext HX.out) HO.out hn (by omega) (by omega) (by omega) (by omega)).mono ?_
          rintro e w2 ⟨x, gl, BV, SV, rfl, -, hbi, hfull, hal, -, hx⟩
          have HX2 := Lib.hid (HX.out.trans hx)
          have HFULL := Lib.hid hfull; have HBI := Lib.hid hbi; have HAL := Lib.hid hal
          obtain ⟨A2, c2, rfl, -, -, -⟩ := hal
          clear hx m0 m1 hbi hfull
          go_wp2_with fail
          refine (value_any (dbl a) m p (q : Int) (2 * (dbl a).n) 1000000 _ SV gl x _ HAL.out (dbl_ok HO.out) (by omega) (by show 2 * a.n ≤ 1000; omega) rfl HBI.out HFULL.out.fp.rs).mono ?_
          rintro e w3 ⟨rfl, hx⟩
          have HX3 := Lib.hid (HX2.out.trans hx)
          clear hx
          go_wp2
          refine bodyPost_ret (v := .tuple #[.int .i64 ((dbl a).nw.sp (Nw.fw x) p), .int .i64 0]) (by simp [results, Try.results33, go_sem]) rfl ⟨_, 0, rfl, HX3.out, .inr ⟨by rw [HOK.out]; rfl, rfl, ?_⟩⟩
          have := HFULL.out.mc (dbl_ok HO.out).in_ (by omega) (by omega)
          rw [Int.toNat_natCast, Int.toNat_natCast]
          exact this
end Go.Proofs.Ytilcbbdmenknfaa
namespace Go.Proofs.Ytilcbbdmenknfaa
open Go.RowKit

theorem Nw.ct_nonneg (G : Nw) (hc : ∀ k, k < G.m → 0 ≤ G.cp k) (S : Nat → Bool) : 0 ≤ G.ct S := by
  refine sm_nonneg fun k hk => ?_
  split
  · exact hc k hk
  · omega
theorem Mc.ex {G : Nw} {s t : Nat} (hne : s ≠ t) (hc : ∀ k, k < G.m → 0 ≤ G.cp k) : ∃ v, Mc G s t v := by
  have h0 : ∃ n, ∃ S, Nw.Sd s t S ∧ (G.ct S).toNat = n := ⟨_, fun i => decide (i = s), ⟨by simp, by simp; exact fun e => hne e.symm⟩, rfl⟩
  obtain ⟨n, ⟨S, hS, hn⟩, hl⟩ := exists_least h0
  refine ⟨G.ct S, ⟨S, hS, rfl⟩, fun T hT => ?_⟩
  have h1 := hl _ ⟨T, hT, rfl⟩
  have h2 := G.ct_nonneg hc S
  have h3 := G.ct_nonneg hc T
  omega
theorem cutOk_iff {N : Int} {a : Ar} {u v : Int} : cutOk N a u v = true ↔ vNet N a = true ∧ N ≤ 12 ∧ (0 ≤ u ∧ u ≤ N - 1) ∧ (0 ≤ v ∧ v ≤ N - 1) ∧ u ≠ v := by
  unfold cutOk
  simp only [Bool.and_eq_true, decide_eq_true_iff, bw_iff, Bool.not_eq_true', decide_eq_false_iff_not]
  constructor
  · rintro ⟨⟨⟨⟨h1, h2⟩, h3⟩, h4⟩, h5⟩; exact ⟨h1, h2, h3, h4, h5⟩
  · rintro ⟨h1, h2, h3, h4, h5⟩; exact ⟨⟨⟨⟨h1, h2⟩, h3⟩, h4⟩, h5⟩
theorem cut_fix (N u v : Int) (a : Ar) : ∃ c er : Int, ((cutOk N a u v = false ∧ c = 0 ∧ er = 2) ∨ (cutOk N a u v = true ∧ er = 0 ∧ Mc (dbl a).nw u.toNat v.toNat c)) ∧
    ∀ (X : World) (o : Value), Al X o a → Calls Try.prog 33 #[.agg #[.int .i64 N, o], .int .i64 u, .int .i64 v] X fun e W' => e = .returned (.tuple #[.int .i64 c, .int .i64 er]) ∧ Ext X W' := by
  cases h : cutOk N a u v
  · refine ⟨0, 2, .inl ⟨rfl, rfl, rfl⟩, fun X o ho => ?_⟩
    refine (cut_any N u v a o X ho).mono ?_
    rintro e w ⟨c, er, rfl, hx, ⟨-, rfl, rfl⟩ | ⟨h2, -⟩⟩
    · exact ⟨rfl, hx⟩
    · rw [h] at h2; cases h2
  · obtain ⟨h1, h2, h3, h4, h5⟩ := cutOk_iff.1 h
    obtain ⟨m, rfl, -, -, -, hO⟩ := vNet_ok h1
    obtain ⟨c, hc⟩ := Mc.ex (G := (dbl a).nw) (s := u.toNat) (t := v.toNat) (by omega) (dbl_ok hO).c0
    refine ⟨c, 0, .inr ⟨rfl, rfl, hc⟩, fun X o ho => ?_⟩
    refine (cut_any m u v a o X ho).mono ?_
    rintro e w ⟨c', er, rfl, hx, ⟨h2, -⟩ | ⟨-, rfl, hm⟩⟩
    · rw [h] at h2; cases h2
    · rw [hm.one hc]; exact ⟨rfl, hx⟩

/-- a net, and all its arcs back behind it -/
def app (a : Ar) : Ar := ⟨2 * a.n, fun k => if k < a.n then a.f k else a.t (k - a.n), fun k => if k < a.n then a.t k else a.f (k - a.n), fun k => if k < a.n then a.c k else a.c (k - a.n)⟩
theorem acl_app (a : Ar) (k : Nat) : acl (app a) (a.n + k + 1) = acl (app a) (a.n + k) ++ [.int .i64 (a.t k), .int .i64 (a.f k), .int .i64 (a.c k)] := by
  have e : ¬ a.n + k < a.n := by omega
  rw [acl_succ]
  simp only [app, e, if_false, Nat.add_sub_cancel_left]
theorem acl_appk (a : Ar) : ∀ k, k ≤ a.n → acl (app a) k = acl a k := by
  intro k
  induction k with
  | zero => intro _; rfl
  | succ k ih =>
    intro hk
    have e : k < a.n := by omega
    rw [acl_succ, acl_succ, ih (by omega)]
    simp only [app, e, if_true]
theorem acl_app0 (a : Ar) : acl (app a) (a.n + 0) = acl a a.n := by rw [Nat.add_zero]; exact acl_appk a a.n (Nat.le_refl _)
theorem sm_split (n m : Nat) (g : Nat → Int) : sm (n + m) g = sm n g + sm m fun k => g (n + k) := by
  induction m with
  | zero => simp [sm]
  | succ m ih => rw [show n + (m + 1) = n + m + 1 by omega]; simp only [sm]; rw [ih]; omega
theorem ct_app (a : Ar) (S : Nat → Bool) : (app a).nw.ct S = across a S := by
  have h : (app a).nw.ct S = sm (2 * a.n) fun k => if S ((app a).f k).toNat = true ∧ S ((app a).t k).toNat = false then (app a).c k else 0 := rfl
  rw [h, Nat.two_mul, sm_split, ← sm_add]
  refine sm_congr fun k hk => ?_
  have e : ¬ a.n + k < a.n := by omega
  simp only [app, hk, e, if_true, if_false, Nat.add_sub_cancel_left]
  cases S (a.f k).toNat <;> cases S (a.t k).toNat <;> simp
theorem app_net {N : Int} {a : Ar} (h : vNet N a = true) (hn : a.n ≤ 80) : vNet N (app a) = true := by
  obtain ⟨h1, h2, h3⟩ := vNet_iff.1 h
  refine vNet_iff.2 ⟨h1, by show 2 * a.n ≤ 160; omega, fun k hk => ?_⟩
  have hk' : k < 2 * a.n := hk
  unfold okA
  by_cases e : k < a.n
  · have := h3 k e
    unfold okA at this
    simp only [app, e, if_true]
    exact this
  · have := h3 (k - a.n) (by omega)
    unfold okA at this
    simp only [app, e, if_false]
    rw [← this]
    rw [show decide (a.t (k - a.n) = a.f (k - a.n)) = decide (a.f (k - a.n) = a.t (k - a.n)) by rw [decide_eq_decide]; exact ⟨fun e => e.symm, fun e => e.symm⟩]
    cases bw (a.f (k - a.n)) 0 (N - 1) <;> cases bw (a.t (k - a.n)) 0 (N - 1) <;> rfl
theorem mc_app {a : Ar} {s t : Nat} {v w : Int} (h : Mc (app a).nw s t v) (k : Mc (dbl a).nw s t w) : v = w := by
  refine Mc.one (G := (dbl a).nw) ⟨?_, fun S hS => ?_⟩ k
  · obtain ⟨S, h1, h2⟩ := h.is
    exact ⟨S, h1, by rw [ct_dbl, ← ct_app, h2]⟩
  · have := h.le S hS
    rwa [ct_app, ← ct_dbl] at this
end Go.Proofs.Ytilcbbdmenknfaa
namespace Go.Proofs.Ytilcbbdmenknfaa
open Go.RowKit

/-- one list of arcs behind another -/
def join (a b : Ar) : Ar := ⟨a.n + b.n, fun k => if k < a.n then a.f k else b.f (k - a.n), fun k => if k < a.n then a.t k else b.t (k - a.n), fun k => if k < a.n then a.c k else b.c (k - a.n)⟩
theorem acl_join1 (a b : Ar) : ∀ k, k ≤ a.n → acl (join a b) k = acl a k := by
  intro k
  induction k with
  | zero => intro _; rfl
  | succ k ih =>
    intro hk
    rw [acl_succ, acl_succ, ih (by omega)]
    simp only [join, if_pos (show k < a.n by omega)]
theorem acl_join2 (a b : Ar) : ∀ k, acl (join a b) (a.n + k) = acl a a.n ++ acl b k := by
  intro k
  induction k with
  | zero => rw [Nat.add_zero, acl_join1 a b _ (Nat.le_refl _)]; simp [acl]
  | succ k ih =>
    rw [← Nat.add_assoc, acl_succ, acl_succ, ih, List.append_assoc]
    simp only [join, if_neg (show ¬ a.n + k < a.n by omega), Nat.add_sub_cancel_left]
/-- what wax costs more than none at cell k -/
def Cl.more (c : Cl) (r : Int) (k : Nat) : Int := c.x k + r - c.b k
/-- the arcs of the cells -/
def Cl.cel (c : Cl) (r : Int) : Ar := ⟨c.nb, fun k => if 0 < c.more r k then (k : Int) else (c.nb : Int), fun k => if 0 < c.more r k then (c.nb : Int) + 1 else (k : Int), fun k => if 0 < c.more r k then c.more r k else -c.more r k⟩
/-- the network's arcs -/
def Cl.nwa (c : Cl) (r : Int) : Ar := join (c.cel r) (dbl c.prs)
theorem prs_ne {c : Cl} (hc : vCl c = true) {k : Nat} (hk : k < c.prs.n) : c.prs.f k ≠ c.prs.t k := by
  obtain ⟨⟨hw1, hw2⟩, -⟩ := vCl_ok hc
  unfold Cl.prs
  dsimp only
  split <;> omega
theorem prs_ok {c : Cl} (hc : vCl c = true) : c.prs.Ok (c.nb + 2) 2000000 := by
  refine ⟨fun k hk => ?_, fun k hk => ?_, fun k hk => ?_, fun k hk => ?_, fun k hk => prs_ne hc hk, fun k hk => ?_, fun k hk => ?_⟩ <;>
  · obtain ⟨u, v, h1, h2, h3, h4, h5, h6⟩ := prs_in hc hk
    omega
theorem nwa_ok {c : Cl} (hc : vCl c = true) {r : Int} (h1 : -100000 ≤ r) (h2 : r ≤ 100000) : (c.nwa r).Ok (c.nb + 2) 2000000 := by
  have hd := dbl_ok (prs_ok hc)
  obtain ⟨-, -, ⟨v5, v6⟩, ⟨v7, v8⟩, -, -⟩ := vCl_ok hc
  have hcel : ∀ k, k < c.nb → -200000 ≤ c.more r k ∧ c.more r k ≤ 200000 := fun k hk => by
    have h5 := v6 k hk; have h6 := v8 k (by omega)
    unfold Cl.more; omega
  have key : ∀ k, k < (c.nwa r).n → ¬ k < c.nb → k - c.nb < (dbl c.prs).n := fun k hk hn => by
    have : k < c.nb + (dbl c.prs).n := hk
    omega
  have hn : (c.cel r).n = c.nb := rfl
  refine ⟨fun k hk => ?_, fun k hk => ?_, fun k hk => ?_, fun k hk => ?_, fun k hk => ?_, fun k hk => ?_, fun k hk => ?_⟩ <;>
  · unfold Cl.nwa join
    dsimp only
    rw [hn]
    by_cases h : k < c.nb
    · have := hcel k h
      simp only [if_pos h]
      unfold Cl.cel
      dsimp only
      split <;> omega
    · simp only [if_neg h]
      have e := key k hk h
      first | exact hd.f0 _ e | exact hd.fN _ e | exact hd.t0 _ e | exact hd.tN _ e | exact hd.ne _ e | exact hd.c0 _ e | exact hd.cM _ e
/-- what is paid anyway -/
def Cl.any (c : Cl) (r : Int) : Int := sm c.nb fun k => if 0 < c.more r k then c.b k else c.x k + r
/-- the cost of a side is the energy, less what is paid anyway -/
theorem ct_en {c : Cl} (hc : vCl c = true) (r : Int) {S : Nat → Bool} (hS : Nw.Sd c.nb (c.nb + 1) S) : (c.nwa r).nw.ct S + c.any r = c.en r S := by
  have h1 : (c.nwa r).nw.ct S = sm (c.cel r).n (fun k => if S ((c.cel r).f k).toNat = true ∧ S ((c.cel r).t k).toNat = false then (c.cel r).c k else 0) + (dbl c.prs).nw.ct S := by
    show sm ((c.cel r).n + (dbl c.prs).n) _ = _
    rw [sm_split]
    congr 1
    · refine sm_congr fun k hk => ?_
      show (if S (if k < (c.cel r).n then (c.cel r).f k else _).toNat = true ∧ S (if k < (c.cel r).n then (c.cel r).t k else _).toNat = false then (if k < (c.cel r).n then (c.cel r).c k else _) else 0) = _
      simp only [if_pos hk]
    · refine sm_congr fun k hk => ?_
      have e : ¬ (c.cel r).n + k < (c.cel r).n := by omega
      show (if S (if (c.cel r).n + k < (c.cel r).n then _ else (dbl c.prs).f ((c.cel r).n + k - (c.cel r).n)).toNat = true ∧ S (if (c.cel r).n + k < (c.cel r).n then _ else (dbl c.prs).t ((c.cel r).n + k - (c.cel r).n)).toNat = false then (if (c.cel r).n + k < (c.cel r).n then _ else (dbl c.prs).c ((c.cel r).n + k - (c.cel r).n)) else 0) = _
      simp only [if_neg e, Nat.add_sub_cancel_left]
      rfl
  rw [h1, ct_dbl]
  have h2 : across c.prs S = sm c.prs.n (c.pt S) := rfl
  have h3 : sm (c.cel r).n (fun k => if S ((c.cel r).f k).toNat = true ∧ S ((c.cel r).t k).toNat = false then (c.cel r).c k else 0) + c.any r = sm c.nb (c.dt r S) := by
    unfold Cl.any
    show sm c.nb _ + _ = _
    rw [← sm_add]
    refine sm_congr fun k hk => ?_
    unfold Cl.cel Cl.dt Cl.more
    dsimp only
    have e1 : ((c.nb : Int) + 1).toNat = c.nb + 1 := by omega
    by_cases hm : 0 < c.x k + r - c.b k
    · simp only [if_pos hm, Int.toNat_natCast, e1, hS.2, and_true]
      split <;> omega
    · simp only [if_neg hm, Int.toNat_natCast, hS.1, true_and]
      cases S k <;> simp <;> omega
  unfold Cl.en
  rw [h2]
  omega
end Go.Proofs.Ytilcbbdmenknfaa
namespace Go.Proofs.Ytilcbbdmenknfaa
open Go.RowKit

/-- what the grid holds of the cells below k -/
def Cl.gc (c : Cl) (r : Int) (k : Nat) (i j : Nat) : Int :=
  if j < k ∧ i = c.nb then (if 0 < -c.more r j then -c.more r j else 0) else if i < k ∧ j = c.nb + 1 then (if 0 < -c.more r i then 0 else c.more r i) else 0
/-- .. and of the first q pairs -/
def Cl.gp (c : Cl) (q : Nat) (i j : Nat) : Int := sm q fun p => (if (c.prs.f p).toNat = i ∧ (c.prs.t p).toNat = j then c.prs.c p else 0) + (if (c.prs.t p).toNat = i ∧ (c.prs.f p).toNat = j then c.prs.c p else 0)
/-- the whole grid -/
def Cl.gr (c : Cl) (r : Int) (q : Nat) (i j : Nat) : Int := c.gc r c.nb i j + c.gp q i j

theorem rc_add (N : Nat) (y z : Nat → Nat → Int) (S : Nat → Bool) : rc N (fun i j => y i j + z i j) S = rc N y S + rc N z S := by
  unfold rc
  rw [← sm_add]
  refine sm_congr fun i _ => ?_
  rw [← sm_add]
  refine sm_congr fun j _ => ?_
  dsimp only
  split <;> omega
theorem rc_sum (N q : Nat) (f : Nat → Nat → Nat → Int) (S : Nat → Bool) : rc N (fun i j => sm q fun p => f p i j) S = sm q fun p => rc N (f p) S := by
  induction q with
  | zero =>
    show rc N (fun _ _ => 0) S = 0
    unfold rc
    refine Eq.trans (sm_congr (g := fun _ => 0) fun i _ => Eq.trans (sm_congr (g := fun _ => 0) fun j _ => by split <;> rfl) (sm_zero N)) (sm_zero N)
  | succ q ih =>
    show rc N (fun i j => (sm q fun p => f p i j) + f q i j) S = (sm q fun p => rc N (f p) S) + rc N (f q) S
    rw [rc_add, ih]
theorem rc_cell {N a b : Nat} (v : Int) (S : Nat → Bool) (ha : a < N) (hb : b < N) : rc N (fun i j => if a = i ∧ b = j then v else 0) S = if S a = true ∧ S b = false then v else 0 := by
  have h1 : rc N (fun i j => if a = i ∧ b = j then v else 0) S = sm N fun i => if i = a then (if S i = true ∧ S b = false then v else 0) else 0 := by
    refine sm_congr fun i _ => ?_
    have h2 : (sm N fun j => if S i = true ∧ S j = false then (if a = i ∧ b = j then v else 0) else 0) = sm N fun j => if j = b then (if i = a then (if S i = true ∧ S j = false then v else 0) else 0) else 0 := by
      refine sm_congr fun j _ => ?_
      by_cases e1 : i = a
      · by_cases e2 : j = b
        · subst e1 e2; simp
        · rw [if_neg e2]
          have : ¬ (a = i ∧ b = j) := fun h => e2 h.2.symm
          rw [if_neg this]; split <;> rfl
      · have : ¬ (a = i ∧ b = j) := fun h => e1 h.1.symm
        rw [if_neg this, if_neg e1]
        split <;> split <;> rfl
    rw [h2, sm_one, if_pos hb]
  rw [h1, sm_one, if_pos ha]
theorem rc_congr {N : Nat} {y z : Nat → Nat → Int} (S : Nat → Bool) (h : ∀ i j, i < N → j < N → y i j = z i j) : rc N y S = rc N z S := by
  refine sm_congr fun i hi => sm_congr fun j hj => ?_
  rw [h i j hi hj]
/-- the cells' part, cell by cell -/
theorem gc_sum (c : Cl) (r : Int) {i j : Nat} (hi : i < c.nb + 2) (hj : j < c.nb + 2) : c.gc r c.nb i j = sm c.nb fun p => (if c.nb = i ∧ p = j then (if 0 < -c.more r p then -c.more r p else 0) else 0) + (if p = i ∧ c.nb + 1 = j then (if 0 < -c.more r p then 0 else c.more r p) else 0) := by
  rw [sm_add]
  have e1 : (sm c.nb fun p => if c.nb = i ∧ p = j then (if 0 < -c.more r p then -c.more r p else 0) else 0) = if j < c.nb ∧ i = c.nb then (if 0 < -c.more r j then -c.more r j else 0) else 0 := by
    by_cases e : i = c.nb
    · have : (sm c.nb fun p => if c.nb = i ∧ p = j then (if 0 < -c.more r p then -c.more r p else 0) else 0) = sm c.nb fun p => if p = j then (if 0 < -c.more r p then -c.more r p else 0) else 0 := sm_congr fun p _ => by simp [e]
      rw [this, sm_one]
      simp [e]
    · rw [if_neg (fun h => e h.2)]
      refine Eq.trans (sm_congr (g := fun _ => 0) fun p _ => by rw [if_neg (fun h => e h.1.symm)]) (sm_zero _)
  have e2 : (sm c.nb fun p => if p = i ∧ c.nb + 1 = j then (if 0 < -c.more r p then 0 else c.more r p) else 0) = if i < c.nb ∧ j = c.nb + 1 then (if 0 < -c.more r i then 0 else c.more r i) else 0 := by
    by_cases e : j = c.nb + 1
    · have : (sm c.nb fun p => if p = i ∧ c.nb + 1 = j then (if 0 < -c.more r p then 0 else c.more r p) else 0) = sm c.nb fun p => if p = i then (if 0 < -c.more r p then 0 else c.more r p) else 0 := sm_congr fun p _ => by simp [e]
      rw [this, sm_one]
      simp [e]
    · rw [if_neg (fun h => e h.2)]
      refine Eq.trans (sm_congr (g := fun _ => 0) fun p _ => by rw [if_neg (fun h => e h.2.symm)]) (sm_zero _)
  rw [e1, e2]
  unfold Cl.gc
  by_cases a : j < c.nb ∧ i = c.nb
  · have b : ¬ (i < c.nb ∧ j = c.nb + 1) := by omega
    rw [if_pos a, if_pos a, if_neg b, Int.add_zero]
  · rw [if_neg a, if_neg a, Int.zero_add]
/-- what can be carried across a side of the grid is its cost in the program's network -/
theorem gr_ct {c : Cl} (hc : vCl c = true) (r : Int) {S : Nat → Bool} (hS : Nw.Sd c.nb (c.nb + 1) S) : rc (c.nb + 2) (c.gr r c.prs.n) S = (c.nwa r).nw.ct S := by
  have h0 : rc (c.nb + 2) (c.gr r c.prs.n) S = rc (c.nb + 2) (c.gc r c.nb) S + rc (c.nb + 2) (c.gp c.prs.n) S := rc_add _ _ _ _
  have h1 : rc (c.nb + 2) (c.gc r c.nb) S = sm c.nb fun p => (if S p = false then (if 0 < -c.more r p then -c.more r p else 0) else 0) + (if S p = true then (if 0 < -c.more r p then 0 else c.more r p) else 0) := by
    rw [rc_congr S (fun i j hi hj => gc_sum c r hi hj), rc_sum]
    refine sm_congr fun p hp => ?_
    rw [rc_add, rc_cell _ S (by omega) (by omega), rc_cell _ S (by omega) (by omega)]
    simp only [hS.1, hS.2, true_and, and_true]
  have h2 : rc (c.nb + 2) (c.gp c.prs.n) S = sm c.prs.n (c.pt S) := by
    show rc (c.nb + 2) (fun i j => sm c.prs.n fun p => _) S = _
    rw [rc_sum]
    refine sm_congr fun p hp => ?_
    obtain ⟨u, v, hu, hv, hun, hvn, h5, -⟩ := prs_in hc hp
    rw [rc_add, hu, hv, Int.toNat_natCast, Int.toNat_natCast, rc_cell _ S (by omega) (by omega), rc_cell _ S (by omega) (by omega)]
    unfold Cl.pt
    rw [hu, hv, Int.toNat_natCast, Int.toNat_natCast]
    cases S u <;> cases S v <;> simp
  have h3 := ct_en hc r hS
  have h4 : (sm c.nb fun p => (if S p = false then (if 0 < -c.more r p then -c.more r p else 0) else 0) + (if S p = true then (if 0 < -c.more r p then 0 else c.more r p) else 0)) + c.any r = sm c.nb (c.dt r S) := by
    unfold Cl.any
    rw [← sm_add]
    refine sm_congr fun p _ => ?_
    unfold Cl.dt Cl.more
    cases S p <;> simp <;> split <;> split <;> omega
  have h5 : c.en r S = sm c.nb (c.dt r S) + sm c.prs.n (c.pt S) := rfl
  rw [h0, h1, h2]
  omega
theorem gp_bd {c : Cl} (hc : vCl c = true) {q : Nat} (hq : q ≤ c.prs.n) (i j : Nat) : 0 ≤ c.gp q i j ∧ c.gp q i j ≤ q * 2000 := by
  refine ⟨sm_nonneg fun p hp => ?_, sm_const_le fun p hp => ?_⟩
  · obtain ⟨u, v, -, -, -, -, h5, h6⟩ := prs_in hc (k := p) (by omega)
    split <;> split <;> omega
  · obtain ⟨u, v, -, -, -, -, h5, h6⟩ := prs_in hc (k := p) (by omega)
    split <;> split <;> omega
theorem more_bd {c : Cl} (hc : vCl c = true) {r : Int} (h1 : -100000 ≤ r) (h2 : r ≤ 100000) {k : Nat} (hk : k < c.nb) : -200000 ≤ c.more r k ∧ c.more r k ≤ 200000 := by
  obtain ⟨-, -, ⟨v5, v6⟩, ⟨v7, v8⟩, -, -⟩ := vCl_ok hc
  have h5 := v6 k hk; have h6 := v8 k (by omega)
  unfold Cl.more; omega
theorem gc_bd {c : Cl} (hc : vCl c = true) {r : Int} (h1 : -100000 ≤ r) (h2 : r ≤ 100000) {k : Nat} (hk : k ≤ c.nb) (i j : Nat) : 0 ≤ c.gc r k i j ∧ c.gc r k i j ≤ 200000 := by
  unfold Cl.gc
  split
  · rename_i h
    have := more_bd hc h1 h2 (k := j) (by omega)
    split <;> omega
  · split
    · rename_i h
      have := more_bd hc h1 h2 (k := i) (by omega)
      split <;> omega
    · omega
end Go.Proofs.Ytilcbbdmenknfaa
namespace Go.Proofs.Ytilcbbdmenknfaa

/-- what holds while the walk is under way: l has been found, the first K of it have been looked at, and of the next one the first i columns -/
structure Wz (N s : Nat) (y : Nat → Nat → Int) (R : Nat → Bool) (la rk : Nat → Nat) (l : List Nat) (K i : Nat) : Prop where
  root : R s = true
  low : ∀ v, R v = true → v < N
  lal : ∀ v, R v = true → la v < N
  tree : ∀ v, v < N → R v = true → v ≠ s → la v < N ∧ R (la v) = true ∧ 0 < y (la v) v ∧ rk (la v) < rk v
  rkb : ∀ v, R v = true → rk v < l.length
  all : ∀ v, R v = true → v ∈ l
  qin : ∀ v, v ∈ l → R v = true
  len : un R N + l.length ≤ N
  fin : ∀ m, m < K → ∀ j, j < N → 0 < y (l.getD m 0) j → R j = true
  now : ∀ j, j < i → 0 < y (l.getD K 0) j → R j = true
  le : K ≤ l.length
section
variable {N s : Nat} {y : Nat → Nat → Int} {R : Nat → Bool} {la rk : Nat → Nat} {l : List Nat} {K i : Nat}
theorem getD_snoc {l : List Nat} {v m : Nat} (h : m < l.length) : (l ++ [v]).getD m 0 = l.getD m 0 := by
  simp only [List.getD_eq_getElem?_getD]; rw [List.getElem?_append_left h]
theorem Wz.start (y : Nat → Nat → Int) (hs : s < N) : Wz N s y (up (fun _ => false) s true) (fun _ => s) (fun _ => 0) [s] 0 0 := by
  have h1 : ∀ v, up (fun _ => false) s true v = true → v = s := by
    intro v h
    by_cases e : v = s
    · exact e
    · rw [up_ne _ _ e] at h; cases h
  refine ⟨up_self _ _ _, fun v h => by rw [h1 v h]; exact hs, fun _ _ => hs, fun v _ h hne => absurd (h1 v h) hne, fun _ _ => by simp, fun v h => by rw [h1 v h]; simp, fun v h => by simp at h; subst h; exact up_self _ _ _, ?_, fun _ h => by omega, fun _ h => by omega, by simp⟩
  have : un (up (fun _ => false) s true) N + 1 = un (fun _ => false) N := un_up hs rfl
  have := un_le (fun _ => false) N
  simp only [List.length_singleton]
  omega
theorem Wz.mem (_h : Wz N s y R la rk l K i) (hK : K < l.length) : l.getD K 0 ∈ l := by
  rw [List.getD_eq_getElem?_getD, List.getElem?_eq_getElem hK]; simp
theorem Wz.push (h : Wz N s y R la rk l K i) (hK : K < l.length) (hi : i < N) (hy : 0 < y (l.getD K 0) i) (hn : R i = false) :
    Wz N s y (up R i true) (up la i (l.getD K 0)) (up rk i l.length) (l ++ [i]) K (i + 1) := by
  have hm : ∀ w, R w = true → w ≠ i := fun w hw e => by rw [e, hn] at hw; cases hw
  have hup : ∀ w, R w = true → up R i true w = true := fun w hw => by rw [up_ne _ _ (hm w hw)]; exact hw
  have hor : ∀ w, up R i true w = true → w = i ∨ (w ≠ i ∧ R w = true) := by
    intro w hw
    by_cases e : w = i
    · exact .inl e
    · rw [up_ne _ _ e] at hw; exact .inr ⟨e, hw⟩
  have hu := h.qin _ (h.mem hK)
  refine ⟨hup _ h.root, fun v hv => ?_, fun v hv => ?_, fun v hv hR hne => ?_, fun v hv => ?_, fun v hv => ?_, fun v hv => ?_, ?_, fun m hm2 j hj hy2 => ?_, fun j hj hy2 => ?_, ?_⟩
  · rcases hor v hv with rfl | ⟨_, h1⟩
    · exact hi
    · exact h.low v h1
  · rcases hor v hv with rfl | ⟨h0, h1⟩
    · rw [up_self]; exact h.low _ hu
    · rw [up_ne _ _ h0]; exact h.lal v h1
  · rcases hor v hR with rfl | ⟨h0, h1⟩
    · rw [up_self, up_self, up_ne rk _ (hm _ hu)]
      exact ⟨h.low _ hu, hup _ hu, hy, h.rkb _ hu⟩
    · obtain ⟨a1, a2, a3, a4⟩ := h.tree v hv h1 hne
      rw [up_ne la _ h0, up_ne rk _ h0, up_ne rk _ (hm _ a2)]
      exact ⟨a1, hup _ a2, a3, a4⟩
  · rw [List.length_append, List.length_singleton]
    rcases hor v hv with rfl | ⟨h0, h1⟩
    · rw [up_self]; omega
    · rw [up_ne _ _ h0]; have := h.rkb v h1; omega
  · rcases hor v hv with rfl | ⟨h0, h1⟩
    · simp
    · exact List.mem_append_left _ (h.all v h1)
  · rcases List.mem_append.1 hv with h1 | h1
    · exact hup v (h.qin v h1)
    · simp at h1; subst h1; exact up_self _ _ _
  · have h1 := un_up (R := R) hi hn
    have h2 := h.len
    rw [List.length_append, List.length_singleton]; omega
  · rw [getD_snoc (by omega)] at hy2
    exact hup _ (h.fin m hm2 j hj hy2)
  · rw [getD_snoc hK] at hy2
    by_cases e : j = i
    · subst e; exact up_self _ _ _
    · exact hup _ (h.now j (by omega) hy2)
  · rw [List.length_append]; have := h.le; omega
theorem Wz.skip (h : Wz N s y R la rk l K i) (hy : 0 < y (l.getD K 0) i → R i = true) : Wz N s y R la rk l K (i + 1) :=
  ⟨h.root, h.low, h.lal, h.tree, h.rkb, h.all, h.qin, h.len, h.fin, fun j hj hy2 => by
    by_cases e : j = i
    · subst e; exact hy hy2
    · exact h.now j (by omega) hy2, h.le⟩
theorem Wz.next (h : Wz N s y R la rk l K N) (hK : K < l.length) : Wz N s y R la rk l (K + 1) 0 :=
  ⟨h.root, h.low, h.lal, h.tree, h.rkb, h.all, h.qin, h.len, fun m hm j hj hy => by
    by_cases e : m = K
    · subst e; exact h.now j hj hy
    · exact h.fin m (by omega) j hj hy, fun _ hj => by omega, hK⟩
theorem Wz.wm (h : Wz N s y R la rk l K i) (hK : ¬ K < l.length) : Wm N s y R la rk :=
  ⟨h.root, h.tree, fun i j hi hj hp hR => by
    obtain ⟨m, hm, e⟩ := List.getElem_of_mem (h.all i hR)
    have e2 : l.getD m 0 = i := by rw [List.getD_eq_getElem?_getD, List.getElem?_eq_getElem hm]; simpa using e
    exact h.fin m (by omega) j hj (by rw [e2]; exact hp)⟩
end

/-- n nodes back from t -/
def bk (la : Nat → Nat) (t : Nat) : Nat → Nat
  | 0 => t
  | n + 1 => la (bk la t n)
theorem bk_shift (la : Nat → Nat) (t n : Nat) : bk la t (n + 1) = bk la (la t) n := by
  induction n with
  | zero => rfl
  | succ n ih => show la (bk la t (n + 1)) = la (bk la (la t) n); rw [ih]
/-- the way back from t to s has L steps -/
structure Bw (N s t : Nat) (y : Nat → Nat → Int) (R : Nat → Bool) (la rk : Nat → Nat) (L : Nat) : Prop where
  fin : bk la t L = s
  mid : ∀ m, m < L → bk la t m ≠ s
  low : ∀ m, m ≤ L → bk la t m < N
  rch : ∀ m, m ≤ L → R (bk la t m) = true
  pos : ∀ m, m < L → 0 < y (bk la t (m + 1)) (bk la t m)
  dec : ∀ m, m < L → rk (bk la t (m + 1)) < rk (bk la t m)
theorem Wm.back {N s : Nat} {y : Nat → Nat → Int} {R : Nat → Bool} {la rk : Nat → Nat} (h : Wm N s y R la rk) : ∀ n t, rk t < n → t < N → R t = true → ∃ L, Bw N s t y R la rk L := by
  intro n
  induction n with
  | zero => intro t ht; omega
  | succ n ih =>
    intro t hr ht hR
    by_cases e : t = s
    · subst e
      refine ⟨0, rfl, fun m hm => by omega, fun m hm => ?_, fun m hm => ?_, fun m hm => by omega, fun m hm => by omega⟩
      · obtain rfl : m = 0 := by omega
        exact ht
      · obtain rfl : m = 0 := by omega
        exact hR
    · obtain ⟨a1, a2, a3, a4⟩ := h.tree t ht hR e
      obtain ⟨L, hL⟩ := ih (la t) (by omega) a1 a2
      refine ⟨L + 1, ?_, fun m hm => ?_, fun m hm => ?_, fun m hm => ?_, fun m hm => ?_, fun m hm => ?_⟩
      · rw [bk_shift]; exact hL.fin
      all_goals cases m with
        | zero => first | exact e | exact ht | exact hR | exact a3 | exact a4
        | succ m =>
          simp only [bk_shift la t]
          first | exact hL.mid m (by omega) | exact hL.low m (by omega) | exact hL.rch m (by omega) | exact hL.pos m (by omega) | exact hL.dec m (by omega)
theorem Bw.ne {N s t L : Nat} {y : Nat → Nat → Int} {R : Nat → Bool} {la rk : Nat → Nat} (h : Bw N s t y R la rk L) : ∀ {m n : Nat}, m < n → n ≤ L → bk la t n ≠ bk la t m := by
  have key : ∀ d m, m + d + 1 ≤ L → rk (bk la t (m + d + 1)) < rk (bk la t m) := by
    intro d
    induction d with
    | zero => intro m hm; exact h.dec m (by omega)
    | succ d ih =>
      intro m hm
      have h1 := ih m (by omega)
      have h2 := h.dec (m + d + 1) (by omega)
      have e : m + (d + 1) + 1 = m + d + 1 + 1 := by omega
      rw [e]; omega
  intro m n hmn hn e
  obtain ⟨d, rfl⟩ : ∃ d, n = m + d + 1 := ⟨n - m - 1, by omega⟩
  have := key d m hn
  rw [e] at this
  omega
/-- one step of the way back: what is left of it can still carry r -/
theorem Bw.keep {N s t L n : Nat} {y z : Nat → Nat → Int} {R : Nat → Bool} {la rk : Nat → Nat} {r : Int} (h : Bw N s t y R la rk L) (hr : 0 ≤ r)
    (hz : ∀ m, n ≤ m → m < L → r ≤ z (bk la t (m + 1)) (bk la t m)) : ∀ m, n + 1 ≤ m → m < L → r ≤ psh z (bk la t (n + 1)) (bk la t n) r (bk la t (m + 1)) (bk la t m) := by
  intro m h1 h2
  have := hz m (by omega) h2
  exact Int.le_trans this (psh_other hr (h.ne (by omega) (by omega)))
end Go.Proofs.Ytilcbbdmenknfaa
namespace Go.Proofs.Ytilcbbdmenknfaa
open Go.RowKit

/-- the grid of N rows at block b: row i lies at block b + 1 + i -/
structure Gd (W : World) (b N : Nat) (y : Nat → Nat → Int) : Prop where
  top : Bk W b 33 N (fun i => .slice (some ⟨b + 1 + i, 0, none⟩) N N)
  row : ∀ i, i < N → BI W (b + 1 + i) N (y i)
section
variable {w w' : World} {b N : Nat} {y : Nat → Nat → Int}
theorem Gd.ext (h : Gd w b N y) (e : Ext w w') : Gd w' b N y := ⟨h.top.ext e, fun i hi => (h.row i hi).ext e⟩
theorem Gd.congr {z : Nat → Nat → Int} (h : Gd w b N y) (e : ∀ i j, i < N → j < N → y i j = z i j) : Gd w b N z :=
  ⟨h.top, fun i hi => Bk.congr (h.row i hi) fun j hj => by rw [e i j hi hj]⟩
theorem Gd.cellT (h : Gd w b N y) {i : Nat} (hi : i < N) : w.cell? ⟨b, i, none⟩ = some (.slice (some ⟨b + 1 + i, 0, none⟩) N N) := Bk.cell h.top hi
theorem Gd.cell (h : Gd w b N y) {i j : Nat} (hi : i < N) (hj : j < N) : w.cell? ⟨b + 1 + i, j, none⟩ = some (.int .i64 (y i j)) := Bk.cell (h.row i hi) hj
theorem Gd.lt (h : Gd w b N y) {i : Nat} (hi : i < N) : b + 1 + i < w.heap.size := Bk.lt (h.row i hi)
theorem Gd.set_ (h : Gd w b N y) (i j : Nat) (v : Int) : Gd (w.setCell ⟨b + 1 + i, j, none⟩ (.int .i64 v)) b N (fun p q => if p = i ∧ q = j then v else y p q) := by
  refine ⟨Bk.far h.top (by show b ≠ b + 1 + i; omega) _, fun p hp => ?_⟩
  by_cases e : p = i
  · subst e
    refine Bk.congr (BI.set_ (h.row p hp) j v) fun q _ => ?_
    by_cases e2 : q = j
    · subst e2; simp only [up_self, and_self, if_true]
    · simp only [up_ne _ _ e2, and_false, e2, if_false]
  · refine Bk.congr (Bk.far (h.row p hp) (by show b + 1 + p ≠ b + 1 + i; omega) _) fun q _ => ?_
    simp only [e, false_and, if_false]
theorem Gd.far (h : Gd w b N y) {p : Addr} (hp : p.block < b) (v : Value) : Gd (w.setCell p v) b N y :=
  ⟨Bk.far h.top (by omega) _, fun i hi => Bk.far (h.row i hi) (by omega) _⟩
end
end Go.Proofs.Ytilcbbdmenknfaa
