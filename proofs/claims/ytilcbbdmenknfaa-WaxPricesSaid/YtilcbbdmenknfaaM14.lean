/- Walks: Cut. · Cut with its answer fixed beforehand; a net with all arcs back behind it. · The network whose cuts are energies: mathematics. · The least and the greatest minimum side: mathematics. · Sides by their numbers: mathematics. · Walks: numbered, slices.Equal of flags. -/
import Derived.Test.YtilcbbdmenknfaaM13
import Derived.Test.YtilcbbdmenknfaaM9
import Derived.Test.YtilcbbdmenknfaaM11
import Derived.RegionTactic
import Derived.ChangeAlike
namespace Go.Proofs.Ytilcbbdmenknfaa
open Go.RowKit

set_option maxHeartbeats 4000000 in
set_option maxRecDepth 100000 in
theorem cut_any (N u v : Int) (a : Ar) (AV : Value) (W : World) (hA : Al W AV a) :
    Calls Try.prog 33 #[.agg #[.int .i64 N, AV], .int .i64 u, .int .i64 v] W fun e W' => ∃ c er : Int, e = .returned (.tuple #[.int .i64 c, .int .i64 er]) ∧ Ext W W' ∧
      ((cutOk N a u v = false ∧ c = 0 ∧ er = 2) ∨ (cutOk N a u v = true ∧ er = 0 ∧ Mc (dbl a).nw u.toNat v.toNat c)) := by
  have HA := Lib.hid hA
  obtain ⟨A, c, rfl, hac, hcm, -⟩ := hA
  obtain ⟨ok, hok⟩ : ∃ ok, ok = cutOk N a u v := ⟨_, rfl⟩
  rw [← hok]
  unfold cutOk at hok
  go_enter Try.func33, Try.ntmps33
  go_upto_region 1 with fail
  have bb := al1 W (.cells #[.int .i64 N, .slice A a.n c] 30)
  have m0 : (W.alloc (.cells #[.int .i64 N, .slice A a.n c] 30)).cell? ⟨W.heap.size, 0, none⟩ = some (.int .i64 N) := by rw [World.cell?_alloc_new]; rfl
  have m1 : (W.alloc (.cells #[.int .i64 N, .slice A a.n c] 30)).cell? ⟨W.heap.size, 1, none⟩ = some (.slice A a.n c) := by rw [World.cell?_alloc_new]; rfl
  have zz : W.heap.size < (W.alloc (.cells #[.int .i64 N, .slice A a.n c] 30)).heap.size := by simp
  generalize W.alloc (.cells #[.int .i64 N, .slice A a.n c] 30) = W1 at *
  have HB : Hid (Ext W W1) := Lib.hid bb
  clear bb
  go_wp2_with fail
  refine (isWeb_any N a _ _ (HA.out.ext HB.out)).mono ?_
  rintro e w1 ⟨rfl, hx⟩
  replace m0 := keepAt hx zz m0
  replace m1 := keepAt hx zz m1
  have HX : Hid (Ext W w1) := Lib.hid (HB.out.trans hx)
  clear hx
  cases hv : (vNet N a && decide (N ≤ 12))
  · rw [hv] at hok
    have HOK := Lib.hid hok; clear hok hv
    go_wp2
    refine bodyPost_ret (v := .tuple #[.int .i64 0, .int .i64 2]) (by simp [results, Try.results33, go_sem]) rfl ⟨0, 2, rfl, HX.out, .inl ⟨by rw [HOK.out]; rfl, rfl, rfl⟩⟩
  · rw [hv] at hok
    rw [Bool.and_eq_true, decide_eq_true_iff] at hv
    obtain ⟨m, rfl, hm2, hm40, hn, hO⟩ := vNet_ok hv.1
    have HO := Lib.hid hO
    clear hv hO
    go_wp2_with fail
    refine (isBetween_bw _ _ _ _).mono ?_
    rintro e w2 ⟨rfl, rfl⟩
    cases h1 : bw u 0 ((m : Int) - 1)
    · rw [h1] at hok
      have HOK := Lib.hid hok; clear hok h1
      go_wp2
      refine bodyPost_ret (v := .tuple #[.int .i64 0, .int .i64 2]) (by simp [results, Try.results33, go_sem]) rfl ⟨0, 2, rfl, HX.out, .inl ⟨by rw [HOK.out]; rfl, rfl, rfl⟩⟩
    · rw [h1] at hok
      obtain ⟨hu0, hu1⟩ := bw_iff.1 h1
      clear h1
      go_wp2_with fail
      refine (isBetween_bw _ _ _ _).mono ?_
      rintro e w2 ⟨rfl, rfl⟩
      cases h2 : bw v 0 ((m : Int) - 1)
      · rw [h2] at hok
        have HOK := Lib.hid hok; clear hok h2
        go_wp2
        refine bodyPost_ret (v := .tuple #[.int .i64 0, .int .i64 2]) (by simp [results, Try.results33, go_sem]) rfl ⟨0, 2, rfl, HX.out, .inl ⟨by rw [HOK.out]; rfl, rfl, rfl⟩⟩
      · rw [h2] at hok
        obtain ⟨hv0, hv1⟩ := bw_iff.1 h2
        clear h2
        by_cases h3 : u = v
        · rw [decide_eq_true h3] at hok
          have HOK := Lib.hid hok; clear hok
          subst h3
          go_wp2
          refine bodyPost_ret (v := .tuple #[.int .i64 0, .int .i64 2]) (by simp [results, Try.results33, go_sem]) rfl ⟨0, 2, rfl, HX.out, .inl ⟨by rw [HOK.out]; rfl, rfl, rfl⟩⟩
        · rw [decide_eq_false h3] at hok
          have HOK := Lib.hid hok; clear hok
          obtain ⟨p, rfl⟩ : ∃ p : Nat, u = p := ⟨u.toNat, by omega⟩
          obtain ⟨q, rfl⟩ : ∃ q : Nat, v = q := ⟨v.toNat, by omega⟩
          go_wp2_with fail
          refine (parted_any m a p q _ _ (HA.out.ext HX.out) HO.out hn (by omega) (by omega) (by omega) (by omega)).mono ?_
          rintro e w2 ⟨x, gl, BV, SV, rfl, -, hbi, hfull, hal, -, hx⟩
          have HX2 := Lib.hid (HX.out.trans hx)
          have HFULL := Lib.hid hfull; have HBI := Lib.hid hbi; have HAL := Lib.hid hal
          obtain ⟨A2, c2, rfl, -, -, -⟩ := hal
          clear hx m0 m1 hbi hfull
          go_wp2_with fail
          refine (value_any (dbl a) m p (q : Int) (2 * (dbl a).n) 1000000 _ SV gl x _ HAL.out (dbl_ok HO.out) (by omega) (by show 2 * a.n ≤ 1000; omega) rfl HBI.out HFULL.out.fp.rs).mono ?_
          rintro e w3 ⟨rfl, hx⟩
          have HX3 := Lib.hid (HX2.out.trans hx)
          clear hx
          go_wp2
          refine bodyPost_ret (v := .tuple #[.int .i64 ((dbl a).nw.sp (Nw.fw x) p), .int .i64 0]) (by simp [results, Try.results33, go_sem]) rfl ⟨_, 0, rfl, HX3.out, .inr ⟨by rw [HOK.out]; rfl, rfl, ?_⟩⟩
          have := HFULL.out.mc (dbl_ok HO.out).in_ (by omega) (by omega)
          rw [Int.toNat_natCast, Int.toNat_natCast]
          exact this
end Go.Proofs.Ytilcbbdmenknfaa
namespace Go.Proofs.Ytilcbbdmenknfaa
open Go.RowKit

theorem Nw.ct_nonneg (G : Nw) (hc : ∀ k, k < G.m → 0 ≤ G.cp k) (S : Nat → Bool) : 0 ≤ G.ct S := by
  refine sm_nonneg fun k hk => ?_
  split
  · exact hc k hk
  · omega
theorem Mc.ex {G : Nw} {s t : Nat} (hne : s ≠ t) (hc : ∀ k, k < G.m → 0 ≤ G.cp k) : ∃ v, Mc G s t v := by
  have h0 : ∃ n, ∃ S, Nw.Sd s t S ∧ (G.ct S).toNat = n := ⟨_, fun i => decide (i = s), ⟨by simp, by simp; exact fun e => hne e.symm⟩, rfl⟩
  obtain ⟨n, ⟨S, hS, hn⟩, hl⟩ := exists_least h0
  refine ⟨G.ct S, ⟨S, hS, rfl⟩, fun T hT => ?_⟩
  have h1 := hl _ ⟨T, hT, rfl⟩
  have h2 := G.ct_nonneg hc S
  have h3 := G.ct_nonneg hc T
  omega
theorem cutOk_iff {N : Int} {a : Ar} {u v : Int} : cutOk N a u v = true ↔ vNet N a = true ∧ N ≤ 12 ∧ (0 ≤ u ∧ u ≤ N - 1) ∧ (0 ≤ v ∧ v ≤ N - 1) ∧ u ≠ v := by
  unfold cutOk
  simp only [Bool.and_eq_true, decide_eq_true_iff, bw_iff, Bool.not_eq_true', decide_eq_false_iff_not]
  constructor
  · rintro ⟨⟨⟨⟨h1, h2⟩, h3⟩, h4⟩, h5⟩; exact ⟨h1, h2, h3, h4, h5⟩
  · rintro ⟨h1, h2, h3, h4, h5⟩; exact ⟨⟨⟨⟨h1, h2⟩, h3⟩, h4⟩, h5⟩
theorem cut_fix (N u v : Int) (a : Ar) : ∃ c er : Int, ((cutOk N a u v = false ∧ c = 0 ∧ er = 2) ∨ (cutOk N a u v = true ∧ er = 0 ∧ Mc (dbl a).nw u.toNat v.toNat c)) ∧
    ∀ (X : World) (o : Value), Al X o a → Calls Try.prog 33 #[.agg #[.int .i64 N, o], .int .i64 u, .int .i64 v] X fun e W' => e = .returned (.tuple #[.int .i64 c, .int .i64 er]) ∧ Ext X W' := by
  cases h : cutOk N a u v
  · refine ⟨0, 2, .inl ⟨rfl, rfl, rfl⟩, fun X o ho => ?_⟩
    refine (cut_any N u v a o X ho).mono ?_
    rintro e w ⟨c, er, rfl, hx, ⟨-, rfl, rfl⟩ | ⟨h2, -⟩⟩
    · exact ⟨rfl, hx⟩
    · rw [h] at h2; cases h2
  · obtain ⟨h1, h2, h3, h4, h5⟩ := cutOk_iff.1 h
    obtain ⟨m, rfl, -, -, -, hO⟩ := vNet_ok h1
    obtain ⟨c, hc⟩ := Mc.ex (G := (dbl a).nw) (s := u.toNat) (t := v.toNat) (by omega) (dbl_ok hO).c0
    refine ⟨c, 0, .inr ⟨rfl, rfl, hc⟩, fun X o ho => ?_⟩
    refine (cut_any m u v a o X ho).mono ?_
    rintro e w ⟨c', er, rfl, hx, ⟨h2, -⟩ | ⟨-, rfl, hm⟩⟩
    · rw [h] at h2; cases h2
    · rw [hm.one hc]; exact ⟨rfl, hx⟩

/-- a net, and all its arcs back behind it -/
def app (a : Ar) : Ar := ⟨2 * a.n, fun k => if k < a.n then a.f k else a.t (k - a.n), fun k => if k < a.n then a.t k else a.f (k - a.n), fun k => if k < a.n then a.c k else a.c (k - a.n)⟩
theorem acl_app (a : Ar) (k : Nat) : acl (app a) (a.n + k + 1) = acl (app a) (a.n + k) ++ [.int .i64 (a.t k), .int .i64 (a.f k), .int .i64 (a.c k)] := by
  have e : ¬ a.n + k < a.n := by omega
  rw [acl_succ]
  simp only [app, e, if_false, Nat.add_sub_cancel_left]
theorem acl_appk (a : Ar) : ∀ k, k ≤ a.n → acl (app a) k = acl a k := by
  intro k
  induction k with
  | zero => intro _; rfl
  | succ k ih =>
    intro hk
    have e : k < a.n := by omega
    rw [acl_succ, acl_succ, ih (by omega)]
    simp only [app, e, if_true]
theorem acl_app0 (a : Ar) : acl (app a) (a.n + 0) = acl a a.n := by rw [Nat.add_zero]; exact acl_appk a a.n (Nat.le_refl _)
theorem sm_split (n m : Nat) (g : Nat → Int) : sm (n + m) g = sm n g + sm m fun k => g (n + k) := by
  induction m with
  | zero => simp [sm]
  | succ m ih => rw [show n + (m + 1) = n + m + 1 by omega]; simp only [sm]; rw [ih]; omega
theorem ct_app (a : Ar) (S : Nat → Bool) : (app a).nw.ct S = across a S := by
  have h : (app a).nw.ct S = sm (2 * a.n) fun k => if S ((app a).f k).toNat = true ∧ S ((app a).t k).toNat = false then (app a).c k else 0 := rfl
  rw [h, Nat.two_mul, sm_split, ← sm_add]
  refine sm_congr fun k hk => ?_
  have e : ¬ a.n + k < a.n := by omega
  simp only [app, hk, e, if_true, if_false, Nat.add_sub_cancel_left]
  cases S (a.f k).toNat <;> cases S (a.t k).toNat <;> simp
theorem app_net {N : Int} {a : Ar} (h : vNet N a = true) (hn : a.n ≤ 80) : vNet N (app a) = true := by
  obtain ⟨h1, h2, h3⟩ := vNet_iff.1 h
  refine vNet_iff.2 ⟨h1, by show 2 * a.n ≤ 160; omega, fun k hk => ?_⟩
  have hk' : k < 2 * a.n := hk
  unfold okA
  by_cases e : k < a.n
  · have := h3 k e
    unfold okA at this
    simp only [app, e, if_true]
    exact this
  · have := h3 (k - a.n) (by omega)
    unfold okA at this
    simp only [app, e, if_false]
    rw [← this]
    rw [show decide (a.t (k - a.n) = a.f (k - a.n)) = decide (a.f (k - a.n) = a.t (k - a.n)) by rw [decide_eq_decide]; exact ⟨fun e => e.symm, fun e => e.symm⟩]
    cases bw (a.f (k - a.n)) 0 (N - 1) <;> cases bw (a.t (k - a.n)) 0 (N - 1) <;> rfl
theorem mc_app {a : Ar} {s t : Nat} {v w : Int} (h : Mc (app a).nw s t v) (k : Mc (dbl a).nw s t w) : v = w := by
  refine Mc.one (G := (dbl a).nw) ⟨?_, fun S hS => ?_⟩ k
  · obtain ⟨S, h1, h2⟩ := h.is
    exact ⟨S, h1, by rw [ct_dbl, ← ct_app, h2]⟩
  · have := h.le S hS
    rwa [ct_app, ← ct_dbl] at this
end Go.Proofs.Ytilcbbdmenknfaa
namespace Go.Proofs.Ytilcbbdmenknfaa
open Go.RowKit

/-- one list of arcs behind another -/
def join (a b : Ar) : Ar := ⟨a.n + b.n, fun k => if k < a.n then a.f k else b.f (k - a.n), fun k => if k < a.n then a.t k else b.t (k - a.n), fun k => if k < a.n then a.c k else b.c (k - a.n)⟩
theorem acl_join1 (a b : Ar) : ∀ k, k ≤ a.n → acl (join a b) k = acl a k := by
  intro k
  induction k with
  | zero => intro _; rfl
  | succ k ih =>
    intro hk
    rw [acl_succ, acl_succ, ih (by omega)]
    simp only [join, if_pos (show k < a.n by omega)]
theorem acl_join2 (a b : Ar) : ∀ k, acl (join a b) (a.n + k) = acl a a.n ++ acl b k := by
  intro k
  induction k with
  | zero => rw [Nat.add_zero, acl_join1 a b _ (Nat.le_refl _)]; simp [acl]
  | succ k ih =>
    rw [← Nat.add_assoc, acl_succ, acl_succ, ih, List.append_assoc]
    simp only [join, if_neg (show ¬ a.n + k < a.n by omega), Nat.add_sub_cancel_left]
/-- what wax costs more than none at cell k -/
def Cl.more (c : Cl) (r : Int) (k : Nat) : Int := c.x k + r - c.b k
/-- the arcs of the cells -/
def Cl.cel (c : Cl) (r : Int) : Ar := ⟨c.nb, fun k => if 0 < c.more r k then (k : Int) else (c.nb : Int), fun k => if 0 < c.more r k then (c.nb : Int) + 1 else (k : Int), fun k => if 0 < c.more r k then c.more r k else -c.more r k⟩
/-- the network's arcs -/
def Cl.nwa (c : Cl) (r : Int) : Ar := join (c.cel r) (dbl c.prs)
theorem prs_ne {c : Cl} (hc : vCl c = true) {k : Nat} (hk : k < c.prs.n) : c.prs.f k ≠ c.prs.t k := by
  obtain ⟨⟨hw1, hw2⟩, -⟩ := vCl_ok hc
  unfold Cl.prs
  dsimp only
  split <;> omega
theorem prs_ok {c : Cl} (hc : vCl c = true) : c.prs.Ok (c.nb + 2) 2000000 := by
  refine ⟨fun k hk => ?_, fun k hk => ?_, fun k hk => ?_, fun k hk => ?_, fun k hk => prs_ne hc hk, fun k hk => ?_, fun k hk => ?_⟩ <;>
  · obtain ⟨u, v, h1, h2, h3, h4, h5, h6⟩ := prs_in hc hk
    omega
theorem nwa_ok {c : Cl} (hc : vCl c = true) {r : Int} (h1 : -100000 ≤ r) (h2 : r ≤ 100000) : (c.nwa r).Ok (c.nb + 2) 2000000 := by
  have hd := dbl_ok (prs_ok hc)
  obtain ⟨-, -, ⟨v5, v6⟩, ⟨v7, v8⟩, -, -⟩ := vCl_ok hc
  have hcel : ∀ k, k < c.nb → -200000 ≤ c.more r k ∧ c.more r k ≤ 200000 := fun k hk => by
    have h5 := v6 k hk; have h6 := v8 k (by omega)
    unfold Cl.more; omega
  have key : ∀ k, k < (c.nwa r).n → ¬ k < c.nb → k - c.nb < (dbl c.prs).n := fun k hk hn => by
    have : k < c.nb + (dbl c.prs).n := hk
    omega
  have hn : (c.cel r).n = c.nb := rfl
  refine ⟨fun k hk => ?_, fun k hk => ?_, fun k hk => ?_, fun k hk => ?_, fun k hk => ?_, fun k hk => ?_, fun k hk => ?_⟩ <;>
  · unfold Cl.nwa join
    dsimp only
    rw [hn]
    by_cases h : k < c.nb
    · have := hcel k h
      simp only [if_pos h]
      unfold Cl.cel
      dsimp only
      split <;> omega
    · simp only [if_neg h]
      have e := key k hk h
      first | exact hd.f0 _ e | exact hd.fN _ e | exact hd.t0 _ e | exact hd.tN _ e | exact hd.ne _ e | exact hd.c0 _ e | exact hd.cM _ e
/-- what is paid anyway -/
def Cl.any (c : Cl) (r : Int) : Int := sm c.nb fun k => if 0 < c.more r k then c.b k else c.x k + r
/-- the cost of a side is the energy, less what is paid anyway -/
theorem ct_en {c : Cl} (hc : vCl c = true) (r : Int) {S : Nat → Bool} (hS : Nw.Sd c.nb (c.nb + 1) S) : (c.nwa r).nw.ct S + c.any r = c.en r S := by
  have h1 : (c.nwa r).nw.ct S = sm (c.cel r).n (fun k => if S ((c.cel r).f k).toNat = true ∧ S ((c.cel r).t k).toNat = false then (c.cel r).c k else 0) + (dbl c.prs).nw.ct S := by
    show sm ((c.cel r).n + (dbl c.prs).n) _ = _
    rw [sm_split]
    congr 1
    · refine sm_congr fun k hk => ?_
      show (if S (if k < (c.cel r).n then (c.cel r).f k else _).toNat = true ∧ S (if k < (c.cel r).n then (c.cel r).t k else _).toNat = false then (if k < (c.cel r).n then (c.cel r).c k else _) else 0) = _
      simp only [if_pos hk]
    · refine sm_congr fun k hk => ?_
      have e : ¬ (c.cel r).n + k < (c.cel r).n := by omega
      show (if S (if (c.cel r).n + k < (c.cel r).n then _ else (dbl c.prs).f ((c.cel r).n + k - (c.cel r).n)).toNat = true ∧ S (if (c.cel r).n + k < (c.cel r).n then _ else (dbl c.prs).t ((c.cel r).n + k - (c.cel r).n)).toNat = false then (if (c.cel r).n + k < (c.cel r).n then _ else (dbl c.prs).c ((c.cel r).n + k - (c.cel r).n)) else 0) = _
      simp only [if_neg e, Nat.add_sub_cancel_left]
      rfl
  rw [h1, ct_dbl]
  have h2 : across c.prs S = sm c.prs.n (c.pt S) := rfl
  have h3 : sm (c.cel r).n (fun k => if S ((c.cel r).f k).toNat = true ∧ S ((c.cel r).t k).toNat = false then (c.cel r).c k else 0) + c.any r = sm c.nb (c.dt r S) := by
    unfold Cl.any
    show sm c.nb _ + _ = _
    rw [← sm_add]
    refine sm_congr fun k hk => ?_
    unfold Cl.cel Cl.dt Cl.more
    dsimp only
    have e1 : ((c.nb : Int) + 1).toNat = c.nb + 1 := by omega
    by_cases hm : 0 < c.x k + r - c.b k
    · simp only [if_pos hm, Int.toNat_natCast, e1, hS.2, and_true]
      split <;> omega
    · simp only [if_neg hm, Int.toNat_natCast, hS.1, true_and]
      cases S k <;> simp <;> omega
  unfold Cl.en
  rw [h2]
  omega
end Go.Proofs.Ytilcbbdmenknfaa
namespace Go.Proofs.Ytilcbbdmenknfaa

/-- S is a minimum side -/
structure Ms (G : Nw) (s t : Nat) (S : Nat → Bool) : Prop where
  sd : Nw.Sd s t S
  le : ∀ T, Nw.Sd s t T → G.ct S ≤ G.ct T
/-- .. the least one, on the nodes below N -/
def Lst (G : Nw) (N s t : Nat) (L : Nat → Bool) : Prop := Ms G s t L ∧ ∀ S, Ms G s t S → ∀ v, v < N → L v = true → S v = true
/-- .. the greatest one -/
def Gst (G : Nw) (N s t : Nat) (L : Nat → Bool) : Prop := Ms G s t L ∧ ∀ S, Ms G s t S → ∀ v, v < N → S v = true → L v = true

theorem Ms.mc {G : Nw} {s t : Nat} {S : Nat → Bool} (h : Ms G s t S) : Mc G s t (G.ct S) := ⟨⟨S, h.sd, rfl⟩, h.le⟩
theorem Mc.ms {G : Nw} {s t : Nat} {v : Int} (h : Mc G s t v) {S : Nat → Bool} (hS : Nw.Sd s t S) (hv : G.ct S = v) : Ms G s t S := ⟨hS, fun T hT => by rw [hv]; exact h.le T hT⟩
theorem Full.ms {G : Nw} {N s t : Nat} {x : Nat → Int} (hN : G.In N) (hs : s < N) (ht : t < N) (h : Full G N s t x) {S : Nat → Bool} : Ms G s t S ↔ Nw.Sd s t S ∧ G.Clo x S := by
  have hm := h.mc hN hs ht
  constructor
  · intro k
    exact ⟨k.sd, (G.tight hN hs h.fp.rs h.fp.cons k.sd).1 (k.mc.one hm)⟩
  · rintro ⟨k1, k2⟩
    exact hm.ms k1 ((G.tight hN hs h.fp.rs h.fp.cons k1).2 k2)
theorem Full.lst {G : Nw} {N s t : Nat} {x : Nat → Int} (hN : G.In N) (hs : s < N) (ht : t < N) (h : Full G N s t x) {R : Nat → Bool} {la rk : Nat → Nat} (hw : G.Wk N s (fun j => decide (0 < x j)) R la rk) : Lst G N s t R := by
  have hcl : G.Clo x R := fun j hj hx hS => hw.closed j hj (by simpa using hx) hS
  obtain ⟨R', la', rk', hw', hR'⟩ := h.no
  have hRt : R t = false := by
    cases e : R t
    · rfl
    · have := hw.least G (S := R') hw'.root (fun j hj ho hS => hw'.closed j hj ho hS) t ht e
      rw [hR'] at this; cases this
  refine ⟨(h.ms hN hs ht).2 ⟨⟨hw.root, hRt⟩, hcl⟩, fun S hS v hv hR => ?_⟩
  obtain ⟨k1, k2⟩ := (h.ms hN hs ht).1 hS
  exact hw.least G (S := S) k1.1 (fun j hj ho hS => k2 j hj (by simpa using ho) hS) v hv hR
theorem Full.gst {G : Nw} {N s t : Nat} {x : Nat → Int} (hN : G.In N) (hs : s < N) (ht : t < N) (h : Full G N s t x) {Q : Nat → Bool} {la rk : Nat → Nat} (hw : G.Wk N t (fun j => decide (0 < x (rev j))) Q la rk) : Gst G N s t (fun v => !Q v) := by
  have key : ∀ S, Nw.Sd s t S → G.Clo x S → ∀ v, v < N → Q v = true → S v = false := by
    intro S hS hC v hv hQ
    have := hw.least G (S := fun v => !S v) (by simp [hS.2]) (fun j hj ho hj2 => by
      simp at hj2 ⊢
      cases e : S (G.hd j)
      · rfl
      · have h1 := hC (rev j) (rev_lt hj) (by simpa using ho) (by rw [G.tl_rev]; exact e)
        rw [G.hd_rev, hj2] at h1; cases h1) v hv hQ
    simpa using this
  obtain ⟨R, la', rk', hw', hR⟩ := h.no
  have hRc : G.Clo x R := fun j hj hx hS => hw'.closed j hj (by simpa using hx) hS
  have hQs : Q s = false := by
    cases e : Q s
    · rfl
    · have := key R ⟨hw'.root, hR⟩ hRc s hs e
      rw [hw'.root] at this; cases this
  have hcl : G.Clo x (fun v => !Q v) := fun j hj hx hS => by
    simp at hS ⊢
    cases e : Q (G.hd j)
    · rfl
    · have h1 := hw.closed (rev j) (rev_lt hj) (by rw [rev_rev]; simpa using hx) (by rw [G.tl_rev]; exact e)
      rw [G.hd_rev, hS] at h1; cases h1
  refine ⟨(h.ms hN hs ht).2 ⟨⟨by simp [hQs], by simp [hw.root]⟩, hcl⟩, fun S hS v hv hSv => ?_⟩
  obtain ⟨k1, k2⟩ := (h.ms hN hs ht).1 hS
  cases e : Q v
  · simp [e]
  · have := key S k1 k2 v hv e
    rw [hSv] at this; cases this
end Go.Proofs.Ytilcbbdmenknfaa
namespace Go.Proofs.Ytilcbbdmenknfaa

/-- side number k of N nodes -/
def numb (N k : Nat) : Nat → Bool := fun v => decide (v = 0) || (decide (1 ≤ v) && decide (v < N - 1) && decide (k / 2 ^ (N - 2 - v) % 2 = 1))
theorem numb_zero (N k : Nat) : numb N k 0 = true := by unfold numb; simp
theorem numb_last {N : Nat} (k : Nat) (hN : 2 ≤ N) : numb N k (N - 1) = false := by
  have h1 : ¬ N - 1 = 0 := by omega
  have h2 : ¬ N - 1 < N - 1 := by omega
  unfold numb; simp [h1, h2]
theorem numb_mid {N v : Nat} (k : Nat) (h1 : 1 ≤ v) (h2 : v < N - 1) : numb N k v = decide (k / 2 ^ (N - 2 - v) % 2 = 1) := by
  have h3 : ¬ v = 0 := by omega
  unfold numb; simp [h3, h1, h2]
theorem numb_sd {N : Nat} (k : Nat) (hN : 2 ≤ N) : Nw.Sd 0 (N - 1) (numb N k) := ⟨numb_zero N k, numb_last k hN⟩
theorem bits_ex : ∀ (n : Nat) (f : Nat → Bool), ∃ k, k < 2 ^ n ∧ ∀ i, i < n → decide (k / 2 ^ i % 2 = 1) = f i := by
  intro n
  induction n with
  | zero => intro f; exact ⟨0, by omega, fun i hi => by omega⟩
  | succ n ih =>
    intro f
    obtain ⟨k, hk, h⟩ := ih (fun i => f (i + 1))
    have hp : 2 ^ (n + 1) = 2 * 2 ^ n := by rw [Nat.pow_succ]; omega
    refine ⟨2 * k + (if f 0 = true then 1 else 0), by split <;> omega, fun i hi => ?_⟩
    cases i with
    | zero =>
      rw [Nat.pow_zero, Nat.div_one]
      cases hf : f 0
      · rw [if_neg (by simp)]; simp
      · rw [if_pos rfl]; simp
    | succ i =>
      have e1 : (2 * k + if f 0 = true then 1 else 0) / 2 = k := by split <;> omega
      have e2 : (2 * k + if f 0 = true then 1 else 0) / 2 ^ (i + 1) = k / 2 ^ i := by
        rw [show 2 ^ (i + 1) = 2 * 2 ^ i by rw [Nat.pow_succ]; omega, ← Nat.div_div_eq_div_mul, e1]
      rw [e2]
      exact h i (by omega)
/-- every side has a number -/
theorem numb_ex {N : Nat} (hN : 2 ≤ N) {S : Nat → Bool} (h : Nw.Sd 0 (N - 1) S) : ∃ k, k < 2 ^ (N - 2) ∧ ∀ v, v < N → numb N k v = S v := by
  obtain ⟨k, hk, hb⟩ := bits_ex (N - 2) (fun i => S (N - 2 - i))
  refine ⟨k, hk, fun v hv => ?_⟩
  by_cases h0 : v = 0
  · subst h0; rw [numb_zero, h.1]
  · by_cases h1 : v = N - 1
    · subst h1; rw [numb_last k hN, h.2]
    · rw [numb_mid k (by omega) (by omega), hb _ (by omega)]
      congr 1; omega
theorem Nw.ct_congr (G : Nw) {N : Nat} (hN : G.In N) {S T : Nat → Bool} (h : ∀ v, v < N → S v = T v) : G.ct S = G.ct T := by
  refine sm_congr fun k hk => ?_
  rw [h _ (hN k hk).1, h _ (hN k hk).2]
/-- the intersection and the union of two minimum sides are minimum sides -/
theorem Ms.both {G : Nw} {N s t : Nat} {x : Nat → Int} (hN : G.In N) (hs : s < N) (ht : t < N) (h : Full G N s t x) {S T : Nat → Bool} (hS : Ms G s t S) (hT : Ms G s t T) :
    Ms G s t (fun v => S v && T v) ∧ Ms G s t (fun v => S v || T v) := by
  obtain ⟨a1, a2⟩ := (h.ms hN hs ht).1 hS
  obtain ⟨b1, b2⟩ := (h.ms hN hs ht).1 hT
  refine ⟨(h.ms hN hs ht).2 ⟨⟨by simp [a1.1, b1.1], by simp [a1.2]⟩, fun j hj hx hq => ?_⟩, (h.ms hN hs ht).2 ⟨⟨by simp [a1.1], by simp [a1.2, b1.2]⟩, fun j hj hx hq => ?_⟩⟩
  · simp only [Bool.and_eq_true] at hq ⊢
    exact ⟨a2 j hj hx hq.1, b2 j hj hx hq.2⟩
  · simp only [Bool.or_eq_true] at hq ⊢
    rcases hq with q | q
    · exact .inl (a2 j hj hx q)
    · exact .inr (b2 j hj hx q)
end Go.Proofs.Ytilcbbdmenknfaa
namespace Go.Proofs.Ytilcbbdmenknfaa
open Go.RowKit

theorem bits_and1 (x : Nat) (hx : x < 1000000) : bits .and .i64 (x : Int) 1 = ((x % 2 : Nat) : Int) := by
  have h1 : (BitVec.ofInt 64 (x : Int)).toNat = x := by
    rw [BitVec.ofInt_natCast, BitVec.toNat_ofNat]; exact Nat.mod_eq_of_lt (by omega)
  show IntKind.i64.wrap ((BitVec.ofInt 64 (x : Int) &&& BitVec.ofInt 64 (1 : Int)).toNat : Int) = _
  have h2 : (BitVec.ofInt 64 (1 : Int)).toNat = 1 := by decide
  rw [BitVec.toNat_and, h1, h2, Nat.and_one_is_mod]
  exact IntWalk.i64_in _ (by omega)
/-- the two lists are the same -/
def eqB (n m : Nat) (s t : Nat → Bool) : Bool := decide (n = m) && (List.range n).all fun i => s i == t i
theorem eqB_iff {n m : Nat} {s t : Nat → Bool} : eqB n m s t = true ↔ n = m ∧ ∀ i, i < n → s i = t i := by
  unfold eqB
  rw [Bool.and_eq_true, decide_eq_true_iff, List.all_eq_true]
  constructor
  · rintro ⟨h1, h2⟩; exact ⟨h1, fun i hi => by simpa using h2 i (List.mem_range.2 hi)⟩
  · rintro ⟨h1, h2⟩; exact ⟨h1, fun i hi => by simpa using h2 i (List.mem_range.1 hi)⟩
theorem eqB_no {n m : Nat} {s t : Nat → Bool} (h : ¬ (n = m ∧ ∀ i, i < n → s i = t i)) : eqB n m s t = false := by
  cases e : eqB n m s t
  · rfl
  · exact absurd (eqB_iff.1 e) h

set_option maxHeartbeats 4000000 in
set_option maxRecDepth 100000 in
theorem numbered_any (N k : Nat) (W : World) (hN : 2 ≤ N) (hN2 : N ≤ 12) (hk : k < 2 ^ (N - 2)) :
    Calls Try.prog 61 #[.int .i64 N, .int .i64 k] W fun e W' => ∃ g, e = .returned (.slice (some ⟨g, 0, none⟩) N N) ∧ W.heap.size ≤ g ∧ BB W' g N (numb N k) ∧ Ext W W' := by
  have hm1 : ∀ w, (Instr.makeSlice 40 (.int .i64 (N : Int)) (.int .i64 (N : Int))).run Try.prog w = .ok (.slice (some ⟨w.heap.size, 0, none⟩) N N) (w.alloc (.cells (Array.ofFn fun _ : Fin N => .bool false) 4)) := fun w => make_one 40 4 _ 1 Try.underlying40 info4 rfl (by omega) N (by omega) w
  have hk2 : k < 1024 := Nat.lt_of_lt_of_le hk (Nat.le_trans (Nat.pow_le_pow_right (by omega) (show N - 2 ≤ 10 by omega)) (by decide))
  have HK := Lib.hid hk; clear hk
  go_enter Try.func61, Try.ntmps61
  go_upto_region 2 with fail
  have bb := al1 W (.cells (Array.ofFn fun _ : Fin N => Value.bool false) 4)
  have hb : BB (W.alloc (.cells (Array.ofFn fun _ : Fin N => Value.bool false) 4)) W.heap.size N (fun _ => false) := heap_alloc_new W _
  generalize W.alloc (.cells (Array.ofFn fun _ : Fin N => Value.bool false) 4) = W1 at *
  have HX : Hid (Ext W W1) := Lib.hid bb
  have c0 := Bk.cell hb (show 0 < N by omega)
  have f0 := Bk.free hb 0
  have y := BB.set_ hb 0 true
  have HY := Lib.hid (And.intro y (Ext.sc bb (Nat.le_refl W.heap.size) (i := 0) (v := .bool true)))
  have h0N : (0 : Int) < N := by omega
  clear hb bb y
  go_wp2_with fail
  clear c0 f0
  go_loopw [6] (fun i wr => ∃ v : Nat, i = .int .i64 v ∧ 1 ≤ v ∧ v ≤ N - 1 ∧ Hid (BB wr W.heap.size N (fun u => if u < v then numb N k u else false) ∧ Ext W wr)) (fun i _ => N - (intOf i).toNat)
  case atStart =>
    refine ⟨1, rfl, Nat.le_refl _, by omega, Lib.hid ⟨Bk.congr HY.out.1 (fun j hj => ?_), HY.out.2⟩⟩
    congr 1
    by_cases e : j = 0
    · subst e; rw [up_self]; dsimp only; rw [if_pos (by omega), numb_zero]
    · rw [up_ne _ _ e]; dsimp only; rw [if_neg (by omega)]
  case round =>
    obtain ⟨v, rfl, hv1, hv2, hin⟩ := hrel
    by_cases hlt : v < N - 1
    · have hlt2 : (v : Int) < (N : Int) - 1 := by omega
      have cv := Bk.cell hin.out.1 (show v < N by omega)
      have fv := Bk.free hin.out.1 v
      obtain ⟨sh, hsh⟩ : ∃ sh : Nat, sh = N - 2 - v := ⟨_, rfl⟩
      have hsub : (N : Int) - 2 - v = sh := by omega
      have hsh2 : sh ≤ 10 := by omega
      have hvN : v < N := by omega
      have HS := Lib.hid hsh
      clear hsh
      obtain ⟨q, hq⟩ : ∃ q, q = decide (k / 2 ^ sh % 2 = 1) := ⟨_, rfl⟩
      have hbit : (bits BinOp.and IntKind.i64 ((k : Int) / 2 ^ sh) 1 == 1) = q := by
        have h1 : ((k : Int) / 2 ^ sh) = ((k / 2 ^ sh : Nat) : Int) := by rw [Int.natCast_ediv, Int.natCast_pow]; rfl
        have h2 : k / 2 ^ sh < 1000000 := Nat.lt_of_le_of_lt (Nat.div_le_self _ _) (by omega)
        rw [h1, bits_and1 _ h2, hq]
        exact Bool.eq_iff_iff.2 (by simp; omega)
      have HQ := Lib.hid hq; have HBIT := Lib.hid hbit
      have y := BB.set_ hin.out.1 v q
      have Y := Lib.hid y
      clear hq hbit y
      go_wp2
      rw [HBIT.out]
      go_roundw
      case rel =>
        refine ⟨v + 1, by go_num, by omega, by omega, Lib.hid ⟨Bk.congr Y.out (fun j hj => ?_), hin.out.2.sc (Nat.le_refl _)⟩⟩
        congr 1
        by_cases e : j = v
        · subst e; rw [up_self]; dsimp only; rw [if_pos (by omega), numb_mid k hv1 hlt, HQ.out, HS.out]
        · rw [up_ne _ _ e]; dsimp only
          by_cases e2 : j < v
          · rw [if_pos e2, if_pos (by omega)]
          · rw [if_neg e2, if_neg (by omega)]
      case measure => simp [intOf]; omega
    · obtain rfl : v = N - 1 := by omega
      have hlt2 : ¬ ((N - 1 : Nat) : Int) < (N : Int) - 1 := by omega
      go_wp2
      go_ret
      refine ⟨W.heap.size, rfl, Nat.le_refl _, Bk.congr hin.out.1 (fun j hj => ?_), hin.out.2⟩
      congr 1
      dsimp only
      by_cases e : j < N - 1
      · rw [if_pos e]
      · rw [if_neg e, show j = N - 1 by omega, numb_last k hN]

set_option maxHeartbeats 4000000 in
set_option maxRecDepth 100000 in
theorem equalB_any (n m : Nat) (s t : Nat → Bool) (U V : Value) (W : World) (hU : Bl W U n s) (hV : Bl W V m t) (hn : n ≤ 1000) :
    Calls Try.prog 25 #[U, V] W fun e W' => e = .returned (.bool (eqB n m s t)) ∧ Ext W W' := by
  obtain ⟨r, hr⟩ : ∃ r, r = eqB n m s t := ⟨_, rfl⟩
  rw [← hr]
  have HR := Lib.hid hr; clear hr
  have HU := Lib.hid hU; have HV := Lib.hid hV
  obtain ⟨A1, c1, rfl, hc1, hd1, -⟩ := hU
  obtain ⟨A2, c2, rfl, hc2, hd2, -⟩ := hV
  go_enter Try.func25, Try.ntmps25
  by_cases hnm : n = m
  · subst hnm
    go_wp2_with fail
    go_loopw [13] (fun i wr => ∃ k : Nat, i = .int .i64 k ∧ k ≤ n ∧ Hid ((∀ j, j < k → s j = t j) ∧ Ext W wr)) (fun i _ => n - (intOf i).toNat)
    case atStart => exact ⟨0, rfl, Nat.zero_le _, Lib.hid ⟨fun j hj => by omega, Ext.refl _⟩⟩
    case round =>
      obtain ⟨k, rfl, hk, hin⟩ := hrel
      by_cases hlt : k < n
      · obtain ⟨b1, o1, rfl, -, e1⟩ := Vl.at HU.out hin.out.2 hlt
        obtain ⟨b2, o2, rfl, -, e2⟩ := Vl.at HV.out hin.out.2 hlt
        go_upto_region 6 with fail
        obtain ⟨p, hp⟩ : ∃ p, p = s k := ⟨_, rfl⟩
        obtain ⟨q, hq⟩ : ∃ q, q = t k := ⟨_, rfl⟩
        rw [← hp] at e1; rw [← hq] at e2
        have HP := Lib.hid (And.intro hp hq)
        clear hp hq
        have e1d : wr.drew.cell? ⟨b1, o1 + k, none⟩ = some (.bool p) := e1
        have e2d : wr.drew.cell? ⟨b2, o2 + k, none⟩ = some (.bool q) := e2
        clear e1 e2
        by_cases hpq : p = q
        · subst hpq
          have hne : (p != p) = false := by cases p <;> rfl
          go_region
          go_wp2
          go_roundw
          case rel =>
            refine ⟨k + 1, by go_num, by omega, Lib.hid ⟨fun j hj => ?_, hin.out.2.drw⟩⟩
            by_cases e : j = k
            · subst e; rw [← HP.out.1, ← HP.out.2]
            · exact hin.out.1 j (by omega)
          case measure => simp [intOf]; omega
        · have hne : (!(p == q)) = true := by cases p <;> cases q <;> simp_all
          have hr : r = false := by rw [HR.out]; exact eqB_no (fun h => hpq (by rw [HP.out.1, HP.out.2]; exact h.2 k hlt))
          have HR2 := Lib.hid hr; clear hr
          go_region
          go_wp2
          go_ret
          exact ⟨by rw [HR2.out]; rfl, hin.out.2.drw⟩
      · obtain rfl : k = n := by omega
        have hr : r = true := by rw [HR.out]; exact eqB_iff.2 ⟨rfl, hin.out.1⟩
        have HR2 := Lib.hid hr; clear hr
        go_wp2
        go_ret
        exact ⟨by rw [HR2.out]; rfl, hin.out.2⟩
  · have hne : ((n : Int) != m) = true := by simp; omega
    have hr : r = false := by rw [HR.out]; exact eqB_no (fun h => hnm h.1)
    have HR2 := Lib.hid hr; clear hr
    go_wp2
    go_ret
    exact ⟨by rw [HR2.out]; rfl, Ext.refl _⟩
end Go.Proofs.Ytilcbbdmenknfaa
