/- Walks: rest.least, rest.greatest, Least, Greatest. · The network whose cuts are energies: mathematics. · Walks: networkOf. -/
import Derived.Test.YtilcbbdmenknfaaM15
import Derived.Test.YtilcbbdmenknfaaM10
import Derived.Test.YtilcbbdmenknfaaM17
import Derived.Test.YtilcbbdmenknfaaM11
import Derived.Test.YtilcbbdmenknfaaM18
namespace Go.Proofs.Ytilcbbdmenknfaa
open Go.RowKit

set_option maxHeartbeats 4000000 in
set_option maxRecDepth 100000 in
theorem least_any (a : Ar) (N s t n2 bs : Nat) (M : Int) (AV SV : Value) (gl : Nat) (x : Nat → Int) (W : World) (hA : Al W AV a) (hO : a.Ok N M) (hn2 : n2 = 2 * a.n) (hn : a.n ≤ 1000) (hN : N ≤ 1000)
    (hS : Sl W bs SV N (stf a.nw a.n)) (hs : s < N) (hX : BI W gl n2 x) :
    Calls Try.prog 58 #[.agg #[.int .i64 s, .int .i64 t, AV, SV, .slice (some ⟨gl, 0, none⟩) n2 n2]] W fun e W' => ∃ R la rk g, e = .returned (.slice (some ⟨g, 0, none⟩) N N) ∧ W.heap.size ≤ g ∧ BB W' g N R ∧ a.nw.Wk N s (fun j => decide (0 < x j)) R la rk ∧ Ext W W' := by
  obtain ⟨hn2a, hn2b⟩ : n2 ≤ 2 * a.n ∧ 2 * a.n ≤ n2 := by omega
  have hn2' : n2 ≤ 2000 := by omega
  clear hn2
  have hmf := mfunc
  have HA := Lib.hid hA; have HO := Lib.hid hO; have HS := Lib.hid hS; have HX := Lib.hid hX
  clear hO
  have lgl := Bk.lt hX
  clear hX
  obtain ⟨A, c, rfl, hac, hcm, -⟩ := hA
  obtain ⟨gs, cs, rfl, hgs, -, -⟩ := hS
  go_enter Try.func58, Try.ntmps58
  go_upto_region 1 with fail
  have bb := al1 W (.cells #[.int .i64 s, .int .i64 t, .slice A a.n c, .slice (some ⟨gs, 0, none⟩) N cs, .slice (some ⟨gl, 0, none⟩) n2 n2] 87)
  have hh := heap_alloc_new W (.cells #[.int .i64 s, .int .i64 t, .slice A a.n c, .slice (some ⟨gs, 0, none⟩) N cs, .slice (some ⟨gl, 0, none⟩) n2 n2] 87)
  have zz : (W.alloc (.cells #[.int .i64 s, .int .i64 t, .slice A a.n c, .slice (some ⟨gs, 0, none⟩) N cs, .slice (some ⟨gl, 0, none⟩) n2 n2] 87)).heap.size = W.heap.size + 1 := by simp
  generalize W.alloc (.cells #[.int .i64 s, .int .i64 t, .slice A a.n c, .slice (some ⟨gs, 0, none⟩) N cs, .slice (some ⟨gl, 0, none⟩) n2 n2] 87) = W1 at *
  have zle : W.heap.size < W1.heap.size := by omega
  have BB1 : Hid (Ext W W1) := Lib.hid bb
  obtain ⟨q0, q1, q2, q3, q4, q5, -⟩ := five hh
  clear bb zz hh q5
  have hop : ∀ X, Ext W1 X → ∀ j, j < 2 * a.n → Calls Try.prog 81 #[.int .i64 j, .pointer (some ⟨W.heap.size, 0, none⟩)] X fun e X' => e = .returned (.bool (decide (0 < x j))) ∧ Ext X X' := fun X e j hj => by
    have c4 := keepAt e zle q4
    have cx := keepAt (BB1.out.trans e) lgl (Bk.cell HX.out (by omega : j < n2))
    exact open81 W.heap.size n2 n2 gl 0 j (x j) X c4 (by omega) (by rw [Nat.zero_add]; exact cx)
  have HOP := Lib.hid hop
  clear hop
  go_wp2_with fail
  refine (walk_any s t _ _ a N M (stf a.nw a.n) s 81 W.heap.size bs (fun j => decide (0 < x j)) _ (HA.out.ext BB1.out) HO.out hn hN (HS.out.ext BB1.out) (stf_stp a.nw N) hs call81 HOP.out).mono ?_
  rintro e w1 ⟨R, la, rk, ga, gb, rfl, hh1, hh2, hh12, hbR, hbL, hwk, hlow, hx⟩
  have H := Lib.hid (And.intro hbR (And.intro hwk (BB1.out.trans hx)))
  clear hbR hbL hwk hlow hx
  go_wp2
  go_ret
  exact ⟨R, la, rk, ga, rfl, by omega, H.out.1, H.out.2.1, H.out.2.2⟩

set_option maxHeartbeats 4000000 in
set_option maxRecDepth 100000 in
theorem greatest_any (a : Ar) (N s t n2 bs : Nat) (M : Int) (AV SV : Value) (gl : Nat) (x : Nat → Int) (W : World) (hA : Al W AV a) (hO : a.Ok N M) (hn2 : n2 = 2 * a.n) (hn : a.n ≤ 450) (hN : N ≤ 1000)
    (hS : Sl W bs SV N (stf a.nw a.n)) (ht : t < N) (hX : BI W gl n2 x) :
    Calls Try.prog 60 #[.agg #[.int .i64 s, .int .i64 t, AV, SV, .slice (some ⟨gl, 0, none⟩) n2 n2]] W fun e W' => ∃ Q la rk g, e = .returned (.slice (some ⟨g, 0, none⟩) N N) ∧ W.heap.size ≤ g ∧ BB W' g N (fun v => !Q v) ∧ a.nw.Wk N t (fun j => decide (0 < x (rev j))) Q la rk ∧ Ext W W' := by
  obtain ⟨hn2a, hn2b⟩ : n2 ≤ 2 * a.n ∧ 2 * a.n ≤ n2 := by omega
  have hn2' : n2 ≤ 2000 := by omega
  clear hn2
  have hmf := mfunc
  have HA := Lib.hid hA; have HO := Lib.hid hO; have HS := Lib.hid hS; have HX := Lib.hid hX
  clear hO
  have lgl := Bk.lt hX
  clear hX
  obtain ⟨A, c, rfl, hac, hcm, -⟩ := hA
  obtain ⟨gs, cs, rfl, hgs, -, -⟩ := hS
  go_enter Try.func60, Try.ntmps60
  go_upto_region 1 with fail
  have bb := al1 W (.cells #[.int .i64 s, .int .i64 t, .slice A a.n c, .slice (some ⟨gs, 0, none⟩) N cs, .slice (some ⟨gl, 0, none⟩) n2 n2] 87)
  have hh := heap_alloc_new W (.cells #[.int .i64 s, .int .i64 t, .slice A a.n c, .slice (some ⟨gs, 0, none⟩) N cs, .slice (some ⟨gl, 0, none⟩) n2 n2] 87)
  have zz : (W.alloc (.cells #[.int .i64 s, .int .i64 t, .slice A a.n c, .slice (some ⟨gs, 0, none⟩) N cs, .slice (some ⟨gl, 0, none⟩) n2 n2] 87)).heap.size = W.heap.size + 1 := by simp
  generalize W.alloc (.cells #[.int .i64 s, .int .i64 t, .slice A a.n c, .slice (some ⟨gs, 0, none⟩) N cs, .slice (some ⟨gl, 0, none⟩) n2 n2] 87) = W1 at *
  have zle : W.heap.size < W1.heap.size := by omega
  have BB1 : Hid (Ext W W1) := Lib.hid bb
  obtain ⟨q0, q1, q2, q3, q4, q5, -⟩ := five hh
  clear bb zz hh q5
  have hop : ∀ X, Ext W1 X → ∀ j, j < 2 * a.n → Calls Try.prog 82 #[.int .i64 j, .pointer (some ⟨W.heap.size, 0, none⟩)] X fun e X' => e = .returned (.bool (decide (0 < x (rev j)))) ∧ Ext X X' := fun X e j hj => by
    have hrj := rev_lt (j := j) (m := a.n) hj
    have c4 := keepAt e zle q4
    have cx := keepAt (BB1.out.trans e) lgl (Bk.cell HX.out (by omega : rev j < n2))
    exact open82 W.heap.size n2 n2 gl 0 j (x (rev j)) X c4 (Nat.lt_of_lt_of_le lgl (BB1.out.trans e).size) (by omega) (by omega) (by rw [Nat.zero_add]; exact cx)
  have HOP := Lib.hid hop
  clear hop
  go_wp2_with fail
  refine (walk_any s t _ _ a N M (stf a.nw a.n) t 82 W.heap.size bs (fun j => decide (0 < x (rev j))) _ (HA.out.ext BB1.out) HO.out (by omega) hN (HS.out.ext BB1.out) (stf_stp a.nw N) ht call82 HOP.out).mono ?_
  rintro e w1 ⟨Q, la, rk, ga, gb, rfl, hh1, hh2, hh12, hbR, hbL, hwk, hlow, hx⟩
  have H := Lib.hid (And.intro hbR (And.intro hwk (BB1.out.trans hx)))
  clear hbR hbL hwk hlow hx q0 q1 q2 q3 q4
  go_wp2_with fail
  go_loopw [19] (fun i wr => ∃ k : Nat, i = .int .i64 k ∧ k ≤ N ∧ Hid (BB wr ga N (fun v => if v < k then !Q v else Q v) ∧ Ext W wr)) (fun i _ => N - (intOf i).toNat)
  case atStart => exact ⟨0, rfl, Nat.zero_le _, Lib.hid ⟨Bk.congr H.out.1 (fun j _ => by simp), H.out.2.2⟩⟩
  case round =>
    obtain ⟨k, rfl, hk, hin⟩ := hrel
    by_cases hlt : k < N
    · have ck : wr.cell? ⟨ga, k, none⟩ = some (.bool (if k < k then !Q k else Q k)) := Bk.cell hin.out.1 hlt
      rw [if_neg (Nat.lt_irrefl k)] at ck
      have fk := Bk.free hin.out.1 k
      have y := BB.set_ hin.out.1 k (!Q k)
      obtain ⟨q, hq⟩ : ∃ q, q = Q k := ⟨_, rfl⟩
      rw [← hq] at ck y
      have HY := Lib.hid (And.intro y hq)
      clear y hq
      go_wp2
      go_roundw
      case rel =>
        refine ⟨k + 1, by go_num, by omega, Lib.hid ⟨Bk.congr HY.out.1 (fun j _ => ?_), hin.out.2.sc (by omega)⟩⟩
        congr 1
        by_cases e : j = k
        · subst e; rw [up_self]; dsimp only; rw [if_pos (by omega), HY.out.2]
        · rw [up_ne _ _ e]; dsimp only
          by_cases e2 : j < k
          · rw [if_pos e2, if_pos (by omega)]
          · rw [if_neg e2, if_neg (by omega)]
      case measure => simp [intOf]; omega
    · obtain rfl : k = N := by omega
      go_wp2
      go_ret
      exact ⟨Q, la, rk, ga, rfl, by omega, Bk.congr hin.out.1 (fun j hj => by dsimp only; rw [if_pos hj]), H.out.2.1, hin.out.2⟩

set_option maxHeartbeats 4000000 in
set_option maxRecDepth 100000 in
theorem leastS_any (N : Int) (a : Ar) (AV : Value) (W : World) (hA : Al W AV a) :
    Calls Try.prog 23 #[.agg #[.int .i64 N, AV]] W fun e W' => ∃ (F : Value) (er : Int), e = .returned (.tuple #[F, .int .i64 er]) ∧ Ext W W' ∧
      ((vNet N a = false ∧ F = .slice none 0 0 ∧ er = 2) ∨ (vNet N a = true ∧ er = 0 ∧ ∃ g S, F = .slice (some ⟨g, 0, none⟩) N.toNat N.toNat ∧ W.heap.size ≤ g ∧ BB W' g N.toNat S ∧ Lst a.nw N.toNat 0 (N.toNat - 1) S)) := by
  have HA := Lib.hid hA
  obtain ⟨A, c, rfl, hac, hcm, -⟩ := hA
  go_enter Try.func23, Try.ntmps23
  go_upto_region 1 with fail
  have bb := al1 W (.cells #[.int .i64 N, .slice A a.n c] 30)
  have m0 : (W.alloc (.cells #[.int .i64 N, .slice A a.n c] 30)).cell? ⟨W.heap.size, 0, none⟩ = some (.int .i64 N) := by rw [World.cell?_alloc_new]; rfl
  have m1 : (W.alloc (.cells #[.int .i64 N, .slice A a.n c] 30)).cell? ⟨W.heap.size, 1, none⟩ = some (.slice A a.n c) := by rw [World.cell?_alloc_new]; rfl
  have zz : W.heap.size < (W.alloc (.cells #[.int .i64 N, .slice A a.n c] 30)).heap.size := by simp
  generalize W.alloc (.cells #[.int .i64 N, .slice A a.n c] 30) = W1 at *
  have HB : Hid (Ext W W1) := Lib.hid bb
  clear bb
  go_wp2_with fail
  refine (isNet_any N a _ _ (HA.out.ext HB.out)).mono ?_
  rintro e w1 ⟨rfl, hx⟩
  replace m0 := keepAt hx zz m0
  replace m1 := keepAt hx zz m1
  have HX : Hid (Ext W w1) := Lib.hid (HB.out.trans hx)
  clear hx
  cases hv : vNet N a
  · have HV := Lib.hid hv; clear hv
    go_wp2
    refine bodyPost_ret (v := .tuple #[.slice none 0 0, .int .i64 2]) (by simp [results, Try.results23, go_sem]) rfl ⟨_, 2, rfl, HX.out, .inl ⟨HV.out, rfl, rfl⟩⟩
  · obtain ⟨m, rfl, hm2, hm40, hn, hok⟩ := vNet_ok hv
    have HOK := Lib.hid hok; have HV := Lib.hid hv
    clear hv hok
    go_wp2_with fail
    refine (filled_any m a _ _ (HA.out.ext HX.out) HOK.out (by omega) hm2 (by omega)).mono ?_
    rintro e w2 ⟨x, gl, SV, rfl, -, hbi, hfull, hsl, hx⟩
    have HX2 := Lib.hid (HX.out.trans hx)
    have HFULL := Lib.hid hfull; have HBI := Lib.hid hbi; have HSL := Lib.hid hsl
    obtain ⟨gs, cs, rfl, -, -, -⟩ := hsl
    clear hx m0 m1 hbi hfull
    go_wp2_with fail
    refine (least_any a m 0 (m - 1) (2 * a.n) _ 1000000 _ (.slice (some ⟨gs, 0, none⟩) m cs) gl x _ (HA.out.ext HX2.out) HOK.out rfl (by omega) (by omega) HSL.out (by omega) HBI.out).mono ?_
    rintro e w3 ⟨R, la, rk, g, rfl, hg, hbr, hwk, hx⟩
    have HX3 := Lib.hid (HX2.out.trans hx)
    have H := Lib.hid (And.intro hbr hwk)
    have hsz := HX2.out.size
    clear hx hbr hwk
    go_wp2
    refine bodyPost_ret (v := .tuple #[.slice (some ⟨g, 0, none⟩) m m, .int .i64 0]) (by simp [results, Try.results23, go_sem]) rfl ⟨_, 0, rfl, HX3.out, .inr ⟨HV.out, rfl, g, _, rfl, by omega, H.out.1, ?_⟩⟩
    exact HFULL.out.lst HOK.out.in_ (by omega) (by omega) H.out.2

set_option maxHeartbeats 4000000 in
set_option maxRecDepth 100000 in
theorem greatestS_any (N : Int) (a : Ar) (AV : Value) (W : World) (hA : Al W AV a) :
    Calls Try.prog 26 #[.agg #[.int .i64 N, AV]] W fun e W' => ∃ (F : Value) (er : Int), e = .returned (.tuple #[F, .int .i64 er]) ∧ Ext W W' ∧
      ((vNet N a = false ∧ F = .slice none 0 0 ∧ er = 2) ∨ (vNet N a = true ∧ er = 0 ∧ ∃ g S, F = .slice (some ⟨g, 0, none⟩) N.toNat N.toNat ∧ W.heap.size ≤ g ∧ BB W' g N.toNat S ∧ Gst a.nw N.toNat 0 (N.toNat - 1) S)) := by
  have HA := Lib.hid hA
  obtain ⟨A, c, rfl, hac, hcm, -⟩ := hA
  go_enter Try.func26, Try.ntmps26
  go_upto_region 1 with fail
  have bb := al1 W (.cells #[.int .i64 N, .slice A a.n c] 30)
  have m0 : (W.alloc (.cells #[.int .i64 N, .slice A a.n c] 30)).cell? ⟨W.heap.size, 0, none⟩ = some (.int .i64 N) := by rw [World.cell?_alloc_new]; rfl
  have m1 : (W.alloc (.cells #[.int .i64 N, .slice A a.n c] 30)).cell? ⟨W.heap.size, 1, none⟩ = some (.slice A a.n c) := by rw [World.cell?_alloc_new]; rfl
  have zz : W.heap.size < (W.alloc (.cells #[.int .i64 N, .slice A a.n c] 30)).heap.size := by simp
  generalize W.alloc (.cells #[.int .i64 N, .slice A a.n c] 30) = W1 at *
  have HB : Hid (Ext W W1) := Lib.hid bb
  clear bb
  go_wp2_with fail
  refine (isNet_any N a _ _ (HA.out.ext HB.out)).mono ?_
  rintro e w1 ⟨rfl, hx⟩
  replace m0 := keepAt hx zz m0
  replace m1 := keepAt hx zz m1
  have HX : Hid (Ext W w1) := Lib.hid (HB.out.trans hx)
  clear hx
  cases hv : vNet N a
  · have HV := Lib.hid hv; clear hv
    go_wp2
    refine bodyPost_ret (v := .tuple #[.slice none 0 0, .int .i64 2]) (by simp [results, Try.results26, go_sem]) rfl ⟨_, 2, rfl, HX.out, .inl ⟨HV.out, rfl, rfl⟩⟩
  · obtain ⟨m, rfl, hm2, hm40, hn, hok⟩ := vNet_ok hv
    have HOK := Lib.hid hok; have HV := Lib.hid hv
    clear hv hok
    go_wp2_with fail
    refine (filled_any m a _ _ (HA.out.ext HX.out) HOK.out (by omega) hm2 (by omega)).mono ?_
    rintro e w2 ⟨x, gl, SV, rfl, -, hbi, hfull, hsl, hx⟩
    have HX2 := Lib.hid (HX.out.trans hx)
    have HFULL := Lib.hid hfull; have HBI := Lib.hid hbi; have HSL := Lib.hid hsl
    obtain ⟨gs, cs, rfl, -, -, -⟩ := hsl
    clear hx m0 m1 hbi hfull
    go_wp2_with fail
    refine (greatest_any a m 0 (m - 1) (2 * a.n) _ 1000000 _ (.slice (some ⟨gs, 0, none⟩) m cs) gl x _ (HA.out.ext HX2.out) HOK.out rfl (by omega) (by omega) HSL.out (by omega) HBI.out).mono ?_
    rintro e w3 ⟨R, la, rk, g, rfl, hg, hbr, hwk, hx⟩
    have HX3 := Lib.hid (HX2.out.trans hx)
    have H := Lib.hid (And.intro hbr hwk)
    have hsz := HX2.out.size
    clear hx hbr hwk
    go_wp2
    refine bodyPost_ret (v := .tuple #[.slice (some ⟨g, 0, none⟩) m m, .int .i64 0]) (by simp [results, Try.results26, go_sem]) rfl ⟨_, 0, rfl, HX3.out, .inr ⟨HV.out, rfl, g, _, rfl, by omega, H.out.1, ?_⟩⟩
    exact HFULL.out.gst HOK.out.in_ (by omega) (by omega) H.out.2

end Go.Proofs.Ytilcbbdmenknfaa
namespace Go.Proofs.Ytilcbbdmenknfaa
open Go.RowKit

/-- one list of arcs behind another -/
def join (a b : Ar) : Ar := ⟨a.n + b.n, fun k => if k < a.n then a.f k else b.f (k - a.n), fun k => if k < a.n then a.t k else b.t (k - a.n), fun k => if k < a.n then a.c k else b.c (k - a.n)⟩
theorem acl_join1 (a b : Ar) : ∀ k, k ≤ a.n → acl (join a b) k = acl a k := by
  intro k
  induction k with
  | zero => intro _; rfl
  | succ k ih =>
    intro hk
    rw [acl_succ, acl_succ, ih (by omega)]
    simp only [join, if_pos (show k < a.n by omega)]
theorem acl_join2 (a b : Ar) : ∀ k, acl (join a b) (a.n + k) = acl a a.n ++ acl b k := by
  intro k
  induction k with
  | zero => rw [Nat.add_zero, acl_join1 a b _ (Nat.le_refl _)]; simp [acl]
  | succ k ih =>
    rw [← Nat.add_assoc, acl_succ, acl_succ, ih, List.append_assoc]
    simp only [join, if_neg (show ¬ a.n + k < a.n by omega), Nat.add_sub_cancel_left]
/-- what wax costs more than none at cell k -/
def Cl.more (c : Cl) (r : Int) (k : Nat) : Int := c.x k + r - c.b k
/-- the arcs of the cells -/
def Cl.cel (c : Cl) (r : Int) : Ar := ⟨c.nb, fun k => if 0 < c.more r k then (k : Int) else (c.nb : Int), fun k => if 0 < c.more r k then (c.nb : Int) + 1 else (k : Int), fun k => if 0 < c.more r k then c.more r k else -c.more r k⟩
/-- the network's arcs -/
def Cl.nwa (c : Cl) (r : Int) : Ar := join (c.cel r) (dbl c.prs)
theorem prs_ne {c : Cl} (hc : vCl c = true) {k : Nat} (hk : k < c.prs.n) : c.prs.f k ≠ c.prs.t k := by
  obtain ⟨⟨hw1, hw2⟩, -⟩ := vCl_ok hc
  unfold Cl.prs
  dsimp only
  split <;> omega
theorem prs_ok {c : Cl} (hc : vCl c = true) : c.prs.Ok (c.nb + 2) 2000000 := by
  refine ⟨fun k hk => ?_, fun k hk => ?_, fun k hk => ?_, fun k hk => ?_, fun k hk => prs_ne hc hk, fun k hk => ?_, fun k hk => ?_⟩ <;>
  · obtain ⟨u, v, h1, h2, h3, h4, h5, h6⟩ := prs_in hc hk
    omega
theorem nwa_ok {c : Cl} (hc : vCl c = true) {r : Int} (h1 : -100000 ≤ r) (h2 : r ≤ 100000) : (c.nwa r).Ok (c.nb + 2) 2000000 := by
  have hd := dbl_ok (prs_ok hc)
  obtain ⟨-, -, ⟨v5, v6⟩, ⟨v7, v8⟩, -, -⟩ := vCl_ok hc
  have hcel : ∀ k, k < c.nb → -200000 ≤ c.more r k ∧ c.more r k ≤ 200000 := fun k hk => by
    have h5 := v6 k hk; have h6 := v8 k (by omega)
    unfold Cl.more; omega
  have key : ∀ k, k < (c.nwa r).n → ¬ k < c.nb → k - c.nb < (dbl c.prs).n := fun k hk hn => by
    have : k < c.nb + (dbl c.prs).n := hk
    omega
  have hn : (c.cel r).n = c.nb := rfl
  refine ⟨fun k hk => ?_, fun k hk => ?_, fun k hk => ?_, fun k hk => ?_, fun k hk => ?_, fun k hk => ?_, fun k hk => ?_⟩ <;>
  · unfold Cl.nwa join
    dsimp only
    rw [hn]
    by_cases h : k < c.nb
    · have := hcel k h
      simp only [if_pos h]
      unfold Cl.cel
      dsimp only
      split <;> omega
    · simp only [if_neg h]
      have e := key k hk h
      first | exact hd.f0 _ e | exact hd.fN _ e | exact hd.t0 _ e | exact hd.tN _ e | exact hd.ne _ e | exact hd.c0 _ e | exact hd.cM _ e
/-- what is paid anyway -/
def Cl.any (c : Cl) (r : Int) : Int := sm c.nb fun k => if 0 < c.more r k then c.b k else c.x k + r
/-- the cost of a side is the energy, less what is paid anyway -/
theorem ct_en {c : Cl} (hc : vCl c = true) (r : Int) {S : Nat → Bool} (hS : Nw.Sd c.nb (c.nb + 1) S) : (c.nwa r).nw.ct S + c.any r = c.en r S := by
  have h1 : (c.nwa r).nw.ct S = sm (c.cel r).n (fun k => if S ((c.cel r).f k).toNat = true ∧ S ((c.cel r).t k).toNat = false then (c.cel r).c k else 0) + (dbl c.prs).nw.ct S := by
    show sm ((c.cel r).n + (dbl c.prs).n) _ = _
    rw [sm_split]
    congr 1
    · refine sm_congr fun k hk => ?_
      show (if S (if k < (c.cel r).n then (c.cel r).f k else _).toNat = true ∧ S (if k < (c.cel r).n then (c.cel r).t k else _).toNat = false then (if k < (c.cel r).n then (c.cel r).c k else _) else 0) = _
      simp only [if_pos hk]
    · refine sm_congr fun k hk => ?_
      have e : ¬ (c.cel r).n + k < (c.cel r).n := by omega
      show (if S (if (c.cel r).n + k < (c.cel r).n then _ else (dbl c.prs).f ((c.cel r).n + k - (c.cel r).n)).toNat = true ∧ S (if (c.cel r).n + k < (c.cel r).n then _ else (dbl c.prs).t ((c.cel r).n + k - (c.cel r).n)).toNat = false then (if (c.cel r).n + k < (c.cel r).n then _ else (dbl c.prs).c ((c.cel r).n + k - (c.cel r).n)) else 0) = _
      simp only [if_neg e, Nat.add_sub_cancel_left]
      rfl
  rw [h1, ct_dbl]
  have h2 : across c.prs S = sm c.prs.n (c.pt S) := rfl
  have h3 : sm (c.cel r).n (fun k => if S ((c.cel r).f k).toNat = true ∧ S ((c.cel r).t k).toNat = false then (c.cel r).c k else 0) + c.any r = sm c.nb (c.dt r S) := by
    unfold Cl.any
    show sm c.nb _ + _ = _
    rw [← sm_add]
    refine sm_congr fun k hk => ?_
    unfold Cl.cel Cl.dt Cl.more
    dsimp only
    have e1 : ((c.nb : Int) + 1).toNat = c.nb + 1 := by omega
    by_cases hm : 0 < c.x k + r - c.b k
    · simp only [if_pos hm, Int.toNat_natCast, e1, hS.2, and_true]
      split <;> omega
    · simp only [if_neg hm, Int.toNat_natCast, hS.1, true_and]
      cases S k <;> simp <;> omega
  unfold Cl.en
  rw [h2]
  omega
end Go.Proofs.Ytilcbbdmenknfaa
namespace Go.Proofs.Ytilcbbdmenknfaa
open Go.RowKit

theorem arc_news (w : World) (x y z : Value) : ∀ j u, [x, y, z][j]? = some u → (w.alloc (.cells #[x, y, z] 65)).cell? ((⟨w.heap.size, 0, none⟩ : Addr).add j) = some u := by
  intro j u hj
  rw [Addr.add_lit, World.cell?_alloc_new]
  match j, hj with
  | 0, hj => simp at hj; subst hj; rfl
  | 1, hj => simp at hj; subst hj; rfl
  | 2, hj => simp at hj; subst hj; rfl
  | j + 3, hj => simp at hj
theorem arc_news2 (w : World) (x y z p q r : Value) : ∀ j u, [x, y, z, p, q, r][j]? = some u → (w.alloc (.cells #[x, y, z, p, q, r] 65)).cell? ((⟨w.heap.size, 0, none⟩ : Addr).add j) = some u := by
  intro j u hj
  rw [Addr.add_lit, World.cell?_alloc_new]
  match j, hj with
  | 0, hj => simp at hj; subst hj; rfl
  | 1, hj => simp at hj; subst hj; rfl
  | 2, hj => simp at hj; subst hj; rfl
  | 3, hj => simp at hj; subst hj; rfl
  | 4, hj => simp at hj; subst hj; rfl
  | 5, hj => simp at hj; subst hj; rfl
  | j + 6, hj => simp at hj
theorem arc_one (x y z : Int) : ∀ u ∈ [Value.int .i64 x, .int .i64 y, .int .i64 z], u.oneCell' = true := by
  intro u hu; simp at hu; rcases hu with rfl | rfl | rfl <;> rfl
theorem arc_one2 (x y z p q r : Int) : ∀ u ∈ [Value.int .i64 x, .int .i64 y, .int .i64 z, .int .i64 p, .int .i64 q, .int .i64 r], u.oneCell' = true := by
  intro u hu; simp at hu; rcases hu with rfl | rfl | rfl | rfl | rfl | rfl <;> rfl

set_option maxHeartbeats 4000000 in
set_option maxRecDepth 100000 in
theorem networkOf_any (c : Cl) (ri : Int) (V : Value) (W : World) (hV : Kl W V c) (hc : vCl c = true) (hr1 : -100000 ≤ ri) (hr2 : ri ≤ 100000) :
    Calls Try.prog 72 #[V, .int .i64 ri] W fun e W' => ∃ AV SV, e = .returned (.agg #[.int .i64 c.nb, .int .i64 (c.nb + 1), AV, SV]) ∧ Al W' AV (c.nwa ri) ∧ Sl W' (W.heap.size + 1 + 1) SV (c.nb + 2) (stf (c.nwa ri).nw (c.nwa ri).n) ∧ Ext W W' := by
  obtain ⟨⟨v1, v2⟩, ⟨v3, v4⟩, ⟨v5, v6⟩, ⟨v7, v8⟩, ⟨v9, -⟩, ⟨v11, -⟩⟩ := vCl_ok hc
  have hnb36 : c.nb ≤ 36 := by have h1 := (side_prod (show 0 ≤ c.w by omega) v2 (show 0 ≤ c.h by omega) v4).2; omega
  have hnr30 : c.nr ≤ 30 := by have h1 := (side_prod (show 0 ≤ c.w - 1 by omega) (show c.w - 1 ≤ 5 by omega) (show 0 ≤ c.h by omega) v4).2; omega
  have hnd30 : c.nd ≤ 30 := by have h1 := (side_prod (show 0 ≤ c.w by omega) v2 (show 0 ≤ c.h - 1 by omega) (show c.h - 1 ≤ 5 by omega)).2; omega
  have hprn : c.prs.n ≤ 60 := by show c.nr + c.nd ≤ 60; omega
  have hnx : c.nx = c.nb := by omega
  have hwh : c.w * c.h = (c.nb : Int) := v5.symm
  have HVC := Lib.hid (And.intro hc (And.intro v6 v8))
  have HOK := Lib.hid (nwa_ok hc hr1 hr2)
  obtain ⟨c', hc'⟩ : ∃ c', c' = c := ⟨_, rfl⟩
  rw [← hc']
  have HV : Hid (Kl W V c') := Lib.hid (by rw [hc']; exact hV)
  rw [← hc'] at HVC HOK
  have hprn' : c'.prs.n ≤ 60 := by rw [hc']; exact hprn
  clear hprn v1 v2 v3 v4 v5 v6 v7 v8 v9 v11 hnr30 hnd30 hc
  obtain ⟨B, X, R, D, rfl, hB, hX, -, -⟩ := hV
  obtain ⟨w, h, nb, b, nx, x, nr, r, nd, d⟩ := c
  dsimp only at hB hX hnb36 hnx hwh ⊢
  have HBX := Lib.hid (And.intro hB hX)
  have HN : Hid (c'.nb = nb ∧ c'.nx = nx ∧ c'.b = b ∧ c'.x = x) := by rw [hc']; exact Lib.hid ⟨rfl, rfl, rfl, rfl⟩
  clear hc'
  obtain ⟨AB, cB, rfl, hcB, hdB, -⟩ := hB
  obtain ⟨AX, cX, rfl, hcX, hdX, -⟩ := hX
  have HNX := Lib.hid hnx
  clear hnx
  obtain rfl : nx = nb := HNX.out
  clear HNX
  have hcn : c'.nb = nx := HN.out.1
  rw [hcn]
  have HCN := Lib.hid hcn
  clear hcn
  obtain ⟨i0, hi, hz0, hz1, hz2⟩ := info_parts info65
  have HI := Lib.hid (And.intro hi (And.intro hz0 (And.intro hz1 hz2)))
  clear hi hz0 hz1 hz2
  obtain ⟨A1, hA1⟩ : ∃ A1, A1 = c'.cel ri := ⟨_, rfl⟩
  have hA1n : A1.n = nx := by rw [hA1]; exact HCN.out
  have HA1 := Lib.hid (And.intro hA1 hA1n)
  clear hA1 hA1n
  go_enter Try.func72, Try.ntmps72
  go_upto_region 1 with fail
  have bb := al2 W (.cells #[.int .i64 w, .int .i64 h, .slice AB nx cB, .slice AX nx cX, R, D] 70) (.cells #[.int .i64 0, .int .i64 0, .slice none 0 0, .slice none 0 0] 85)
  have hh0 : ((W.alloc (.cells #[.int .i64 w, .int .i64 h, .slice AB nx cB, .slice AX nx cX, R, D] 70)).alloc (.cells #[.int .i64 0, .int .i64 0, .slice none 0 0, .slice none 0 0] 85)).heap[W.heap.size]? = some (.cells #[.int .i64 w, .int .i64 h, .slice AB nx cB, .slice AX nx cX, R, D] 70 (0, 0)) := (Below.heap_alloc _ _ _ (by simp)).trans (heap_alloc_new W _)
  have hh1 := heap_alloc_new (W.alloc (.cells #[.int .i64 w, .int .i64 h, .slice AB nx cB, .slice AX nx cX, R, D] 70)) (.cells #[.int .i64 0, .int .i64 0, .slice none 0 0, .slice none 0 0] 85)
  simp only [World.size_alloc] at hh1
  have hz : ((W.alloc (.cells #[.int .i64 w, .int .i64 h, .slice AB nx cB, .slice AX nx cX, R, D] 70)).alloc (.cells #[.int .i64 0, .int .i64 0, .slice none 0 0, .slice none 0 0] 85)).heap.size = W.heap.size + 1 + 1 := by simp
  generalize (W.alloc (.cells #[.int .i64 w, .int .i64 h, .slice AB nx cB, .slice AX nx cX, R, D] 70)).alloc (.cells #[.int .i64 0, .int .i64 0, .slice none 0 0, .slice none 0 0] 85) = W1 at *
  have HB : Hid (Ext W W1) := Lib.hid bb
  have HH := Lib.hid hh1
  obtain ⟨m0, m1, m2, m3, m4, m5, mz, -⟩ := six hh0
  have HM := Lib.hid (And.intro m0 (And.intro m1 (And.intro m2 (And.intro m3 (And.intro m4 m5)))))
  have zlt : W.heap.size + 1 < W1.heap.size := by omega
  have zle : W1.heap.size ≤ W.heap.size + 1 + 1 := by omega
  have f0 : W1.drew.cell? ⟨W.heap.size, 0, none⟩ = some (.int .i64 w) := m0
  have f1 : W1.drew.cell? ⟨W.heap.size, 1, none⟩ = some (.int .i64 h) := m1
  clear bb hh0 hh1 hz m0 m1 m3 m4 m5
  go_region
  clear f0 f1
  have m2 : W1.drew.cell? ⟨W.heap.size, 2, none⟩ = some (.slice AB nx cB) := m2
  go_wp2_with fail
  clear m2
  go_loopw [7, 26] (fun q i wr => ∃ (k : Nat), i = .int .i64 k ∧ k ≤ nx ∧ Hid (wr.ownsRow W1.heap.size 65 3 q k (acl A1 k) ∧ Ext W1 wr)) (fun _ i _ => nx - (intOf i).toNat)
  case atStart => exact ⟨0, rfl, Nat.zero_le _, Lib.hid ⟨World.ownsRow_nil _ _ _ _, (Ext.refl _).drw⟩⟩
  case round =>
    obtain ⟨k, rfl, hk, hin⟩ := hrel
    obtain ⟨Av, cv, rfl⟩ := shape_own hin.out.1
    by_cases hlt : k < nx
    · obtain ⟨bB, oB, rfl, -, eB⟩ := Vl.at HBX.out.1 (HB.out.trans hin.out.2) hlt
      obtain ⟨bX, oX, rfl, -, eX⟩ := Vl.at HBX.out.2 (HB.out.trans hin.out.2) hlt
      have m2 := keepAt hin.out.2 mz HM.out.2.2.1
      have m3 := keepAt hin.out.2 mz HM.out.2.2.2.1
      have hcb := HVC.out.2.1 k (by rw [HCN.out]; exact hlt)
      have hcx := HVC.out.2.2 k (by rw [HN.out.2.1]; exact hlt)
      rw [HN.out.2.2.1] at hcb
      rw [HN.out.2.2.2] at hcx
      obtain ⟨p, hp⟩ : ∃ p, p = b k := ⟨_, rfl⟩
      obtain ⟨z, hz⟩ : ∃ z, z = x k := ⟨_, rfl⟩
      rw [← hp] at eB hcb
      rw [← hz] at eX hcx
      obtain ⟨b1, b2⟩ := hcb
      obtain ⟨x1, x2⟩ := hcx
      have hmo : c'.more ri k = z + ri - p := by unfold Cl.more; rw [HN.out.2.2.1, HN.out.2.2.2, ← hp, ← hz]
      have HMO := Lib.hid hmo
      clear hp hz hmo
      go_upto_region 6 with fail
      have g2 : wr.drew.cell? ⟨W.heap.size, 2, none⟩ = some (.slice (some ⟨bB, oB, none⟩) nx cB) := m2
      have g3 : wr.drew.cell? ⟨W.heap.size, 3, none⟩ = some (.slice (some ⟨bX, oX, none⟩) nx cX) := m3
      have g4 : wr.drew.cell? ⟨bB, oB + k, none⟩ = some (.int .i64 p) := eB
      have g5 : wr.drew.cell? ⟨bX, oX + k, none⟩ = some (.int .i64 z) := eX
      clear m2 m3 eB eX
      go_region
      clear g2 g3 g4 g5
      have hin2 : Hid (wr.drew.ownsRow W1.heap.size 65 3 (.slice Av k cv) k (acl A1 k) ∧ Ext W1 wr.drew) := Lib.hid ⟨World.ownsRow.ext hin.out.1 (Ext.refl wr).drw, hin.out.2.drw⟩
      clear hin
      generalize wr.drew = wd at *
      obtain ⟨y, hy⟩ : ∃ y, y = z + ri - p := ⟨_, rfl⟩
      have hy1 : -200000 ≤ y := by omega
      have hy2 : y ≤ 200000 := by omega
      rw [← hy]
      have HY := Lib.hid hy
      clear hy
      by_cases hpos : 0 < y
      · have hown := World.ownsRow.ext hin2.out.1 (Ext.alc (Ext.refl wd) (.cells #[.int .i64 (k : Int), .int .i64 ((nx : Int) + 1), .int .i64 y] 65))
        go_wp2_with (at_builtin; refine wpList_append_own _ rfl _ _ 28 rfl W1.heap.size 65 i0 (.agg #[.int .i64 0, .int .i64 0, .int .i64 0]) 3 24 Try.underlying28 HI.out.1 HI.out.2.1 HI.out.2.2.1 HI.out.2.2.2 rfl (by decide) _ k _ rfl hown ⟨wd.heap.size, 0, none⟩ 1 1 [.int .i64 (k : Int), .int .i64 ((nx : Int) + 1), .int .i64 y] rfl rfl (arc_news _ _ _ _) (arc_one (k : Int) ((nx : Int) + 1) y) ?qc3 ?qc4 ?qc5 ?_)
        case qc3 => unfold maxLen; omega
        case qc4 => omega
        case qc5 => have := hin2.out.2.size; simp; omega
        intro v' w2 hown' hgrow _hnil
        clear _hnil
        have hex : Ext W1 w2 := ext_grow (hin2.out.2.alc _) hgrow (fun b' hb' => (World.ownsRow.lt hown b' hb').1) (Nat.le_refl _)
        have HN2 := Lib.hid (And.intro hown' hex)
        clear hown' hex hgrow hown
        go_wp2
        go_roundw
        case rel =>
          refine ⟨k + 1, by go_num, by omega, Lib.hid ⟨?_, HN2.out.2⟩⟩
          have hm : c'.more ri k = y := by rw [HMO.out, ← HY.out]
          have s1 : A1.f k = (k : Int) := by rw [HA1.out.1]; unfold Cl.cel; dsimp only; rw [hm, if_pos hpos]
          have s2 : A1.t k = ((nx : Int) + 1) := by rw [HA1.out.1]; unfold Cl.cel; dsimp only; rw [hm, if_pos hpos]; rw [HCN.out]
          have s3 : A1.c k = y := by rw [HA1.out.1]; unfold Cl.cel; dsimp only; rw [hm, if_pos hpos]
          rw [acl_succ, s1, s2, s3]
          exact HN2.out.1
        case measure => simp [intOf]; omega
      · have hneg : ¬ 0 < y := hpos
        have hown := World.ownsRow.ext hin2.out.1 (Ext.alc (Ext.refl wd) (.cells #[.int .i64 (nx : Int), .int .i64 (k : Int), .int .i64 (-y)] 65))
        go_wp2_with (at_builtin; refine wpList_append_own _ rfl _ _ 28 rfl W1.heap.size 65 i0 (.agg #[.int .i64 0, .int .i64 0, .int .i64 0]) 3 24 Try.underlying28 HI.out.1 HI.out.2.1 HI.out.2.2.1 HI.out.2.2.2 rfl (by decide) _ k _ rfl hown ⟨wd.heap.size, 0, none⟩ 1 1 [.int .i64 (nx : Int), .int .i64 (k : Int), .int .i64 (-y)] rfl rfl (arc_news _ _ _ _) (arc_one (nx : Int) (k : Int) (-y)) ?qc3 ?qc4 ?qc5 ?_)
        case qc3 => unfold maxLen; omega
        case qc4 => omega
        case qc5 => have := hin2.out.2.size; simp; omega
        intro v' w2 hown' hgrow _hnil
        clear _hnil
        have hex : Ext W1 w2 := ext_grow (hin2.out.2.alc _) hgrow (fun b' hb' => (World.ownsRow.lt hown b' hb').1) (Nat.le_refl _)
        have HN2 := Lib.hid (And.intro hown' hex)
        clear hown' hex hgrow hown
        go_wp2
        go_roundw
        case rel =>
          refine ⟨k + 1, by go_num, by omega, Lib.hid ⟨?_, HN2.out.2⟩⟩
          have hm : c'.more ri k = y := by rw [HMO.out, ← HY.out]
          have s1 : A1.f k = (nx : Int) := by rw [HA1.out.1]; unfold Cl.cel; dsimp only; rw [hm, if_neg (show ¬ 0 < y by omega)]; rw [HCN.out]
          have s2 : A1.t k = (k : Int) := by rw [HA1.out.1]; unfold Cl.cel; dsimp only; rw [hm, if_neg (show ¬ 0 < y by omega)]
          have s3 : A1.c k = (-y) := by rw [HA1.out.1]; unfold Cl.cel; dsimp only; rw [hm, if_neg (show ¬ 0 < y by omega)]
          rw [acl_succ, s1, s2, s3]
          exact HN2.out.1
        case measure => simp [intOf]; omega
    · have hin2 := hin
      clear hin
      obtain rfl : nx = k := by omega
      have hnl : ¬ (nx : Int) < nx := by omega
      obtain ⟨wo, rfl⟩ : ∃ w, w = wr := ⟨_, rfl⟩
      have HO := hin2
      clear hin2
      have m0 := keepAt HO.out.2 mz HM.out.1
      have m1 := keepAt HO.out.2 mz HM.out.2.1
      have m2 := keepAt HO.out.2 mz HM.out.2.2.1
      have m3 := keepAt HO.out.2 mz HM.out.2.2.2.1
      have m4 := keepAt HO.out.2 mz HM.out.2.2.2.2.1
      have m5 := keepAt HO.out.2 mz HM.out.2.2.2.2.2
      go_wp2_with fail
      refine (pairs_own c' _ _ (HV.out.ext (HB.out.trans HO.out.2)) HVC.out.1).mono ?_
      clear m0 m1 m2 m3 m4 m5
      rintro e w3 ⟨U, rfl, hal, hx⟩
      have hsep : ∀ b, (Value.slice Av nx cv).ownBlock = some b → U.ownBlock ≠ some b := fun b hb hb2 => by
        have h1 := (World.ownsRow.lt HO.out.1 b hb).2; have h2 := (World.ownsRow.lt hal b hb2).1; omega
      obtain ⟨pr, hpr⟩ : ∃ p, p = c'.prs := ⟨_, rfl⟩
      rw [← hpr] at hal hprn'
      have H3 : Hid (w3.ownsRow W1.heap.size 65 3 (.slice Av nx cv) nx (acl A1 nx) ∧ Ext W1 w3 ∧ w3.ownsRow wo.heap.size 65 3 U pr.n (acl pr pr.n) ∧ ∀ b, (Value.slice Av nx cv).ownBlock = some b → U.ownBlock ≠ some b) := Lib.hid ⟨World.ownsRow.ext HO.out.1 hx, HO.out.2.trans hx, hal, hsep⟩
      obtain ⟨AU, cU, rfl⟩ := shape_own hal
      have HPR := Lib.hid hpr
      clear hx HO hal hsep hpr
      go_wp2_with fail
      go_loopw [7, 63] (fun q i wr => ∃ (k : Nat), i = .int .i64 k ∧ k ≤ pr.n ∧ Hid (wr.ownsRow W1.heap.size 65 3 q (nx + 2 * k) (acl A1 nx ++ acl (dbl pr) (2 * k)) ∧ Ext W1 wr ∧ wr.ownsRow wo.heap.size 65 3 (.slice AU pr.n cU) pr.n (acl pr pr.n) ∧ ∀ b, q.ownBlock = some b → (Value.slice AU pr.n cU).ownBlock ≠ some b)) (fun _ i _ => pr.n - (intOf i).toNat)
      case atStart => exact ⟨0, rfl, Nat.zero_le _, Lib.hid ⟨by simpa [acl] using H3.out.1, H3.out.2.1, H3.out.2.2.1, H3.out.2.2.2⟩⟩
      case round =>
        obtain ⟨k, rfl, hk2, hin⟩ := hrel
        obtain ⟨Aw, cw, rfl⟩ := shape_own hin.out.1
        by_cases hlt2 : k < pr.n
        · obtain ⟨bU, oU, rfl, d1, d2, d3⟩ := (Al.own hin.out.2.2.1).arc (Ext.refl wr) hlt2
          obtain ⟨fk, hfk⟩ : ∃ x, x = pr.f k := ⟨_, rfl⟩
          obtain ⟨tk, htk⟩ : ∃ x, x = pr.t k := ⟨_, rfl⟩
          obtain ⟨ck, hck⟩ : ∃ x, x = pr.c k := ⟨_, rfl⟩
          rw [← hfk] at d1; rw [← htk] at d2; rw [← hck] at d3
          have HFT := Lib.hid (And.intro hfk (And.intro htk hck))
          clear hfk htk hck
          have hx2 := Ext.alc (Ext.alc (Ext.refl wr) (.cells #[.int .i64 fk, .int .i64 tk, .int .i64 ck] 65)) (.cells #[.int .i64 fk, .int .i64 tk, .int .i64 ck, .int .i64 tk, .int .i64 fk, .int .i64 ck] 65)
          have hown := World.ownsRow.ext hin.out.1 hx2
          have HU2 := Lib.hid (World.ownsRow.ext hin.out.2.2.1 hx2)
          clear hx2
          go_wp2_with (at_builtin; refine wpList_append_own_at _ rfl _ _ 28 rfl W1.heap.size 65 i0 (.agg #[.int .i64 0, .int .i64 0, .int .i64 0]) 3 24 Try.underlying28 HI.out.1 HI.out.2.1 HI.out.2.2.1 HI.out.2.2.2 rfl (by decide) _ (nx + 2 * k) _ rfl hown ⟨wr.heap.size + 1, 0, none⟩ 2 2 [.int .i64 fk, .int .i64 tk, .int .i64 ck, .int .i64 tk, .int .i64 fk, .int .i64 ck] rfl rfl ?qc1 (arc_one2 fk tk ck tk fk ck) ?qc3 ?qc4 ?qc5 ?_)
          case qc1 =>
            have h := arc_news2 (wr.alloc (.cells #[.int .i64 fk, .int .i64 tk, .int .i64 ck] 65)) (.int .i64 fk) (.int .i64 tk) (.int .i64 ck) (.int .i64 tk) (.int .i64 fk) (.int .i64 ck)
            simp only [World.size_alloc] at h
            exact h
          case qc3 => unfold maxLen; omega
          case qc4 => omega
          case qc5 => have := hin.out.2.1.size; simp; omega
          intro v' w2 hown' hgrow _hnil hat
          clear _hnil
          have hex : Ext W1 w2 := ext_grow ((hin.out.2.1.alc _).alc _) hgrow (fun b' hb' => (World.ownsRow.lt hown b' hb').1) (Nat.le_refl _)
          have hu3 := ownsRow_far HU2.out hgrow (fun b hb hb2 => hin.out.2.2.2 b hb2 hb)
          have hse : ∀ b, v'.ownBlock = some b → (Value.slice (some ⟨bU, oU, none⟩) pr.n cU).ownBlock ≠ some b := fun b hb hb2 => by
            rcases hat with e | e
            · exact hin.out.2.2.2 b (by rw [← e]; exact hb) hb2
            · rw [e] at hb
              injection hb with hb
              have := (World.ownsRow.lt HU2.out b hb2).2
              simp only [World.size_alloc] at this hb
              omega
          have HN2 := Lib.hid (And.intro hown' (And.intro hex (And.intro hu3 hse)))
          clear hown' hex hgrow hown d1 d2 d3 hu3 hse hat
          go_wp2
          go_roundw
          case rel =>
            refine ⟨k + 1, by go_num, by omega, Lib.hid ⟨?_, HN2.out.2⟩⟩
            rw [acl_dbl, ← HFT.out.1, ← HFT.out.2.1, ← HFT.out.2.2, ← List.append_assoc]
            rw [show nx + 2 * (k + 1) = nx + 2 * k + 2 by omega]
            simpa only [List.append_assoc] using HN2.out.1
          case measure => simp [intOf]; omega
        · obtain rfl : k = pr.n := by omega
          have hAl : wr.ownsRow W1.heap.size 65 3 (.slice Aw (nx + 2 * pr.n) cw) (c'.nwa ri).n (acl (c'.nwa ri) (c'.nwa ri).n) := by
            have e1 : c'.nwa ri = join A1 (dbl pr) := by rw [HA1.out.1, HPR.out]; rfl
            have e2 : (join A1 (dbl pr)).n = A1.n + 2 * pr.n := rfl
            rw [e1, e2, acl_join2, HA1.out.2]
            exact hin.out.1
          have han : (c'.nwa ri).n = nx + 2 * pr.n := by
            have e1 : c'.nwa ri = join A1 (dbl pr) := by rw [HA1.out.1, HPR.out]; rfl
            rw [e1]; show A1.n + 2 * pr.n = _; rw [HA1.out.2]
          have HX := Lib.hid hin.out.2.1
          have HOW := Lib.hid hAl
          have hO : (c'.nwa ri).Ok (nx + 2) 2000000 := by rw [← HCN.out]; exact HOK.out
          have HO2 := Lib.hid hO
          obtain ⟨na, hna⟩ : ∃ a, a = c'.nwa ri := ⟨_, rfl⟩
          rw [← hna] at HOW HO2 han
          have HNA := Lib.hid hna
          have hn200 : na.n ≤ 160 := by omega
          have m0 := keepAt HX.out mz HM.out.1
          have m1 := keepAt HX.out mz HM.out.2.1
          obtain ⟨N, hN⟩ : ∃ N, N = nx + 2 := ⟨_, rfl⟩
          obtain ⟨T, hT⟩ : ∃ T, T = nx + 1 := ⟨_, rfl⟩
          have hN2 : (nx : Int) + 2 = (N : Int) := by omega
          have hT2 : (nx : Int) + 1 = (T : Int) := by omega
          have hN40 : N ≤ 40 := by omega
          rw [← hN] at HO2
          have HNT := Lib.hid (And.intro hN hT)
          try simp only [hT2]
          clear hin hAl hO hna han hN hT
          have HOW2 : Hid (Al wr (.slice Aw (nx + 2 * pr.n) cw) na) := Lib.hid (Al.own HOW.out)
          have HN3 := Lib.hid (And.intro hN2 hT2)
          clear hN2 hT2 hprn' hk2 hlt2 hlt hk hnl m0 m1
          go_upto_region 16 with fail
          have m0 := keepAt HX.out mz HM.out.1
          have m1 := keepAt HX.out mz HM.out.2.1
          have hN2 := HN3.out.1
          have hT2 := HN3.out.2
          go_wp2_with fail
          refine (newNetwork_any na N nx T 2000000 _ _ HOW2.out HO2.out (by omega) (by omega)).mono ?_
          clear m0 m1 hN2 hT2
          rintro e w4 ⟨SV, rfl, hsl, hx⟩
          have hsl2 : Sl w4 (W.heap.size + 1 + 1) SV N (stf na.nw na.n) := by
            obtain ⟨b, c, e, hb, h0, hc⟩ := hsl
            have hsx := HX.out.size
            refine ⟨b, c, e, hb, by omega, fun i hi => ?_⟩
            obtain ⟨z, h1, h2, h3⟩ := hc i hi
            exact ⟨z, h1, h2, fun b' hb' => by have := h3 b' hb'; omega⟩
          have HSL := Lib.hid hsl2
          have HOW4 := Lib.hid (World.ownsRow.ext HOW.out hx)
          have EX := Lib.hid (HX.out.trans hx)
          obtain ⟨gs, cs, rfl, -, -, -⟩ := hsl
          obtain ⟨p0, p1, p2, p3, p4, p5⟩ := four ((Below.block EX.out (W.heap.size + 1) zlt).trans HH.out)
          clear hsl2 hx
          go_wp2
          refine bodyPost_ret (v := .agg #[.int .i64 nx, .int .i64 T, .slice Aw (nx + 2 * pr.n) cw, .slice (some ⟨gs, 0, none⟩) N cs]) (by simp [results, Try.results72, go_sem, p0, p1, p2, p3]) rfl ?_
          have hk : ∀ g, g ≠ W.heap.size + 1 → ((((w4.setCell ⟨W.heap.size + 1, 0, none⟩ (.int .i64 nx)).setCell ⟨W.heap.size + 1, 1, none⟩ (.int .i64 T)).setCell ⟨W.heap.size + 1, 2, none⟩ (.slice Aw (nx + 2 * pr.n) cw)).setCell ⟨W.heap.size + 1, 3, none⟩ (.slice (some ⟨gs, 0, none⟩) N cs)).heap[g]? = w4.heap[g]? := fun g hg => by
            rw [Below.heap_setCell _ _ _ g hg, Below.heap_setCell _ _ _ g hg, Below.heap_setCell _ _ _ g hg, Below.heap_setCell _ _ _ g hg]
          have hT3 : (T : Int) = (nx : Int) + 1 := by rw [HNT.out.2]; rfl
          rw [hT3, ← HNA.out, ← HNT.out.1]
          refine ⟨_, _, rfl, ?_, ?_, ?_⟩
          · refine Al.own (a := na) (base := W1.heap.size) ?_
            rw [← hT3]
            obtain ⟨h1, h2 | ⟨g, cap, cur, e, hg, hh, rest⟩⟩ := HOW4.out
            · exact ⟨h1, .inl h2⟩
            · exact ⟨h1, .inr ⟨g, cap, cur, e, hg, (hk g (by omega)).trans hh, rest⟩⟩
          · rw [← hT3]
            exact HSL.out.keep (by simp [World.setCell]) fun b hb => hk b (by omega)
          · exact ((((HB.out.trans EX.out).sc (by omega)).sc (by omega)).sc (by omega)).sc (by omega)
end Go.Proofs.Ytilcbbdmenknfaa
