/- Walks: rest.least, rest.greatest, Least, Greatest. -/
import Derived.Test.YtilcbbdmenknfaaLg
import Derived.Test.YtilcbbdmenknfaaD1
namespace Go.Proofs.Ytilcbbdmenknfaa
open Go.RowKit

set_option maxHeartbeats 4000000 in
set_option maxRecDepth 100000 in
theorem least_any (a : Ar) (N s t n2 bs : Nat) (M : Int) (AV SV : Value) (gl : Nat) (x : Nat → Int) (W : World) (hA : Al W AV a) (hO : a.Ok N M) (hn2 : n2 = 2 * a.n) (hn : a.n ≤ 1000) (hN : N ≤ 1000)
    (hS : Sl W bs SV N (stf a.nw a.n)) (hs : s < N) (hX : BI W gl n2 x) :
    Calls Try.prog 58 #[.agg #[.int .i64 s, .int .i64 t, AV, SV, .slice (some ⟨gl, 0, none⟩) n2 n2]] W fun e W' => ∃ R la rk g, e = .returned (.slice (some ⟨g, 0, none⟩) N N) ∧ W.heap.size ≤ g ∧ BB W' g N R ∧ a.nw.Wk N s (fun j => decide (0 < x j)) R la rk ∧ Ext W W' := by
  obtain ⟨hn2a, hn2b⟩ : n2 ≤ 2 * a.n ∧ 2 * a.n ≤ n2 := by omega
  have hn2' : n2 ≤ 2000 := by omega
  clear hn2
  have hmf := mfunc
  have HA := Lib.hid hA; have HO := Lib.hid hO; have HS := Lib.hid hS; have HX := Lib.hid hX
  clear hO
  have lgl := Bk.lt hX
  clear hX
  obtain ⟨A, c, rfl, hac, hcm, -⟩ := hA
  obtain ⟨gs, cs, rfl, hgs, -, -⟩ := hS
  go_enter Try.func58, Try.ntmps58
  go_upto_region 1 with fail
  have bb := al1 W (.cells #[.int .i64 s, .int .i64 t, .slice A a.n c, .slice (some ⟨gs, 0, none⟩) N cs, .slice (some ⟨gl, 0, none⟩) n2 n2] 87)
  have hh := heap_alloc_new W (.cells #[.int .i64 s, .int .i64 t, .slice A a.n c, .slice (some ⟨gs, 0, none⟩) N cs, .slice (some ⟨gl, 0, none⟩) n2 n2] 87)
  have zz : (W.alloc (.cells #[.int .i64 s, .int .i64 t, .slice A a.n c, .slice (some ⟨gs, 0, none⟩) N cs, .slice (some ⟨gl, 0, none⟩) n2 n2] 87)).heap.size = W.heap.size + 1 := by simp
  generalize W.alloc (.cells #[.int .i64 s, .int .i64 t, .slice A a.n c, .slice (some ⟨gs, 0, none⟩) N cs, .slice (some ⟨gl, 0, none⟩) n2 n2] 87) = W1 at *
  have zle : W.heap.size < W1.heap.size := by omega
  have BB1 : Hid (Ext W W1) := Lib.hid bb
  obtain ⟨q0, q1, q2, q3, q4, q5, -⟩ := five hh
  clear bb zz hh q5
  have hop : ∀ X, Ext W1 X → ∀ j, j < 2 * a.n → Calls Try.prog 81 #[.int .i64 j, .pointer (some ⟨W.heap.size, 0, none⟩)] X fun e X' => e = .returned (.bool (decide (0 < x j))) ∧ Ext X X' := fun X e j hj => by
    have c4 := keepAt e zle q4
    have cx := keepAt (BB1.out.trans e) lgl (Bk.cell HX.out (by omega : j < n2))
    exact open81 W.heap.size n2 n2 gl 0 j (x j) X c4 (by omega) (by rw [Nat.zero_add]; exact cx)
  have HOP := Lib.hid hop
  clear hop
  go_wp2_with fail
  refine (walk_any s t _ _ a N M (stf a.nw a.n) s 81 W.heap.size bs (fun j => decide (0 < x j)) _ (HA.out.ext BB1.out) HO.out hn hN (HS.out.ext BB1.out) (stf_stp a.nw N) hs call81 HOP.out).mono ?_
  rintro e w1 ⟨R, la, rk, ga, gb, rfl, hh1, hh2, hh12, hbR, hbL, hwk, hlow, hx⟩
  have H := Lib.hid (And.intro hbR (And.intro hwk (BB1.out.trans hx)))
  clear hbR hbL hwk hlow hx
  go_wp2
  go_ret
  exact ⟨R, la, rk, ga, rfl, by omega, H.out.1, H.out.2.1, H.out.2.2⟩

set_option maxHeartbeats 4000000 in
set_option maxRecDepth 100000 in
theorem greatest_any (a : Ar) (N s t n2 bs : Nat) (M : Int) (AV SV : Value) (gl : Nat) (x : Nat → Int) (W : World) (hA : Al W AV a) (hO : a.Ok N M) (hn2 : n2 = 2 * a.n) (hn : a.n ≤ 450) (hN : N ≤ 1000)
    (hS : Sl W bs SV N (stf a.nw a.n)) (ht : t < N) (hX : BI W gl n2 x) :
    Calls Try.prog 60 #[.agg #[.int .i64 s, .int .i64 t, AV, SV, .slice (some ⟨gl, 0, none⟩) n2 n2]] W fun e W' => ∃ Q la rk g, e = .returned (.slice (some ⟨g, 0, none⟩) N N) ∧ W.heap.size ≤ g ∧ BB W' g N (fun v => !Q v) ∧ a.nw.Wk N t (fun j => decide (0 < x (rev j))) Q la rk ∧ Ext W W' := by
  obtain ⟨hn2a, hn2b⟩ : n2 ≤ 2 * a.n ∧ 2 * a.n ≤ n2 := by omega
  have hn2' : n2 ≤ 2000 := by omega
  clear hn2
  have hmf := mfunc
  have HA := Lib.hid hA; have HO := Lib.hid hO; have HS := Lib.hid hS; have HX := Lib.hid hX
  clear hO
  have lgl := Bk.lt hX
  clear hX
  obtain ⟨A, c, rfl, hac, hcm, -⟩ := hA
  obtain ⟨gs, cs, rfl, hgs, -, -⟩ := hS
  go_enter Try.func60, Try.ntmps60
  go_upto_region 1 with fail
  have bb := al1 W (.cells #[.int .i64 s, .int .i64 t, .slice A a.n c, .slice (some ⟨gs, 0, none⟩) N cs, .slice (some ⟨gl, 0, none⟩) n2 n2] 87)
  have hh := heap_alloc_new W (.cells #[.int .i64 s, .int .i64 t, .slice A a.n c, .slice (some ⟨gs, 0, none⟩) N cs, .slice (some ⟨gl, 0, none⟩) n2 n2] 87)
  have zz : (W.alloc (.cells #[.int .i64 s, .int .i64 t, .slice A a.n c, .slice (some ⟨gs, 0, none⟩) N cs, .slice (some ⟨gl, 0, none⟩) n2 n2] 87)).heap.size = W.heap.size + 1 := by simp
  generalize W.alloc (.cells #[.int .i64 s, .int .i64 t, .slice A a.n c, .slice (some ⟨gs, 0, none⟩) N cs, .slice (some ⟨gl, 0, none⟩) n2 n2] 87) = W1 at *
  have zle : W.heap.size < W1.heap.size := by omega
  have BB1 : Hid (Ext W W1) := Lib.hid bb
  obtain ⟨q0, q1, q2, q3, q4, q5, -⟩ := five hh
  clear bb zz hh q5
  have hop : ∀ X, Ext W1 X → ∀ j, j < 2 * a.n → Calls Try.prog 82 #[.int .i64 j, .pointer (some ⟨W.heap.size, 0, none⟩)] X fun e X' => e = .returned (.bool (decide (0 < x (rev j)))) ∧ Ext X X' := fun X e j hj => by
    have hrj := rev_lt (j := j) (m := a.n) hj
    have c4 := keepAt e zle q4
    have cx := keepAt (BB1.out.trans e) lgl (Bk.cell HX.out (by omega : rev j < n2))
    exact open82 W.heap.size n2 n2 gl 0 j (x (rev j)) X c4 (Nat.lt_of_lt_of_le lgl (BB1.out.trans e).size) (by omega) (by omega) (by rw [Nat.zero_add]; exact cx)
  have HOP := Lib.hid hop
  clear hop
  go_wp2_with fail
  refine (walk_any s t _ _ a N M (stf a.nw a.n) t 82 W.heap.size bs (fun j => decide (0 < x (rev j))) _ (HA.out.ext BB1.out) HO.out (by omega) hN (HS.out.ext BB1.out) (stf_stp a.nw N) ht call82 HOP.out).mono ?_
  rintro e w1 ⟨Q, la, rk, ga, gb, rfl, hh1, hh2, hh12, hbR, hbL, hwk, hlow, hx⟩
  have H := Lib.hid (And.intro hbR (And.intro hwk (BB1.out.trans hx)))
  clear hbR hbL hwk hlow hx q0 q1 q2 q3 q4
  go_wp2_with fail
  go_loopw [19] (fun i wr => ∃ k : Nat, i = .int .i64 k ∧ k ≤ N ∧ Hid (BB wr ga N (fun v => if v < k then !Q v else Q v) ∧ Ext W wr)) (fun i _ => N - (intOf i).toNat)
  case atStart => exact ⟨0, rfl, Nat.zero_le _, Lib.hid ⟨Bk.congr H.out.1 (fun j _ => by simp), H.out.2.2⟩⟩
  case round =>
    obtain ⟨k, rfl, hk, hin⟩ := hrel
    by_cases hlt : k < N
    · have ck : wr.cell? ⟨ga, k, none⟩ = some (.bool (if k < k then !Q k else Q k)) := Bk.cell hin.out.1 hlt
      rw [if_neg (Nat.lt_irrefl k)] at ck
      have fk := Bk.free hin.out.1 k
      have y := BB.set_ hin.out.1 k (!Q k)
      obtain ⟨q, hq⟩ : ∃ q, q = Q k := ⟨_, rfl⟩
      rw [← hq] at ck y
      have HY := Lib.hid (And.intro y hq)
      clear y hq
      go_wp2
      go_roundw
      case rel =>
        refine ⟨k + 1, by go_num, by omega, Lib.hid ⟨Bk.congr HY.out.1 (fun j _ => ?_), hin.out.2.sc (by omega)⟩⟩
        congr 1
        by_cases e : j = k
        · subst e; rw [up_self]; dsimp only; rw [if_pos (by omega), HY.out.2]
        · rw [up_ne _ _ e]; dsimp only
          by_cases e2 : j < k
          · rw [if_pos e2, if_pos (by omega)]
          · rw [if_neg e2, if_neg (by omega)]
      case measure => simp [intOf]; omega
    · obtain rfl : k = N := by omega
      go_wp2
      go_ret
      exact ⟨Q, la, rk, ga, rfl, by omega, Bk.congr hin.out.1 (fun j hj => by dsimp only; rw [if_pos hj]), H.out.2.1, hin.out.2⟩

set_option maxHeartbeats 4000000 in
set_option maxRecDepth 100000 in
theorem leastS_any (N : Int) (a : Ar) (AV : Value) (W : World) (hA : Al W AV a) :
    Calls Try.prog 23 #[.agg #[.int .i64 N, AV]] W fun e W' => ∃ (F : Value) (er : Int), e = .returned (.tuple #[F, .int .i64 er]) ∧ Ext W W' ∧
      ((vNet N a = false ∧ F = .slice none 0 0 ∧ er = 2) ∨ (vNet N a = true ∧ er = 0 ∧ ∃ g S, F = .slice (some ⟨g, 0, none⟩) N.toNat N.toNat ∧ W.heap.size ≤ g ∧ BB W' g N.toNat S ∧ Lst a.nw N.toNat 0 (N.toNat - 1) S)) := by
  have HA := Lib.hid hA
  obtain ⟨A, c, rfl, hac, hcm, -⟩ := hA
  go_enter Try.func23, Try.ntmps23
  go_upto_region 1 with fail
  have bb := al1 W (.cells #[.int .i64 N, .slice A a.n c] 30)
  have m0 : (W.alloc (.cells #[.int .i64 N, .slice A a.n c] 30)).cell? ⟨W.heap.size, 0, none⟩ = some (.int .i64 N) := by rw [World.cell?_alloc_new]; rfl
  have m1 : (W.alloc (.cells #[.int .i64 N, .slice A a.n c] 30)).cell? ⟨W.heap.size, 1, none⟩ = some (.slice A a.n c) := by rw [World.cell?_alloc_new]; rfl
  have zz : W.heap.size < (W.alloc (.cells #[.int .i64 N, .slice A a.n c] 30)).heap.size := by simp
  generalize W.alloc (.cells #[.int .i64 N, .slice A a.n c] 30) = W1 at *
  have HB : Hid (Ext W W1) := Lib.hid bb
  clear bb
  go_wp2_with fail
  refine (isNet_any N a _ _ (HA.out.ext HB.out)).mono ?_
  rintro e w1 ⟨rfl, hx⟩
  replace m0 := keepAt hx zz m0
  replace m1 := keepAt hx zz m1
  have HX : Hid (Ext W w1) := Lib.hid (HB.out.trans hx)
  clear hx
  cases hv : vNet N a
  · have HV := Lib.hid hv; clear hv
    go_wp2
    refine bodyPost_ret (v := .tuple #[.slice none 0 0, .int .i64 2]) (by simp [results, Try.results23, go_sem]) rfl ⟨_, 2, rfl, HX.out, .inl ⟨HV.out, rfl, rfl⟩⟩
  · obtain ⟨m, rfl, hm2, hm40, hn, hok⟩ := vNet_ok hv
    have HOK := Lib.hid hok; have HV := Lib.hid hv
    clear hv hok
    go_wp2_with fail
    refine (filled_any m a _ _ (HA.out.ext HX.out) HOK.out (by omega) hm2 (by omega)).mono ?_
    rintro e w2 ⟨x, gl, SV, rfl, -, hbi, hfull, hsl, hx⟩
    have HX2 := Lib.hid (HX.out.trans hx)
    have HFULL := Lib.hid hfull; have HBI := Lib.hid hbi; have HSL := Lib.hid hsl
    obtain ⟨gs, cs, rfl, -, -, -⟩ := hsl
    clear hx m0 m1 hbi hfull
    go_wp2_with fail
    refine (least_any a m 0 (m - 1) (2 * a.n) _ 1000000 _ (.slice (some ⟨gs, 0, none⟩) m cs) gl x _ (HA.out.ext HX2.out) HOK.out rfl (by omega) (by omega) HSL.out (by omega) HBI.out).mono ?_
    rintro e w3 ⟨R, la, rk, g, rfl, hg, hbr, hwk, hx⟩
    have HX3 := Lib.hid (HX2.out.trans hx)
    have H := Lib.hid (And.intro hbr hwk)
    have hsz := HX2.out.size
    clear hx hbr hwk
    go_wp2
    refine bodyPost_ret (v := .tuple #[.slice (some ⟨g, 0, none⟩) m m, .int .i64 0]) (by simp [results, Try.results23, go_sem]) rfl ⟨_, 0, rfl, HX3.out, .inr ⟨HV.out, rfl, g, _, rfl, by omega, H.out.1, ?_⟩⟩
    exact HFULL.out.lst HOK.out.in_ (by omega) (by omega) H.out.2

set_option maxHeartbeats 4000000 in
set_option maxRecDepth 100000 in
theorem greatestS_any (N : Int) (a : Ar) (AV : Value) (W : World) (hA : Al W AV a) :
    Calls Try.prog 26 #[.agg #[.int .i64 N, AV]] W fun e W' => ∃ (F : Value) (er : Int), e = .returned (.tuple #[F, .int .i64 er]) ∧ Ext W W' ∧
      ((vNet N a = false ∧ F = .slice none 0 0 ∧ er = 2) ∨ (vNet N a = true ∧ er = 0 ∧ ∃ g S, F = .slice (some ⟨g, 0, none⟩) N.toNat N.toNat ∧ W.heap.size ≤ g ∧ BB W' g N.toNat S ∧ Gst a.nw N.toNat 0 (N.toNat - 1) S)) := by
  have HA := Lib.hid hA
  obtain ⟨A, c, rfl, hac, hcm, -⟩ := hA
  go_enter Try.func26, Try.ntmps26
  go_upto_region 1 with fail
  have bb := al1 W (.cells #[.int .i64 N, .slice A a.n c] 30)
  have m0 : (W.alloc (.cells #[.int .i64 N, .slice A a.n c] 30)).cell? ⟨W.heap.size, 0, none⟩ = some (.int .i64 N) := by rw [World.cell?_alloc_new]; rfl
  have m1 : (W.alloc (.cells #[.int .i64 N, .slice A a.n c] 30)).cell? ⟨W.heap.size, 1, none⟩ = some (.slice A a.n c) := by rw [World.cell?_alloc_new]; rfl
  have zz : W.heap.size < (W.alloc (.cells #[.int .i64 N, .slice A a.n c] 30)).heap.size := by simp
  generalize W.alloc (.cells #[.int .i64 N, .slice A a.n c] 30) = W1 at *
  have HB : Hid (Ext W W1) := Lib.hid bb
  clear bb
  go_wp2_with fail
  refine (isNet_any N a _ _ (HA.out.ext HB.out)).mono ?_
  rintro e w1 ⟨rfl, hx⟩
  replace m0 := keepAt hx zz m0
  replace m1 := keepAt hx zz m1
  have HX : Hid (Ext W w1) := Lib.hid (HB.out.trans hx)
  clear hx
  cases hv : vNet N a
  · have HV := Lib.hid hv; clear hv
    go_wp2
    refine bodyPost_ret (v := .tuple #[.slice none 0 0, .int .i64 2]) (by simp [results, Try.results26, go_sem]) rfl ⟨_, 2, rfl, HX.out, .inl ⟨HV.out, rfl, rfl⟩⟩
  · obtain ⟨m, rfl, hm2, hm40, hn, hok⟩ := vNet_ok hv
    have HOK := Lib.hid hok; have HV := Lib.hid hv
    clear hv hok
    go_wp2_with fail
    refine (filled_any m a _ _ (HA.out.ext HX.out) HOK.out (by omega) hm2 (by omega)).mono ?_
    rintro e w2 ⟨x, gl, SV, rfl, -, hbi, hfull, hsl, hx⟩
    have HX2 := Lib.hid (HX.out.trans hx)
    have HFULL := Lib.hid hfull; have HBI := Lib.hid hbi; have HSL := Lib.hid hsl
    obtain ⟨gs, cs, rfl, -, -, -⟩ := hsl
    clear hx m0 m1 hbi hfull
    go_wp2_with fail
    refine (greatest_any a m 0 (m - 1) (2 * a.n) _ 1000000 _ (.slice (some ⟨gs, 0, none⟩) m cs) gl x _ (HA.out.ext HX2.out) HOK.out rfl (by omega) (by omega) HSL.out (by omega) HBI.out).mono ?_
    rintro e w3 ⟨R, la, rk, g, rfl, hg, hbr, hwk, hx⟩
    have HX3 := Lib.hid (HX2.out.trans hx)
    have H := Lib.hid (And.intro hbr hwk)
    have hsz := HX2.out.size
    clear hx hbr hwk
    go_wp2
    refine bodyPost_ret (v := .tuple #[.slice (some ⟨g, 0, none⟩) m m, .int .i64 0]) (by simp [results, Try.results26, go_sem]) rfl ⟨_, 0, rfl, HX3.out, .inr ⟨HV.out, rfl, g, _, rfl, by omega, H.out.1, ?_⟩⟩
    exact HFULL.out.gst HOK.out.in_ (by omega) (by omega) H.out.2

end Go.Proofs.Ytilcbbdmenknfaa
