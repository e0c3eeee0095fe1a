/- Walks: Cut. -/
import Derived.Test.YtilcbbdmenknfaaD3
namespace Go.Proofs.Ytilcbbdmenknfaa
open Go.RowKit

set_option maxHeartbeats 4000000 in
set_option maxRecDepth 100000 in
theorem cut_any (N u v : Int) (a : Ar) (AV : Value) (W : World) (hA : Al W AV a) :
    Calls Try.prog 33 #[.agg #[.int .i64 N, AV], .int .i64 u, .int .i64 v] W fun e W' => ∃ c er : Int, e = .returned (.tuple #[.int .i64 c, .int .i64 er]) ∧ Ext W W' ∧
      ((cutOk N a u v = false ∧ c = 0 ∧ er = 2) ∨ (cutOk N a u v = true ∧ er = 0 ∧ Mc (dbl a).nw u.toNat v.toNat c)) := by
  have HA := Lib.hid hA
  obtain ⟨A, c, rfl, hac, hcm, -⟩ := hA
  obtain ⟨ok, hok⟩ : ∃ ok, ok = cutOk N a u v := ⟨_, rfl⟩
  rw [← hok]
  unfold cutOk at hok
  go_enter Try.func33, Try.ntmps33
  go_upto_region 1 with fail
  have bb := al1 W (.cells #[.int .i64 N, .slice A a.n c] 30)
  have m0 : (W.alloc (.cells #[.int .i64 N, .slice A a.n c] 30)).cell? ⟨W.heap.size, 0, none⟩ = some (.int .i64 N) := by rw [World.cell?_alloc_new]; rfl
  have m1 : (W.alloc (.cells #[.int .i64 N, .slice A a.n c] 30)).cell? ⟨W.heap.size, 1, none⟩ = some (.slice A a.n c) := by rw [World.cell?_alloc_new]; rfl
  have zz : W.heap.size < (W.alloc (.cells #[.int .i64 N, .slice A a.n c] 30)).heap.size := by simp
  generalize W.alloc (.cells #[.int .i64 N, .slice A a.n c] 30) = W1 at *
  have HB : Hid (Ext W W1) := Lib.hid bb
  clear bb
  go_wp2_with fail
  refine (isWeb_any N a _ _ (HA.out.ext HB.out)).mono ?_
  rintro e w1 ⟨rfl, hx⟩
  replace m0 := keepAt hx zz m0
  replace m1 := keepAt hx zz m1
  have HX : Hid (Ext W w1) := Lib.hid (HB.out.trans hx)
  clear hx
  cases hv : (vNet N a && decide (N ≤ 12))
  · rw [hv] at hok
    have HOK := Lib.hid hok; clear hok hv
    go_wp2
    refine bodyPost_ret (v := .tuple #[.int .i64 0, .int .i64 2]) (by simp [results, Try.results33, go_sem]) rfl ⟨0, 2, rfl, HX.out, .inl ⟨by rw [HOK.out]; rfl, rfl, rfl⟩⟩
  · rw [hv] at hok
    rw [Bool.and_eq_true, decide_eq_true_iff] at hv
    obtain ⟨m, rfl, hm2, hm40, hn, hO⟩ := vNet_ok hv.1
    have HO := Lib.hid hO
    clear hv hO
    go_wp2_with fail
    refine (isBetween_bw _ _ _ _).mono ?_
    rintro e w2 ⟨rfl, rfl⟩
    cases h1 : bw u 0 ((m : Int) - 1)
    · rw [h1] at hok
      have HOK := Lib.hid hok; clear hok h1
      go_wp2
      refine bodyPost_ret (v := .tuple #[.int .i64 0, .int .i64 2]) (by simp [results, Try.results33, go_sem]) rfl ⟨0, 2, rfl, HX.out, .inl ⟨by rw [HOK.out]; rfl, rfl, rfl⟩⟩
    · rw [h1] at hok
      obtain ⟨hu0, hu1⟩ := bw_iff.1 h1
      clear h1
      go_wp2_with fail
      refine (isBetween_bw _ _ _ _).mono ?_
      rintro e w2 ⟨rfl, rfl⟩
      cases h2 : bw v 0 ((m : Int) - 1)
      · rw [h2] at hok
        have HOK := Lib.hid hok; clear hok h2
        go_wp2
        refine bodyPost_ret (v := .tuple #[.int .i64 0, .int .i64 2]) (by simp [results, Try.results33, go_sem]) rfl ⟨0, 2, rfl, HX.out, .inl ⟨by rw [HOK.out]; rfl, rfl, rfl⟩⟩
      · rw [h2] at hok
        obtain ⟨hv0, hv1⟩ := bw_iff.1 h2
        clear h2
        by_cases h3 : u = v
        · rw [decide_eq_true h3] at hok
          have HOK := Lib.hid hok; clear hok
          subst h3
          go_wp2
          refine bodyPost_ret (v := .tuple #[.int .i64 0, .int .i64 2]) (by simp [results, Try.results33, go_sem]) rfl ⟨0, 2, rfl, HX.out, .inl ⟨by rw [HOK.out]; rfl, rfl, rfl⟩⟩
        · rw [decide_eq_false h3] at hok
          have HOK := Lib.hid hok; clear hok
          obtain ⟨p, rfl⟩ : ∃ p : Nat, u = p := ⟨u.toNat, by omega⟩
          obtain ⟨q, rfl⟩ : ∃ q : Nat, v = q := ⟨v.toNat, by omega⟩
          go_wp2_with fail
          refine (parted_any m a p q _ _ (HA.out.ext HX.out) HO.out hn (by omega) (by omega) (by omega) (by omega)).mono ?_
          rintro e w2 ⟨x, gl, BV, SV, rfl, -, hbi, hfull, hal, -, hx⟩
          have HX2 := Lib.hid (HX.out.trans hx)
          have HFULL := Lib.hid hfull; have HBI := Lib.hid hbi; have HAL := Lib.hid hal
          obtain ⟨A2, c2, rfl, -, -, -⟩ := hal
          clear hx m0 m1 hbi hfull
          go_wp2_with fail
          refine (value_any (dbl a) m p (q : Int) (2 * (dbl a).n) 1000000 _ SV gl x _ HAL.out (dbl_ok HO.out) (by omega) (by show 2 * a.n ≤ 1000; omega) rfl HBI.out HFULL.out.fp.rs).mono ?_
          rintro e w3 ⟨rfl, hx⟩
          have HX3 := Lib.hid (HX2.out.trans hx)
          clear hx
          go_wp2
          refine bodyPost_ret (v := .tuple #[.int .i64 ((dbl a).nw.sp (Nw.fw x) p), .int .i64 0]) (by simp [results, Try.results33, go_sem]) rfl ⟨_, 0, rfl, HX3.out, .inr ⟨by rw [HOK.out]; rfl, rfl, ?_⟩⟩
          have := HFULL.out.mc (dbl_ok HO.out).in_ (by omega) (by omega)
          rw [Int.toNat_natCast, Int.toNat_natCast]
          exact this
end Go.Proofs.Ytilcbbdmenknfaa
