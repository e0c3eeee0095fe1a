/- Walks: isWeb, parted. · Walks: Cut. · Cut with its answer fixed beforehand; a net with all arcs back behind it. · A tree that has all cuts: mathematics. -/
import Derived.Test.YtilcbbdmenknfaaM10
namespace Go.Proofs.Ytilcbbdmenknfaa
open Go.RowKit

set_option maxHeartbeats 4000000 in
set_option maxRecDepth 100000 in
theorem isWeb_any (N : Int) (a : Ar) (AV : Value) (W : World) (hA : Al W AV a) :
    Calls Try.prog 62 #[.agg #[.int .i64 N, AV]] W fun e W' => e = .returned (.bool (vNet N a && decide (N ≤ 12))) ∧ Ext W W' := by
  have HA := Lib.hid hA
  obtain ⟨A, c, rfl, hac, hcm, -⟩ := hA
  go_enter Try.func62, Try.ntmps62
  go_upto_region 1 with fail
  have bb := al1 W (.cells #[.int .i64 N, .slice A a.n c] 30)
  have m0 : (W.alloc (.cells #[.int .i64 N, .slice A a.n c] 30)).cell? ⟨W.heap.size, 0, none⟩ = some (.int .i64 N) := by rw [World.cell?_alloc_new]; rfl
  have m1 : (W.alloc (.cells #[.int .i64 N, .slice A a.n c] 30)).cell? ⟨W.heap.size, 1, none⟩ = some (.slice A a.n c) := by rw [World.cell?_alloc_new]; rfl
  have zz : W.heap.size < (W.alloc (.cells #[.int .i64 N, .slice A a.n c] 30)).heap.size := by simp
  generalize W.alloc (.cells #[.int .i64 N, .slice A a.n c] 30) = W1 at *
  have HB : Hid (Ext W W1) := Lib.hid bb
  clear bb
  go_wp2_with fail
  refine (isNet_any N a _ _ (HA.out.ext HB.out)).mono ?_
  rintro e w1 ⟨rfl, hx⟩
  replace m0 := keepAt hx zz m0
  replace m1 := keepAt hx zz m1
  have HX : Hid (Ext W w1) := Lib.hid (HB.out.trans hx)
  clear hx
  cases hv : vNet N a
  · have HV := Lib.hid hv; clear hv
    go_wp2
    go_ret
    exact ⟨by rw [HV.out]; rfl, HX.out⟩
  · have HV := Lib.hid hv; clear hv
    go_wp2
    go_ret
    exact ⟨by rw [HV.out]; rfl, HX.out⟩

set_option maxHeartbeats 4000000 in
set_option maxRecDepth 100000 in
theorem parted_own (N : Nat) (a : Ar) (u v : Nat) (AV : Value) (W : World) (hA : Al W AV a) (hO : a.Ok N 1000000) (hn : a.n ≤ 160) (hN : N ≤ 1000) (hu : u < N) (hv : v < N) (hne : u ≠ v) :
    Calls Try.prog 64 #[.agg #[.int .i64 N, AV], .int .i64 u, .int .i64 v] W fun e W' => ∃ (x : Nat → Int) (gl : Nat) (BV SV : Value), e = .returned (.agg #[.int .i64 u, .int .i64 v, BV, SV, .slice (some ⟨gl, 0, none⟩) (2 * (dbl a).n) (2 * (dbl a).n)]) ∧
      W.heap.size ≤ gl ∧ BI W' gl (2 * (dbl a).n) x ∧ Full (dbl a).nw N u v x ∧ Al W' BV (dbl a) ∧ Sl W' (W.heap.size + 1 + 1) SV N (stf (dbl a).nw (dbl a).n) ∧ Ext W W' ∧ ∀ b, BV.ownBlock = some b → W.heap.size ≤ b := by
  have HA := Lib.hid hA; have HO := Lib.hid hO
  obtain ⟨A, c, rfl, hac, hcm, -⟩ := hA
  obtain ⟨i0, hi, hz0, hz1, hz2⟩ := info_parts info65
  go_enter Try.func64, Try.ntmps64
  go_upto_region 2 with fail
  have bb := al2 W (.cells #[.int .i64 N, .slice A a.n c] 30) (.cells #[.int .i64 0, .int .i64 0, .slice none 0 0, .slice none 0 0, .slice none 0 0] 87)
  have hh0 : ((W.alloc (.cells #[.int .i64 N, .slice A a.n c] 30)).alloc (.cells #[.int .i64 0, .int .i64 0, .slice none 0 0, .slice none 0 0, .slice none 0 0] 87)).heap[W.heap.size]? = some (.cells #[.int .i64 N, .slice A a.n c] 30 (0, 0)) := (Below.heap_alloc _ _ _ (by simp)).trans (heap_alloc_new W _)
  have hh1 := heap_alloc_new (W.alloc (.cells #[.int .i64 N, .slice A a.n c] 30)) (.cells #[.int .i64 0, .int .i64 0, .slice none 0 0, .slice none 0 0, .slice none 0 0] 87)
  simp only [World.size_alloc] at hh1
  have hz : ((W.alloc (.cells #[.int .i64 N, .slice A a.n c] 30)).alloc (.cells #[.int .i64 0, .int .i64 0, .slice none 0 0, .slice none 0 0, .slice none 0 0] 87)).heap.size = W.heap.size + 1 + 1 := by simp
  generalize (W.alloc (.cells #[.int .i64 N, .slice A a.n c] 30)).alloc (.cells #[.int .i64 0, .int .i64 0, .slice none 0 0, .slice none 0 0, .slice none 0 0] 87) = W1 at *
  have HB : Hid (Ext W W1) := Lib.hid bb
  have HH := Lib.hid (And.intro hh0 (And.intro hh1 hz))
  obtain ⟨m0, m1, m2, m3⟩ := two hh0
  have zlt : W.heap.size + 1 < W1.heap.size := by omega
  have zle : W1.heap.size ≤ W.heap.size + 1 + 1 := by omega
  clear bb hh0 hh1 hz m0 m2
  go_wp2_with fail
  clear m1
  go_loopw [7, 13] (fun q i wr => ∃ (k : Nat), i = .int .i64 k ∧ k ≤ a.n ∧ Hid (wr.ownsRow W1.heap.size 65 3 q (2 * k) (acl (dbl a) (2 * k)) ∧ Ext W1 wr)) (fun _ i _ => a.n - (intOf i).toNat)
  case atStart => exact ⟨0, rfl, Nat.zero_le _, Lib.hid ⟨World.ownsRow_nil _ _ _ _, Ext.refl _⟩⟩
  case round =>
    obtain ⟨k, rfl, hk, hin⟩ := hrel
    have hvs : ∃ A n c, u7 = .slice A n c := by
      obtain ⟨-, ⟨rfl, -⟩ | ⟨g, cap, cur, rfl, -⟩⟩ := hin.out.1
      · exact ⟨_, _, _, rfl⟩
      · exact ⟨_, _, _, rfl⟩
    obtain ⟨Av, nv, cv, rfl⟩ := hvs
    have hsz := hin.out.2.size
    by_cases hlt : k < a.n
    · obtain ⟨b, off, rfl, d1, d2, d3⟩ := HA.out.arc (HB.out.trans hin.out.2) hlt
      obtain ⟨fk, hfk⟩ : ∃ x, x = a.f k := ⟨_, rfl⟩
      obtain ⟨tk, htk⟩ : ∃ x, x = a.t k := ⟨_, rfl⟩
      obtain ⟨ck, hck⟩ : ∃ x, x = a.c k := ⟨_, rfl⟩
      rw [← hfk] at d1; rw [← htk] at d2; rw [← hck] at d3
      have HFT := Lib.hid (And.intro hfk (And.intro htk hck))
      clear hfk htk hck
      have hown := World.ownsRow.ext hin.out.1 (Ext.alc (Ext.alc (Ext.refl wr) (.cells #[.int .i64 fk, .int .i64 tk, .int .i64 ck] 65)) (.cells #[.int .i64 fk, .int .i64 tk, .int .i64 ck, .int .i64 tk, .int .i64 fk, .int .i64 ck] 65))
      go_wp2_with (at_builtin; refine wpList_append_own _ rfl _ _ 28 rfl W1.heap.size 65 i0 (.agg #[.int .i64 0, .int .i64 0, .int .i64 0]) 3 24 Try.underlying28 hi hz0 hz1 hz2 rfl (by decide) _ (2 * k) _ rfl hown ⟨wr.heap.size + 1, 0, none⟩ 2 2 [.int .i64 fk, .int .i64 tk, .int .i64 ck, .int .i64 tk, .int .i64 fk, .int .i64 ck] rfl rfl ?c1 ?c2 ?c3 ?c4 ?c5 ?_)
      case c1 =>
        intro j u hj
        match j, hj with
        | 0, hj => simp at hj; subst hj; simp [Addr.add]
        | 1, hj => simp at hj; subst hj; simp [Addr.add]
        | 2, hj => simp at hj; subst hj; simp [Addr.add]
        | 3, hj => simp at hj; subst hj; simp [Addr.add]
        | 4, hj => simp at hj; subst hj; simp [Addr.add]
        | 5, hj => simp at hj; subst hj; simp [Addr.add]
        | j + 6, hj => simp at hj
      case c2 => intro u hu; simp at hu; rcases hu with rfl | rfl | rfl | rfl | rfl | rfl <;> rfl
      case c3 => unfold maxLen; omega
      case c4 => omega
      case c5 => simp; omega
      intro v' w2 hown' hgrow hnil
      clear hnil
      have hob : ∀ g, (Value.slice Av nv cv).ownBlock = some g → W1.heap.size ≤ g := fun g hg => (World.ownsRow.lt hown g hg).1
      have hex : Ext W1 w2 := ⟨hgrow.os.trans hin.out.2.os, hgrow.tape.trans hin.out.2.tape, hgrow.output.trans hin.out.2.output, by have h1 := hgrow.size; simp at h1; omega, fun g hg => (hgrow.block g (by simp; omega) (fun e => by have := hob g e.symm; omega)).trans ((Below.heap_alloc _ _ g (by simp; omega)).trans ((Below.heap_alloc _ _ g (by omega)).trans (hin.out.2.block g hg)))⟩
      have HN := Lib.hid (And.intro hown' hex)
      clear hown' hex hgrow hob hown d1 d2 d3
      go_wp2
      go_roundw
      case rel =>
        refine ⟨k + 1, by go_num, by omega, Lib.hid ⟨?_, HN.out.2⟩⟩
        rw [acl_dbl, ← HFT.out.1, ← HFT.out.2.1, ← HFT.out.2.2]
        exact HN.out.1
      case measure => simp [intOf]; omega
    · obtain rfl : k = a.n := by omega
      have HAl : Hid (Al wr (.slice Av nv cv) (dbl a)) := Lib.hid (Al.own (a := dbl a) hin.out.1)
      have HX : Hid (Ext W1 wr) := Lib.hid hin.out.2
      have HOW := Lib.hid hin.out.1
      obtain ⟨m0, m1, m2, m3⟩ := two ((Below.block hin.out.2 W.heap.size (by omega)).trans HH.out.1)
      clear hin m1 m2
      go_wp2_with fail
      refine (newNetwork_any (dbl a) N u v 1000000 _ _ HAl.out (dbl_ok HO.out) (by show 2 * a.n ≤ 1000; omega) hN).mono ?_
      rintro e w1 ⟨SV, rfl, hsl, hx⟩
      have hsl2 : Sl w1 (W.heap.size + 1 + 1) SV N (stf (dbl a).nw (dbl a).n) := by
        obtain ⟨b, c, e, hb, h0, hc⟩ := hsl
        refine ⟨b, c, e, hb, by omega, fun i hi => ?_⟩
        obtain ⟨z, h1, h2, h3⟩ := hc i hi
        exact ⟨z, h1, h2, fun b' hb' => by have := h3 b' hb'; omega⟩
      have HSL := Lib.hid hsl2
      replace HOW := Lib.hid (World.ownsRow.ext HOW.out hx)
      replace HAl := Lib.hid (HAl.out.ext hx)
      replace HX := Lib.hid (HX.out.trans hx)
      obtain ⟨gs, cs, rfl, -, -, -⟩ := hsl
      clear hsl2 m0 hx
      go_wp2_with fail
      refine (fill_any (dbl a) N u v _ 1000000 _ (.slice (some ⟨gs, 0, none⟩) N cs) (stf (dbl a).nw (dbl a).n) _ HAl.out (dbl_ok HO.out) (by show 2 * a.n ≤ 1000; omega) hN (by omega) HSL.out (stf_stp (dbl a).nw N) hu hv hne).mono ?_
      rintro e w2 ⟨x, gl, rfl, hgl, hbi, hfull, hx⟩
      have EX := Lib.hid (HX.out.trans hx)
      have HSL2 := Lib.hid (HSL.out.ext hx)
      replace HOW := Lib.hid (World.ownsRow.ext HOW.out hx)
      have HBI := Lib.hid hbi; have HFULL := Lib.hid hfull
      replace HAl := Lib.hid (HAl.out.ext hx)
      have h1sz := HX.out.size
      obtain ⟨p0, p1, p2, p3, p4, p5, p6⟩ := five ((Below.block EX.out (W.heap.size + 1) zlt).trans HH.out.2.1)
      clear hx hbi hfull HX HSL
      go_wp2
      refine bodyPost_ret (v := .agg #[.int .i64 u, .int .i64 v, .slice Av nv cv, .slice (some ⟨gs, 0, none⟩) N cs, .slice (some ⟨gl, 0, none⟩) (2 * (dbl a).n) (2 * (dbl a).n)]) (by simp [results, Try.results64, go_sem, p0, p1, p2, p3, p4]) rfl ?_
      have hne1 : gl ≠ W.heap.size + 1 := by omega
      have hk : ∀ g, g ≠ W.heap.size + 1 → (((((w2.setCell ⟨W.heap.size + 1, 0, none⟩ (.int .i64 u)).setCell ⟨W.heap.size + 1, 1, none⟩ (.int .i64 v)).setCell ⟨W.heap.size + 1, 2, none⟩ (.slice Av nv cv)).setCell ⟨W.heap.size + 1, 3, none⟩ (.slice (some ⟨gs, 0, none⟩) N cs)).setCell ⟨W.heap.size + 1, 4, none⟩ (.slice (some ⟨gl, 0, none⟩) (2 * (dbl a).n) (2 * (dbl a).n))).heap[g]? = w2.heap[g]? := fun g hg => by
        rw [Below.heap_setCell _ _ _ g hg, Below.heap_setCell _ _ _ g hg, Below.heap_setCell _ _ _ g hg, Below.heap_setCell _ _ _ g hg, Below.heap_setCell _ _ _ g hg]
      refine ⟨x, gl, _, _, rfl, by omega, Bk.far (Bk.far (Bk.far (Bk.far (Bk.far HBI.out hne1 _) hne1 _) hne1 _) hne1 _) hne1 _, HFULL.out, ?_, HSL2.out.keep (by simp [World.setCell]) fun b hb => hk b (by omega), (((((HB.out.trans EX.out).sc (by omega)).sc (by omega)).sc (by omega)).sc (by omega)).sc (by omega), fun b hb => by have := (World.ownsRow.lt HOW.out b hb).1; have := HB.out.size; omega⟩
      refine Al.own (a := dbl a) (base := W1.heap.size) ?_
      obtain ⟨h1, h2 | ⟨g, cap, cur, e, hg, hh, rest⟩⟩ := HOW.out
      · exact ⟨h1, .inl h2⟩
      · exact ⟨h1, .inr ⟨g, cap, cur, e, hg, (hk g (by omega)).trans hh, rest⟩⟩
theorem parted_any (N : Nat) (a : Ar) (u v : Nat) (AV : Value) (W : World) (hA : Al W AV a) (hO : a.Ok N 1000000) (hn : a.n ≤ 160) (hN : N ≤ 1000) (hu : u < N) (hv : v < N) (hne : u ≠ v) :
    Calls Try.prog 64 #[.agg #[.int .i64 N, AV], .int .i64 u, .int .i64 v] W fun e W' => ∃ (x : Nat → Int) (gl : Nat) (BV SV : Value), e = .returned (.agg #[.int .i64 u, .int .i64 v, BV, SV, .slice (some ⟨gl, 0, none⟩) (2 * (dbl a).n) (2 * (dbl a).n)]) ∧
      W.heap.size ≤ gl ∧ BI W' gl (2 * (dbl a).n) x ∧ Full (dbl a).nw N u v x ∧ Al W' BV (dbl a) ∧ Sl W' (W.heap.size + 1 + 1) SV N (stf (dbl a).nw (dbl a).n) ∧ Ext W W' := by
  refine (parted_own N a u v AV W hA hO hn hN hu hv hne).mono ?_
  rintro e w ⟨x, gl, BV, SV, h1, h2, h3, h4, h5, h6, h7, -⟩
  exact ⟨x, gl, BV, SV, h1, h2, h3, h4, h5, h6, h7⟩
end Go.Proofs.Ytilcbbdmenknfaa
namespace Go.Proofs.Ytilcbbdmenknfaa
open Go.RowKit

set_option maxHeartbeats 4000000 in
set_option maxRecDepth 100000 in
theorem cut_any (N u v : Int) (a : Ar) (AV : Value) (W : World) (hA : Al W AV a) :
    Calls Try.prog 33 #[.agg #[.int .i64 N, AV], .int .i64 u, .int .i64 v] W fun e W' => ∃ c er : Int, e = .returned (.tuple #[.int .i64 c, .int .i64 er]) ∧ Ext W W' ∧
      ((cutOk N a u v = false ∧ c = 0 ∧ er = 2) ∨ (cutOk N a u v = true ∧ er = 0 ∧ Mc (dbl a).nw u.toNat v.toNat c)) := by
  have HA := Lib.hid hA
  obtain ⟨A, c, rfl, hac, hcm, -⟩ := hA
  obtain ⟨ok, hok⟩ : ∃ ok, ok = cutOk N a u v := ⟨_, rfl⟩
  rw [← hok]
  unfold cutOk at hok
  go_enter Try.func33, Try.ntmps33
  go_upto_region 1 with fail
  have bb := al1 W (.cells #[.int .i64 N, .slice A a.n c] 30)
  have m0 : (W.alloc (.cells #[.int .i64 N, .slice A a.n c] 30)).cell? ⟨W.heap.size, 0, none⟩ = some (.int .i64 N) := by rw [World.cell?_alloc_new]; rfl
  have m1 : (W.alloc (.cells #[.int .i64 N, .slice A a.n c] 30)).cell? ⟨W.heap.size, 1, none⟩ = some (.slice A a.n c) := by rw [World.cell?_alloc_new]; rfl
  have zz : W.heap.size < (W.alloc (.cells #[.int .i64 N, .slice A a.n c] 30)).heap.size := by simp
  generalize W.alloc (.cells #[.int .i64 N, .slice A a.n c] 30) = W1 at *
  have HB : Hid (Ext W W1) := Lib.hid bb
  clear bb
  go_wp2_with fail
  refine (isWeb_any N a _ _ (HA.out.ext HB.out)).mono ?_
  rintro e w1 ⟨rfl, hx⟩
  replace m0 := keepAt hx zz m0
  replace m1 := keepAt hx zz m1
  have HX : Hid (Ext W w1) := Lib.hid (HB.out.trans hx)
  clear hx
  cases hv : (vNet N a && decide (N ≤ 12))
  · rw [hv] at hok
    have HOK := Lib.hid hok; clear hok hv
    go_wp2
    refine bodyPost_ret (v := .tuple #[.int .i64 0, .int .i64 2]) (by simp [results, Try.results33, go_sem]) rfl ⟨0, 2, rfl, HX.out, .inl ⟨by rw [HOK.out]; rfl, rfl, rfl⟩⟩
  · rw [hv] at hok
    rw [Bool.and_eq_true, decide_eq_true_iff] at hv
    obtain ⟨m, rfl, hm2, hm40, hn, hO⟩ := vNet_ok hv.1
    have HO := Lib.hid hO
    clear hv hO
    go_wp2_with fail
    refine (isBetween_bw _ _ _ _).mono ?_
    rintro e w2 ⟨rfl, rfl⟩
    cases h1 : bw u 0 ((m : Int) - 1)
    · rw [h1] at hok
      have HOK := Lib.hid hok; clear hok h1
      go_wp2
      refine bodyPost_ret (v := .tuple #[.int .i64 0, .int .i64 2]) (by simp [results, Try.results33, go_sem]) rfl ⟨0, 2, rfl, HX.out, .inl ⟨by rw [HOK.out]; rfl, rfl, rfl⟩⟩
    · rw [h1] at hok
      obtain ⟨hu0, hu1⟩ := bw_iff.1 h1
      clear h1
      go_wp2_with fail
      refine (isBetween_bw _ _ _ _).mono ?_
      rintro e w2 ⟨rfl, rfl⟩
      cases h2 : bw v 0 ((m : Int) - 1)
      · rw [h2] at hok
        have HOK := Lib.hid hok; clear hok h2
        go_wp2
        refine bodyPost_ret (v := .tuple #[.int .i64 0, .int .i64 2]) (by simp [results, Try.results33, go_sem]) rfl ⟨0, 2, rfl, HX.out, .inl ⟨by rw [HOK.out]; rfl, rfl, rfl⟩⟩
      · rw [h2] at hok
        obtain ⟨hv0, hv1⟩ := bw_iff.1 h2
        clear h2
        by_cases h3 : u = v
        · rw [decide_eq_true h3] at hok
          have HOK := Lib.hid hok; clear hok
          subst h3
          go_wp2
          refine bodyPost_ret (v := .tuple #[.int .i64 0, .int .i64 2]) (by simp [results, Try.results33, go_sem]) rfl ⟨0, 2, rfl, HX.out, .inl ⟨by rw [HOK.out]; rfl, rfl, rfl⟩⟩
        · rw [decide_eq_false h3] at hok
          have HOK := Lib.hid hok; clear hok
          obtain ⟨p, rfl⟩ : ∃ p : Nat, u = p := ⟨u.toNat, by omega⟩
          obtain ⟨q, rfl⟩ : ∃ q : Nat, v = q := ⟨v.toNat, by omega⟩
          go_wp2_with fail
          refine (parted_any m a p q _ _ (HA.out.ext HX.out) HO.out hn (by omega) (by omega) (by omega) (by omega)).mono ?_
          rintro e w2 ⟨x, gl, BV, SV, rfl, -, hbi, hfull, hal, -, hx⟩
          have HX2 := Lib.hid (HX.out.trans hx)
          have HFULL := Lib.hid hfull; have HBI := Lib.hid hbi; have HAL := Lib.hid hal
          obtain ⟨A2, c2, rfl, -, -, -⟩ := hal
          clear hx m0 m1 hbi hfull
          go_wp2_with fail
          refine (value_any (dbl a) m p (q : Int) (2 * (dbl a).n) 1000000 _ SV gl x _ HAL.out (dbl_ok HO.out) (by omega) (by show 2 * a.n ≤ 1000; omega) rfl HBI.out HFULL.out.fp.rs).mono ?_
          rintro e w3 ⟨rfl, hx⟩
          have HX3 := Lib.hid (HX2.out.trans hx)
          clear hx
          go_wp2
          refine bodyPost_ret (v := .tuple #[.int .i64 ((dbl a).nw.sp (Nw.fw x) p), .int .i64 0]) (by simp [results, Try.results33, go_sem]) rfl ⟨_, 0, rfl, HX3.out, .inr ⟨by rw [HOK.out]; rfl, rfl, ?_⟩⟩
          have := HFULL.out.mc (dbl_ok HO.out).in_ (by omega) (by omega)
          rw [Int.toNat_natCast, Int.toNat_natCast]
          exact this
end Go.Proofs.Ytilcbbdmenknfaa
namespace Go.Proofs.Ytilcbbdmenknfaa
open Go.RowKit

theorem Nw.ct_nonneg (G : Nw) (hc : ∀ k, k < G.m → 0 ≤ G.cp k) (S : Nat → Bool) : 0 ≤ G.ct S := by
  refine sm_nonneg fun k hk => ?_
  split
  · exact hc k hk
  · omega
theorem Mc.ex {G : Nw} {s t : Nat} (hne : s ≠ t) (hc : ∀ k, k < G.m → 0 ≤ G.cp k) : ∃ v, Mc G s t v := by
  have h0 : ∃ n, ∃ S, Nw.Sd s t S ∧ (G.ct S).toNat = n := ⟨_, fun i => decide (i = s), ⟨by simp, by simp; exact fun e => hne e.symm⟩, rfl⟩
  obtain ⟨n, ⟨S, hS, hn⟩, hl⟩ := exists_least h0
  refine ⟨G.ct S, ⟨S, hS, rfl⟩, fun T hT => ?_⟩
  have h1 := hl _ ⟨T, hT, rfl⟩
  have h2 := G.ct_nonneg hc S
  have h3 := G.ct_nonneg hc T
  omega
theorem cutOk_iff {N : Int} {a : Ar} {u v : Int} : cutOk N a u v = true ↔ vNet N a = true ∧ N ≤ 12 ∧ (0 ≤ u ∧ u ≤ N - 1) ∧ (0 ≤ v ∧ v ≤ N - 1) ∧ u ≠ v := by
  unfold cutOk
  simp only [Bool.and_eq_true, decide_eq_true_iff, bw_iff, Bool.not_eq_true', decide_eq_false_iff_not]
  constructor
  · rintro ⟨⟨⟨⟨h1, h2⟩, h3⟩, h4⟩, h5⟩; exact ⟨h1, h2, h3, h4, h5⟩
  · rintro ⟨h1, h2, h3, h4, h5⟩; exact ⟨⟨⟨⟨h1, h2⟩, h3⟩, h4⟩, h5⟩
theorem cut_fix (N u v : Int) (a : Ar) : ∃ c er : Int, ((cutOk N a u v = false ∧ c = 0 ∧ er = 2) ∨ (cutOk N a u v = true ∧ er = 0 ∧ Mc (dbl a).nw u.toNat v.toNat c)) ∧
    ∀ (X : World) (o : Value), Al X o a → Calls Try.prog 33 #[.agg #[.int .i64 N, o], .int .i64 u, .int .i64 v] X fun e W' => e = .returned (.tuple #[.int .i64 c, .int .i64 er]) ∧ Ext X W' := by
  cases h : cutOk N a u v
  · refine ⟨0, 2, .inl ⟨rfl, rfl, rfl⟩, fun X o ho => ?_⟩
    refine (cut_any N u v a o X ho).mono ?_
    rintro e w ⟨c, er, rfl, hx, ⟨-, rfl, rfl⟩ | ⟨h2, -⟩⟩
    · exact ⟨rfl, hx⟩
    · rw [h] at h2; cases h2
  · obtain ⟨h1, h2, h3, h4, h5⟩ := cutOk_iff.1 h
    obtain ⟨m, rfl, -, -, -, hO⟩ := vNet_ok h1
    obtain ⟨c, hc⟩ := Mc.ex (G := (dbl a).nw) (s := u.toNat) (t := v.toNat) (by omega) (dbl_ok hO).c0
    refine ⟨c, 0, .inr ⟨rfl, rfl, hc⟩, fun X o ho => ?_⟩
    refine (cut_any m u v a o X ho).mono ?_
    rintro e w ⟨c', er, rfl, hx, ⟨h2, -⟩ | ⟨-, rfl, hm⟩⟩
    · rw [h] at h2; cases h2
    · rw [hm.one hc]; exact ⟨rfl, hx⟩

/-- a net, and all its arcs back behind it -/
def app (a : Ar) : Ar := ⟨2 * a.n, fun k => if k < a.n then a.f k else a.t (k - a.n), fun k => if k < a.n then a.t k else a.f (k - a.n), fun k => if k < a.n then a.c k else a.c (k - a.n)⟩
theorem acl_app (a : Ar) (k : Nat) : acl (app a) (a.n + k + 1) = acl (app a) (a.n + k) ++ [.int .i64 (a.t k), .int .i64 (a.f k), .int .i64 (a.c k)] := by
  have e : ¬ a.n + k < a.n := by omega
  rw [acl_succ]
  simp only [app, e, if_false, Nat.add_sub_cancel_left]
theorem acl_appk (a : Ar) : ∀ k, k ≤ a.n → acl (app a) k = acl a k := by
  intro k
  induction k with
  | zero => intro _; rfl
  | succ k ih =>
    intro hk
    have e : k < a.n := by omega
    rw [acl_succ, acl_succ, ih (by omega)]
    simp only [app, e, if_true]
theorem acl_app0 (a : Ar) : acl (app a) (a.n + 0) = acl a a.n := by rw [Nat.add_zero]; exact acl_appk a a.n (Nat.le_refl _)
theorem sm_split (n m : Nat) (g : Nat → Int) : sm (n + m) g = sm n g + sm m fun k => g (n + k) := by
  induction m with
  | zero => simp [sm]
  | succ m ih => rw [show n + (m + 1) = n + m + 1 by omega]; simp only [sm]; rw [ih]; omega
theorem ct_app (a : Ar) (S : Nat → Bool) : (app a).nw.ct S = across a S := by
  have h : (app a).nw.ct S = sm (2 * a.n) fun k => if S ((app a).f k).toNat = true ∧ S ((app a).t k).toNat = false then (app a).c k else 0 := rfl
  rw [h, Nat.two_mul, sm_split, ← sm_add]
  refine sm_congr fun k hk => ?_
  have e : ¬ a.n + k < a.n := by omega
  simp only [app, hk, e, if_true, if_false, Nat.add_sub_cancel_left]
  cases S (a.f k).toNat <;> cases S (a.t k).toNat <;> simp
theorem app_net {N : Int} {a : Ar} (h : vNet N a = true) (hn : a.n ≤ 80) : vNet N (app a) = true := by
  obtain ⟨h1, h2, h3⟩ := vNet_iff.1 h
  refine vNet_iff.2 ⟨h1, by show 2 * a.n ≤ 160; omega, fun k hk => ?_⟩
  have hk' : k < 2 * a.n := hk
  unfold okA
  by_cases e : k < a.n
  · have := h3 k e
    unfold okA at this
    simp only [app, e, if_true]
    exact this
  · have := h3 (k - a.n) (by omega)
    unfold okA at this
    simp only [app, e, if_false]
    rw [← this]
    rw [show decide (a.t (k - a.n) = a.f (k - a.n)) = decide (a.f (k - a.n) = a.t (k - a.n)) by rw [decide_eq_decide]; exact ⟨fun e => e.symm, fun e => e.symm⟩]
    cases bw (a.f (k - a.n)) 0 (N - 1) <;> cases bw (a.t (k - a.n)) 0 (N - 1) <;> rfl
theorem mc_app {a : Ar} {s t : Nat} {v w : Int} (h : Mc (app a).nw s t v) (k : Mc (dbl a).nw s t w) : v = w := by
  refine Mc.one (G := (dbl a).nw) ⟨?_, fun S hS => ?_⟩ k
  · obtain ⟨S, h1, h2⟩ := h.is
    exact ⟨S, h1, by rw [ct_dbl, ← ct_app, h2]⟩
  · have := h.le S hS
    rwa [ct_app, ← ct_dbl] at this
end Go.Proofs.Ytilcbbdmenknfaa
namespace Go.Proofs.Ytilcbbdmenknfaa
open Go.RowKit

/-- what lies across X without Y and Y without X is no more than what lies across both -/
theorem across_posi (a : Ar) (hc : ∀ k, k < a.n → 0 ≤ a.c k) (X Y : Nat → Bool) : across a (fun v => X v && !Y v) + across a (fun v => Y v && !X v) ≤ across a X + across a Y := by
  unfold across
  rw [← sm_add, ← sm_add]
  refine sm_le fun k hk => ?_
  have := hc k hk
  dsimp only
  have tt : ∀ x y u v : Bool, (if (x && !u) = (y && !v) then 0 else a.c k) + (if (u && !x) = (v && !y) then 0 else a.c k) ≤ (if x = y then 0 else a.c k) + (if u = v then 0 else a.c k) := by
    intro x y u v
    cases x <;> cases y <;> cases u <;> cases v <;> simp <;> omega
  exact tt _ _ _ _

/-- f is the cut of each two nodes -/
structure Cf (a : Ar) (f : Nat → Nat → Int) : Prop where
  is : ∀ u v, u ≠ v → ∃ S, (S u = true ∧ S v = false) ∧ across a S = f u v
  le : ∀ u v, u ≠ v → ∀ S : Nat → Bool, S u = true → S v = false → f u v ≤ across a S
theorem Cf.mc {a : Ar} {f : Nat → Nat → Int} (h : Cf a f) {u v : Nat} (hne : u ≠ v) : Mc (dbl a).nw u v (f u v) := by
  obtain ⟨S, hS, hc⟩ := h.is u v hne
  exact ⟨⟨S, hS, by rw [ct_dbl]; exact hc⟩, fun T hT => by rw [ct_dbl]; exact h.le u v hne T hT.1 hT.2⟩
theorem cf_ex (a : Ar) (hc : ∀ k, k < a.n → 0 ≤ a.c k) : ∃ f, Cf a f := by
  have hcc : ∀ k, k < (dbl a).nw.m → 0 ≤ (dbl a).nw.cp k := fun k hk => by
    have : k < 2 * a.n := hk
    exact hc (k / 2) (by omega)
  have h : ∀ u v, ∃ z, u ≠ v → Mc (dbl a).nw u v z := fun u v => by
    by_cases e : u = v
    · exact ⟨0, fun h => absurd e h⟩
    · obtain ⟨z, hz⟩ := Mc.ex (G := (dbl a).nw) e hcc
      exact ⟨z, fun _ => hz⟩
  refine ⟨fun u v => Classical.choose (h u v), fun u v hne => ?_, fun u v hne S h1 h2 => ?_⟩
  · obtain ⟨S, hS, hc⟩ := (Classical.choose_spec (h u v) hne).is
    exact ⟨S, hS, by rw [← ct_dbl]; exact hc⟩
  · rw [← ct_dbl]
    exact (Classical.choose_spec (h u v) hne).le S ⟨h1, h2⟩
section
variable {a : Ar} {f : Nat → Nat → Int}
theorem Cf.half (h : Cf a f) {u v : Nat} (hne : u ≠ v) : f v u ≤ f u v := by
  obtain ⟨S, ⟨h1, h2⟩, hc⟩ := h.is u v hne
  rw [← hc, ← across_not]
  exact h.le v u (fun e => hne e.symm) _ (by simp [h2]) (by simp [h1])
theorem Cf.symm (h : Cf a f) {u v : Nat} (hne : u ≠ v) : f u v = f v u := by
  have h1 := h.half hne
  have h2 := h.half (u := v) (v := u) (fun e => hne e.symm)
  omega
theorem Cf.tri (h : Cf a f) {u v w : Nat} (h1 : u ≠ v) (h2 : v ≠ w) (h3 : u ≠ w) : min (f u v) (f v w) ≤ f u w := by
  obtain ⟨S, ⟨hu, hw⟩, hc⟩ := h.is u w h3
  rw [← hc]
  cases hv : S v
  · have := h.le u v h1 S hu hv; omega
  · have := h.le v w h2 S hv hw; omega

/-- who stands for node i when the nodes below s have been parted from their parents -/
def grp (s : Nat) (p : Nat → Nat) (i : Nat) : Nat := if i < s then i else p i
/-- the nodes below s have been parted from their parents -/
structure Gu (a : Ar) (f : Nat → Nat → Int) (N s : Nat) (p : Nat → Nat) (w : Nat → Int) : Prop where
  par : ∀ i, i < N → 1 ≤ i → p i < i ∧ (s ≤ i → p i < s)
  sep : ∀ x y, x < s → y < s → x ≠ y → ∃ Y : Nat → Bool, across a Y = f x y ∧ (∀ i, i < N → grp s p i = x → Y i = true) ∧ (∀ i, i < N → grp s p i = y → Y i = false)
  rcr : ∀ q, 1 ≤ q → q < s → ∀ b, b < q → b ≠ p q → f b q = min (f b (p q)) (f q (p q))
  wgt : ∀ q, 1 ≤ q → q < s → w q = f q (p q)
theorem Gu.start (N : Nat) (w : Nat → Int) : Gu a f N 1 (fun _ => 0) w :=
  ⟨fun i _ h1 => ⟨by omega, fun _ => by omega⟩, fun x y hx hy hne => by omega, fun q h1 h2 => by omega, fun q h1 h2 => by omega⟩
theorem Gu.step (hc : ∀ k, k < a.n → 0 ≤ a.c k) (hf : Cf a f) {N s : Nat} {p : Nat → Nat} {w : Nat → Int} (h : Gu a f N s p w) (hs1 : 1 ≤ s) (hsN : s < N) {X : Nat → Bool} (hX1 : X s = true) (hX2 : X (p s) = false) (hX : across a X = f s (p s))
    {p' : Nat → Nat} {w' : Nat → Int} (hp : ∀ i, i < N → p' i = if s < i ∧ X i = true ∧ p i = p s then s else p i) (hw : ∀ i, i ≤ s → w' i = if i = s then f s (p s) else w i) : Gu a f N (s + 1) p' w' := by
  obtain ⟨t, ht⟩ : ∃ t, t = p s := ⟨_, rfl⟩
  have hts : t < s := by rw [ht]; exact (h.par s hsN hs1).1
  rw [← ht] at hX2 hX hp hw
  have hne : s ≠ t := by omega
  have hold : ∀ i, i < N → i ≤ s → p' i = p i := fun i hi hle => by rw [hp i hi, if_neg (by omega)]
  have g1 : ∀ i, i < N → grp (s + 1) p' i = s → X i = true ∧ grp s p i = t := by
    intro i hi hg
    unfold grp at hg ⊢
    by_cases e : i < s + 1
    · rw [if_pos e] at hg; subst hg
      rw [if_neg (by omega)]
      exact ⟨hX1, ht.symm⟩
    · rw [if_neg e, hp i hi] at hg
      rw [if_neg (by omega)]
      by_cases e2 : s < i ∧ X i = true ∧ p i = t
      · exact ⟨e2.2.1, e2.2.2⟩
      · rw [if_neg e2] at hg
        have := (h.par i hi (by omega)).2 (by omega)
        omega
  have g2 : ∀ i, i < N → grp (s + 1) p' i = t → X i = false ∧ grp s p i = t := by
    intro i hi hg
    unfold grp at hg ⊢
    by_cases e : i < s + 1
    · rw [if_pos e] at hg; subst hg
      rw [if_pos hts]
      exact ⟨hX2, rfl⟩
    · rw [if_neg e, hp i hi] at hg
      rw [if_neg (by omega)]
      by_cases e2 : s < i ∧ X i = true ∧ p i = t
      · rw [if_pos e2] at hg; omega
      · rw [if_neg e2] at hg
        refine ⟨?_, hg⟩
        cases hx : X i
        · rfl
        · exact absurd ⟨by omega, hx, hg⟩ e2
  have g3 : ∀ x, x < s → ∀ i, i < N → grp (s + 1) p' i = x → grp s p i = x := by
    intro x hx i hi hg
    by_cases e : x = t
    · subst e; exact (g2 i hi hg).2
    · unfold grp at hg ⊢
      by_cases e1 : i < s + 1
      · rw [if_pos e1] at hg; subst hg
        rw [if_pos hx]
      · rw [if_neg e1, hp i hi] at hg
        rw [if_neg (by omega)]
        by_cases e2 : s < i ∧ X i = true ∧ p i = t
        · rw [if_pos e2] at hg; omega
        · rw [if_neg e2] at hg; exact hg
  have gs : grp s p s = t := by unfold grp; rw [if_neg (by omega)]; exact ht.symm
  have gb : ∀ b, b < s → grp s p b = b := fun b hb => by unfold grp; rw [if_pos hb]
  -- the cut of s and an older node
  have hrec : ∀ b, b < s → b ≠ t → f b s ≤ f b t ∧ f b s = min (f b t) (f s t) := by
    intro b hb hbt
    obtain ⟨Y, hY, hYb, hYt⟩ := h.sep b t hb hts hbt
    have h1 : f b s ≤ f b t := by rw [← hY]; exact hf.le b s (by omega) Y (hYb b (by omega) (gb b hb)) (hYt s hsN gs)
    have h2 := hf.tri (u := b) (v := t) (w := s) hbt (by omega) (by omega)
    have h3 := hf.tri (u := s) (v := b) (w := t) (by omega) hbt (by omega)
    have h4 := hf.symm (u := t) (v := s) (by omega)
    have h5 := hf.symm (u := s) (v := b) (by omega)
    exact ⟨h1, by omega⟩
  -- s apart from an older node
  have hnew : ∀ x, x < s → ∃ Y : Nat → Bool, across a Y = f x s ∧ (∀ i, i < N → grp (s + 1) p' i = x → Y i = true) ∧ (∀ i, i < N → grp (s + 1) p' i = s → Y i = false) := by
    intro x hx
    by_cases e : x = t
    · subst e
      refine ⟨fun v => !X v, by rw [across_not, hX]; exact hf.symm hne, fun i hi hg => by simp [(g2 i hi hg).1], fun i hi hg => by simp [(g1 i hi hg).1]⟩
    · obtain ⟨Y, hY, hYx, hYt⟩ := h.sep x t hx hts e
      obtain ⟨h1, h2⟩ := hrec x hx e
      by_cases e2 : f x s = f x t
      · exact ⟨Y, by rw [hY, e2], fun i hi hg => hYx i hi (g3 x hx i hi hg), fun i hi hg => hYt i hi (g1 i hi hg).2⟩
      · have h3 : f x s = f s t := by omega
        have hXx : X x = false := by
          cases hq : X x
          · rfl
          · have := hf.le x t e X hq hX2
            omega
        have hYs : Y s = false := hYt s hsN gs
        have hYxx : Y x = true := hYx x (by omega) (gb x hx)
        have hYtt : Y t = false := hYt t (by omega) (gb t hts)
        have p1 := across_posi a hc X Y
        have p2 := hf.le x t e (fun v => Y v && !X v) (by simp [hYxx, hXx]) (by simp [hYtt])
        have p3 := hf.le s x (by omega) (fun v => X v && !Y v) (by simp [hX1, hYs]) (by simp [hXx])
        have p4 := hf.symm (u := s) (v := x) (by omega)
        refine ⟨fun v => !(X v && !Y v), by rw [across_not]; omega, fun i hi hg => ?_, fun i hi hg => ?_⟩
        · simp [hYx i hi (g3 x hx i hi hg)]
        · obtain ⟨q1, q2⟩ := g1 i hi hg
          simp [q1, hYt i hi q2]
  refine ⟨fun i hi h1 => ?_, fun x y hx hy hxy => ?_, fun q h1 h2 b hb hbq => ?_, fun q h1 h2 => ?_⟩
  · have := h.par i hi h1
    rw [hp i hi]
    split
    · omega
    · refine ⟨this.1, fun h3 => ?_⟩
      have := this.2 (by omega)
      omega
  · by_cases e1 : x = s
    · obtain ⟨Y, a1, a2, a3⟩ := hnew y (by omega)
      refine ⟨fun v => !Y v, by rw [across_not, a1, e1]; exact hf.symm (by omega), fun i hi hg => by simp [a3 i hi (by rw [hg, e1])], fun i hi hg => by simp [a2 i hi hg]⟩
    · by_cases e2 : y = s
      · obtain ⟨Y, a1, a2, a3⟩ := hnew x (by omega)
        exact ⟨Y, by rw [a1, e2], a2, fun i hi hg => a3 i hi (by rw [hg, e2])⟩
      · obtain ⟨Y, a1, a2, a3⟩ := h.sep x y (by omega) (by omega) hxy
        exact ⟨Y, a1, fun i hi hg => a2 i hi (g3 x (by omega) i hi hg), fun i hi hg => a3 i hi (g3 y (by omega) i hi hg)⟩
  · rw [hold q (by omega) (by omega)] at hbq ⊢
    by_cases e : q = s
    · subst e
      rw [← ht] at hbq ⊢
      exact (hrec b hb hbq).2
    · exact h.rcr q h1 (by omega) b hb hbq
  · rw [hw q (by omega), hold q (by omega) (by omega)]
    by_cases e : q = s
    · subst e; rw [if_pos rfl, ht]
    · rw [if_neg e]; exact h.wgt q h1 (by omega)

end
end Go.Proofs.Ytilcbbdmenknfaa
