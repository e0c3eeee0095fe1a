/- Walks: isWeb, parted. -/
import Derived.Test.YtilcbbdmenknfaaDb
import Derived.Test.YtilcbbdmenknfaaD1
namespace Go.Proofs.Ytilcbbdmenknfaa
open Go.RowKit

set_option maxHeartbeats 4000000 in
set_option maxRecDepth 100000 in
theorem isWeb_any (N : Int) (a : Ar) (AV : Value) (W : World) (hA : Al W AV a) :
    Calls Try.prog 62 #[.agg #[.int .i64 N, AV]] W fun e W' => e = .returned (.bool (vNet N a && decide (N ≤ 12))) ∧ Ext W W' := by
  have HA := Lib.hid hA
  obtain ⟨A, c, rfl, hac, hcm, -⟩ := hA
  go_enter Try.func62, Try.ntmps62
  go_upto_region 1 with fail
  have bb := al1 W (.cells #[.int .i64 N, .slice A a.n c] 30)
  have m0 : (W.alloc (.cells #[.int .i64 N, .slice A a.n c] 30)).cell? ⟨W.heap.size, 0, none⟩ = some (.int .i64 N) := by rw [World.cell?_alloc_new]; rfl
  have m1 : (W.alloc (.cells #[.int .i64 N, .slice A a.n c] 30)).cell? ⟨W.heap.size, 1, none⟩ = some (.slice A a.n c) := by rw [World.cell?_alloc_new]; rfl
  have zz : W.heap.size < (W.alloc (.cells #[.int .i64 N, .slice A a.n c] 30)).heap.size := by simp
  generalize W.alloc (.cells #[.int .i64 N, .slice A a.n c] 30) = W1 at *
  have HB : Hid (Ext W W1) := Lib.hid bb
  clear bb
  go_wp2_with fail
  refine (isNet_any N a _ _ (HA.out.ext HB.out)).mono ?_
  rintro e w1 ⟨rfl, hx⟩
  replace m0 := keepAt hx zz m0
  replace m1 := keepAt hx zz m1
  have HX : Hid (Ext W w1) := Lib.hid (HB.out.trans hx)
  clear hx
  cases hv : vNet N a
  · have HV := Lib.hid hv; clear hv
    go_wp2
    go_ret
    exact ⟨by rw [HV.out]; rfl, HX.out⟩
  · have HV := Lib.hid hv; clear hv
    go_wp2
    go_ret
    exact ⟨by rw [HV.out]; rfl, HX.out⟩

set_option maxHeartbeats 4000000 in
set_option maxRecDepth 100000 in
theorem parted_any (N : Nat) (a : Ar) (u v : Nat) (AV : Value) (W : World) (hA : Al W AV a) (hO : a.Ok N 1000000) (hn : a.n ≤ 160) (hN : N ≤ 1000) (hu : u < N) (hv : v < N) (hne : u ≠ v) :
    Calls Try.prog 64 #[.agg #[.int .i64 N, AV], .int .i64 u, .int .i64 v] W fun e W' => ∃ (x : Nat → Int) (gl : Nat) (BV SV : Value), e = .returned (.agg #[.int .i64 u, .int .i64 v, BV, SV, .slice (some ⟨gl, 0, none⟩) (2 * (dbl a).n) (2 * (dbl a).n)]) ∧
      W.heap.size ≤ gl ∧ BI W' gl (2 * (dbl a).n) x ∧ Full (dbl a).nw N u v x ∧ Al W' BV (dbl a) ∧ Sl W' (W.heap.size + 1 + 1) SV N (stf (dbl a).nw (dbl a).n) ∧ Ext W W' := by
  have HA := Lib.hid hA; have HO := Lib.hid hO
  obtain ⟨A, c, rfl, hac, hcm, -⟩ := hA
  obtain ⟨i0, hi, hz0, hz1, hz2⟩ := info_parts info65
  go_enter Try.func64, Try.ntmps64
  go_upto_region 2 with fail
  have bb := al2 W (.cells #[.int .i64 N, .slice A a.n c] 30) (.cells #[.int .i64 0, .int .i64 0, .slice none 0 0, .slice none 0 0, .slice none 0 0] 87)
  have hh0 : ((W.alloc (.cells #[.int .i64 N, .slice A a.n c] 30)).alloc (.cells #[.int .i64 0, .int .i64 0, .slice none 0 0, .slice none 0 0, .slice none 0 0] 87)).heap[W.heap.size]? = some (.cells #[.int .i64 N, .slice A a.n c] 30 (0, 0)) := (Below.heap_alloc _ _ _ (by simp)).trans (heap_alloc_new W _)
  have hh1 := heap_alloc_new (W.alloc (.cells #[.int .i64 N, .slice A a.n c] 30)) (.cells #[.int .i64 0, .int .i64 0, .slice none 0 0, .slice none 0 0, .slice none 0 0] 87)
  simp only [World.size_alloc] at hh1
  have hz : ((W.alloc (.cells #[.int .i64 N, .slice A a.n c] 30)).alloc (.cells #[.int .i64 0, .int .i64 0, .slice none 0 0, .slice none 0 0, .slice none 0 0] 87)).heap.size = W.heap.size + 1 + 1 := by simp
  generalize (W.alloc (.cells #[.int .i64 N, .slice A a.n c] 30)).alloc (.cells #[.int .i64 0, .int .i64 0, .slice none 0 0, .slice none 0 0, .slice none 0 0] 87) = W1 at *
  have HB : Hid (Ext W W1) := Lib.hid bb
  have HH := Lib.hid (And.intro hh0 (And.intro hh1 hz))
  obtain ⟨m0, m1, m2, m3⟩ := two hh0
  have zlt : W.heap.size + 1 < W1.heap.size := by omega
  have zle : W1.heap.size ≤ W.heap.size + 1 + 1 := by omega
  clear bb hh0 hh1 hz m0 m2
  go_wp2_with fail
  clear m1
  go_loopw [7, 13] (fun q i wr => ∃ (k : Nat), i = .int .i64 k ∧ k ≤ a.n ∧ Hid (wr.ownsRow W1.heap.size 65 3 q (2 * k) (acl (dbl a) (2 * k)) ∧ Ext W1 wr)) (fun _ i _ => a.n - (intOf i).toNat)
  case atStart => exact ⟨0, rfl, Nat.zero_le _, Lib.hid ⟨World.ownsRow_nil _ _ _ _, Ext.refl _⟩⟩
  case round =>
    obtain ⟨k, rfl, hk, hin⟩ := hrel
    have hvs : ∃ A n c, u7 = .slice A n c := by
      obtain ⟨-, ⟨rfl, -⟩ | ⟨g, cap, cur, rfl, -⟩⟩ := hin.out.1
      · exact ⟨_, _, _, rfl⟩
      · exact ⟨_, _, _, rfl⟩
    obtain ⟨Av, nv, cv, rfl⟩ := hvs
    have hsz := hin.out.2.size
    by_cases hlt : k < a.n
    · obtain ⟨b, off, rfl, d1, d2, d3⟩ := HA.out.arc (HB.out.trans hin.out.2) hlt
      obtain ⟨fk, hfk⟩ : ∃ x, x = a.f k := ⟨_, rfl⟩
      obtain ⟨tk, htk⟩ : ∃ x, x = a.t k := ⟨_, rfl⟩
      obtain ⟨ck, hck⟩ : ∃ x, x = a.c k := ⟨_, rfl⟩
      rw [← hfk] at d1; rw [← htk] at d2; rw [← hck] at d3
      have HFT := Lib.hid (And.intro hfk (And.intro htk hck))
      clear hfk htk hck
      have hown := World.ownsRow.ext hin.out.1 (Ext.alc (Ext.alc (Ext.refl wr) (.cells #[.int .i64 fk, .int .i64 tk, .int .i64 ck] 65)) (.cells #[.int .i64 fk, .int .i64 tk, .int .i64 ck, .int .i64 tk, .int .i64 fk, .int .i64 ck] 65))
      go_wp2_with (at_builtin; refine wpList_append_own _ rfl _ _ 28 rfl W1.heap.size 65 i0 (.agg #[.int .i64 0, .int .i64 0, .int .i64 0]) 3 24 Try.underlying28 hi hz0 hz1 hz2 rfl (by decide) _ (2 * k) _ rfl hown ⟨wr.heap.size + 1, 0, none⟩ 2 2 [.int .i64 fk, .int .i64 tk, .int .i64 ck, .int .i64 tk, .int .i64 fk, .int .i64 ck] rfl rfl ?c1 ?c2 ?c3 ?c4 ?c5 ?_)
      case c1 =>
        intro j u hj
        match j, hj with
        | 0, hj => simp at hj; subst hj; simp [Addr.add]
        | 1, hj => simp at hj; subst hj; simp [Addr.add]
        | 2, hj => simp at hj; subst hj; simp [Addr.add]
        | 3, hj => simp at hj; subst hj; simp [Addr.add]
        | 4, hj => simp at hj; subst hj; simp [Addr.add]
        | 5, hj => simp at hj; subst hj; simp [Addr.add]
        | j + 6, hj => simp at hj
      case c2 => intro u hu; simp at hu; rcases hu with rfl | rfl | rfl | rfl | rfl | rfl <;> rfl
      case c3 => unfold maxLen; omega
      case c4 => omega
      case c5 => simp; omega
      intro v' w2 hown' hgrow hnil
      clear hnil
      have hob : ∀ g, (Value.slice Av nv cv).ownBlock = some g → W1.heap.size ≤ g := fun g hg => (World.ownsRow.lt hown g hg).1
      have hex : Ext W1 w2 := ⟨hgrow.os.trans hin.out.2.os, hgrow.tape.trans hin.out.2.tape, hgrow.output.trans hin.out.2.output, by have h1 := hgrow.size; simp at h1; omega, fun g hg => (hgrow.block g (by simp; omega) (fun e => by have := hob g e.symm; omega)).trans ((Below.heap_alloc _ _ g (by simp; omega)).trans ((Below.heap_alloc _ _ g (by omega)).trans (hin.out.2.block g hg)))⟩
      have HN := Lib.hid (And.intro hown' hex)
      clear hown' hex hgrow hob hown d1 d2 d3
      go_wp2
      go_roundw
      case rel =>
        refine ⟨k + 1, by go_num, by omega, Lib.hid ⟨?_, HN.out.2⟩⟩
        rw [acl_dbl, ← HFT.out.1, ← HFT.out.2.1, ← HFT.out.2.2]
        exact HN.out.1
      case measure => simp [intOf]; omega
    · obtain rfl : k = a.n := by omega
      have HAl : Hid (Al wr (.slice Av nv cv) (dbl a)) := Lib.hid (Al.own (a := dbl a) hin.out.1)
      have HX : Hid (Ext W1 wr) := Lib.hid hin.out.2
      have HOW := Lib.hid hin.out.1
      obtain ⟨m0, m1, m2, m3⟩ := two ((Below.block hin.out.2 W.heap.size (by omega)).trans HH.out.1)
      clear hin m1 m2
      go_wp2_with fail
      refine (newNetwork_any (dbl a) N u v 1000000 _ _ HAl.out (dbl_ok HO.out) (by show 2 * a.n ≤ 1000; omega) hN).mono ?_
      rintro e w1 ⟨SV, rfl, hsl, hx⟩
      have hsl2 : Sl w1 (W.heap.size + 1 + 1) SV N (stf (dbl a).nw (dbl a).n) := by
        obtain ⟨b, c, e, hb, h0, hc⟩ := hsl
        refine ⟨b, c, e, hb, by omega, fun i hi => ?_⟩
        obtain ⟨z, h1, h2, h3⟩ := hc i hi
        exact ⟨z, h1, h2, fun b' hb' => by have := h3 b' hb'; omega⟩
      have HSL := Lib.hid hsl2
      replace HOW := Lib.hid (World.ownsRow.ext HOW.out hx)
      replace HAl := Lib.hid (HAl.out.ext hx)
      replace HX := Lib.hid (HX.out.trans hx)
      obtain ⟨gs, cs, rfl, -, -, -⟩ := hsl
      clear hsl2 m0 hx
      go_wp2_with fail
      refine (fill_any (dbl a) N u v _ 1000000 _ (.slice (some ⟨gs, 0, none⟩) N cs) (stf (dbl a).nw (dbl a).n) _ HAl.out (dbl_ok HO.out) (by show 2 * a.n ≤ 1000; omega) hN (by omega) HSL.out (stf_stp (dbl a).nw N) hu hv hne).mono ?_
      rintro e w2 ⟨x, gl, rfl, hgl, hbi, hfull, hx⟩
      have EX := Lib.hid (HX.out.trans hx)
      have HSL2 := Lib.hid (HSL.out.ext hx)
      replace HOW := Lib.hid (World.ownsRow.ext HOW.out hx)
      have HBI := Lib.hid hbi; have HFULL := Lib.hid hfull
      replace HAl := Lib.hid (HAl.out.ext hx)
      have h1sz := HX.out.size
      obtain ⟨p0, p1, p2, p3, p4, p5, p6⟩ := five ((Below.block EX.out (W.heap.size + 1) zlt).trans HH.out.2.1)
      clear hx hbi hfull HX HSL
      go_wp2
      refine bodyPost_ret (v := .agg #[.int .i64 u, .int .i64 v, .slice Av nv cv, .slice (some ⟨gs, 0, none⟩) N cs, .slice (some ⟨gl, 0, none⟩) (2 * (dbl a).n) (2 * (dbl a).n)]) (by simp [results, Try.results64, go_sem, p0, p1, p2, p3, p4]) rfl ?_
      have hne1 : gl ≠ W.heap.size + 1 := by omega
      have hk : ∀ g, g ≠ W.heap.size + 1 → (((((w2.setCell ⟨W.heap.size + 1, 0, none⟩ (.int .i64 u)).setCell ⟨W.heap.size + 1, 1, none⟩ (.int .i64 v)).setCell ⟨W.heap.size + 1, 2, none⟩ (.slice Av nv cv)).setCell ⟨W.heap.size + 1, 3, none⟩ (.slice (some ⟨gs, 0, none⟩) N cs)).setCell ⟨W.heap.size + 1, 4, none⟩ (.slice (some ⟨gl, 0, none⟩) (2 * (dbl a).n) (2 * (dbl a).n))).heap[g]? = w2.heap[g]? := fun g hg => by
        rw [Below.heap_setCell _ _ _ g hg, Below.heap_setCell _ _ _ g hg, Below.heap_setCell _ _ _ g hg, Below.heap_setCell _ _ _ g hg, Below.heap_setCell _ _ _ g hg]
      refine ⟨x, gl, _, _, rfl, by omega, Bk.far (Bk.far (Bk.far (Bk.far (Bk.far HBI.out hne1 _) hne1 _) hne1 _) hne1 _) hne1 _, HFULL.out, ?_, HSL2.out.keep (by simp [World.setCell]) fun b hb => hk b (by omega), (((((HB.out.trans EX.out).sc (by omega)).sc (by omega)).sc (by omega)).sc (by omega)).sc (by omega)⟩
      refine Al.own (a := dbl a) (base := W1.heap.size) ?_
      obtain ⟨h1, h2 | ⟨g, cap, cur, e, hg, hh, rest⟩⟩ := HOW.out
      · exact ⟨h1, .inl h2⟩
      · exact ⟨h1, .inr ⟨g, cap, cur, e, hg, (hk g (by omega)).trans hh, rest⟩⟩
end Go.Proofs.Ytilcbbdmenknfaa
