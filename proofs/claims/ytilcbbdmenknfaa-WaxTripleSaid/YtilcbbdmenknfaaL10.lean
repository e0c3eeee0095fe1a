/- The law WaxTriple. -/
import Derived.Test.YtilcbbdmenknfaaD4
namespace Go.Proofs.Ytilcbbdmenknfaa
open Go.RowKit

set_option maxHeartbeats 4000000 in
set_option maxRecDepth 100000 in
theorem waxTriple_walk (N u v w : Int) (a : Ar) (AV : Value) (W : World) (hA : Al W AV a) :
    Calls Try.prog 10 #[.agg #[.int .i64 N, AV], .int .i64 u, .int .i64 v, .int .i64 w] W fun e W' => e = .returned (.bool true) ∧ Ext W W' := by
  have HA := Lib.hid hA
  have hcut : ∀ (p q : Int) (X : World) (o : Value), Al X o (a.cut 162) → Calls Try.prog 33 #[.agg #[.int .i64 N, o], .int .i64 p, .int .i64 q] X fun e W' => ∃ c er : Int, e = .returned (.tuple #[.int .i64 c, .int .i64 er]) ∧ Ext X W' ∧
      ((cutOk N (a.cut 162) p q = false ∧ c = 0 ∧ er = 2) ∨ (cutOk N (a.cut 162) p q = true ∧ er = 0 ∧ Mc (dbl (a.cut 162)).nw p.toNat q.toNat c)) := fun p q X o h => cut_any N p q (a.cut 162) o X h
  have HCUT := Lib.hid hcut; clear hcut
  obtain ⟨A, c, rfl, hac, hcm, -⟩ := hA
  go_enter Try.func10, Try.ntmps10
  go_upto_region 1 with fail
  have bb := al1 W (.cells #[.int .i64 N, .slice A a.n c] 24)
  have m0 : (W.alloc (.cells #[.int .i64 N, .slice A a.n c] 24)).cell? ⟨W.heap.size, 0, none⟩ = some (.int .i64 N) := by rw [World.cell?_alloc_new]; rfl
  have m1 : (W.alloc (.cells #[.int .i64 N, .slice A a.n c] 24)).cell? ⟨W.heap.size, 1, none⟩ = some (.slice A a.n c) := by rw [World.cell?_alloc_new]; rfl
  have zz : W.heap.size < (W.alloc (.cells #[.int .i64 N, .slice A a.n c] 24)).heap.size := by simp
  generalize W.alloc (.cells #[.int .i64 N, .slice A a.n c] 24) = W1 at *
  have HB : Hid (Ext W W1) := Lib.hid bb
  have HM := Lib.hid (And.intro m0 m1)
  clear bb
  -- the four cuts
  go_wp2_with fail
  refine (net_any N a _ _ (HA.out.ext HB.out)).mono ?_
  rintro e x1 ⟨o1, rfl, hal, -, hx⟩
  have HO1 := Lib.hid hal
  have HX1 : Hid (Ext W1 x1) := Lib.hid hx
  obtain ⟨Ao1, co1, rfl, -, -, -⟩ := hal
  clear hx m0 m1
  go_wp2_with fail
  refine (HCUT.out u v _ _ HO1.out).mono ?_
  rintro e y1 ⟨c1, r1, rfl, hx, hr⟩
  have R1 := Lib.hid (And.intro (HX1.out.trans hx) hr)
  have EXA : Hid (Ext W1 y1) := Lib.hid R1.out.1
  have m0 := keepAt EXA.out zz HM.out.1
  have m1 := keepAt EXA.out zz HM.out.2
  clear hx hr HX1 HO1
  go_wp2_with fail
  refine (net_any N a _ _ (HA.out.ext (HB.out.trans EXA.out))).mono ?_
  rintro e x2 ⟨o2, rfl, hal, -, hx⟩
  have HO2 := Lib.hid hal
  have HX2 : Hid (Ext y1 x2) := Lib.hid hx
  obtain ⟨Ao2, co2, rfl, -, -, -⟩ := hal
  clear hx m0 m1
  go_wp2_with fail
  refine (HCUT.out v w _ _ HO2.out).mono ?_
  rintro e y2 ⟨c2, r2, rfl, hx, hr⟩
  have R2 := Lib.hid (And.intro (HX2.out.trans hx) hr)
  replace EXA : Hid (Ext W1 y2) := Lib.hid (EXA.out.trans R2.out.1)
  have m0 := keepAt EXA.out zz HM.out.1
  have m1 := keepAt EXA.out zz HM.out.2
  clear hx hr HX2 HO2
  go_wp2_with fail
  refine (net_any N a _ _ (HA.out.ext (HB.out.trans EXA.out))).mono ?_
  rintro e x3 ⟨o3, rfl, hal, -, hx⟩
  have HO3 := Lib.hid hal
  have HX3 : Hid (Ext y2 x3) := Lib.hid hx
  obtain ⟨Ao3, co3, rfl, -, -, -⟩ := hal
  clear hx m0 m1
  go_wp2_with fail
  refine (HCUT.out u w _ _ HO3.out).mono ?_
  rintro e y3 ⟨c3, r3, rfl, hx, hr⟩
  have R3 := Lib.hid (And.intro (HX3.out.trans hx) hr)
  replace EXA : Hid (Ext W1 y3) := Lib.hid (EXA.out.trans R3.out.1)
  have m0 := keepAt EXA.out zz HM.out.1
  have m1 := keepAt EXA.out zz HM.out.2
  clear hx hr HX3 HO3
  go_wp2_with fail
  refine (net_any N a _ _ (HA.out.ext (HB.out.trans EXA.out))).mono ?_
  rintro e x4 ⟨o4, rfl, hal, -, hx⟩
  have HO4 := Lib.hid hal
  have HX4 : Hid (Ext y3 x4) := Lib.hid hx
  obtain ⟨Ao4, co4, rfl, -, -, -⟩ := hal
  clear hx m0 m1
  go_wp2_with fail
  refine (HCUT.out v u _ _ HO4.out).mono ?_
  rintro e y4 ⟨c4, r4, rfl, hx, hr⟩
  have R4 := Lib.hid (And.intro (HX4.out.trans hx) hr)
  replace EXA : Hid (Ext W1 y4) := Lib.hid (EXA.out.trans R4.out.1)
  have m0 := keepAt EXA.out zz HM.out.1
  have m1 := keepAt EXA.out zz HM.out.2
  clear hx hr HX4 HO4
  -- what they say
  obtain ⟨hx1, hr1⟩ := R1.out; obtain ⟨hx2, hr2⟩ := R2.out; obtain ⟨hx3, hr3⟩ := R3.out; obtain ⟨hx4, hr4⟩ := R4.out
  have hsame : cutOk N (a.cut 162) v u = cutOk N (a.cut 162) u v := by
    unfold cutOk
    rw [show decide (v = u) = decide (u = v) by rw [decide_eq_decide]; exact ⟨fun e => e.symm, fun e => e.symm⟩]
    cases bw u 0 (N - 1) <;> cases bw v 0 (N - 1) <;> simp
  have h14 : r4 = r1 ∧ c4 = c1 := by
    rw [hsame] at hr4
    rcases hr1 with ⟨e1, e2, e3⟩ | ⟨e1, e2, e3⟩ <;> rcases hr4 with ⟨f1, f2, f3⟩ | ⟨f1, f2, f3⟩
    · exact ⟨by omega, by omega⟩
    · rw [e1] at f1; cases f1
    · rw [e1] at f1; cases f1
    · exact ⟨by omega, f3.flip.one e3⟩
  have hor : r1 ≠ 0 ∨ r2 ≠ 0 ∨ r3 ≠ 0 ∨ (r1 = 0 ∧ r2 = 0 ∧ r3 = 0 ∧ (if c2 < c1 then c2 else c1) ≤ c3) := by
    rcases hr1 with ⟨e1, e2, e3⟩ | ⟨e1, e2, e3⟩
    · left; omega
    rcases hr2 with ⟨f1, f2, f3⟩ | ⟨f1, f2, f3⟩
    · right; left; omega
    rcases hr3 with ⟨g1, g2, g3⟩ | ⟨g1, g2, g3⟩
    · right; right; left; omega
    right; right; right
    refine ⟨e2, f2, g2, ?_⟩
    rcases Mc.three e3 f3 g3 with h | h <;> split <;> omega
  obtain ⟨rfl, rfl⟩ := h14
  have EX := Lib.hid (HB.out.trans (hx1.trans (hx2.trans (hx3.trans hx4))))
  clear R1 R2 R3 R4 hr1 hr2 hr3 hr4 hx1 hx2 hx3 hx4 hsame
  rcases hor with h | h | h | ⟨h1, h2, h3, h4⟩
  · go_wp2_with fail
    refine (awake_any _).mono ?_
    rintro e w9 ⟨rfl, hx⟩
    replace EX := Lib.hid (EX.out.trans hx)
    clear hx
    go_wp2
    go_ret
    exact ⟨rfl, EX.out⟩
  · by_cases h0 : r4 = 0
    · subst h0
      go_wp2_with fail
      refine (awake_any _).mono ?_
      rintro e w9 ⟨rfl, hx⟩
      replace EX := Lib.hid (EX.out.trans hx)
      clear hx
      go_wp2
      go_ret
      exact ⟨rfl, EX.out⟩
    · go_wp2_with fail
      refine (awake_any _).mono ?_
      rintro e w9 ⟨rfl, hx⟩
      replace EX := Lib.hid (EX.out.trans hx)
      clear hx
      go_wp2
      go_ret
      exact ⟨rfl, EX.out⟩
  · by_cases h0 : r4 = 0
    · subst h0
      by_cases h1 : r2 = 0
      · subst h1
        go_wp2_with fail
        refine (awake_any _).mono ?_
        rintro e w9 ⟨rfl, hx⟩
        replace EX := Lib.hid (EX.out.trans hx)
        clear hx
        go_wp2
        go_ret
        exact ⟨rfl, EX.out⟩
      · have _h := h1
        go_wp2_with fail
        refine (awake_any _).mono ?_
        rintro e w9 ⟨rfl, hx⟩
        replace EX := Lib.hid (EX.out.trans hx)
        clear hx
        go_wp2
        go_ret
        exact ⟨rfl, EX.out⟩
    · have _h := h0
      go_wp2_with fail
      refine (awake_any _).mono ?_
      rintro e w9 ⟨rfl, hx⟩
      replace EX := Lib.hid (EX.out.trans hx)
      clear hx
      go_wp2
      go_ret
      exact ⟨rfl, EX.out⟩
  · subst h1 h2 h3
    by_cases hm : c2 < c4
    · rw [if_pos hm] at h4
      go_wp2_with fail
      refine (awake_any _).mono ?_
      rintro e w9 ⟨rfl, hx⟩
      replace EX := Lib.hid (EX.out.trans hx)
      clear hx
      go_wp2
      go_ret
      exact ⟨rfl, EX.out⟩
    · rw [if_neg hm] at h4
      go_wp2_with fail
      refine (awake_any _).mono ?_
      rintro e w9 ⟨rfl, hx⟩
      replace EX := Lib.hid (EX.out.trans hx)
      clear hx
      go_wp2
      go_ret
      exact ⟨rfl, EX.out⟩
end Go.Proofs.Ytilcbbdmenknfaa
