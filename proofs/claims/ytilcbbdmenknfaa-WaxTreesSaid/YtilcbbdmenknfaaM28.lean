/- Walks: the reference's Tree. · The law WaxTrees. -/
import Derived.Test.YtilcbbdmenknfaaM27
import Derived.Test.YtilcbbdmenknfaaM11
namespace Go.Proofs.Ytilcbbdmenknfaa
open Go.RowKit

set_option maxHeartbeats 4000000 in
set_option maxRecDepth 100000 in
theorem treeR_any (f : Nat → Nat → Int) (m : Nat) (a : Ar) (p : Nat → Nat) (w : Nat → Int) (AV PV WV : Value) (W : World) (hA : Al W AV a) (hv : vNet (m : Int) a = true) (hm : (m : Int) ≤ 12)
    (hf : Cf a f) (hT : Tr f m p w) (hw0 : w 0 = 0) (hP : Il W PV m (parI p)) (hW : Il W WV m w) :
    Calls Try.prog 37 #[.agg #[.int .i64 m, AV], PV, WV] W fun e W' => e = .returned (.bool true) ∧ Ext W W' := by
  obtain ⟨m', he, hm2, -, -, -⟩ := vNet_ok hv
  have hm2' : 2 ≤ m := by omega
  have hmN : m ≤ 12 := by omega
  clear he hm2
  have HA := Lib.hid hA; have HV := Lib.hid hv; have HF := Lib.hid hf; have HT := Lib.hid hT; have HP := Lib.hid hP; have HW := Lib.hid hW
  obtain ⟨A, c, rfl, hac, hcm, -⟩ := hA
  obtain ⟨A1, c1, rfl, hc1, hd1, -⟩ := hP
  obtain ⟨A2, c2, rfl, hc2, hd2, -⟩ := hW
  clear hv hf hT
  go_enter Try.func37, Try.ntmps37
  go_upto_region 1 with fail
  have bb := al1 W (.cells #[.int .i64 m, .slice A a.n c] 24)
  obtain ⟨m0, m1, -, mz⟩ := two (heap_alloc_new W (.cells #[.int .i64 m, .slice A a.n c] 24))
  generalize W.alloc (.cells #[.int .i64 m, .slice A a.n c] 24) = W1 at *
  have HB : Hid (Ext W W1) := Lib.hid bb
  have HM := Lib.hid (And.intro m0 m1)
  clear bb
  obtain ⟨b1, o1, rfl, -, e1⟩ := Vl.at HP.out HB.out (show 0 < m by omega)
  obtain ⟨b2, o2, rfl, -, e2⟩ := Vl.at HW.out HB.out (show 0 < m by omega)
  have hp0 : parI p 0 = -1 := by unfold parI; rw [if_pos rfl]
  rw [hp0] at e1; rw [hw0] at e2
  simp only [Nat.add_zero] at e1 e2
  clear hp0
  go_wp2_with fail
  clear e1 e2 m0 m1
  go_loopw [7] (fun i wr => ∃ s : Nat, i = .int .i64 s ∧ 1 ≤ s ∧ s ≤ m ∧ Hid (Ext W1 wr)) (fun i _ => m - (intOf i).toNat)
  case atStart => exact ⟨1, rfl, Nat.le_refl _, by omega, Lib.hid (Ext.refl _)⟩
  case round =>
    obtain ⟨s, rfl, hs1, hsm, hin⟩ := hrel
    have m0 := keepAt hin.out mz HM.out.1
    obtain ⟨wo, rfl⟩ : ∃ w, w = wr := ⟨_, rfl⟩
    have mzo : W.heap.size < wo.heap.size := Nat.lt_of_lt_of_le mz hin.out.size
    by_cases hlt : s < m
    · obtain ⟨L, hL1, hL2, hL3⟩ := HT.out.top hlt
      have HL := Lib.hid (And.intro hL2 hL3)
      clear hL2 hL3
      go_wp2_with fail
      clear m0
      go_loopw [8, 9] (fun x k wx => ∃ n : Nat, x = .int .i64 (bk p s n : Nat) ∧ k = .int .i64 n ∧ n ≤ L ∧ Hid (Ext W1 wx)) (fun _ k _ => L - (intOf k).toNat)
      case atStart => exact ⟨0, rfl, rfl, by omega, Lib.hid hin.out⟩
      case round =>
        clear hin
        obtain ⟨n, rfl, rfl, hn, hin⟩ := hrel
        have m0 := keepAt hin.out mz HM.out.1
        obtain ⟨z, hz⟩ : ∃ z, z = bk p s n := ⟨_, rfl⟩
        have hzN : z < m := by rw [hz]; exact (HT.out.bk_lt hlt n).1
        rw [← hz]
        have HZ := Lib.hid hz
        clear hz
        by_cases h0 : z = 0
        · subst h0
          clear m0
          have hnL : n = L := by
            rcases Nat.lt_or_ge n L with h | h
            · exact absurd HZ.out.symm (HL.out.2 n h)
            · omega
          go_wp2
          go_roundw
          case rel => exact ⟨s + 1, by go_num, by omega, by omega, Lib.hid hin.out⟩
          case measure => simp [intOf]; omega
        · have hnL : n < L := by
            rcases Nat.lt_or_ge n L with h | h
            · exact h
            · exfalso; apply h0; rw [HZ.out, show n = L by omega]; exact HL.out.1
          obtain ⟨b1', o1', e3, -, e1'⟩ := Vl.at HP.out (HB.out.trans hin.out) hzN
          injection e3 with e3; injection e3 with e3 e4
          subst e3 e4
          have hpi : parI p z = ((p z : Nat) : Int) := by unfold parI; rw [if_neg h0]
          rw [hpi] at e1'
          obtain ⟨pz, hpz⟩ : ∃ q, q = p z := ⟨_, rfl⟩
          rw [← hpz] at e1'
          have HPZ := Lib.hid hpz
          clear hpz hpi
          go_wp2
          go_roundw
          case rel => exact ⟨n + 1, by congr 2; rw [HPZ.out, HZ.out]; rfl, by go_num, by omega, Lib.hid hin.out⟩
          case measure => simp [intOf]; omega
    · obtain rfl : s = m := by omega
      have HIN := hin
      clear hin
      go_wp2_with fail
      clear m0
      go_loopw [69] (fun i wr => ∃ u : Nat, i = .int .i64 u ∧ u ≤ s ∧ Hid (Ext W1 wr)) (fun i _ => s - (intOf i).toNat)
      case atStart => exact ⟨0, rfl, by omega, Lib.hid HIN.out⟩
      case round =>
        clear HIN mzo
        obtain ⟨u, rfl, hus, hin⟩ := hrel
        obtain ⟨wu, rfl⟩ : ∃ w, w = wr := ⟨_, rfl⟩
        by_cases hul : u < s
        · go_wp2_with fail
          go_loopw [73] (fun i wr => ∃ v : Nat, i = .int .i64 v ∧ v ≤ u ∧ Hid (Ext W1 wr)) (fun i _ => u - (intOf i).toNat)
          case atStart => exact ⟨0, rfl, by omega, Lib.hid hin.out⟩
          case round =>
            clear hin
            obtain ⟨v, rfl, hvu, hin⟩ := hrel
            obtain ⟨wv, rfl⟩ : ∃ w, w = wr := ⟨_, rfl⟩
            by_cases hvl : v < u
            · have m0 := keepAt hin.out mz HM.out.1
              have m1 := keepAt hin.out mz HM.out.2
              go_wp2_with fail
              refine (cutR_any s u v a _ _ (HA.out.ext (HB.out.trans hin.out))).mono ?_
              rintro e w3 ⟨ct, er, rfl, hx, hc⟩
              have hok : cutOk s a u v = true := cutOk_iff.2 ⟨HV.out, hm, ⟨by omega, by omega⟩, ⟨by omega, by omega⟩, by omega⟩
              have hct : ct = f u v := by
                rcases hc with ⟨h1, -⟩ | ⟨-, -, h2⟩
                · rw [hok] at h1; cases h1
                · rw [Int.toNat_natCast, Int.toNat_natCast] at h2
                  exact h2.one (HF.out.mc (by omega))
              have HCT := Lib.hid hct
              have HI := Lib.hid (hin.out.trans hx)
              clear hc hok hct m0 m1 hx hin
              go_wp2_with fail
              refine (betweenT_any f s p w u v _ _ _ HT.out (by omega) hul (by omega) (by omega) (HP.out.ext (HB.out.trans HI.out)) (HW.out.ext (HB.out.trans HI.out))).mono ?_
              rintro e w4 ⟨rfl, hx⟩
              rw [← HCT.out]
              have HJ := Lib.hid (HI.out.trans hx)
              clear HI hx
              go_wp2
              go_roundw
              case rel => exact ⟨v + 1, by go_num, by omega, Lib.hid HJ.out⟩
              case measure => simp [intOf]; omega
            · obtain rfl : v = u := by omega
              go_wp2
              go_roundw
              case rel => exact ⟨v + 1, by go_num, by omega, Lib.hid hin.out⟩
              case measure => simp [intOf]; omega
        · obtain rfl : u = s := by omega
          go_wp2
          go_ret
          exact ⟨rfl, HB.out.trans hin.out⟩
end Go.Proofs.Ytilcbbdmenknfaa
namespace Go.Proofs.Ytilcbbdmenknfaa
open Go.RowKit

theorem cutOk_cut (N u v : Int) (a : Ar) : cutOk N (a.cut 162) u v = cutOk N a u v := by unfold cutOk; rw [vNet_cut]
theorem webB_cut (N : Int) (a : Ar) : webB N (a.cut 162) = webB N a := by unfold webB; rw [vNet_cut]

set_option maxHeartbeats 4000000 in
set_option maxRecDepth 100000 in
theorem waxTrees_walk (N u v : Int) (a : Ar) (AV : Value) (W : World) (hA : Al W AV a) :
    Calls Try.prog 8 #[.agg #[.int .i64 N, AV], .int .i64 u, .int .i64 v] W fun e W' => e = .returned (.bool true) ∧ Ext W W' := by
  have HA := Lib.hid hA
  obtain ⟨ac, hac'⟩ : ∃ z, z = a.cut 162 := ⟨_, rfl⟩
  have hnet : ∀ (X : World), Ext W X → Calls Try.prog 16 #[.agg #[.int .i64 N, AV]] X fun e W' => ∃ v, e = .returned (.agg #[.int .i64 N, v]) ∧ Al W' v ac ∧ Ext X W' := fun X hX => by
    refine (net_any N a AV X (hA.ext hX)).mono ?_
    rintro e w ⟨v, rfl, h1, -, h2⟩
    exact ⟨v, rfl, by rw [hac']; exact h1, h2⟩
  have HNET := Lib.hid hnet
  have HAC := Lib.hid hac'
  clear hnet hac'
  obtain ⟨A, c, rfl, hac, hcm, -⟩ := hA
  go_enter Try.func8, Try.ntmps8
  go_upto_region 1 with fail
  have bb := al1 W (.cells #[.int .i64 N, .slice A a.n c] 24)
  obtain ⟨m0, m1, -, zz⟩ := two (heap_alloc_new W (.cells #[.int .i64 N, .slice A a.n c] 24))
  generalize W.alloc (.cells #[.int .i64 N, .slice A a.n c] 24) = W1 at *
  have HB : Hid (Ext W W1) := Lib.hid bb
  have HM := Lib.hid (And.intro m0 m1)
  clear bb
  go_wp2_with fail
  refine (HNET.out _ HB.out).mono ?_
  rintro e x1 ⟨o1, rfl, hal, hx⟩
  have HO1 := Lib.hid hal
  have HX1 : Hid (Ext W1 x1) := Lib.hid hx
  obtain ⟨Ao1, co1, rfl, -, -, -⟩ := hal
  clear hx m0 m1
  go_wp2_with fail
  refine (cut_any N u v ac _ _ HO1.out).mono ?_
  rintro e y1 ⟨c1, r1, rfl, hx, hr⟩
  have R1 := Lib.hid hr
  have EXA : Hid (Ext W1 y1) := Lib.hid (HX1.out.trans hx)
  have m0 := keepAt EXA.out zz HM.out.1
  have m1 := keepAt EXA.out zz HM.out.2
  clear hx hr HX1 HO1
  go_wp2_with fail
  refine (cutR_any N u v a _ _ (HA.out.ext (HB.out.trans EXA.out))).mono ?_
  rintro e y2 ⟨c2, r2, rfl, hx, hr⟩
  have hcr : c2 = c1 ∧ r2 = r1 := by
    have h1 := R1.out
    rw [HAC.out, cutOk_cut] at h1
    rcases h1 with ⟨e1, e2, e3⟩ | ⟨e1, e2, e3⟩ <;> rcases hr with ⟨f1, f2, f3⟩ | ⟨f1, f2, f3⟩
    · exact ⟨by omega, by omega⟩
    · rw [e1] at f1; cases f1
    · rw [e1] at f1; cases f1
    · rw [vNet_same (cutOk_iff.1 e1).1] at e3
      exact ⟨f3.one e3, by omega⟩
  obtain ⟨rfl, rfl⟩ := hcr
  replace EXA : Hid (Ext W1 y2) := Lib.hid (EXA.out.trans hx)
  clear hx hr R1 m0 m1
  have m0 := keepAt EXA.out zz HM.out.1
  have m1 := keepAt EXA.out zz HM.out.2
  go_wp2_with fail
  refine (HNET.out _ (HB.out.trans EXA.out)).mono ?_
  rintro e x3 ⟨o3, rfl, hal, hx⟩
  have HO3 := Lib.hid hal
  have HX3 : Hid (Ext W1 x3) := Lib.hid (EXA.out.trans hx)
  obtain ⟨Ao3, co3, rfl, -, -, -⟩ := hal
  clear hx m0 m1 EXA
  go_wp2_with fail
  refine (treeS_any N ac _ _ HO3.out).mono ?_
  rintro e y3 ⟨PV, WV, er, rfl, hx, hr⟩
  have EXA : Hid (Ext W1 y3) := Lib.hid (HX3.out.trans hx)
  have m0 := keepAt EXA.out zz HM.out.1
  have m1 := keepAt EXA.out zz HM.out.2
  clear hx HX3 HO3
  rw [HAC.out, webB_cut] at hr
  have HFIN : Hid ((webB N a = false ∧ PV = .slice none 0 0 ∧ WV = .slice none 0 0 ∧ er = 2) ∨ (webB N a = true ∧ er = 0 ∧ TreeAt y3 a N.toNat PV WV)) := Lib.hid (by
    rcases hr with h | ⟨h1, h2, h3⟩
    · exact .inl h
    · refine .inr ⟨h1, h2, ?_⟩
      have h4 : vNet N a = true := by unfold webB at h1; simp at h1; exact h1.1
      rw [vNet_same h4] at h3
      exact h3)
  clear hr
  rcases HFIN.out with ⟨h1, rfl, rfl, rfl⟩ | ⟨h1, rfl, h3⟩
  · have H1 := Lib.hid h1
    clear h1 HFIN
    go_wp2_with fail
    refine (awake_any _).mono ?_
    rintro e y4 ⟨rfl, hx⟩
    replace EXA : Hid (Ext W1 y4) := Lib.hid (EXA.out.trans hx)
    clear hx m0 m1
    have m0 := keepAt EXA.out zz HM.out.1
    have m1 := keepAt EXA.out zz HM.out.2
    go_wp2_with fail
    refine (webR_any N a _ _ (HA.out.ext (HB.out.trans EXA.out))).mono ?_
    rintro e y5 ⟨rfl, hx⟩
    have hw : (vNet N a && decide (N ≤ 12)) = false := H1.out
    rw [hw]
    replace EXA : Hid (Ext W1 y5) := Lib.hid (EXA.out.trans hx)
    clear hx m0 m1 hw
    go_wp2
    go_ret
    exact ⟨rfl, HB.out.trans EXA.out⟩
  · have H1 := Lib.hid h1
    have H3 := Lib.hid h3
    obtain ⟨f, p, w, -, -, -, hPV, hWV⟩ := h3
    obtain ⟨A1, k1, rfl, -⟩ := hPV
    obtain ⟨A2, k2, rfl, -⟩ := hWV
    clear h1 HFIN
    go_wp2_with fail
    refine (awake_any _).mono ?_
    rintro e y4 ⟨rfl, hx⟩
    replace EXA : Hid (Ext W1 y4) := Lib.hid (EXA.out.trans hx)
    have HX4 := Lib.hid hx
    clear hx m0 m1
    have m0 := keepAt EXA.out zz HM.out.1
    have m1 := keepAt EXA.out zz HM.out.2
    go_wp2_with fail
    refine (webR_any N a _ _ (HA.out.ext (HB.out.trans EXA.out))).mono ?_
    rintro e y5 ⟨rfl, hx⟩
    have hw : (vNet N a && decide (N ≤ 12)) = true := H1.out
    rw [hw]
    replace EXA : Hid (Ext W1 y5) := Lib.hid (EXA.out.trans hx)
    have HX5 := Lib.hid (HX4.out.trans hx)
    clear hx m0 m1
    have m0 := keepAt EXA.out zz HM.out.1
    have m1 := keepAt EXA.out zz HM.out.2
    obtain ⟨f', p', w', g1, g2, g3, g4, g5⟩ := H3.out
    have hv : vNet N a = true ∧ N ≤ 12 := by simpa using hw
    clear hw
    obtain ⟨q, rfl, -⟩ := vNet_ok hv.1
    rw [Int.toNat_natCast] at g2 g4 g5
    have HV := Lib.hid hv
    clear hv
    have HG := Lib.hid (And.intro g1 (And.intro g2 (And.intro g3 (And.intro g4 g5))))
    clear g1 g2 g3 g4 g5 H3
    go_wp2_with fail
    refine (treeR_any f' q a p' w' _ _ _ _ (HA.out.ext (HB.out.trans EXA.out)) HV.out.1 HV.out.2 HG.out.1 HG.out.2.1 HG.out.2.2.1 (HG.out.2.2.2.1.ext HX5.out) (HG.out.2.2.2.2.ext HX5.out)).mono ?_
    rintro e y6 ⟨rfl, hx⟩
    replace EXA : Hid (Ext W1 y6) := Lib.hid (EXA.out.trans hx)
    clear hx m0 m1
    go_wp2
    go_ret
    exact ⟨rfl, HB.out.trans EXA.out⟩
end Go.Proofs.Ytilcbbdmenknfaa
