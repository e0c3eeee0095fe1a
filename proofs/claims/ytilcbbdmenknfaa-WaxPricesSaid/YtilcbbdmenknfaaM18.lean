/- The law WaxModular. · Walks: Check. -/
import Derived.Test.YtilcbbdmenknfaaM13
import Derived.Test.YtilcbbdmenknfaaM15
import Derived.Test.YtilcbbdmenknfaaM11
namespace Go.Proofs.Ytilcbbdmenknfaa
open Go.RowKit

/-- is the labelling's energy defined? -/
def okE (c : Cl) (ri : Int) (n : Nat) : Bool := vCl c && bw ri (-10000) 10000 && decide (n = c.nb)
theorem energyS (c : Cl) (ri : Int) (n : Nat) (l : Nat → Bool) (V LV : Value) (W : World) (hV : Kl W V c) (hL : Bl W LV n l) :
    Calls Try.prog 38 #[V, .int .i64 ri, LV] W fun e W' => ∃ (v er : Int), e = .returned (.tuple #[.int .i64 v, .int .i64 er]) ∧ Ext W W' ∧
      ((okE c ri n = false ∧ er ≠ 0) ∨ (okE c ri n = true ∧ er = 0 ∧ v = c.en ri l)) := by
  refine (energy_any c ri n l V LV W hV hL).mono ?_
  rintro e w ⟨v, er, rfl, hx, h | h | h⟩
  · exact ⟨v, er, rfl, hx, .inl ⟨by unfold okE; rw [h.1]; rfl, by rw [h.2.2]; decide⟩⟩
  · exact ⟨v, er, rfl, hx, .inl ⟨by unfold okE; rw [h.1, decide_eq_false h.2.1]; rfl, by rw [h.2.2.2]; decide⟩⟩
  · exact ⟨v, er, rfl, hx, .inr ⟨by unfold okE; rw [h.1, decide_eq_true h.2.1]; rfl, h.2.2.1, h.2.2.2⟩⟩
theorem okE_ok {c : Cl} {ri : Int} {n : Nat} (h : okE c ri n = true) : vCl c = true ∧ (-10000 ≤ ri ∧ ri ≤ 10000) ∧ n = c.nb := by
  unfold okE at h
  rw [Bool.and_eq_true, Bool.and_eq_true, bw_iff, decide_eq_true_iff] at h
  exact ⟨h.1.1, h.1.2, h.2⟩
theorem en_bd {c : Cl} {ri : Int} (hc : vCl c = true) (h1 : -10000 ≤ ri) (h2 : ri ≤ 10000) (l : Nat → Bool) : -2000000 ≤ c.en ri l ∧ c.en ri l ≤ 2000000 := by
  obtain ⟨⟨v1, v2⟩, ⟨v3, v4⟩, ⟨v5, v6⟩, ⟨v7, v8⟩, ⟨v9, -⟩, ⟨v11, -⟩⟩ := vCl_ok hc
  have hnb36 : c.nb ≤ 36 := by have h1 := (side_prod (show 0 ≤ c.w by omega) v2 (show 0 ≤ c.h by omega) v4).2; omega
  have hnr30 : c.nr ≤ 30 := by have h1 := (side_prod (show 0 ≤ c.w - 1 by omega) (show c.w - 1 ≤ 5 by omega) (show 0 ≤ c.h by omega) v4).2; omega
  have hnd30 : c.nd ≤ 30 := by have h1 := (side_prod (show 0 ≤ c.w by omega) v2 (show 0 ≤ c.h - 1 by omega) (show c.h - 1 ≤ 5 by omega)).2; omega
  have hprn : c.prs.n ≤ 60 := by show c.nr + c.nd ≤ 60; omega
  have a1 := sm_abs (n := c.nb) (f := c.dt ri l) (fun k hk => by
    have h5 := v6 k hk; have h6 := v8 k (by omega)
    unfold Cl.dt
    split <;> omega)
  have a2 := sm_abs (n := c.prs.n) (f := c.pt l) (fun k hk => by
    obtain ⟨u, v, -, -, -, -, h5, h6⟩ := prs_in hc hk
    unfold Cl.pt
    split <;> omega)
  unfold Cl.en
  omega
theorem bool_news (w : World) (z : Bool) : ∀ j u, [Value.bool z][j]? = some u → (w.alloc (.cells #[.bool z] 4)).cell? ((⟨w.heap.size, 0, none⟩ : Addr).add j) = some u := by
  intro j u hj
  match j, hj with
  | 0, hj =>
    simp at hj
    subst hj
    rw [Addr.add_lit, World.cell?_alloc_new]
    rfl
  | j + 1, hj => simp at hj
theorem bool_one (z : Bool) : ∀ u ∈ [Value.bool z], u.oneCell' = true := by
  intro u hu
  simp at hu
  subst hu
  rfl
theorem own_shape {w : World} {base : Nat} {e : TypeId} {size n : Nat} {v : Value} {xs : List Value} (h : w.ownsRow base e size v n xs) : ∃ A m c, v = .slice A m c := by
  obtain ⟨-, ⟨rfl, -⟩ | ⟨g, cap, cur, rfl, -⟩⟩ := h
  · exact ⟨_, _, _, rfl⟩
  · exact ⟨_, _, _, rfl⟩

set_option maxHeartbeats 4000000 in
set_option maxRecDepth 100000 in
theorem waxModular_walk (c : Cl) (ri : Int) (na nb : Nat) (S T : Nat → Bool) (V LA LB : Value) (W : World) (hV : Kl W V c) (hA : Bl W LA na S) (hB : Bl W LB nb T) :
    Calls Try.prog 13 #[V, .int .i64 ri, LA, LB] W fun e W' => e = .returned (.bool true) ∧ Ext W W' := by
  have HV := Lib.hid hV; have HA := Lib.hid hA; have HBB := Lib.hid hB
  obtain ⟨A1, cLa, rfl, hc1, hd1, -⟩ := hA
  obtain ⟨A2, cLb, rfl, hc2, hd2, -⟩ := hB
  obtain ⟨B, X, R, D, rfl, -, -, -, -⟩ := hV
  obtain ⟨w, hw⟩ : ∃ w, w = c.w := ⟨_, rfl⟩
  obtain ⟨h, hh⟩ : ∃ h, h = c.h := ⟨_, rfl⟩
  rw [← hw, ← hh] at HV ⊢
  clear hw hh
  obtain ⟨C, hC⟩ : ∃ C, C = c.cut := ⟨_, rfl⟩
  have hcl : ∀ X1, Ext W X1 → Calls Try.prog 39 #[.agg #[.int .i64 w, .int .i64 h, B, X, R, D]] X1 fun e W' => ∃ U, e = .returned U ∧ Kl W' U C ∧ Ext X1 W' := fun X1 hX1 => by
    rw [hC]; exact cloth_any c _ X1 (HV.out.ext hX1)
  have HCL := Lib.hid hcl
  clear hcl hC
  go_enter Try.func13, Try.ntmps13
  go_upto_region 1 with fail
  have bb := al1 W (.cells #[.int .i64 w, .int .i64 h, B, X, R, D] 68)
  obtain ⟨m0, m1, m2, m3, m4, m5, mz, -⟩ := six (heap_alloc_new W (.cells #[.int .i64 w, .int .i64 h, B, X, R, D] 68))
  generalize W.alloc (.cells #[.int .i64 w, .int .i64 h, B, X, R, D] 68) = W1 at *
  have HB : Hid (Ext W W1) := Lib.hid bb
  have HM := Lib.hid (And.intro m0 (And.intro m1 (And.intro m2 (And.intro m3 (And.intro m4 m5)))))
  clear bb
  go_wp2_with fail
  refine (HCL.out _ HB.out).mono ?_
  clear m0 m1 m2 m3 m4 m5
  rintro e w1a ⟨U1, rfl, hk, hx⟩
  have HK1 := Lib.hid hk
  have HY1 : Hid (Ext W1 w1a) := Lib.hid hx
  clear hk hx
  go_wp2_with fail
  refine (energyS C ri na S U1 _ _ HK1.out (HA.out.ext (HB.out.trans HY1.out))).mono ?_
  rintro e w1 ⟨v1, e1, rfl, hx, h1⟩
  have HX1 : Hid (Ext W1 w1) := Lib.hid (HY1.out.trans hx)
  clear hx
  have HE1 := Lib.hid h1
  clear h1 HY1 HK1
  have m0 := keepAt HX1.out mz HM.out.1
  have m1 := keepAt HX1.out mz HM.out.2.1
  have m2 := keepAt HX1.out mz HM.out.2.2.1
  have m3 := keepAt HX1.out mz HM.out.2.2.2.1
  have m4 := keepAt HX1.out mz HM.out.2.2.2.2.1
  have m5 := keepAt HX1.out mz HM.out.2.2.2.2.2
  go_wp2_with fail
  refine (HCL.out _ (HB.out.trans HX1.out)).mono ?_
  clear m0 m1 m2 m3 m4 m5
  rintro e w2a ⟨U2, rfl, hk, hx⟩
  have HK2 := Lib.hid hk
  have HY2 : Hid (Ext W1 w2a) := Lib.hid (HX1.out.trans hx)
  clear hk hx
  go_wp2_with fail
  refine (energyS C ri nb T U2 _ _ HK2.out (HBB.out.ext (HB.out.trans HY2.out))).mono ?_
  rintro e w2 ⟨v2, e2, rfl, hx, h2⟩
  have HX2 : Hid (Ext W1 w2) := Lib.hid (HY2.out.trans hx)
  clear hx
  have HE2 := Lib.hid h2
  clear h2 HY2 HK2
  obtain ⟨o1, z1⟩ | ⟨o1, rfl, rfl⟩ := HE1.out
  · clear o1
    have z1b : (e1 == 0) = false := by simp; exact z1
    have z1c : (e1 != 0) = true := by simp; exact z1
    go_wp2_with fail
    refine (awake_any _).mono ?_
    rintro e w9 ⟨rfl, hx⟩
    have EF : Hid (Ext W w9) := Lib.hid (HB.out.trans (HX2.out.trans hx)); clear hx
    go_wp2
    go_ret
    exact ⟨rfl, EF.out⟩
  · obtain ⟨o2, z2⟩ | ⟨o2, rfl, rfl⟩ := HE2.out
    · clear o1 o2
      have z2b : (e2 == 0) = false := by simp; exact z2
      have z2c : (e2 != 0) = true := by simp; exact z2
      go_wp2_with fail
      refine (awake_any _).mono ?_
      rintro e w9 ⟨rfl, hx⟩
      have EF : Hid (Ext W w9) := Lib.hid (HB.out.trans (HX2.out.trans hx)); clear hx
      go_wp2
      go_ret
      exact ⟨rfl, EF.out⟩
    · obtain ⟨k1, ⟨k2, k3⟩, k4⟩ := okE_ok o1
      have k5 := (okE_ok o2).2.2
      have hnab : na = nb := by rw [k4, k5]
      obtain ⟨d1, d2⟩ := en_bd k1 k2 k3 S
      obtain ⟨d3, d4⟩ := en_bd k1 k2 k3 T
      have hnb36 : na ≤ 36 := by
        obtain ⟨⟨q1, q2⟩, ⟨q3, q4⟩, ⟨q5, -⟩, -⟩ := vCl_ok k1
        have h1 := (side_prod (show 0 ≤ C.w by omega) q2 (show 0 ≤ C.h by omega) q4).2
        omega
      obtain ⟨both, hboth⟩ : ∃ f : Nat → Bool, f = fun u => S u && T u := ⟨_, rfl⟩
      obtain ⟨some_, hsome⟩ : ∃ f : Nat → Bool, f = fun u => S u || T u := ⟨_, rfl⟩
      have hsub := en_sub k1 ri S T
      rw [← hboth, ← hsome] at hsub
      have HB1 : Hid ((∀ u, both u = (S u && T u)) ∧ ∀ u, some_ u = (S u || T u)) := Lib.hid ⟨fun u => by rw [hboth], fun u => by rw [hsome]⟩
      obtain ⟨d5, d6⟩ := en_bd k1 k2 k3 both
      obtain ⟨d7, d8⟩ := en_bd k1 k2 k3 some_
      obtain ⟨xS, hxS⟩ : ∃ x, x = C.en ri S := ⟨_, rfl⟩
      obtain ⟨xT, hxT⟩ : ∃ x, x = C.en ri T := ⟨_, rfl⟩
      obtain ⟨xB, hxB⟩ : ∃ x, x = C.en ri both := ⟨_, rfl⟩
      obtain ⟨xO, hxO⟩ : ∃ x, x = C.en ri some_ := ⟨_, rfl⟩
      rw [← hxS, ← hxT, ← hxB, ← hxO] at hsub
      rw [← hxS] at d1 d2 ⊢
      rw [← hxT] at d3 d4 ⊢
      rw [← hxB] at d5 d6
      rw [← hxO] at d7 d8
      have HXX := Lib.hid (And.intro hxB hxO)
      have HOK := Lib.hid o1
      have HSUB := Lib.hid hsub
      subst hnab
      clear o1 o2 k1 k2 k3 k4 k5 hboth hsome hxS hxT hxB hxO hsub HE1 HE2
      obtain ⟨i0, hi, hz0, hz1, hz2⟩ := info_parts info4
      have HI := Lib.hid (And.intro hi (And.intro hz0 (And.intro hz1 hz2)))
      clear hi hz0 hz1 hz2
      go_wp2_with fail
      go_loopw [13, 14, 59] (fun qa qb i wr => ∃ k : Nat, i = .int .i64 k ∧ k ≤ na ∧ Hid (Tw wr w2.heap.size qa qb k k both some_ ∧ Ext w2 wr)) (fun _ _ i _ => na - (intOf i).toNat)
      case atStart => exact ⟨0, rfl, Nat.zero_le _, Lib.hid ⟨Tw.nil w2 _ _, Ext.refl _⟩⟩
      case round =>
        obtain ⟨k, rfl, hk, hin⟩ := hrel
        obtain ⟨qa, rfl⟩ : ∃ q, q = u13 := ⟨_, rfl⟩
        obtain ⟨qb, rfl⟩ : ∃ q, q = u14 := ⟨_, rfl⟩
        by_cases hlt : k < na
        · obtain ⟨b1, o1_, rfl, -, cpk⟩ := Vl.at HA.out (HB.out.trans (HX2.out.trans hin.out.2)) hlt
          obtain ⟨b2, o2_, rfl, -, cqk⟩ := Vl.at HBB.out (HB.out.trans (HX2.out.trans hin.out.2)) hlt
          obtain ⟨x, hx⟩ : ∃ x, x = S k := ⟨_, rfl⟩
          obtain ⟨y, hy⟩ : ∃ y, y = T k := ⟨_, rfl⟩
          rw [← hx] at cpk
          rw [← hy] at cqk
          have HXY := Lib.hid (And.intro hx hy)
          clear hx hy
          cases x
          · have HT : Hid (Tw (wr.alloc (.cells #[.bool false] 4)) w2.heap.size qa qb k k both some_) := Lib.hid (hin.out.1.ext (Ext.alc (Ext.refl wr) _))
            have HSZ : Hid (w2.heap.size ≤ wr.heap.size) := Lib.hid hin.out.1.le
            have hqa := own_shape HT.out.fst
            obtain ⟨Aa, na_, ca, rfl⟩ := hqa
            have hqb := own_shape HT.out.snd
            obtain ⟨Ab, nb_, cb, rfl⟩ := hqb
            go_wp2_with (at_builtin; refine wpList_append_own_at _ rfl _ _ 40 rfl w2.heap.size 4 i0 (.bool false) 1 1 Try.underlying40 HI.out.1 HI.out.2.1 HI.out.2.2.1 HI.out.2.2.2 rfl (by decide) _ k _ rfl HT.out.fst ⟨wr.heap.size, 0, none⟩ 1 1 [.bool false] rfl rfl (bool_news _ false) (bool_one false) ?qc3 ?qc4 ?qc5 ?_)
            case qc3 => unfold maxLen; omega
            case qc4 => omega
            case qc5 => have := HSZ.out; simp; omega
            intro v1 x1 o1 g1 _n1 a1
            clear _n1
            have hone := HT.out.one (z := false) (by rw [HB1.out.1, ← HXY.out.1]; rfl) o1 g1 (by simpa using a1)
            have HT1 : Hid (Tw (x1.alloc (.cells #[.bool y] 4)) w2.heap.size (.slice Ab nb_ cb) v1 k (k + 1) some_ both) := Lib.hid (hone.1.symm.ext (Ext.alc (Ext.refl x1) _))
            have HE1 : Hid (Ext w2 (x1.alloc (.cells #[.bool y] 4)) ∧ Ext w2 x1) := Lib.hid ⟨Ext.alc (hone.2 w2 (Ext.alc hin.out.2 _) (Nat.le_refl _)) _, hone.2 w2 (Ext.alc hin.out.2 _) (Nat.le_refl _)⟩
            clear HSZ
            have HSZ : Hid (w2.heap.size ≤ x1.heap.size) := Lib.hid hone.1.le
            obtain ⟨b3, o3, e3, -, cq1⟩ := Vl.at HBB.out (HB.out.trans (HX2.out.trans HE1.out.2)) hlt
            injection e3 with e3
            injection e3 with e3 e4
            subst e3 e4
            rw [← HXY.out.2] at cq1
            clear o1 g1 a1 hone
            go_wp2_with (at_builtin; refine wpList_append_own_at _ rfl _ _ 40 rfl w2.heap.size 4 i0 (.bool false) 1 1 Try.underlying40 HI.out.1 HI.out.2.1 HI.out.2.2.1 HI.out.2.2.2 rfl (by decide) _ k _ rfl HT1.out.fst ⟨x1.heap.size, 0, none⟩ 1 1 [.bool y] rfl rfl (bool_news _ y) (bool_one y) ?qc3 ?qc4 ?qc5 ?_)
            case qc3 => unfold maxLen; omega
            case qc4 => omega
            case qc5 => have := HSZ.out; simp; omega
            intro v2 x2 o2 g2 _n2 a2
            clear _n2
            have hone := HT1.out.one (z := y) (by rw [HB1.out.2, ← HXY.out.1, ← HXY.out.2]; rfl) o2 g2 (by simpa using a2)
            have HT2 := Lib.hid (And.intro hone.1.symm (hone.2 w2 HE1.out.1 (Nat.le_refl _)))
            clear o2 g2 a2 hone cq1
            go_wp2
            go_roundw
            case rel => exact ⟨k + 1, by go_num, by omega, HT2⟩
            case measure => simp [intOf]; omega
          · have HT : Hid (Tw (wr.alloc (.cells #[.bool y] 4)) w2.heap.size qa qb k k both some_) := Lib.hid (hin.out.1.ext (Ext.alc (Ext.refl wr) _))
            have HSZ : Hid (w2.heap.size ≤ wr.heap.size) := Lib.hid hin.out.1.le
            have hqa := own_shape HT.out.fst
            obtain ⟨Aa, na_, ca, rfl⟩ := hqa
            have hqb := own_shape HT.out.snd
            obtain ⟨Ab, nb_, cb, rfl⟩ := hqb
            go_wp2_with (at_builtin; refine wpList_append_own_at _ rfl _ _ 40 rfl w2.heap.size 4 i0 (.bool false) 1 1 Try.underlying40 HI.out.1 HI.out.2.1 HI.out.2.2.1 HI.out.2.2.2 rfl (by decide) _ k _ rfl HT.out.fst ⟨wr.heap.size, 0, none⟩ 1 1 [.bool y] rfl rfl (bool_news _ y) (bool_one y) ?qc3 ?qc4 ?qc5 ?_)
            case qc3 => unfold maxLen; omega
            case qc4 => omega
            case qc5 => have := HSZ.out; simp; omega
            intro v1 x1 o1 g1 _n1 a1
            clear _n1
            have hone := HT.out.one (z := y) (by rw [HB1.out.1, ← HXY.out.1, ← HXY.out.2]; rfl) o1 g1 (by simpa using a1)
            have HT1 : Hid (Tw (x1.alloc (.cells #[.bool true] 4)) w2.heap.size (.slice Ab nb_ cb) v1 k (k + 1) some_ both) := Lib.hid (hone.1.symm.ext (Ext.alc (Ext.refl x1) _))
            have HE1 : Hid (Ext w2 (x1.alloc (.cells #[.bool true] 4)) ∧ Ext w2 x1) := Lib.hid ⟨Ext.alc (hone.2 w2 (Ext.alc hin.out.2 _) (Nat.le_refl _)) _, hone.2 w2 (Ext.alc hin.out.2 _) (Nat.le_refl _)⟩
            clear HSZ
            have HSZ : Hid (w2.heap.size ≤ x1.heap.size) := Lib.hid hone.1.le
            obtain ⟨b3, o3, e3, -, cq1⟩ := Vl.at HBB.out (HB.out.trans (HX2.out.trans HE1.out.2)) hlt
            injection e3 with e3
            injection e3 with e3 e4
            subst e3 e4
            rw [← HXY.out.2] at cq1
            clear o1 g1 a1 hone
            go_wp2_with (at_builtin; refine wpList_append_own_at _ rfl _ _ 40 rfl w2.heap.size 4 i0 (.bool false) 1 1 Try.underlying40 HI.out.1 HI.out.2.1 HI.out.2.2.1 HI.out.2.2.2 rfl (by decide) _ k _ rfl HT1.out.fst ⟨x1.heap.size, 0, none⟩ 1 1 [.bool true] rfl rfl (bool_news _ true) (bool_one true) ?qc3 ?qc4 ?qc5 ?_)
            case qc3 => unfold maxLen; omega
            case qc4 => omega
            case qc5 => have := HSZ.out; simp; omega
            intro v2 x2 o2 g2 _n2 a2
            clear _n2
            have hone := HT1.out.one (z := true) (by rw [HB1.out.2, ← HXY.out.1]; rfl) o2 g2 (by simpa using a2)
            have HT2 := Lib.hid (And.intro hone.1.symm (hone.2 w2 HE1.out.1 (Nat.le_refl _)))
            clear o2 g2 a2 hone cq1
            go_wp2
            go_roundw
            case rel => exact ⟨k + 1, by go_num, by omega, HT2⟩
            case measure => simp [intOf]; omega
        · have hT := hin.out.1
          obtain rfl : na = k := by omega
          have hnl : ¬ (na : Int) < na := by omega
          obtain ⟨wo, rfl⟩ : ∃ w, w = wr := ⟨_, rfl⟩
          have hqa := own_shape hT.fst
          have hqb := own_shape hT.snd
          have HQA := Lib.hid (And.intro (ownsRow_bl hT.fst) (ownsRow_bl hT.snd))
          have HXO : Hid (Ext W1 wo) := Lib.hid (HX2.out.trans hin.out.2)
          obtain ⟨Aa, na_, ca, rfl⟩ := hqa
          obtain ⟨Ab, nb_, cb, rfl⟩ := hqb
          clear hT hin
          have m0 := keepAt HXO.out mz HM.out.1
          have m1 := keepAt HXO.out mz HM.out.2.1
          have m2 := keepAt HXO.out mz HM.out.2.2.1
          have m3 := keepAt HXO.out mz HM.out.2.2.2.1
          have m4 := keepAt HXO.out mz HM.out.2.2.2.2.1
          have m5 := keepAt HXO.out mz HM.out.2.2.2.2.2
          go_wp2_with fail
          refine (HCL.out _ (HB.out.trans HXO.out)).mono ?_
          clear m0 m1 m2 m3 m4 m5
          rintro e w3a ⟨U3, rfl, hk, hx⟩
          have HK3 := Lib.hid hk
          have HY3 : Hid (Ext W1 w3a ∧ Ext wo w3a) := Lib.hid ⟨HXO.out.trans hx, hx⟩
          clear hk hx
          go_wp2_with fail
          refine (energyS C ri na both U3 _ _ HK3.out (HQA.out.1.ext HY3.out.2)).mono ?_
          rintro e w3 ⟨v3, e3, rfl, hx, h3⟩
          have HX3 : Hid (Ext W1 w3) := Lib.hid (HY3.out.1.trans hx)
          have HZ3 : Hid (Ext wo w3) := Lib.hid (HY3.out.2.trans hx)
          clear hx
          rcases h3 with ⟨o1, -⟩ | ⟨-, rfl, rfl⟩
          · rw [HOK.out] at o1; cases o1
          rw [← HXX.out.1]
          have m0 := keepAt HX3.out mz HM.out.1
          have m1 := keepAt HX3.out mz HM.out.2.1
          have m2 := keepAt HX3.out mz HM.out.2.2.1
          have m3 := keepAt HX3.out mz HM.out.2.2.2.1
          have m4 := keepAt HX3.out mz HM.out.2.2.2.2.1
          have m5 := keepAt HX3.out mz HM.out.2.2.2.2.2
          go_wp2_with fail
          refine (HCL.out _ (HB.out.trans HX3.out)).mono ?_
          clear m0 m1 m2 m3 m4 m5
          rintro e w4a ⟨U4, rfl, hk, hx⟩
          have HK4 := Lib.hid hk
          have HY4 : Hid (Ext W1 w4a ∧ Ext wo w4a) := Lib.hid ⟨HX3.out.trans hx, HZ3.out.trans hx⟩
          clear hk hx
          go_wp2_with fail
          refine (energyS C ri na some_ U4 _ _ HK4.out (HQA.out.2.ext HY4.out.2)).mono ?_
          rintro e w4 ⟨v4, e4, rfl, hx, h4⟩
          have HX4 : Hid (Ext W1 w4) := Lib.hid (HY4.out.1.trans hx)
          have HZ4 : Hid (Ext wo w4) := Lib.hid (HY4.out.2.trans hx)
          clear hx
          rcases h4 with ⟨o1, -⟩ | ⟨-, rfl, rfl⟩
          · rw [HOK.out] at o1; cases o1
          rw [← HXX.out.2]
          have hle := HSUB.out
          go_wp2_with fail
          refine (awake_any _).mono ?_
          rintro e w9 ⟨rfl, hx⟩
          have EF : Hid (Ext W w9) := Lib.hid (HB.out.trans (HX4.out.trans hx)); clear hx
          go_wp2
          go_ret
          exact ⟨rfl, EF.out⟩
end Go.Proofs.Ytilcbbdmenknfaa
namespace Go.Proofs.Ytilcbbdmenknfaa
open Go.RowKit

set_option maxHeartbeats 4000000 in
set_option maxRecDepth 100000 in
theorem check_any (N : Int) (a : Ar) (nf ns : Nat) (f : Nat → Int) (s : Nat → Bool) (AV FV SV : Value) (W : World) (hA : Al W AV a) (hF : Il W FV nf f) (hS : Bl W SV ns s) :
    Calls Try.prog 21 #[.agg #[.int .i64 N, AV], FV, SV] W fun e W' => ∃ (b : Bool) (er : Int), e = .returned (.tuple #[.bool b, .int .i64 er]) ∧ Chk N a nf ns f s b er ∧ Ext W W' := by
  have HA := Lib.hid hA; have HF := Lib.hid hF; have HS := Lib.hid hS
  obtain ⟨A, c, rfl, hac, hcm, -⟩ := hA
  obtain ⟨A2, c2, rfl, hac2, hcm2, -⟩ := hF
  obtain ⟨A3, c3, rfl, hac3, hcm3, -⟩ := hS
  go_enter Try.func21, Try.ntmps21
  go_upto_region 1 with fail
  have bb := al1 W (.cells #[.int .i64 N, .slice A a.n c] 30)
  have hh := heap_alloc_new W (.cells #[.int .i64 N, .slice A a.n c] 30)
  have zz : W.heap.size < (W.alloc (.cells #[.int .i64 N, .slice A a.n c] 30)).heap.size := by simp
  generalize W.alloc (.cells #[.int .i64 N, .slice A a.n c] 30) = W0 at *
  have HB0 : Hid (Ext W W0) := Lib.hid bb
  obtain ⟨m0, m1, m2, m3⟩ := two hh
  clear bb hh m2 m3
  go_wp2_with fail
  refine (isNet_any N a _ _ (HA.out.ext HB0.out)).mono ?_
  rintro e W1 ⟨rfl, hx⟩
  replace m0 := keepAt hx zz m0
  replace m1 := keepAt hx zz m1
  replace zz : W.heap.size < W1.heap.size := Nat.lt_of_lt_of_le zz hx.size
  have HB : Hid (Ext W W1) := Lib.hid (HB0.out.trans hx)
  clear hx HB0
  cases hv : vNet N a
  · have HV := Lib.hid hv; clear hv
    go_wp2
    refine bodyPost_ret (v := .tuple #[.bool false, .int .i64 2]) (by simp [results, Try.results21, go_sem]) rfl ⟨false, 2, rfl, .inl ⟨HV.out, rfl, rfl⟩, HB.out⟩
  · have HV := Lib.hid hv
    obtain ⟨m, rfl, hm2, hm40, hn, hO⟩ := vNet_ok hv
    have HO := Lib.hid hO
    clear hv hO
    by_cases h1 : nf = a.n
    · by_cases h2 : m = ns
      · subst h1 h2
        go_upto_region 5 with fail
        refine wp_region_noPanic ?_
        refine wp_split (S := fun X => Ext W1 X) 18 (by kernel_rfl) (by kernel_rfl) (Ext.drw (Ext.refl _)) ?_
        simp only [List.take_succ_cons, List.take_zero, List.drop_succ_cons, List.drop_zero]
        refine take_at 0 (some 25) (.agg #[.int .i64 m, .slice A a.n c]) rfl rfl (by kernel_rfl) (by kernel_rfl) (by kernel_rfl) (fun _ _ _ h => h) (Or.inl ⟨by rfl, fun w' hSw => ?_⟩) (Ext.drw (Ext.refl _)) ?_
        · have z0 := keepAt hSw zz m0
          have z1 := keepAt hSw zz m1
          try clear hSw
          go_simp
          all_goals (with_reducible rfl)
        try simp only [Act.put, List.setIfInBounds_toArray, List.set_cons_zero, List.set_cons_succ]
        refine take_at 1 (some 26) (.slice A2 a.n c2) rfl rfl (by kernel_rfl) (by kernel_rfl) (by kernel_rfl) (fun _ _ _ h => h) (Or.inl ⟨by rfl, fun w' hSw => ?_⟩) (Ext.drw (Ext.refl _)) ?_
        · skip
          try clear hSw
          go_simp
          all_goals (with_reducible rfl)
        try simp only [Act.put, List.setIfInBounds_toArray, List.set_cons_zero, List.set_cons_succ]
        refine wpAnyH_ready (rs := [2]) (by kernel_rfl) (by simp) ?_
        refine AllReadyH.cons rfl (fun K hK => ?_) AllReadyH.nil
        go_simp
        refine (isFlow_any m a f _ _ _ (HA.out.ext (HB.out.trans (Ext.drw (Ext.refl _)))) (Il.ext HF.out (HB.out.trans (Ext.drw (Ext.refl _)))) HO.out (by omega) hm2 (by omega)).mono ?_
        rintro e v2 ⟨rfl, hb2⟩
        have e2 : Ext W1 v2 := (Ext.drw (Ext.refl _)).trans hb2
        try go_wp2_with fail
        refine hK.out _ _ e2 (fun _ => ?_)
        clear hK K
        try simp only [Act.put, List.setIfInBounds_toArray, List.set_cons_zero, List.set_cons_succ]
        cases p : isFlB m a f
        · have HP := Lib.hid p; clear p
          refine take_at 3 (some 28) (.bool false) rfl rfl (by kernel_rfl) (by kernel_rfl) (by kernel_rfl) (fun _ _ _ h => h) (Or.inl ⟨by rfl, fun w' hSw => ?_⟩) (e2) ?_
          · skip
            try clear hSw
            go_simp
            all_goals (with_reducible rfl)
          try simp only [Act.put, List.setIfInBounds_toArray, List.set_cons_zero, List.set_cons_succ]
          refine take_at 4 (some 29) undef rfl rfl (by kernel_rfl) (by kernel_rfl) (by kernel_rfl) (fun _ _ _ h => h) (Or.inr ⟨by rfl, rfl⟩) (e2) ?_
          try simp only [Act.put, List.setIfInBounds_toArray, List.set_cons_zero, List.set_cons_succ]
          refine take_at 5 (some 30) undef rfl rfl (by kernel_rfl) (by kernel_rfl) (by kernel_rfl) (fun _ _ _ h => h) (Or.inr ⟨by rfl, rfl⟩) (e2) ?_
          try simp only [Act.put, List.setIfInBounds_toArray, List.set_cons_zero, List.set_cons_succ]
          refine take_at 6 (some 31) (.bool false) rfl rfl (by kernel_rfl) (by kernel_rfl) (by kernel_rfl) (fun _ _ _ h => h) (Or.inl ⟨by rfl, fun w' hSw => ?_⟩) (e2) ?_
          · skip
            try clear hSw
            go_simp
            all_goals (with_reducible rfl)
          try simp only [Act.put, List.setIfInBounds_toArray, List.set_cons_zero, List.set_cons_succ]
          refine take_at 7 (some 32) (.bool false) rfl rfl (by kernel_rfl) (by kernel_rfl) (by kernel_rfl) (fun _ _ _ h => h) (Or.inl ⟨by rfl, fun w' hSw => ?_⟩) (e2) ?_
          · skip
            try clear hSw
            go_simp
            all_goals (with_reducible rfl)
          try simp only [Act.put, List.setIfInBounds_toArray, List.set_cons_zero, List.set_cons_succ]
          refine take_at 8 (some 33) undef rfl rfl (by kernel_rfl) (by kernel_rfl) (by kernel_rfl) (fun _ _ _ h => h) (Or.inr ⟨by rfl, rfl⟩) (e2) ?_
          try simp only [Act.put, List.setIfInBounds_toArray, List.set_cons_zero, List.set_cons_succ]
          refine take_at 9 (some 34) undef rfl rfl (by kernel_rfl) (by kernel_rfl) (by kernel_rfl) (fun _ _ _ h => h) (Or.inr ⟨by rfl, rfl⟩) (e2) ?_
          try simp only [Act.put, List.setIfInBounds_toArray, List.set_cons_zero, List.set_cons_succ]
          refine take_at 10 (some 35) undef rfl rfl (by kernel_rfl) (by kernel_rfl) (by kernel_rfl) (fun _ _ _ h => h) (Or.inr ⟨by rfl, rfl⟩) (e2) ?_
          try simp only [Act.put, List.setIfInBounds_toArray, List.set_cons_zero, List.set_cons_succ]
          refine take_at 11 (some 36) undef rfl rfl (by kernel_rfl) (by kernel_rfl) (by kernel_rfl) (fun _ _ _ h => h) (Or.inr ⟨by rfl, rfl⟩) (e2) ?_
          try simp only [Act.put, List.setIfInBounds_toArray, List.set_cons_zero, List.set_cons_succ]
          refine take_at 12 (some 37) undef rfl rfl (by kernel_rfl) (by kernel_rfl) (by kernel_rfl) (fun _ _ _ h => h) (Or.inr ⟨by rfl, rfl⟩) (e2) ?_
          try simp only [Act.put, List.setIfInBounds_toArray, List.set_cons_zero, List.set_cons_succ]
          refine take_at 13 (some 38) undef rfl rfl (by kernel_rfl) (by kernel_rfl) (by kernel_rfl) (fun _ _ _ h => h) (Or.inr ⟨by rfl, rfl⟩) (e2) ?_
          try simp only [Act.put, List.setIfInBounds_toArray, List.set_cons_zero, List.set_cons_succ]
          refine take_at 14 (some 39) undef rfl rfl (by kernel_rfl) (by kernel_rfl) (by kernel_rfl) (fun _ _ _ h => h) (Or.inr ⟨by rfl, rfl⟩) (e2) ?_
          try simp only [Act.put, List.setIfInBounds_toArray, List.set_cons_zero, List.set_cons_succ]
          refine take_at 15 (some 40) undef rfl rfl (by kernel_rfl) (by kernel_rfl) (by kernel_rfl) (fun _ _ _ h => h) (Or.inr ⟨by rfl, rfl⟩) (e2) ?_
          try simp only [Act.put, List.setIfInBounds_toArray, List.set_cons_zero, List.set_cons_succ]
          refine take_at 16 (some 41) undef rfl rfl (by kernel_rfl) (by kernel_rfl) (by kernel_rfl) (fun _ _ _ h => h) (Or.inr ⟨by rfl, rfl⟩) (e2) ?_
          try simp only [Act.put, List.setIfInBounds_toArray, List.set_cons_zero, List.set_cons_succ]
          refine take_at 17 (some 42) (.bool false) rfl rfl (by kernel_rfl) (by kernel_rfl) (by kernel_rfl) (fun _ _ _ h => h) (Or.inl ⟨by rfl, fun w' hSw => ?_⟩) (e2) ?_
          · skip
            try clear hSw
            go_simp
            all_goals (with_reducible rfl)
          try simp only [Act.put, List.setIfInBounds_toArray, List.set_cons_zero, List.set_cons_succ]
          refine wpAnyH_done (by kernel_rfl) ?_ _
          refine cut_normal ?_
          have EX := Lib.hid (HB.out.trans e2); clear e2
          go_wp2_with fail
          refine NoPanic.normal ?_
          go_wp2
          refine bodyPost_ret (v := .tuple #[.bool false, .int .i64 0]) (by simp [results, Try.results21, go_sem]) rfl ⟨false, 0, rfl, .inr ⟨HV.out, .inr ⟨rfl, rfl, by unfold chB; rw [HP.out]; rfl, rfl⟩⟩, EX.out⟩
        · have HP := Lib.hid p; clear p
          refine take_at 3 (some 28) (.bool true) rfl rfl (by kernel_rfl) (by kernel_rfl) (by kernel_rfl) (fun _ _ _ h => h) (Or.inl ⟨by rfl, fun w' hSw => ?_⟩) (e2) ?_
          · skip
            try clear hSw
            go_simp
            all_goals (with_reducible rfl)
          try simp only [Act.put, List.setIfInBounds_toArray, List.set_cons_zero, List.set_cons_succ]
          refine take_at 4 (some 29) (.slice A3 m c3) rfl rfl (by kernel_rfl) (by kernel_rfl) (by kernel_rfl) (fun _ _ _ h => h) (Or.inl ⟨by rfl, fun w' hSw => ?_⟩) (e2) ?_
          · skip
            try clear hSw
            go_simp
            all_goals (with_reducible rfl)
          try simp only [Act.put, List.setIfInBounds_toArray, List.set_cons_zero, List.set_cons_succ]
          refine wpAnyH_ready (rs := [5]) (by kernel_rfl) (by simp) ?_
          refine AllReadyH.cons rfl (fun K hK => ?_) AllReadyH.nil
          go_simp
          refine (isSide_any m s _ _ (Bl.ext HS.out (HB.out.trans e2)) hm2 (by omega)).mono ?_
          rintro e v5 ⟨rfl, hb5⟩
          have e5 : Ext W1 v5 := (e2).trans hb5
          try go_wp2_with fail
          refine hK.out _ _ e5 (fun _ => ?_)
          clear hK K
          try simp only [Act.put, List.setIfInBounds_toArray, List.set_cons_zero, List.set_cons_succ]
          cases q : isSdB m s
          · have HQ := Lib.hid q; clear q
            refine take_at 6 (some 31) (.bool false) rfl rfl (by kernel_rfl) (by kernel_rfl) (by kernel_rfl) (fun _ _ _ h => h) (Or.inl ⟨by rfl, fun w' hSw => ?_⟩) (e5) ?_
            · skip
              try clear hSw
              go_simp
              all_goals (with_reducible rfl)
            try simp only [Act.put, List.setIfInBounds_toArray, List.set_cons_zero, List.set_cons_succ]
            refine take_at 7 (some 32) (.bool false) rfl rfl (by kernel_rfl) (by kernel_rfl) (by kernel_rfl) (fun _ _ _ h => h) (Or.inl ⟨by rfl, fun w' hSw => ?_⟩) (e5) ?_
            · skip
              try clear hSw
              go_simp
              all_goals (with_reducible rfl)
            try simp only [Act.put, List.setIfInBounds_toArray, List.set_cons_zero, List.set_cons_succ]
            refine take_at 8 (some 33) undef rfl rfl (by kernel_rfl) (by kernel_rfl) (by kernel_rfl) (fun _ _ _ h => h) (Or.inr ⟨by rfl, rfl⟩) (e5) ?_
            try simp only [Act.put, List.setIfInBounds_toArray, List.set_cons_zero, List.set_cons_succ]
            refine take_at 9 (some 34) undef rfl rfl (by kernel_rfl) (by kernel_rfl) (by kernel_rfl) (fun _ _ _ h => h) (Or.inr ⟨by rfl, rfl⟩) (e5) ?_
            try simp only [Act.put, List.setIfInBounds_toArray, List.set_cons_zero, List.set_cons_succ]
            refine take_at 10 (some 35) undef rfl rfl (by kernel_rfl) (by kernel_rfl) (by kernel_rfl) (fun _ _ _ h => h) (Or.inr ⟨by rfl, rfl⟩) (e5) ?_
            try simp only [Act.put, List.setIfInBounds_toArray, List.set_cons_zero, List.set_cons_succ]
            refine take_at 11 (some 36) undef rfl rfl (by kernel_rfl) (by kernel_rfl) (by kernel_rfl) (fun _ _ _ h => h) (Or.inr ⟨by rfl, rfl⟩) (e5) ?_
            try simp only [Act.put, List.setIfInBounds_toArray, List.set_cons_zero, List.set_cons_succ]
            refine take_at 12 (some 37) undef rfl rfl (by kernel_rfl) (by kernel_rfl) (by kernel_rfl) (fun _ _ _ h => h) (Or.inr ⟨by rfl, rfl⟩) (e5) ?_
            try simp only [Act.put, List.setIfInBounds_toArray, List.set_cons_zero, List.set_cons_succ]
            refine take_at 13 (some 38) undef rfl rfl (by kernel_rfl) (by kernel_rfl) (by kernel_rfl) (fun _ _ _ h => h) (Or.inr ⟨by rfl, rfl⟩) (e5) ?_
            try simp only [Act.put, List.setIfInBounds_toArray, List.set_cons_zero, List.set_cons_succ]
            refine take_at 14 (some 39) undef rfl rfl (by kernel_rfl) (by kernel_rfl) (by kernel_rfl) (fun _ _ _ h => h) (Or.inr ⟨by rfl, rfl⟩) (e5) ?_
            try simp only [Act.put, List.setIfInBounds_toArray, List.set_cons_zero, List.set_cons_succ]
            refine take_at 15 (some 40) undef rfl rfl (by kernel_rfl) (by kernel_rfl) (by kernel_rfl) (fun _ _ _ h => h) (Or.inr ⟨by rfl, rfl⟩) (e5) ?_
            try simp only [Act.put, List.setIfInBounds_toArray, List.set_cons_zero, List.set_cons_succ]
            refine take_at 16 (some 41) undef rfl rfl (by kernel_rfl) (by kernel_rfl) (by kernel_rfl) (fun _ _ _ h => h) (Or.inr ⟨by rfl, rfl⟩) (e5) ?_
            try simp only [Act.put, List.setIfInBounds_toArray, List.set_cons_zero, List.set_cons_succ]
            refine take_at 17 (some 42) (.bool false) rfl rfl (by kernel_rfl) (by kernel_rfl) (by kernel_rfl) (fun _ _ _ h => h) (Or.inl ⟨by rfl, fun w' hSw => ?_⟩) (e5) ?_
            · skip
              try clear hSw
              go_simp
              all_goals (with_reducible rfl)
            try simp only [Act.put, List.setIfInBounds_toArray, List.set_cons_zero, List.set_cons_succ]
            refine wpAnyH_done (by kernel_rfl) ?_ _
            refine cut_normal ?_
            have EX := Lib.hid (HB.out.trans e5); clear e5
            go_wp2_with fail
            refine NoPanic.normal ?_
            go_wp2
            refine bodyPost_ret (v := .tuple #[.bool false, .int .i64 0]) (by simp [results, Try.results21, go_sem]) rfl ⟨false, 0, rfl, .inr ⟨HV.out, .inr ⟨rfl, rfl, by unfold chB; rw [HP.out, HQ.out]; rfl, rfl⟩⟩, EX.out⟩
          · have HQ := Lib.hid q; clear q
            refine take_at 6 (some 31) (.bool true) rfl rfl (by kernel_rfl) (by kernel_rfl) (by kernel_rfl) (fun _ _ _ h => h) (Or.inl ⟨by rfl, fun w' hSw => ?_⟩) (e5) ?_
            · skip
              try clear hSw
              go_simp
              all_goals (with_reducible rfl)
            try simp only [Act.put, List.setIfInBounds_toArray, List.set_cons_zero, List.set_cons_succ]
            refine take_at 7 (some 32) (.bool true) rfl rfl (by kernel_rfl) (by kernel_rfl) (by kernel_rfl) (fun _ _ _ h => h) (Or.inl ⟨by rfl, fun w' hSw => ?_⟩) (e5) ?_
            · skip
              try clear hSw
              go_simp
              all_goals (with_reducible rfl)
            try simp only [Act.put, List.setIfInBounds_toArray, List.set_cons_zero, List.set_cons_succ]
            refine take_at 8 (some 33) (.pointer (some ⟨W.heap.size, 1, none⟩)) rfl rfl (by kernel_rfl) (by kernel_rfl) (by kernel_rfl) (fun _ _ _ h => h) (Or.inl ⟨by rfl, fun w' hSw => ?_⟩) (e5) ?_
            · skip
              try clear hSw
              go_simp
              all_goals (with_reducible rfl)
            try simp only [Act.put, List.setIfInBounds_toArray, List.set_cons_zero, List.set_cons_succ]
            refine take_at 9 (some 34) (.slice A a.n c) rfl rfl (by kernel_rfl) (by kernel_rfl) (by kernel_rfl) (fun _ _ _ h => h) (Or.inl ⟨by rfl, fun w' hSw => ?_⟩) (e5) ?_
            · have z1 := keepAt hSw zz m1
              try clear hSw
              go_simp
              all_goals (with_reducible rfl)
            try simp only [Act.put, List.setIfInBounds_toArray, List.set_cons_zero, List.set_cons_succ]
            refine take_at 10 (some 35) (.slice A2 a.n c2) rfl rfl (by kernel_rfl) (by kernel_rfl) (by kernel_rfl) (fun _ _ _ h => h) (Or.inl ⟨by rfl, fun w' hSw => ?_⟩) (e5) ?_
            · skip
              try clear hSw
              go_simp
              all_goals (with_reducible rfl)
            try simp only [Act.put, List.setIfInBounds_toArray, List.set_cons_zero, List.set_cons_succ]
            refine take_at 12 (some 37) (.pointer (some ⟨W.heap.size, 1, none⟩)) rfl rfl (by kernel_rfl) (by kernel_rfl) (by kernel_rfl) (fun _ _ _ h => h) (Or.inl ⟨by rfl, fun w' hSw => ?_⟩) (e5) ?_
            · skip
              try clear hSw
              go_simp
              all_goals (with_reducible rfl)
            try simp only [Act.put, List.setIfInBounds_toArray, List.set_cons_zero, List.set_cons_succ]
            refine take_at 13 (some 38) (.slice A a.n c) rfl rfl (by kernel_rfl) (by kernel_rfl) (by kernel_rfl) (fun _ _ _ h => h) (Or.inl ⟨by rfl, fun w' hSw => ?_⟩) (e5) ?_
            · have z1 := keepAt hSw zz m1
              try clear hSw
              go_simp
              all_goals (with_reducible rfl)
            try simp only [Act.put, List.setIfInBounds_toArray, List.set_cons_zero, List.set_cons_succ]
            refine take_at 14 (some 39) (.slice A3 m c3) rfl rfl (by kernel_rfl) (by kernel_rfl) (by kernel_rfl) (fun _ _ _ h => h) (Or.inl ⟨by rfl, fun w' hSw => ?_⟩) (e5) ?_
            · skip
              try clear hSw
              go_simp
              all_goals (with_reducible rfl)
            try simp only [Act.put, List.setIfInBounds_toArray, List.set_cons_zero, List.set_cons_succ]
            refine wpAnyH_ready (rs := [11]) (by kernel_rfl) (by simp) ?_
            refine AllReadyH.cons rfl (fun K hK => ?_) AllReadyH.nil
            go_simp
            refine (surplus_any a m 0 1000000 f _ _ _ (HA.out.ext (HB.out.trans e5)) (Il.ext HF.out (HB.out.trans e5)) HO.out (by omega) (fun k hk => by have h8 := (isFlB_iff.1 HP.out).1 k hk; have h9 := HO.out.cM k hk; omega)).mono ?_
            rintro e v11 ⟨rfl, hb11⟩
            have e11 : Ext W1 v11 := (e5).trans hb11
            try go_wp2_with fail
            refine hK.out _ _ e11 (fun _ => ?_)
            clear hK K
            try simp only [Act.put, List.setIfInBounds_toArray, List.set_cons_zero, List.set_cons_succ]
            refine wpAnyH_ready (rs := [15]) (by kernel_rfl) (by simp) ?_
            refine AllReadyH.cons rfl (fun K hK => ?_) AllReadyH.nil
            go_simp
            refine (cost_any a m s _ _ _ (HA.out.ext (HB.out.trans e11)) (Bl.ext HS.out (HB.out.trans e11)) HO.out (by omega)).mono ?_
            rintro e v15 ⟨rfl, hb15⟩
            have e15 : Ext W1 v15 := (e11).trans hb15
            try go_wp2_with fail
            refine hK.out _ _ e15 (fun _ => ?_)
            clear hK K
            try simp only [Act.put, List.setIfInBounds_toArray, List.set_cons_zero, List.set_cons_succ]
            obtain ⟨x, hx⟩ : ∃ x, x = decide (a.nw.sp f 0 = a.nw.ct s) := ⟨_, rfl⟩
            refine take_at 16 (some 41) (.bool x) rfl rfl (by kernel_rfl) (by kernel_rfl) (by kernel_rfl) (fun _ _ _ h => h) (Or.inl ⟨by rfl, fun w' hSw => ?_⟩) (e15) ?_
            · skip
              try clear hSw
              go_simp
              all_goals (first | exact Bool.eq_iff_iff.2 (by simp) | (rw [hx]; exact Bool.eq_iff_iff.2 (by simp)) | (with_reducible rfl))
            try simp only [Act.put, List.setIfInBounds_toArray, List.set_cons_zero, List.set_cons_succ]
            refine take_at 17 (some 42) (.bool x) rfl rfl (by kernel_rfl) (by kernel_rfl) (by kernel_rfl) (fun _ _ _ h => h) (Or.inl ⟨by rfl, fun w' hSw => ?_⟩) (e15) ?_
            · skip
              try clear hSw
              go_simp
              all_goals (with_reducible rfl)
            try simp only [Act.put, List.setIfInBounds_toArray, List.set_cons_zero, List.set_cons_succ]
            refine wpAnyH_done (by kernel_rfl) ?_ _
            refine cut_normal ?_
            have EX := Lib.hid (HB.out.trans e15); clear e15
            go_wp2_with fail
            refine NoPanic.normal ?_
            go_wp2
            refine bodyPost_ret (v := .tuple #[.bool x, .int .i64 0]) (by simp [results, Try.results21, go_sem]) rfl ⟨x, 0, rfl, .inr ⟨HV.out, .inr ⟨rfl, rfl, by unfold chB; rw [HP.out, HQ.out, hx]; rfl, rfl⟩⟩, EX.out⟩
      · have h3 : ¬ (ns : Int) = m := by omega
        have h4 : ((ns : Int) != m) = true := by simp; omega
        subst h1
        go_wp2
        refine bodyPost_ret (v := .tuple #[.bool false, .int .i64 3]) (by simp [results, Try.results21, go_sem]) rfl ⟨false, 3, rfl, .inr ⟨HV.out, .inl ⟨.inr h3, rfl, rfl⟩⟩, HB.out⟩
    · have h3 : ((nf : Int) != a.n) = true := by simp; omega
      go_wp2
      refine bodyPost_ret (v := .tuple #[.bool false, .int .i64 3]) (by simp [results, Try.results21, go_sem]) rfl ⟨false, 3, rfl, .inr ⟨HV.out, .inl ⟨.inl h1, rfl, rfl⟩⟩, HB.out⟩
end Go.Proofs.Ytilcbbdmenknfaa
