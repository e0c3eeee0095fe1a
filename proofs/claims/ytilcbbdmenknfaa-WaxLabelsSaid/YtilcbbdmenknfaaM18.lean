/- The law WaxModular. · Walks: the reference's ends. -/
import Derived.Test.YtilcbbdmenknfaaM14
import Derived.Test.YtilcbbdmenknfaaM17
import Derived.Test.YtilcbbdmenknfaaM16
namespace Go.Proofs.Ytilcbbdmenknfaa
open Go.RowKit

/-- is the labelling's energy defined? -/
def okE (c : Cl) (ri : Int) (n : Nat) : Bool := vCl c && bw ri (-10000) 10000 && decide (n = c.nb)
theorem energyS (c : Cl) (ri : Int) (n : Nat) (l : Nat → Bool) (V LV : Value) (W : World) (hV : Kl W V c) (hL : Bl W LV n l) :
    Calls Try.prog 38 #[V, .int .i64 ri, LV] W fun e W' => ∃ (v er : Int), e = .returned (.tuple #[.int .i64 v, .int .i64 er]) ∧ Ext W W' ∧
      ((okE c ri n = false ∧ er ≠ 0) ∨ (okE c ri n = true ∧ er = 0 ∧ v = c.en ri l)) := by
  refine (energy_any c ri n l V LV W hV hL).mono ?_
  rintro e w ⟨v, er, rfl, hx, h | h | h⟩
  · exact ⟨v, er, rfl, hx, .inl ⟨by unfold okE; rw [h.1]; rfl, by rw [h.2.2]; decide⟩⟩
  · exact ⟨v, er, rfl, hx, .inl ⟨by unfold okE; rw [h.1, decide_eq_false h.2.1]; rfl, by rw [h.2.2.2]; decide⟩⟩
  · exact ⟨v, er, rfl, hx, .inr ⟨by unfold okE; rw [h.1, decide_eq_true h.2.1]; rfl, h.2.2.1, h.2.2.2⟩⟩
theorem okE_ok {c : Cl} {ri : Int} {n : Nat} (h : okE c ri n = true) : vCl c = true ∧ (-10000 ≤ ri ∧ ri ≤ 10000) ∧ n = c.nb := by
  unfold okE at h
  rw [Bool.and_eq_true, Bool.and_eq_true, bw_iff, decide_eq_true_iff] at h
  exact ⟨h.1.1, h.1.2, h.2⟩
theorem en_bd {c : Cl} {ri : Int} (hc : vCl c = true) (h1 : -10000 ≤ ri) (h2 : ri ≤ 10000) (l : Nat → Bool) : -2000000 ≤ c.en ri l ∧ c.en ri l ≤ 2000000 := by
  obtain ⟨⟨v1, v2⟩, ⟨v3, v4⟩, ⟨v5, v6⟩, ⟨v7, v8⟩, ⟨v9, -⟩, ⟨v11, -⟩⟩ := vCl_ok hc
  have hnb36 : c.nb ≤ 36 := by have h1 := (side_prod (show 0 ≤ c.w by omega) v2 (show 0 ≤ c.h by omega) v4).2; omega
  have hnr30 : c.nr ≤ 30 := by have h1 := (side_prod (show 0 ≤ c.w - 1 by omega) (show c.w - 1 ≤ 5 by omega) (show 0 ≤ c.h by omega) v4).2; omega
  have hnd30 : c.nd ≤ 30 := by have h1 := (side_prod (show 0 ≤ c.w by omega) v2 (show 0 ≤ c.h - 1 by omega) (show c.h - 1 ≤ 5 by omega)).2; omega
  have hprn : c.prs.n ≤ 60 := by show c.nr + c.nd ≤ 60; omega
  have a1 := sm_abs (n := c.nb) (f := c.dt ri l) (fun k hk => by
    have h5 := v6 k hk; have h6 := v8 k (by omega)
    unfold Cl.dt
    split <;> omega)
  have a2 := sm_abs (n := c.prs.n) (f := c.pt l) (fun k hk => by
    obtain ⟨u, v, -, -, -, -, h5, h6⟩ := prs_in hc hk
    unfold Cl.pt
    split <;> omega)
  unfold Cl.en
  omega
theorem bool_news (w : World) (z : Bool) : ∀ j u, [Value.bool z][j]? = some u → (w.alloc (.cells #[.bool z] 4)).cell? ((⟨w.heap.size, 0, none⟩ : Addr).add j) = some u := by
  intro j u hj
  match j, hj with
  | 0, hj =>
    simp at hj
    subst hj
    rw [Addr.add_lit, World.cell?_alloc_new]
    rfl
  | j + 1, hj => simp at hj
theorem bool_one (z : Bool) : ∀ u ∈ [Value.bool z], u.oneCell' = true := by
  intro u hu
  simp at hu
  subst hu
  rfl
theorem own_shape {w : World} {base : Nat} {e : TypeId} {size n : Nat} {v : Value} {xs : List Value} (h : w.ownsRow base e size v n xs) : ∃ A m c, v = .slice A m c := by
  obtain ⟨-, ⟨rfl, -⟩ | ⟨g, cap, cur, rfl, -⟩⟩ := h
  · exact ⟨_, _, _, rfl⟩
  · exact ⟨_, _, _, rfl⟩

set_option maxHeartbeats 4000000 in
set_option maxRecDepth 100000 in
theorem waxModular_walk (c : Cl) (ri : Int) (na nb : Nat) (S T : Nat → Bool) (V LA LB : Value) (W : World) (hV : Kl W V c) (hA : Bl W LA na S) (hB : Bl W LB nb T) :
    Calls Try.prog 13 #[V, .int .i64 ri, LA, LB] W fun e W' => e = .returned (.bool true) ∧ Ext W W' := by
  have HV := Lib.hid hV; have HA := Lib.hid hA; have HBB := Lib.hid hB
  obtain ⟨A1, cLa, rfl, hc1, hd1, -⟩ := hA
  obtain ⟨A2, cLb, rfl, hc2, hd2, -⟩ := hB
  obtain ⟨B, X, R, D, rfl, -, -, -, -⟩ := hV
  obtain ⟨w, hw⟩ : ∃ w, w = c.w := ⟨_, rfl⟩
  obtain ⟨h, hh⟩ : ∃ h, h = c.h := ⟨_, rfl⟩
  rw [← hw, ← hh] at HV ⊢
  clear hw hh
  obtain ⟨C, hC⟩ : ∃ C, C = c.cut := ⟨_, rfl⟩
  have hcl : ∀ X1, Ext W X1 → Calls Try.prog 39 #[.agg #[.int .i64 w, .int .i64 h, B, X, R, D]] X1 fun e W' => ∃ U, e = .returned U ∧ Kl W' U C ∧ Ext X1 W' := fun X1 hX1 => by
    rw [hC]; exact cloth_any c _ X1 (HV.out.ext hX1)
  have HCL := Lib.hid hcl
  clear hcl hC
  go_enter Try.func13, Try.ntmps13
  go_upto_region 1 with fail
  have bb := al1 W (.cells #[.int .i64 w, .int .i64 h, B, X, R, D] 68)
  obtain ⟨m0, m1, m2, m3, m4, m5, mz, -⟩ := six (heap_alloc_new W (.cells #[.int .i64 w, .int .i64 h, B, X, R, D] 68))
  generalize W.alloc (.cells #[.int .i64 w, .int .i64 h, B, X, R, D] 68) = W1 at *
  have HB : Hid (Ext W W1) := Lib.hid bb
  have HM := Lib.hid (And.intro m0 (And.intro m1 (And.intro m2 (And.intro m3 (And.intro m4 m5)))))
  clear bb
  go_wp2_with fail
  refine (HCL.out _ HB.out).mono ?_
  clear m0 m1 m2 m3 m4 m5
  rintro e w1a ⟨U1, rfl, hk, hx⟩
  have HK1 := Lib.hid hk
  have HY1 : Hid (Ext W1 w1a) := Lib.hid hx
  clear hk hx
  go_wp2_with fail
  refine (energyS C ri na S U1 _ _ HK1.out (HA.out.ext (HB.out.trans HY1.out))).mono ?_
  rintro e w1 ⟨v1, e1, rfl, hx, h1⟩
  have HX1 : Hid (Ext W1 w1) := Lib.hid (HY1.out.trans hx)
  clear hx
  have HE1 := Lib.hid h1
  clear h1 HY1 HK1
  have m0 := keepAt HX1.out mz HM.out.1
  have m1 := keepAt HX1.out mz HM.out.2.1
  have m2 := keepAt HX1.out mz HM.out.2.2.1
  have m3 := keepAt HX1.out mz HM.out.2.2.2.1
  have m4 := keepAt HX1.out mz HM.out.2.2.2.2.1
  have m5 := keepAt HX1.out mz HM.out.2.2.2.2.2
  go_wp2_with fail
  refine (HCL.out _ (HB.out.trans HX1.out)).mono ?_
  clear m0 m1 m2 m3 m4 m5
  rintro e w2a ⟨U2, rfl, hk, hx⟩
  have HK2 := Lib.hid hk
  have HY2 : Hid (Ext W1 w2a) := Lib.hid (HX1.out.trans hx)
  clear hk hx
  go_wp2_with fail
  refine (energyS C ri nb T U2 _ _ HK2.out (HBB.out.ext (HB.out.trans HY2.out))).mono ?_
  rintro e w2 ⟨v2, e2, rfl, hx, h2⟩
  have HX2 : Hid (Ext W1 w2) := Lib.hid (HY2.out.trans hx)
  clear hx
  have HE2 := Lib.hid h2
  clear h2 HY2 HK2
  obtain ⟨o1, z1⟩ | ⟨o1, rfl, rfl⟩ := HE1.out
  · clear o1
    have z1b : (e1 == 0) = false := by simp; exact z1
    have z1c : (e1 != 0) = true := by simp; exact z1
    go_wp2_with fail
    refine (awake_any _).mono ?_
    rintro e w9 ⟨rfl, hx⟩
    have EF : Hid (Ext W w9) := Lib.hid (HB.out.trans (HX2.out.trans hx)); clear hx
    go_wp2
    go_ret
    exact ⟨rfl, EF.out⟩
  · obtain ⟨o2, z2⟩ | ⟨o2, rfl, rfl⟩ := HE2.out
    · clear o1 o2
      have z2b : (e2 == 0) = false := by simp; exact z2
      have z2c : (e2 != 0) = true := by simp; exact z2
      go_wp2_with fail
      refine (awake_any _).mono ?_
      rintro e w9 ⟨rfl, hx⟩
      have EF : Hid (Ext W w9) := Lib.hid (HB.out.trans (HX2.out.trans hx)); clear hx
      go_wp2
      go_ret
      exact ⟨rfl, EF.out⟩
    · obtain ⟨k1, ⟨k2, k3⟩, k4⟩ := okE_ok o1
      have k5 := (okE_ok o2).2.2
      have hnab : na = nb := by rw [k4, k5]
      obtain ⟨d1, d2⟩ := en_bd k1 k2 k3 S
      obtain ⟨d3, d4⟩ := en_bd k1 k2 k3 T
      have hnb36 : na ≤ 36 := by
        obtain ⟨⟨q1, q2⟩, ⟨q3, q4⟩, ⟨q5, -⟩, -⟩ := vCl_ok k1
        have h1 := (side_prod (show 0 ≤ C.w by omega) q2 (show 0 ≤ C.h by omega) q4).2
        omega
      obtain ⟨both, hboth⟩ : ∃ f : Nat → Bool, f = fun u => S u && T u := ⟨_, rfl⟩
      obtain ⟨some_, hsome⟩ : ∃ f : Nat → Bool, f = fun u => S u || T u := ⟨_, rfl⟩
      have hsub := en_sub k1 ri S T
      rw [← hboth, ← hsome] at hsub
      have HB1 : Hid ((∀ u, both u = (S u && T u)) ∧ ∀ u, some_ u = (S u || T u)) := Lib.hid ⟨fun u => by rw [hboth], fun u => by rw [hsome]⟩
      obtain ⟨d5, d6⟩ := en_bd k1 k2 k3 both
      obtain ⟨d7, d8⟩ := en_bd k1 k2 k3 some_
      obtain ⟨xS, hxS⟩ : ∃ x, x = C.en ri S := ⟨_, rfl⟩
      obtain ⟨xT, hxT⟩ : ∃ x, x = C.en ri T := ⟨_, rfl⟩
      obtain ⟨xB, hxB⟩ : ∃ x, x = C.en ri both := ⟨_, rfl⟩
      obtain ⟨xO, hxO⟩ : ∃ x, x = C.en ri some_ := ⟨_, rfl⟩
      rw [← hxS, ← hxT, ← hxB, ← hxO] at hsub
      rw [← hxS] at d1 d2 ⊢
      rw [← hxT] at d3 d4 ⊢
      rw [← hxB] at d5 d6
      rw [← hxO] at d7 d8
      have HXX := Lib.hid (And.intro hxB hxO)
      have HOK := Lib.hid o1
      have HSUB := Lib.hid hsub
      subst hnab
      clear o1 o2 k1 k2 k3 k4 k5 hboth hsome hxS hxT hxB hxO hsub HE1 HE2
      obtain ⟨i0, hi, hz0, hz1, hz2⟩ := info_parts info4
      have HI := Lib.hid (And.intro hi (And.intro hz0 (And.intro hz1 hz2)))
      clear hi hz0 hz1 hz2
      go_wp2_with fail
      go_loopw [13, 14, 59] (fun qa qb i wr => ∃ k : Nat, i = .int .i64 k ∧ k ≤ na ∧ Hid (Tw wr w2.heap.size qa qb k k both some_ ∧ Ext w2 wr)) (fun _ _ i _ => na - (intOf i).toNat)
      case atStart => exact ⟨0, rfl, Nat.zero_le _, Lib.hid ⟨Tw.nil w2 _ _, Ext.refl _⟩⟩
      case round =>
        obtain ⟨k, rfl, hk, hin⟩ := hrel
        obtain ⟨qa, rfl⟩ : ∃ q, q = u13 := ⟨_, rfl⟩
        obtain ⟨qb, rfl⟩ : ∃ q, q = u14 := ⟨_, rfl⟩
        by_cases hlt : k < na
        · obtain ⟨b1, o1_, rfl, -, cpk⟩ := Vl.at HA.out (HB.out.trans (HX2.out.trans hin.out.2)) hlt
          obtain ⟨b2, o2_, rfl, -, cqk⟩ := Vl.at HBB.out (HB.out.trans (HX2.out.trans hin.out.2)) hlt
          obtain ⟨x, hx⟩ : ∃ x, x = S k := ⟨_, rfl⟩
          obtain ⟨y, hy⟩ : ∃ y, y = T k := ⟨_, rfl⟩
          rw [← hx] at cpk
          rw [← hy] at cqk
          have HXY := Lib.hid (And.intro hx hy)
          clear hx hy
          cases x
          · have HT : Hid (Tw (wr.alloc (.cells #[.bool false] 4)) w2.heap.size qa qb k k both some_) := Lib.hid (hin.out.1.ext (Ext.alc (Ext.refl wr) _))
            have HSZ : Hid (w2.heap.size ≤ wr.heap.size) := Lib.hid hin.out.1.le
            have hqa := own_shape HT.out.fst
            obtain ⟨Aa, na_, ca, rfl⟩ := hqa
            have hqb := own_shape HT.out.snd
            obtain ⟨Ab, nb_, cb, rfl⟩ := hqb
            go_wp2_with (at_builtin; refine wpList_append_own_at _ rfl _ _ 40 rfl w2.heap.size 4 i0 (.bool false) 1 1 Try.underlying40 HI.out.1 HI.out.2.1 HI.out.2.2.1 HI.out.2.2.2 rfl (by decide) _ k _ rfl HT.out.fst ⟨wr.heap.size, 0, none⟩ 1 1 [.bool false] rfl rfl (bool_news _ false) (bool_one false) ?qc3 ?qc4 ?qc5 ?_)
            case qc3 => unfold maxLen; omega
            case qc4 => omega
            case qc5 => have := HSZ.out; simp; omega
            intro v1 x1 o1 g1 _n1 a1
            clear _n1
            have hone := HT.out.one (z := false) (by rw [HB1.out.1, ← HXY.out.1]; rfl) o1 g1 (by simpa using a1)
            have HT1 : Hid (Tw (x1.alloc (.cells #[.bool y] 4)) w2.heap.size (.slice Ab nb_ cb) v1 k (k + 1) some_ both) := Lib.hid (hone.1.symm.ext (Ext.alc (Ext.refl x1) _))
            have HE1 : Hid (Ext w2 (x1.alloc (.cells #[.bool y] 4)) ∧ Ext w2 x1) := Lib.hid ⟨Ext.alc (hone.2 w2 (Ext.alc hin.out.2 _) (Nat.le_refl _)) _, hone.2 w2 (Ext.alc hin.out.2 _) (Nat.le_refl _)⟩
            clear HSZ
            have HSZ : Hid (w2.heap.size ≤ x1.heap.size) := Lib.hid hone.1.le
            obtain ⟨b3, o3, e3, -, cq1⟩ := Vl.at HBB.out (HB.out.trans (HX2.out.trans HE1.out.2)) hlt
            injection e3 with e3
            injection e3 with e3 e4
            subst e3 e4
            rw [← HXY.out.2] at cq1
            clear o1 g1 a1 hone
            go_wp2_with (at_builtin; refine wpList_append_own_at _ rfl _ _ 40 rfl w2.heap.size 4 i0 (.bool false) 1 1 Try.underlying40 HI.out.1 HI.out.2.1 HI.out.2.2.1 HI.out.2.2.2 rfl (by decide) _ k _ rfl HT1.out.fst ⟨x1.heap.size, 0, none⟩ 1 1 [.bool y] rfl rfl (bool_news _ y) (bool_one y) ?qc3 ?qc4 ?qc5 ?_)
            case qc3 => unfold maxLen; omega
            case qc4 => omega
            case qc5 => have := HSZ.out; simp; omega
            intro v2 x2 o2 g2 _n2 a2
            clear _n2
            have hone := HT1.out.one (z := y) (by rw [HB1.out.2, ← HXY.out.1, ← HXY.out.2]; rfl) o2 g2 (by simpa using a2)
            have HT2 := Lib.hid (And.intro hone.1.symm (hone.2 w2 HE1.out.1 (Nat.le_refl _)))
            clear o2 g2 a2 hone cq1
            go_wp2
            go_roundw
            case rel => exact ⟨k + 1, by go_num, by omega, HT2⟩
            case measure => simp [intOf]; omega
          · have HT : Hid (Tw (wr.alloc (.cells #[.bool y] 4)) w2.heap.size qa qb k k both some_) := Lib.hid (hin.out.1.ext (Ext.alc (Ext.refl wr) _))
            have HSZ : Hid (w2.heap.size ≤ wr.heap.size) := Lib.hid hin.out.1.le
            have hqa := own_shape HT.out.fst
            obtain ⟨Aa, na_, ca, rfl⟩ := hqa
            have hqb := own_shape HT.out.snd
            obtain ⟨Ab, nb_, cb, rfl⟩ := hqb
            go_wp2_with (at_builtin; refine wpList_append_own_at _ rfl _ _ 40 rfl w2.heap.size 4 i0 (.bool false) 1 1 Try.underlying40 HI.out.1 HI.out.2.1 HI.out.2.2.1 HI.out.2.2.2 rfl (by decide) _ k _ rfl HT.out.fst ⟨wr.heap.size, 0, none⟩ 1 1 [.bool y] rfl rfl (bool_news _ y) (bool_one y) ?qc3 ?qc4 ?qc5 ?_)
            case qc3 => unfold maxLen; omega
            case qc4 => omega
            case qc5 => have := HSZ.out; simp; omega
            intro v1 x1 o1 g1 _n1 a1
            clear _n1
            have hone := HT.out.one (z := y) (by rw [HB1.out.1, ← HXY.out.1, ← HXY.out.2]; rfl) o1 g1 (by simpa using a1)
            have HT1 : Hid (Tw (x1.alloc (.cells #[.bool true] 4)) w2.heap.size (.slice Ab nb_ cb) v1 k (k + 1) some_ both) := Lib.hid (hone.1.symm.ext (Ext.alc (Ext.refl x1) _))
            have HE1 : Hid (Ext w2 (x1.alloc (.cells #[.bool true] 4)) ∧ Ext w2 x1) := Lib.hid ⟨Ext.alc (hone.2 w2 (Ext.alc hin.out.2 _) (Nat.le_refl _)) _, hone.2 w2 (Ext.alc hin.out.2 _) (Nat.le_refl _)⟩
            clear HSZ
            have HSZ : Hid (w2.heap.size ≤ x1.heap.size) := Lib.hid hone.1.le
            obtain ⟨b3, o3, e3, -, cq1⟩ := Vl.at HBB.out (HB.out.trans (HX2.out.trans HE1.out.2)) hlt
            injection e3 with e3
            injection e3 with e3 e4
            subst e3 e4
            rw [← HXY.out.2] at cq1
            clear o1 g1 a1 hone
            go_wp2_with (at_builtin; refine wpList_append_own_at _ rfl _ _ 40 rfl w2.heap.size 4 i0 (.bool false) 1 1 Try.underlying40 HI.out.1 HI.out.2.1 HI.out.2.2.1 HI.out.2.2.2 rfl (by decide) _ k _ rfl HT1.out.fst ⟨x1.heap.size, 0, none⟩ 1 1 [.bool true] rfl rfl (bool_news _ true) (bool_one true) ?qc3 ?qc4 ?qc5 ?_)
            case qc3 => unfold maxLen; omega
            case qc4 => omega
            case qc5 => have := HSZ.out; simp; omega
            intro v2 x2 o2 g2 _n2 a2
            clear _n2
            have hone := HT1.out.one (z := true) (by rw [HB1.out.2, ← HXY.out.1]; rfl) o2 g2 (by simpa using a2)
            have HT2 := Lib.hid (And.intro hone.1.symm (hone.2 w2 HE1.out.1 (Nat.le_refl _)))
            clear o2 g2 a2 hone cq1
            go_wp2
            go_roundw
            case rel => exact ⟨k + 1, by go_num, by omega, HT2⟩
            case measure => simp [intOf]; omega
        · have hT := hin.out.1
          obtain rfl : na = k := by omega
          have hnl : ¬ (na : Int) < na := by omega
          obtain ⟨wo, rfl⟩ : ∃ w, w = wr := ⟨_, rfl⟩
          have hqa := own_shape hT.fst
          have hqb := own_shape hT.snd
          have HQA := Lib.hid (And.intro (ownsRow_bl hT.fst) (ownsRow_bl hT.snd))
          have HXO : Hid (Ext W1 wo) := Lib.hid (HX2.out.trans hin.out.2)
          obtain ⟨Aa, na_, ca, rfl⟩ := hqa
          obtain ⟨Ab, nb_, cb, rfl⟩ := hqb
          clear hT hin
          have m0 := keepAt HXO.out mz HM.out.1
          have m1 := keepAt HXO.out mz HM.out.2.1
          have m2 := keepAt HXO.out mz HM.out.2.2.1
          have m3 := keepAt HXO.out mz HM.out.2.2.2.1
          have m4 := keepAt HXO.out mz HM.out.2.2.2.2.1
          have m5 := keepAt HXO.out mz HM.out.2.2.2.2.2
          go_wp2_with fail
          refine (HCL.out _ (HB.out.trans HXO.out)).mono ?_
          clear m0 m1 m2 m3 m4 m5
          rintro e w3a ⟨U3, rfl, hk, hx⟩
          have HK3 := Lib.hid hk
          have HY3 : Hid (Ext W1 w3a ∧ Ext wo w3a) := Lib.hid ⟨HXO.out.trans hx, hx⟩
          clear hk hx
          go_wp2_with fail
          refine (energyS C ri na both U3 _ _ HK3.out (HQA.out.1.ext HY3.out.2)).mono ?_
          rintro e w3 ⟨v3, e3, rfl, hx, h3⟩
          have HX3 : Hid (Ext W1 w3) := Lib.hid (HY3.out.1.trans hx)
          have HZ3 : Hid (Ext wo w3) := Lib.hid (HY3.out.2.trans hx)
          clear hx
          rcases h3 with ⟨o1, -⟩ | ⟨-, rfl, rfl⟩
          · rw [HOK.out] at o1; cases o1
          rw [← HXX.out.1]
          have m0 := keepAt HX3.out mz HM.out.1
          have m1 := keepAt HX3.out mz HM.out.2.1
          have m2 := keepAt HX3.out mz HM.out.2.2.1
          have m3 := keepAt HX3.out mz HM.out.2.2.2.1
          have m4 := keepAt HX3.out mz HM.out.2.2.2.2.1
          have m5 := keepAt HX3.out mz HM.out.2.2.2.2.2
          go_wp2_with fail
          refine (HCL.out _ (HB.out.trans HX3.out)).mono ?_
          clear m0 m1 m2 m3 m4 m5
          rintro e w4a ⟨U4, rfl, hk, hx⟩
          have HK4 := Lib.hid hk
          have HY4 : Hid (Ext W1 w4a ∧ Ext wo w4a) := Lib.hid ⟨HX3.out.trans hx, HZ3.out.trans hx⟩
          clear hk hx
          go_wp2_with fail
          refine (energyS C ri na some_ U4 _ _ HK4.out (HQA.out.2.ext HY4.out.2)).mono ?_
          rintro e w4 ⟨v4, e4, rfl, hx, h4⟩
          have HX4 : Hid (Ext W1 w4) := Lib.hid (HY4.out.1.trans hx)
          have HZ4 : Hid (Ext wo w4) := Lib.hid (HY4.out.2.trans hx)
          clear hx
          rcases h4 with ⟨o1, -⟩ | ⟨-, rfl, rfl⟩
          · rw [HOK.out] at o1; cases o1
          rw [← HXX.out.2]
          have hle := HSUB.out
          go_wp2_with fail
          refine (awake_any _).mono ?_
          rintro e w9 ⟨rfl, hx⟩
          have EF : Hid (Ext W w9) := Lib.hid (HB.out.trans (HX4.out.trans hx)); clear hx
          go_wp2
          go_ret
          exact ⟨rfl, EF.out⟩
end Go.Proofs.Ytilcbbdmenknfaa
namespace Go.Proofs.Ytilcbbdmenknfaa
open Go.RowKit

/-- what s reaches when the flow is greatest is the least side .. -/
theorem Rm.lst {G : Nw} {N s t : Nat} {c y : Nat → Nat → Int} {T : Int} {R : Nat → Bool} {la rk : Nat → Nat} (hc : ∀ S, Nw.Sd s t S → rc N c S = G.ct S) (h : Rm N s t c y T) (hw : Wm N s y R la rk) (hR : R t = false) : Lst G N s t R := by
  have hsd : Nw.Sd s t R := ⟨hw.root, hR⟩
  have hT := (h.tight hsd).2 hw.closed
  have hms : Ms G s t R := ⟨hsd, fun S hS => by rw [← hc R hsd, ← hc S hS, hT]; exact h.weak hS⟩
  refine ⟨hms, fun S hS v hv hRv => ?_⟩
  have h1 : rc N c S = T := by
    have a := h.weak hS.sd
    have b := hS.le R hsd
    rw [← hc S hS.sd, ← hc R hsd] at b
    omega
  exact hw.least hS.sd.1 ((h.tight hS.sd).1 h1) v hv hRv
/-- .. and what does not reach t the greatest -/
theorem Rm.gst {G : Nw} {N s t : Nat} {c y : Nat → Nat → Int} {T : Int} {R Q : Nat → Bool} {la rk la2 rk2 : Nat → Nat} (hs : s < N) (hc : ∀ S, Nw.Sd s t S → rc N c S = G.ct S) (h : Rm N s t c y T) (hw : Wm N s y R la rk) (hR : R t = false) (hq : Wm N t (fun i j => y j i) Q la2 rk2) :
    Gst G N s t (fun v => !Q v) := by
  have hsd : Nw.Sd s t R := ⟨hw.root, hR⟩
  have hT := (h.tight hsd).2 hw.closed
  have key : ∀ S, Nw.Sd s t S → Clm N y S → ∀ v, v < N → Q v = true → S v = false := by
    intro S hS hC v hv hQ
    have := hq.least (S := fun v => !S v) (by simp [hS.2]) (fun i j hi hj hp hSi => by
      simp at hSi ⊢
      cases e : S j
      · rfl
      · have := hC j i hj hi hp e
        rw [hSi] at this; cases this) v hv hQ
    simpa using this
  have hQs : Q s = false := by
    cases e : Q s
    · rfl
    · have := key R hsd hw.closed s hs e
      rw [hw.root] at this; cases this
  have hsd2 : Nw.Sd s t (fun v => !Q v) := ⟨by simp [hQs], by simp [hq.root]⟩
  have hcl : Clm N y (fun v => !Q v) := fun i j hi hj hp hSi => by
    simp at hSi ⊢
    cases e : Q j
    · rfl
    · have := hq.closed j i hj hi hp e
      rw [hSi] at this; cases this
  have hT2 := (h.tight hsd2).2 hcl
  refine ⟨⟨hsd2, fun S hS => by rw [← hc _ hsd2, ← hc S hS, hT2]; exact h.weak hS⟩, fun S hS v hv hSv => ?_⟩
  have h1 : rc N c S = T := by
    have a := h.weak hS.sd
    have b := hS.le R hsd
    rw [← hc S hS.sd, ← hc R hsd] at b
    omega
  cases e : Q v
  · simp [e]
  · have := key S hS.sd ((h.tight hS.sd).1 h1) v hv e
    rw [hSv] at this; cases this
theorem Gd.far2 {w : World} {b N : Nat} {y : Nat → Nat → Int} (h : Gd w b N y) {p : Addr} (h1 : b < p.block) (h2 : ∀ i, i < N → b + 1 + i < p.block) (v : Value) : Gd (w.setCell p v) b N y :=
  ⟨Bk.far h.top (by omega) _, fun i hi => Bk.far (h.row i hi) (by have := h2 i hi; omega) _⟩

set_option maxHeartbeats 4000000 in
set_option maxRecDepth 100000 in
theorem ends_any (b N s t : Nat) (c : Nat → Nat → Int) (B : Int) (W0 W : World) (hG : Gd W b N c) (hN : N ≤ 100) (hs : s < N) (ht : t < N) (hst : s ≠ t)
    (hB : ∀ i j, i < N → j < N → 0 ≤ c i j ∧ c i j ≤ B) (hB0 : 0 ≤ B) (hB2 : B ≤ 10000000000000) (h0 : Ext W0 W) (hb : W0.heap.size ≤ b) :
    Calls Try.prog 59 #[.slice (some ⟨b, 0, none⟩) N N, .int .i64 s, .int .i64 t] W fun e W' => ∃ (F G : Value) (T : Int) (y : Nat → Nat → Int) (R Q : Nat → Bool) (la rk la2 rk2 : Nat → Nat),
      e = .returned (.tuple #[F, G]) ∧ Rm N s t c y T ∧ Wm N s y R la rk ∧ R t = false ∧ Wm N t (fun i j => y j i) Q la2 rk2 ∧ Bl W' F N R ∧ Bl W' G N (fun v => !Q v) ∧ Ext W0 W' := by
  have hm1 : ∀ w, (Instr.makeSlice 91 (.int .i64 (N : Int)) (.int .i64 (N : Int))).run Try.prog w = .ok (.slice (some ⟨w.heap.size, 0, none⟩) N N) (w.alloc (.cells (Array.ofFn fun _ : Fin N => .slice none 0 0) 33)) := fun w => make_one 91 33 _ 24 Try.underlying91 info33 rfl (by omega) N (by omega) w
  have hm2 : ∀ w, (Instr.makeSlice 33 (.int .i64 (N : Int)) (.int .i64 (N : Int))).run Try.prog w = .ok (.slice (some ⟨w.heap.size, 0, none⟩) N N) (w.alloc (.cells (Array.ofFn fun _ : Fin N => .int .i64 0) 3)) := fun w => make_one 33 3 _ 8 Try.underlying33 info3 rfl (by omega) N (by omega) w
  have HG := Lib.hid hG; have H0 := Lib.hid h0; have HB := Lib.hid hB
  clear hG h0 hB
  go_enter Try.func59, Try.ntmps59
  go_wp2_with fail
  refine (greatestR_any b N s t c B W0 _ HG.out hN hs ht hst HB.out hB0 hB2 H0.out hb).mono ?_
  rintro e w1 ⟨T, y, R, la, rk, rfl, hgd, hrm, hwm, hR, hx⟩
  have HGD := Lib.hid hgd; have HRM := Lib.hid (And.intro hrm (And.intro hwm hR)); have HX := Lib.hid hx
  clear hgd hrm hwm hR hx H0 HG HB
  go_wp2_with fail
  obtain ⟨b2, hb2⟩ : ∃ b2, b2 = w1.heap.size := ⟨_, rfl⟩
  have hrow : ∀ i, i < N → b + 1 + i < b2 := fun i hi => by rw [hb2]; exact HGD.out.lt hi
  have hbb2 : b < b2 := by rw [hb2]; exact Bk.lt HGD.out.top
  have y1 : Bk (w1.alloc (.cells (Array.ofFn fun _ : Fin N => Value.slice none 0 0) 33)) b2 33 N (fun _ => .slice none 0 0) := by rw [hb2]; exact heap_alloc_new w1 _
  have e1 : Ext w1 (w1.alloc (.cells (Array.ofFn fun _ : Fin N => Value.slice none 0 0) 33)) := Ext.alc (Ext.refl _) _
  have z1 : (w1.alloc (.cells (Array.ofFn fun _ : Fin N => Value.slice none 0 0) 33)).heap.size = b2 + 1 := by rw [hb2]; simp
  have HROW := Lib.hid hrow
  have HY := Lib.hid (And.intro y1 (And.intro z1 (And.intro (HGD.out.ext e1) (HX.out.trans e1))))
  rw [← hb2]
  clear y1 e1 z1 hrow hb2 HGD HX
  generalize w1.alloc (.cells (Array.ofFn fun _ : Fin N => Value.slice none 0 0) 33) = w2 at *
  go_loopw [25] (fun i wr => ∃ k : Nat, i = .int .i64 k ∧ k ≤ N ∧ Hid (Bk wr b2 33 N (fun v => if v < k then .slice (some ⟨b2 + 1 + v, 0, none⟩) N N else .slice none 0 0) ∧ wr.heap.size = b2 + 1 + k ∧ (∀ v, v < k → BI wr (b2 + 1 + v) N (fun j => y j v)) ∧ Gd wr b N y ∧ Ext W0 wr)) (fun i _ => N - (intOf i).toNat)
  case atStart => exact ⟨0, rfl, Nat.zero_le _, Lib.hid ⟨Bk.congr HY.out.1 (fun j _ => by simp), HY.out.2.1, fun v hv => by omega, HY.out.2.2.1, HY.out.2.2.2⟩⟩
  case round =>
    clear HY
    obtain ⟨k, rfl, hk, hin⟩ := hrel
    by_cases hlt : k < N
    · have zs := hin.out.2.1
      have c6 := Bk.cell (Bk.alloc hin.out.1 (.cells (Array.ofFn fun _ : Fin N => Value.int .i64 0) 3)) hlt
      have f6 := Bk.free (Bk.alloc hin.out.1 (.cells (Array.ofFn fun _ : Fin N => Value.int .i64 0) 3)) k
      have y2 := Bk.set_ (Bk.alloc hin.out.1 (.cells (Array.ofFn fun _ : Fin N => Value.int .i64 0) 3)) k (.slice (some ⟨b2 + 1 + k, 0, none⟩) N N)
      have y3 : BI (wr.alloc (.cells (Array.ofFn fun _ : Fin N => Value.int .i64 0) 3)) (b2 + 1 + k) N (fun _ => 0) := by rw [← zs]; exact heap_alloc_new wr _
      have y4 : Gd (wr.alloc (.cells (Array.ofFn fun _ : Fin N => Value.int .i64 0) 3)) b N y := hin.out.2.2.2.1.ext (Ext.alc (Ext.refl _) _)
      have Y2 := Lib.hid y2; have Y3 := Lib.hid y3; have Y4 := Lib.hid y4
      clear y2 y3 y4
      go_wp2_with fail
      have hin2 : ∀ q : Nat, q = 0 → Bk ((wr.alloc (.cells (Array.ofFn fun _ : Fin N => Value.int .i64 0) 3)).setCell ⟨b2, k, none⟩ (.slice (some ⟨b2 + 1 + k, 0, none⟩) N N)) b2 33 N (fun v => if v < k + 1 then .slice (some ⟨b2 + 1 + v, 0, none⟩) N N else .slice none 0 0) ∧ ((wr.alloc (.cells (Array.ofFn fun _ : Fin N => Value.int .i64 0) 3)).setCell ⟨b2, k, none⟩ (.slice (some ⟨b2 + 1 + k, 0, none⟩) N N)).heap.size = b2 + 1 + (k + 1) ∧
          (∀ v, v < k → BI ((wr.alloc (.cells (Array.ofFn fun _ : Fin N => Value.int .i64 0) 3)).setCell ⟨b2, k, none⟩ (.slice (some ⟨b2 + 1 + k, 0, none⟩) N N)) (b2 + 1 + v) N (fun j => y j v)) ∧ BI ((wr.alloc (.cells (Array.ofFn fun _ : Fin N => Value.int .i64 0) 3)).setCell ⟨b2, k, none⟩ (.slice (some ⟨b2 + 1 + k, 0, none⟩) N N)) (b2 + 1 + k) N (fun j => if j < q then y j k else 0) ∧
          Gd ((wr.alloc (.cells (Array.ofFn fun _ : Fin N => Value.int .i64 0) 3)).setCell ⟨b2, k, none⟩ (.slice (some ⟨b2 + 1 + k, 0, none⟩) N N)) b N y ∧ Ext W0 ((wr.alloc (.cells (Array.ofFn fun _ : Fin N => Value.int .i64 0) 3)).setCell ⟨b2, k, none⟩ (.slice (some ⟨b2 + 1 + k, 0, none⟩) N N)) := by
        intro q hq
        subst hq
        refine ⟨?_, by simp [World.setCell]; omega, fun v hv => ?_, ?_, Gd.far2 Y4.out (by show b < b2; omega) (fun i hi => HROW.out i hi) _, (hin.out.2.2.2.2.alc _).sc (by omega)⟩
        · refine Bk.congr Y2.out fun j hj => ?_
          by_cases e : j = k
          · subst e; rw [up_self, if_pos (by omega)]
          · rw [up_ne _ _ e]
            by_cases e2 : j < k
            · rw [if_pos e2, if_pos (by omega)]
            · rw [if_neg e2, if_neg (by omega)]
        · exact Bk.far (Bk.alloc (hin.out.2.2.1 v hv) _) (by show b2 + 1 + v ≠ b2; omega) _
        · refine Bk.congr (Bk.far Y3.out (by show b2 + 1 + k ≠ b2; omega) _) fun j hj => by simp
      have HIN := Lib.hid (hin2 0 rfl)
      clear hin2 Y2 Y3 Y4 hin c6 f6
      clear zs
      generalize (wr.alloc (.cells (Array.ofFn fun _ : Fin N => Value.int .i64 0) 3)).setCell ⟨b2, k, none⟩ (.slice (some ⟨b2 + 1 + k, 0, none⟩) N N) = w3 at *
      go_loopw [36] (fun i wr => ∃ q : Nat, i = .int .i64 q ∧ q ≤ N ∧ Hid (Bk wr b2 33 N (fun v => if v < k + 1 then .slice (some ⟨b2 + 1 + v, 0, none⟩) N N else .slice none 0 0) ∧ wr.heap.size = b2 + 1 + (k + 1) ∧ (∀ v, v < k → BI wr (b2 + 1 + v) N (fun j => y j v)) ∧ BI wr (b2 + 1 + k) N (fun j => if j < q then y j k else 0) ∧ Gd wr b N y ∧ Ext W0 wr)) (fun i _ => N - (intOf i).toNat)
      case atStart => exact ⟨0, rfl, Nat.zero_le _, HIN⟩
      case round =>
        clear HIN
        obtain ⟨q, rfl, hq, hin⟩ := hrel
        by_cases hlt2 : q < N
        · have c1 : wr.drew.cell? ⟨b2, k, none⟩ = some (.slice (some ⟨b2 + 1 + k, 0, none⟩) N N) := by
            have h := Bk.cell hin.out.1 hlt
            rw [if_pos (by omega)] at h
            exact h
          have c2 : wr.drew.cell? ⟨b, q, none⟩ = some (.slice (some ⟨b + 1 + q, 0, none⟩) N N) := Gd.cellT hin.out.2.2.2.2.1 hlt2
          obtain ⟨z, hz⟩ : ∃ z, z = y q k := ⟨_, rfl⟩
          have c3 : wr.drew.cell? ⟨b + 1 + q, k, none⟩ = some (.int .i64 z) := by rw [hz]; exact Gd.cell hin.out.2.2.2.2.1 hlt2 hlt
          have f4 : wr.drew.frozen? ⟨b2 + 1 + k, q, none⟩ = false := Bk.free hin.out.2.2.2.1 q
          have c4 : ∃ u, wr.drew.cell? ⟨b2 + 1 + k, q, none⟩ = some u := ⟨_, Bk.cell hin.out.2.2.2.1 hlt2⟩
          obtain ⟨u, c4⟩ := c4
          have HZ := Lib.hid hz; clear hz
          go_upto_region 10 with fail
          go_region
          clear c1 c2 c3 c4 f4
          go_wp2
          go_roundw
          case rel =>
            obtain ⟨h1, h2, h3, h4, h5, h6⟩ := hin.out
            refine ⟨q + 1, by go_num, by omega, Lib.hid ⟨Bk.drew (Bk.far h1 (by show b2 ≠ b2 + 1 + k; omega) _), by simp [World.setCell]; exact h2, fun v hv => Bk.drew (Bk.far (h3 v hv) (by show b2 + 1 + v ≠ b2 + 1 + k; omega) _), ?_, (Gd.far2 h5 (by show b < b2 + 1 + k; omega) (fun i hi => by have := HROW.out i hi; show b + 1 + i < b2 + 1 + k; omega) _).ext (Ext.drw (Ext.refl _)), Ext.drw (h6.sc (by omega))⟩⟩
            refine Bk.drew (Bk.congr (BI.set_ h4 q z) fun j hj => ?_)
            by_cases e : j = q
            · subst e; rw [up_self]; dsimp only; rw [if_pos (by omega), HZ.out]
            · rw [up_ne _ _ e]; dsimp only
              by_cases e2 : j < q
              · rw [if_pos e2, if_pos (by omega)]
              · rw [if_neg e2, if_neg (by omega)]
          case measure => simp [intOf]; omega
        · obtain rfl : q = N := by omega
          obtain ⟨h1, h2, h3, h4, h5, h6⟩ := hin.out
          have HH : Hid (Bk wr b2 33 q (fun v => if v < k + 1 then .slice (some ⟨b2 + 1 + v, 0, none⟩) q q else .slice none 0 0) ∧ wr.heap.size = b2 + 1 + (k + 1) ∧ (∀ v, v < k + 1 → BI wr (b2 + 1 + v) q (fun j => y j v)) ∧ Gd wr b q y ∧ Ext W0 wr) := Lib.hid ⟨h1, h2, fun v hv => by
            by_cases e : v = k
            · subst e; exact Bk.congr h4 fun j hj => by dsimp only; rw [if_pos hj]
            · exact h3 v (by omega), h5, h6⟩
          clear h1 h2 h3 h4 h5 h6 hin
          go_wp2
          go_roundw
          case rel => exact ⟨k + 1, by go_num, by omega, HH⟩
          case measure => simp [intOf]; omega
    · obtain rfl : k = N := by omega
      obtain ⟨h1, h2, h3, h4, h5⟩ := hin.out
      have hgd : Gd wr b2 k (fun i j => y j i) := ⟨Bk.congr h1 fun j hj => by rw [if_pos hj], h3⟩
      have HG2 := Lib.hid (And.intro hgd (And.intro h4 h5))
      clear hgd hin h1 h2 h3 h4 h5
      go_wp2_with fail
      refine (way_any b k s y _ HG2.out.2.1 hN hs).mono ?_
      rintro e w4 ⟨R2, la2, rk2, h, rfl, -, hbi, hwm, hlow, hx⟩
      have HW1 := Lib.hid (And.intro hbi hwm)
      have HX4 := Lib.hid hx
      clear hbi hwm hlow hx
      go_wp2_with fail
      refine (way_any b2 k t (fun i j => y j i) _ (HG2.out.1.ext HX4.out) hN ht).mono ?_
      rintro e w5 ⟨Q, la3, rk3, h', rfl, -, hbi, hwm, hlow, hx⟩
      have HW2 := Lib.hid (And.intro (BI.il hbi (by omega)) (And.intro hwm (And.intro (BI.il (BI.ext HW1.out.1 hx) (by omega)) (HG2.out.2.2.trans (HX4.out.trans hx)))))
      have HW1b := Lib.hid HW1.out.2
      clear hbi hwm hlow hx HX4 HG2 HW1
      have hRR : ∀ v, v < k → R2 v = R v := by
        intro v hv
        have a1 := HW1b.out.least (S := R) HRM.out.2.1.root HRM.out.2.1.closed v hv
        have a2 := HRM.out.2.1.least (S := R2) HW1b.out.root HW1b.out.closed v hv
        cases e : R v <;> cases e2 : R2 v <;> simp_all
      have HRR := Lib.hid hRR
      clear hRR
      obtain ⟨i0, hi, hz0, hz1, hz2⟩ := info_parts info4
      have HI := Lib.hid (And.intro hi (And.intro hz0 (And.intro hz1 hz2)))
      clear hi hz0 hz1 hz2
      obtain ⟨L, hL⟩ : ∃ L : Nat → Bool, L = fun v => R v := ⟨_, rfl⟩
      obtain ⟨M, hM⟩ : ∃ M : Nat → Bool, M = fun v => !Q v := ⟨_, rfl⟩
      have HLM : Hid ((∀ v, L v = R v) ∧ ∀ v, M v = !Q v) := Lib.hid ⟨fun v => by rw [hL], fun v => by rw [hM]⟩
      clear hL hM
      go_wp2_with fail
      go_loopw [13, 14, 62] (fun qa qb i wr => ∃ m : Nat, i = .int .i64 m ∧ m ≤ k ∧ Hid (Tw wr w5.heap.size qa qb m m L M ∧ Ext w5 wr)) (fun _ _ i _ => k - (intOf i).toNat)
      case atStart => exact ⟨0, rfl, Nat.zero_le _, Lib.hid ⟨Tw.nil w5 _ _, Ext.refl _⟩⟩
      case round =>
        obtain ⟨m, rfl, hm, hin⟩ := hrel
        obtain ⟨qa, rfl⟩ : ∃ q, q = u13 := ⟨_, rfl⟩
        obtain ⟨qb, rfl⟩ : ∃ q, q = u14 := ⟨_, rfl⟩
        by_cases hlt2 : m < k
        · obtain ⟨b3, o3, e3, hb3, c1⟩ := Vl.at HW2.out.2.2.1 hin.out.2 hlt2
          injection e3 with e3; injection e3 with e3 e4
          subst e3 e4
          simp only [Nat.zero_add] at c1
          obtain ⟨p, hp⟩ : ∃ p : Int, p = if R2 m = true then ((la2 m : Nat) : Int) else -1 := ⟨_, rfl⟩
          rw [← hp] at c1
          obtain ⟨x, hx⟩ : ∃ x, x = R m := ⟨_, rfl⟩
          have hpx : decide (0 ≤ p) = x := by
            rw [hp, hx, ← HRR.out m hlt2]
            cases e : R2 m
            · simp
            · simp
          have HXR := Lib.hid (And.intro hp hx)
          have HPX := Lib.hid hpx
          clear hp hx hpx
          skip
          have HT : Hid (Tw (wr.alloc (.cells #[.bool (decide (0 ≤ p))] 4)) w5.heap.size qa qb m m L M) := Lib.hid (hin.out.1.ext (Ext.alc (Ext.refl wr) _))
          have HSZ : Hid (w5.heap.size ≤ wr.heap.size) := Lib.hid hin.out.1.le
          have hqa := own_shape HT.out.fst
          obtain ⟨Aa, na_, ca, rfl⟩ := hqa
          have hqb := own_shape HT.out.snd
          obtain ⟨Ab, nb_, cb, rfl⟩ := hqb
          go_wp2_with (at_builtin; refine wpList_append_own_at _ rfl _ _ 40 rfl w5.heap.size 4 i0 (.bool false) 1 1 Try.underlying40 HI.out.1 HI.out.2.1 HI.out.2.2.1 HI.out.2.2.2 rfl (by decide) _ m _ rfl HT.out.fst ⟨wr.heap.size, 0, none⟩ 1 1 [.bool (decide (0 ≤ p))] rfl rfl (bool_news _ (decide (0 ≤ p))) (bool_one (decide (0 ≤ p))) ?qc3 ?qc4 ?qc5 ?_)
          case qc3 => unfold maxLen; omega
          case qc4 => omega
          case qc5 => have := HSZ.out; simp; omega
          intro v1 x1 o1 g1 _n1 a1
          clear _n1
          have hone := HT.out.one (z := decide (0 ≤ p)) (by rw [HLM.out.1, HPX.out, HXR.out.2]) o1 g1 (by simpa using a1)
          have HO1 := Lib.hid (And.intro hone.1 (hone.2 w5 (Ext.alc hin.out.2 _) (Nat.le_refl _)))
          clear o1 g1 a1 hone c1
          obtain ⟨b3, o3, e3, hb3, c1⟩ := Vl.at HW2.out.1 HO1.out.2 hlt2
          injection e3 with e3; injection e3 with e3 e4
          subst e3 e4
          simp only [Nat.zero_add] at c1
          obtain ⟨q, hq⟩ : ∃ q : Int, q = if Q m = true then ((la3 m : Nat) : Int) else -1 := ⟨_, rfl⟩
          rw [← hq] at c1
          have hqx : decide (q < 0) = M m := by
            rw [hq, HLM.out.2]
            cases e : Q m
            · simp
            · simp
          have HQX := Lib.hid hqx
          clear hq hqx
          have HT1 : Hid (Tw (x1.alloc (.cells #[.bool (decide (q < 0))] 4)) w5.heap.size (.slice Ab nb_ cb) v1 m (m + 1) M L) := Lib.hid (HO1.out.1.symm.ext (Ext.alc (Ext.refl x1) _))
          clear HSZ
          have HSZ : Hid (w5.heap.size ≤ x1.heap.size) := Lib.hid HO1.out.1.le
          go_wp2_with (at_builtin; refine wpList_append_own_at _ rfl _ _ 40 rfl w5.heap.size 4 i0 (.bool false) 1 1 Try.underlying40 HI.out.1 HI.out.2.1 HI.out.2.2.1 HI.out.2.2.2 rfl (by decide) _ m _ rfl HT1.out.fst ⟨x1.heap.size, 0, none⟩ 1 1 [.bool (decide (q < 0))] rfl rfl (bool_news _ (decide (q < 0))) (bool_one (decide (q < 0))) ?qc3 ?qc4 ?qc5 ?_)
          case qc3 => unfold maxLen; omega
          case qc4 => omega
          case qc5 => have := HSZ.out; simp; omega
          intro v2 x2 o2 g2 _n2 a2
          clear _n2
          have hone := HT1.out.one (z := decide (q < 0)) (by rw [HQX.out]) o2 g2 (by simpa using a2)
          have HT2 := Lib.hid (And.intro hone.1.symm (hone.2 w5 (Ext.alc HO1.out.2 _) (Nat.le_refl _)))
          clear o2 g2 a2 hone c1
          go_wp2
          go_roundw
          case rel => exact ⟨m + 1, by go_num, by omega, HT2⟩
          case measure => simp [intOf]; omega
        · have hT := hin.out.1
          obtain rfl : k = m := by omega
          obtain ⟨wo, rfl⟩ : ∃ w, w = wr := ⟨_, rfl⟩
          have HQA := Lib.hid (And.intro (ownsRow_bl hT.fst) (ownsRow_bl hT.snd))
          have EX := Lib.hid (HW2.out.2.2.2.trans hin.out.2)
          clear hT hin
          go_wp2
          refine bodyPost_ret (v := .tuple #[qa, qb]) (by simp [results, Try.results59, go_sem]) rfl ⟨_, _, T, y, R, Q, la, rk, la3, rk3, rfl, HRM.out.1, HRM.out.2.1, HRM.out.2.2, HW2.out.2.1, Bl.congr HQA.out.1 (fun j _ => HLM.out.1 j), Bl.congr HQA.out.2 (fun j _ => HLM.out.2 j), EX.out⟩
end Go.Proofs.Ytilcbbdmenknfaa
