/- Walks: the reference's follows, Order, Possible. · Courses: the cheapest bath, the prices out of a table. -/
import Derived.Test.YtlachbodibajlaaDoorM24
import Derived.Test.YtlachbodibajlaaDoorM20
namespace Go.Proofs.YtlachbodibajlaaDoor
open Go.RowKit Go.Shelf

set_option maxHeartbeats 4000000 in
set_option maxRecDepth 100000 in
theorem follows_any (S C B : Value) (n mc m : Nat) (st : Nat → Int) (ln : Nat → Nat) (y : Nat → Nat → Int) (a b : Nat → Int) (s j : Nat) (W : World) (h : Pv W S C B n mc m st ln y a b) (hk : Okp n mc m st ln y a b) (hs : s < 2 ^ n) (hj : j < n) :
    Calls Tryd.prog 78 #[.agg #[S, C, B], .int .i64 s, .int .i64 j] W fun e W' => e = .returned (.bool ((crs n m st y a b).can s j)) ∧ Ext W W' := by
  have hcan := can_crs (st := st) (y := y) (b := b) (m := m) (fun i hi => ⟨(hk.pr i hi).1, (hk.pr i hi).2.1⟩) hk.n10 s j
  obtain ⟨r, hr⟩ : ∃ r, r = (crs n m st y a b).can s j := ⟨_, rfl⟩
  rw [← hr] at hcan ⊢
  have HR := Lib.hid hcan
  have hs2 : s < 1024 := Nat.lt_of_lt_of_le hs (pow_1024 hk.n10)
  clear hcan hr
  obtain ⟨A, k, rfl, hk1, hk2, -⟩ := id h.vs
  obtain ⟨A2, k2, rfl, hk3, hk4, hrow⟩ := id h.vc
  obtain ⟨A3, k3, rfl, hk5, hk6, hpr⟩ := id h.vb
  have HROW := Lib.hid hrow; have HPR := Lib.hid hpr
  have hn10 := hk.n10; have hn1 := hk.n1; have hm40 := hk.m40
  have HK := Lib.hid hk
  have E1 : Hid (Ext W (W.alloc (.cells #[.slice A n k, .slice A2 mc k2, .slice A3 m k3] 48))) := Lib.hid (al1 W _)
  have hbk := heap_alloc_new W (.cells #[.slice A n k, .slice A2 mc k2, .slice A3 m k3] 48)
  clear h hk hrow hpr
  go_enter Tryd.func78, Tryd.ntmps78
  go_upto_region 1 with fail
  obtain ⟨s1, hs1⟩ : ∃ s, s = W.heap.size := ⟨_, rfl⟩
  rw [← hs1] at hbk ⊢
  generalize W.alloc (.cells #[.slice A n k, .slice A2 mc k2, .slice A3 m k3] 48) = W1 at *
  obtain ⟨c0, c1, c2, z0⟩ := three_c hbk
  have HB := Lib.hid hbk
  clear hbk hs1
  have hj10 : j < 10 := by omega
  go_wp2_with fail
  go_loopw [8, 12] (fun _ v wr => ∃ i : Nat, v = .int .i64 i ∧ i ≤ m ∧ Hid ((List.range i).all (fol1 a b j s) = true) ∧ Hid (Ext W1 wr)) (fun _ v _ => m - (intOf v).toNat)
  case atStart => exact ⟨0, rfl, Nat.zero_le _, Lib.hid rfl, Lib.hid (Ext.refl _)⟩
  case round =>
    clear c0 c1 c2 z0
    obtain ⟨i, rfl, hi, hall, hin⟩ := hrel
    obtain ⟨c0, c1, c2, z0⟩ := three_c (ext_ty' hin.out HB.out)
    by_cases hlt : i < m
    · obtain ⟨pg, po, rfl, zg, hcell⟩ := HPR.out (by omega)
      obtain ⟨q1, q2⟩ := hcell i hlt
      replace q1 := (E1.out.trans hin.out).at zg q1
      replace q2 := (E1.out.trans hin.out).at zg q2
      have zg2 := Nat.lt_of_lt_of_le zg (E1.out.trans hin.out).size
      obtain ⟨ha0, han, hb0, hbn, -⟩ := HK.out.pr i hlt
      obtain ⟨p, hp⟩ : ∃ t : Nat, a i = (t : Int) := ⟨(a i).toNat, by omega⟩
      obtain ⟨q, hq⟩ : ∃ t : Nat, b i = (t : Int) := ⟨(b i).toNat, by omega⟩
      rw [hp] at q1 han
      rw [hq] at q2 hbn
      have hpn : p < 10 := by omega
      have hqn : q < 10 := by omega
      have hst := range_all_succ (fol1 a b j s) i
      rw [hall.out, Bool.true_and] at hst
      have hf1 : fol1 a b j s i = !(decide (q = j) && !s.testBit p) := by
        unfold fol1
        rw [hp, hq, Int.toNat_natCast]
        congr 2
        rw [decide_eq_decide]; omega
      rw [hf1] at hst
      have HST := Lib.hid hst
      have HF1 := Lib.hid hf1
      clear hcell zg ha0 han hb0 hbn hp hq hst hf1
      go_upto_region 4 with fail
      have e4 : Ext wr (wr.alloc (.cells #[.int .i64 p, .int .i64 q] 60)) := al1 wr _
      have hb4 := heap_alloc_new wr (.cells #[.int .i64 p, .int .i64 q] 60)
      obtain ⟨p4, hp4⟩ : ∃ t, t = wr.heap.size := ⟨_, rfl⟩
      rw [← hp4] at hb4 ⊢
      generalize wr.alloc (.cells #[.int .i64 p, .int .i64 q] 60) = w4 at *
      obtain ⟨d0, d1, dz, -⟩ := two_c hb4
      have hin2 := Lib.hid (hin.out.trans e4)
      clear e4 hb4 hp4 hin c0 c1 c2 z0 q1 q2 zg2
      have y1 := and1_nat (l := p) hs2
      by_cases hqj : q = j
      · subst hqj
        cases hb : s.testBit p
        · rw [hb] at y1 HF1
          simp only [Bool.false_eq_true, if_false] at y1
          have hr0 : r = false := by rw [HR.out, range_all_no hlt (by rw [HF1.out]; simp)]; rfl
          subst hr0
          clear hb
          go_wp2
          go_ret
          exact ⟨rfl, E1.out.trans hin2.out⟩
        · rw [hb] at y1 HST
          simp only [if_true] at y1
          have HNX : Hid ((List.range (i + 1)).all (fol1 a b q s) = true) := Lib.hid (by rw [HST.out]; simp)
          clear hb
          go_wp2
          go_roundw
          case rel => exact ⟨i + 1, by go_num, by omega, HNX, hin2⟩
          case measure => simp [intOf] <;> omega
      · have hqj2 : ¬ (q : Int) = (j : Int) := by omega
        have HNX : Hid ((List.range (i + 1)).all (fol1 a b j s) = true) := Lib.hid (by rw [HST.out, decide_eq_false hqj]; rfl)
        clear hqj y1
        go_wp2
        go_roundw
        case rel => exact ⟨i + 1, by go_num, by omega, HNX, hin2⟩
        case measure => simp [intOf] <;> omega
    · obtain rfl : i = m := by omega
      have hx9 : ¬ (i : Int) < (i : Int) := by omega
      have y1 := and1_nat (l := j) hs2
      have hr9 := HR.out
      rw [hall.out, Bool.true_and] at hr9
      cases hb : s.testBit j
      · rw [hb] at y1 hr9
        simp only [Bool.false_eq_true, if_false] at y1
        obtain rfl : r = true := hr9
        clear hb
        go_wp2
        go_ret
        exact ⟨rfl, E1.out.trans hin.out⟩
      · rw [hb] at y1 hr9
        simp only [if_true] at y1
        obtain rfl : r = false := hr9
        clear hb
        go_wp2
        go_ret
        exact ⟨rfl, E1.out.trans hin.out⟩

set_option maxHeartbeats 4000000 in
set_option maxRecDepth 100000 in
theorem order_any (S C B : Value) (n mc m : Nat) (st : Nat → Int) (ln : Nat → Nat) (y : Nat → Nat → Int) (a b : Nat → Int) (O : Value) (q : Nat) (x : Nat → Int) (W : World) (h : Pv W S C B n mc m st ln y a b) (hk : Okp n mc m st ln y a b) (hO : Il W O q x) :
    Calls Tryd.prog 73 #[.agg #[S, C, B], O] W fun e W' => e = .returned (.bool ((crs n m st y a b).okO q x)) ∧ Ext W W' := by
  have HFO := Lib.hid fun s j X hX hs hj => follows_any S C B n mc m st ln y a b s j X hX hk hs hj
  have HV := Lib.hid h; have HO := Lib.hid hO
  obtain ⟨OA, oc, rfl, ho1, ho2, -⟩ := id hO
  obtain ⟨c, hc⟩ : ∃ c, c = crs n m st y a b := ⟨_, rfl⟩
  have hcn : c.n = n := by rw [hc]; rfl
  rw [← hc]
  have HF := Lib.hid fun s j X hX hs hj => HFO.out s j X hX hs hj
  rw [← hc] at HF
  obtain ⟨r, hr⟩ : ∃ r, r = c.okO q x := ⟨_, rfl⟩
  rw [← hr]
  have HR := Lib.hid hr
  have HCN := Lib.hid hcn
  clear hr hcn hc hO HFO
  obtain ⟨A, k, rfl, hk1, hk2, -⟩ := id h.vs
  obtain ⟨A2, k2, rfl, hk3, hk4, hrow⟩ := id h.vc
  obtain ⟨A3, k3, rfl, hk5, hk6, hpr⟩ := id h.vb
  have HROW := Lib.hid hrow; have HPR := Lib.hid hpr
  have hn10 := hk.n10; have hn1 := hk.n1; have hm40 := hk.m40
  have HK := Lib.hid hk
  have E1 : Hid (Ext W (W.alloc (.cells #[.slice A n k, .slice A2 mc k2, .slice A3 m k3] 48))) := Lib.hid (al1 W _)
  have hbk := heap_alloc_new W (.cells #[.slice A n k, .slice A2 mc k2, .slice A3 m k3] 48)
  clear h hk hrow hpr
  go_enter Tryd.func73, Tryd.ntmps73
  go_upto_region 1 with fail
  obtain ⟨s1, hs1⟩ : ∃ s, s = W.heap.size := ⟨_, rfl⟩
  rw [← hs1] at hbk ⊢
  generalize W.alloc (.cells #[.slice A n k, .slice A2 mc k2, .slice A3 m k3] 48) = W1 at *
  obtain ⟨c0, c1, c2, z0⟩ := three_c hbk
  have HB := Lib.hid hbk
  clear hbk hs1
  go_wp2_with fail
  go_loopw [5, 10] (fun sv v wr => ∃ (i s : Nat), v = .int .i64 i ∧ sv = .int .i64 s ∧ i ≤ q ∧ Hid ((∀ t, t < i → 0 ≤ x t ∧ x t ≤ (n : Int) - 1) ∧ c.fol 0 (ordL i x) = true ∧ s = fin 0 (ordL i x)) ∧ Hid (Ext W1 wr)) (fun _ v _ => q - (intOf v).toNat)
  case atStart => exact ⟨0, 0, rfl, rfl, Nat.zero_le _, Lib.hid ⟨fun t ht => absurd ht (Nat.not_lt_zero _), rfl, rfl⟩, Lib.hid (Ext.refl _)⟩
  case round =>
    clear c0 c1 c2 z0
    obtain ⟨i, s, rfl, rfl, hi, hst, hin⟩ := hrel
    obtain ⟨c0, c1, c2, z0⟩ := three_c (ext_ty' hin.out HB.out)
    by_cases hlt : i < q
    · obtain ⟨ob, oo, rfl, oz, oc1⟩ := Vl.at HO.out (E1.out.trans hin.out) hlt
      try dsimp only at oc1
      obtain ⟨v, hv⟩ : ∃ v, v = x i := ⟨_, rfl⟩
      rw [← hv] at oc1
      have HVV := Lib.hid hv
      clear hv
      by_cases hv0 : v < 0
      · have hr0 : r = false := by
          cases hrr : r
          · rfl
          · rw [HR.out] at hrr
            have h9 := ((okO_iff.1 hrr).2.1 i hlt).1
            rw [← HVV.out] at h9; omega
        subst hr0
        go_wp2
        go_ret
        exact ⟨rfl, E1.out.trans hin.out⟩
      by_cases hvn : (n : Int) ≤ v
      · have hr0 : r = false := by
          cases hrr : r
          · rfl
          · rw [HR.out] at hrr
            have h9 := ((okO_iff.1 hrr).2.1 i hlt).2
            rw [← HVV.out, HCN.out] at h9; omega
        subst hr0
        go_wp2
        go_ret
        exact ⟨rfl, E1.out.trans hin.out⟩
      obtain ⟨xj, hxj⟩ : ∃ t : Nat, v = (t : Int) := ⟨v.toNat, by omega⟩
      subst hxj
      have hxn : xj < n := by omega
      have hx10 : xj < 10 := by omega
      have hsu := ordL_succ i x
      rw [← HVV.out, Int.toNat_natCast] at hsu
      have hs9 : s < 2 ^ n := by rw [hst.out.2.2, ← HCN.out]; exact fin_lt _ 0 (Nat.two_pow_pos _) (fol_in _ _ hst.out.2.1)
      have hfs : c.fol 0 (ordL (i + 1) x) = c.can s xj := by rw [hsu, fol_snoc, hst.out.2.1, ← hst.out.2.2, decide_eq_true (by rw [HCN.out]; exact hxn)]; simp
      have HSU := Lib.hid hsu; have HS9 := Lib.hid hs9; have HFS := Lib.hid hfs
      clear hsu hs9 hfs
      go_wp2_with fail
      refine (HF.out s xj _ (HV.out.ext (E1.out.trans hin.out)) HS9.out hxn).mono ?_
      rintro e w3 ⟨rfl, hx⟩
      have hin2 := Lib.hid (hin.out.trans hx)
      clear hx c0 c1 c2 z0 oc1 oz
      cases hcan : c.can s xj
      · have hr0 : r = false := by
          cases hrr : r
          · rfl
          · rw [HR.out] at hrr
            have h9 := (okO_iff.1 hrr).2.2
            rw [fol_no hlt (by rw [HFS.out, hcan])] at h9; cases h9
        subst hr0
        clear hcan
        go_wp2
        go_ret
        exact ⟨rfl, E1.out.trans hin2.out⟩
      · have HF2 : Hid (c.fol 0 (ordL (i + 1) x) = true) := Lib.hid (by rw [HFS.out, hcan])
        have hs2 : s < 1024 := Nat.lt_of_lt_of_le HS9.out (pow_1024 hn10)
        obtain ⟨px, hpx⟩ : ∃ a : Nat, a = 2 ^ xj := ⟨_, rfl⟩
        obtain ⟨sx, hsx⟩ : ∃ a : Nat, a = s ||| 2 ^ xj := ⟨_, rfl⟩
        have hpl : px < 1024 := by rw [hpx]; exact Nat.lt_of_lt_of_le (Nat.pow_lt_pow_right (by omega) hxn) (pow_1024 hn10)
        have y1 : (2 : Int) ^ xj = (px : Int) := by rw [hpx]; simp
        have y2 : bits .or .i64 (s : Int) (px : Int) = (sx : Int) := by rw [or_nat hs2 hpl, hsx, hpx]
        have y4 : IntKind.i64.wrap (px : Int) = (px : Int) := IntWalk.i64_in _ (by omega)
        have HSX := Lib.hid hsx
        clear hcan hpx hsx hs2 hpl
        go_wp2
        go_roundw
        case rel =>
          refine ⟨i + 1, sx, by go_num, rfl, by omega, Lib.hid ⟨fun t ht => ?_, HF2.out, by rw [HSU.out, fin_snoc, ← hst.out.2.2, HSX.out]⟩, hin2⟩
          by_cases e : t = i
          · subst e; rw [← HVV.out]; omega
          · exact hst.out.1 t (by omega)
        case measure => simp [intOf] <;> omega
    · obtain rfl : i = q := by omega
      have hx9 : ¬ (i : Int) < (i : Int) := by omega
      have hr9 : r = decide (i = n) := by
        rw [HR.out]
        unfold Crs.okO
        rw [hst.out.2.1, HCN.out, btw_iff.2 hst.out.1]; simp
      have hbe : ((i : Int) == (n : Int)) = decide (i = n) := by rw [Bool.eq_iff_iff, beq_iff_eq, decide_eq_true_eq]; omega
      have HR9 := Lib.hid hr9
      clear hr9
      go_wp2
      go_ret
      exact ⟨by rw [HR9.out]; simp, E1.out.trans hin.out⟩

set_option maxHeartbeats 4000000 in
set_option maxRecDepth 100000 in
theorem possible_any (S C B : Value) (n mc m : Nat) (st : Nat → Int) (ln : Nat → Nat) (y : Nat → Nat → Int) (a b : Nat → Int) (W : World) (h : Pv W S C B n mc m st ln y a b) (hk : Okp n mc m st ln y a b) :
    Calls Tryd.prog 76 #[.agg #[S, C, B]] W fun e W' => e = .returned (.bool (crs n m st y a b).has) ∧ Ext W W' := by
  have HFO := Lib.hid fun s j X hX hs hj => follows_any S C B n mc m st ln y a b s j X hX hk hs hj
  have HV := Lib.hid h
  obtain ⟨c, hc⟩ : ∃ c, c = crs n m st y a b := ⟨_, rfl⟩
  have hcn : c.n = n := by rw [hc]; rfl
  rw [← hc]
  have HF := Lib.hid fun s j X hX hs hj => HFO.out s j X hX hs hj
  rw [← hc] at HF
  have HCN := Lib.hid hcn
  clear hcn hc HFO
  obtain ⟨A, k, rfl, hk1, hk2, -⟩ := id h.vs
  obtain ⟨A2, k2, rfl, hk3, hk4, hrow⟩ := id h.vc
  obtain ⟨A3, k3, rfl, hk5, hk6, hpr⟩ := id h.vb
  have HROW := Lib.hid hrow; have HPR := Lib.hid hpr
  have hn10 := hk.n10; have hn1 := hk.n1; have hm40 := hk.m40
  have HK := Lib.hid hk
  have E1 : Hid (Ext W (W.alloc (.cells #[.slice A n k, .slice A2 mc k2, .slice A3 m k3] 48))) := Lib.hid (al1 W _)
  have hbk := heap_alloc_new W (.cells #[.slice A n k, .slice A2 mc k2, .slice A3 m k3] 48)
  clear h hk hrow hpr
  go_enter Tryd.func76, Tryd.ntmps76
  go_upto_region 1 with fail
  obtain ⟨s1, hs1⟩ : ∃ s, s = W.heap.size := ⟨_, rfl⟩
  rw [← hs1] at hbk ⊢
  generalize W.alloc (.cells #[.slice A n k, .slice A2 mc k2, .slice A3 m k3] 48) = W1 at *
  obtain ⟨c0, c1, c2, z0⟩ := three_c hbk
  have HB := Lib.hid hbk
  clear hbk hs1
  go_wp2_with fail
  go_loopw [3, 8, 13] (fun s q _ wr => ∃ (j z : Nat), q = .int .i64 j ∧ j ≤ n ∧ s = .int .i64 z ∧ Hid (z = c.rnds j) ∧ Hid (Ext W1 wr)) (fun _ q _ _ => n - (intOf q).toNat)
  case atStart => exact ⟨0, 0, rfl, Nat.zero_le _, rfl, Lib.hid rfl, Lib.hid (Ext.refl _)⟩
  case round =>
    clear c0 c1 c2 z0
    obtain ⟨j, z, rfl, hj, rfl, hz, hin⟩ := hrel
    obtain ⟨c0, c1, c2, z0⟩ := three_c (ext_ty' hin.out HB.out)
    by_cases hlt : j < n
    · go_wp2_with fail
      go_loopw [3, 13] (fun s x wr => ∃ (t z' : Nat), x = .int .i64 t ∧ t ≤ n ∧ s = .int .i64 z' ∧ Hid (z' = (List.range t).foldl c.grow z) ∧ Hid (Ext W1 wr)) (fun _ x _ => n - (intOf x).toNat)
      case atStart => exact ⟨0, z, rfl, Nat.zero_le _, rfl, Lib.hid rfl, hin⟩
      case round =>
        clear c0 c1 c2 z0
        obtain ⟨t, z', rfl, ht, rfl, hz', hin3⟩ := hrel
        obtain ⟨c0, c1, c2, z0⟩ := three_c (ext_ty' hin3.out HB.out)
        by_cases htn : t < n
        · have hzl : z' < 2 ^ n := by rw [hz'.out, ← HCN.out]; exact grows_lt _ _ (fun x hx => by have := List.mem_range.1 hx; have := HCN.out; omega) (by rw [hz.out]; exact rnds_lt c j)
          have hz10 : z' < 1024 := Nat.lt_of_lt_of_le hzl (pow_1024 hn10)
          have hstep : (List.range (t + 1)).foldl c.grow z = c.grow z' t := by rw [List.range_succ, List.foldl_append, ← hz'.out]; rfl
          have HST := Lib.hid hstep
          have HZL := Lib.hid hzl
          clear hstep hzl
          go_wp2_with fail
          refine (HF.out z' t _ (HV.out.ext (E1.out.trans hin3.out)) HZL.out htn).mono ?_
          rintro e w4 ⟨rfl, hx⟩
          have hin4 := Lib.hid (hin3.out.trans hx)
          clear hx c0 c1 c2 z0
          cases hcan : c.can z' t
          · have hg : c.grow z' t = z' := by unfold Crs.grow; rw [hcan]; rfl
            have HG := Lib.hid hg
            clear hg hcan
            go_wp2
            go_roundw
            case rel => exact ⟨t + 1, z', by go_num, by omega, rfl, Lib.hid (by rw [HST.out, HG.out]), hin4⟩
            case measure => simp [intOf] <;> omega
          · have ht10 : t < 10 := by omega
            obtain ⟨py, hpy⟩ : ∃ a : Nat, a = 2 ^ t := ⟨_, rfl⟩
            obtain ⟨zy, hzy⟩ : ∃ a : Nat, a = z' ||| 2 ^ t := ⟨_, rfl⟩
            have hpl : py < 1024 := by rw [hpy]; exact Nat.lt_of_lt_of_le (Nat.pow_lt_pow_right (by omega) htn) (pow_1024 hn10)
            have y1 : (2 : Int) ^ t = (py : Int) := by rw [hpy]; simp
            have y2 : bits .or .i64 (z' : Int) (py : Int) = (zy : Int) := by rw [or_nat hz10 hpl, hzy, hpy]
            have y4 : IntKind.i64.wrap (py : Int) = (py : Int) := IntWalk.i64_in _ (by omega)
            have hg : c.grow z' t = zy := by unfold Crs.grow; rw [if_pos hcan, hzy]
            have HG := Lib.hid hg
            clear hg hcan hpy hzy hpl
            go_wp2
            go_roundw
            case rel => exact ⟨t + 1, zy, by go_num, by omega, rfl, Lib.hid (by rw [HST.out, HG.out]), hin4⟩
            case measure => simp [intOf] <;> omega
        · obtain rfl : t = n := by omega
          have hx9 : ¬ (t : Int) < (t : Int) := by omega
          have hnext : z' = c.rnds (j + 1) := by rw [hz'.out, hz.out, ← HCN.out]; rfl
          have HN := Lib.hid hnext
          clear hnext c0 c1 c2 z0
          go_wp2
          go_roundw
          case rel => exact ⟨j + 1, z', by go_num, by omega, rfl, HN, hin3⟩
          case measure => simp [intOf] <;> omega
    · obtain rfl : j = n := by omega
      have hx9 : ¬ (j : Int) < (j : Int) := by omega
      obtain ⟨P, hP⟩ : ∃ P, P = 2 ^ j := ⟨_, rfl⟩
      have hPl : P ≤ 1024 := by rw [hP]; exact pow_1024 hn10
      have hP1 : 1 ≤ P := by rw [hP]; exact Nat.one_le_two_pow
      have y1 : (2 : Int) ^ j = (P : Int) := by rw [hP]; simp
      have y2 : IntKind.i64.wrap (P : Int) = (P : Int) := IntWalk.i64_in _ (by omega)
      have y3 : IntKind.i64.wrap ((P : Int) - 1) = (P : Int) - 1 := IntWalk.i64_in _ (by omega)
      have hhas : c.has = decide ((z : Int) = (P : Int) - 1) := by
        unfold Crs.has Crs.all
        rw [HCN.out, ← hz.out, ← hP, decide_eq_decide]; omega
      have HH := Lib.hid hhas
      clear hhas hP
      go_wp2
      go_ret
      exact ⟨by rw [HH.out]; simp; rw [Bool.eq_iff_iff, beq_iff_eq, decide_eq_true_eq], E1.out.trans hin.out⟩
end Go.Proofs.YtlachbodibajlaaDoor
namespace Go.Proofs.YtlachbodibajlaaDoor
open Go.RowKit Go.Shelf

theorem num_lt {c : Crs} {s x : Nat} (hs : s < 2 ^ c.n) (hx : x < c.n) : c.n * s + x < c.sz := by
  have h6 : c.n * (s + 1) ≤ c.n * 2 ^ c.n := Nat.mul_le_mul_left _ hs
  rw [Nat.mul_add, Nat.mul_one] at h6
  unfold Crs.sz; omega

set_option maxHeartbeats 4000000 in
set_option maxRecDepth 100000 in
theorem cheapestT_any (S C E N : Value) (c : Crs) (W0 W : World) (kb g1 g2 s l : Nat) (pr : Nat → Int) (Inv : World → Prop) (h : Cv W0 S C E N c) (hc : c.ok) (hs : s < 2 ^ c.n) (hl : l < c.n) (hI : Inv W)
    (hI1 : ∀ X, Inv X → Ext W0 X) (hI2 : ∀ X Y, Inv X → Ext X Y → Inv Y) (hg1 : g1 < W.heap.size) (hg2 : g2 < W.heap.size)
    (hb : ∀ p, p < c.sz → -1099511627776 ≤ pr p ∧ pr p ≤ 1099511627776)
    (hP : ∀ x, x < c.n → c.can s x = true → ∀ X, Inv X → Calls Tryd.prog 83 #[.int .i64 ((c.n * (s ||| 2 ^ x) + x : Nat) : Int), .pointer (some ⟨kb, 0, none⟩)] X fun e X' => e = .returned (.int .i64 (pr (c.n * (s ||| 2 ^ x) + x))) ∧ Kq g1 g2 X X' ∧ Inv X') :
    Calls Tryd.prog 84 #[.agg #[S, C, E, N], .func (.func 83) #[] #[.pointer (some ⟨kb, 0, none⟩)], .int .i64 s, .int .i64 l] W fun e W' => e = .returned (.tuple #[.int .i64 (c.chp pr s l).1, .int .i64 (c.chp pr s l).2]) ∧ Kq g1 g2 W W' ∧ Inv W' := by
  obtain ⟨A, k, rfl, hk, hk2, -⟩ := id h.vs
  obtain ⟨A2, k2, rfl, -⟩ := id h.vc
  obtain ⟨A3, k3, rfl, -⟩ := id h.ve
  obtain ⟨A4, k4, rfl, -⟩ := id h.vn
  have hn := hc.n10
  have hs2 : s < 1024 := Nat.lt_of_lt_of_le hs (pow_1024 hn)
  have HC := Lib.hid h; have HOK := Lib.hid hc; have HS := Lib.hid hs; have HINV := Lib.hid (And.intro hI1 hI2); have HPR := Lib.hid hP; have HBD := Lib.hid hb
  have e1 : Ext W (W.alloc (.cells #[.slice A c.n k, .slice A2 c.n k2, .slice A3 c.n k3, .slice A4 c.n k4] 93)) := al1 W _
  have hin0 : Hid (Inv (W.alloc (.cells #[.slice A c.n k, .slice A2 c.n k2, .slice A3 c.n k3, .slice A4 c.n k4] 93)) ∧ Kq g1 g2 W (W.alloc (.cells #[.slice A c.n k, .slice A2 c.n k2, .slice A3 c.n k3, .slice A4 c.n k4] 93))) := Lib.hid ⟨hI2 _ _ hI e1, Kq.of g1 g2 e1⟩
  have hbk := heap_alloc_new W (.cells #[.slice A c.n k, .slice A2 c.n k2, .slice A3 c.n k3, .slice A4 c.n k4] 93)
  clear h hc hs hk hk2 hI1 hI2 hP hb hI e1
  go_enter Tryd.func84, Tryd.ntmps84
  go_upto_region 1 with fail
  obtain ⟨s1, hs1⟩ : ∃ s, s = W.heap.size := ⟨_, rfl⟩
  rw [← hs1] at hbk hg1 hg2 ⊢
  generalize W.alloc (.cells #[.slice A c.n k, .slice A2 c.n k2, .slice A3 c.n k3, .slice A4 c.n k4] 93) = W1 at *
  have gs1 : s1 ≠ g1 := by omega
  have gs2 : s1 ≠ g2 := by omega
  obtain ⟨c0, c1, c2, c3, z0⟩ := four_c hbk
  have HBK := Lib.hid hbk
  clear hbk hs1
  go_wp2_with fail
  refine (baths_any _ _ _ _ c _ (HC.out.ext (HINV.out.1 _ hin0.out.1)) HOK.out).mono ?_
  rintro e w2 ⟨rfl, hx⟩
  replace hin0 : Hid (Inv w2 ∧ Kq g1 g2 W w2) := Lib.hid ⟨HINV.out.2 _ _ hin0.out.1 hx, hin0.out.2.trans (Kq.of g1 g2 hx)⟩
  replace c0 := hx.at z0 c0
  replace c1 := hx.at z0 c1
  replace c2 := hx.at z0 c2
  replace c3 := hx.at z0 c3
  replace z0 := Nat.lt_of_lt_of_le z0 hx.size
  have HCC := Lib.hid (And.intro c0 (And.intro c1 (And.intro c2 (And.intro c3 z0))))
  clear c0 c1 c2 c3 z0 hx
  go_wp2_with fail
  go_loopw [8, 9, 14] (fun b d xx wr => ∃ (x : Nat) (bb dd : Int), xx = .int .i64 x ∧ x ≤ c.n ∧ b = .int .i64 bb ∧ d = .int .i64 dd ∧ Hid ((bb, dd) = ((List.range x).foldl (c.ck pr s l) (-1, 0))) ∧ Hid (Inv wr ∧ Kq g1 g2 W wr) ∧ Hid (Kq g1 g2 w2 wr)) (fun _ _ xx _ => c.n - (intOf xx).toNat)
  case atStart => exact ⟨0, -1, 0, rfl, Nat.zero_le _, rfl, rfl, Lib.hid rfl, hin0, Lib.hid (Kq.refl _ _ _)⟩
  case round =>
    clear hin0
    obtain ⟨x, bb, dd, rfl, hx, rfl, rfl, hbd, hin, hkw⟩ := hrel
    by_cases hxn : x < c.n
    · obtain ⟨c0, c1, c2, c3, z0⟩ := HCC.out
      replace c0 := hkw.out.cell z0 gs1 gs2 c0
      replace c1 := hkw.out.cell z0 gs1 gs2 c1
      replace c2 := hkw.out.cell z0 gs1 gs2 c2
      replace c3 := hkw.out.cell z0 gs1 gs2 c3
      replace z0 := Nat.lt_of_lt_of_le z0 hkw.out.size
      have hstep : (List.range (x + 1)).foldl (c.ck pr s l) (-1, 0) = c.ck pr s l (bb, dd) x := by
        rw [List.range_succ, List.foldl_append, ← hbd.out]; rfl
      have HST := Lib.hid hstep
      clear hstep
      go_wp2_with fail
      refine (canFollow_any _ _ _ _ c _ s x (HC.out.ext (HINV.out.1 _ hin.out.1)) HOK.out HS.out hxn).mono ?_
      rintro e w3 ⟨rfl, hx3⟩
      replace c0 := hx3.at z0 c0
      replace c1 := hx3.at z0 c1
      replace c2 := hx3.at z0 c2
      replace c3 := hx3.at z0 c3
      replace z0 := Nat.lt_of_lt_of_le z0 hx3.size
      replace hin : Hid (Inv w3 ∧ Kq g1 g2 W w3) := Lib.hid ⟨HINV.out.2 _ _ hin.out.1 hx3, hin.out.2.trans (Kq.of g1 g2 hx3)⟩
      replace hkw := Lib.hid (hkw.out.trans (Kq.of g1 g2 hx3))
      clear hx3
      cases hcan : c.can s x
      · have hsame : c.ck pr s l (bb, dd) x = (bb, dd) := by unfold Crs.ck; rw [hcan]; rfl
        have HSA := Lib.hid hsame
        clear hsame hcan c0 c1 c2 c3 z0
        go_wp2
        go_roundw
        case rel => exact ⟨x + 1, bb, dd, by go_num, by omega, rfl, rfl, Lib.hid (by rw [HST.out, HSA.out]), hin, hkw⟩
        case measure => simp [intOf] <;> omega
      · have HCAN := Lib.hid hcan
        obtain ⟨px, hpx⟩ : ∃ a : Nat, a = 2 ^ x := ⟨_, rfl⟩
        obtain ⟨sx, hsx⟩ : ∃ a : Nat, a = s ||| 2 ^ x := ⟨_, rfl⟩
        have hpl : px < 1024 := by rw [hpx]; exact Nat.lt_of_lt_of_le (Nat.pow_lt_pow_right (by omega) hxn) (pow_1024 hn)
        have y1 : (2 : Int) ^ x = (px : Int) := by rw [hpx]; simp
        have y2 : bits .or .i64 (s : Int) (px : Int) = (sx : Int) := by rw [or_nat hs2 hpl, hsx, hpx]
        have y3 : sx < 2 ^ c.n := by rw [hsx]; exact or_lt HS.out hxn
        have y4 : IntKind.i64.wrap (px : Int) = (px : Int) := IntWalk.i64_in _ (by omega)
        have HSX := Lib.hid (And.intro y1 (And.intro y2 (And.intro y3 y4)))
        have HPR2 := Lib.hid (HPR.out x hxn hcan)
        have hbv := HBD.out (c.n * sx + x) (num_lt y3 hxn)
        have hbs := stp_bd HOK.out (s := s) hl hxn
        obtain ⟨v, hv⟩ : ∃ v, v = c.stp s l x + pr (c.n * sx + x) := ⟨_, rfl⟩
        have hvw : IntKind.i64.wrap (c.stp s l x + pr (c.n * sx + x)) = v := by rw [hv]; exact IntWalk.i64_in _ (by omega)
        have HV := Lib.hid hvw
        have hck : c.ck pr s l (bb, dd) x = if bb < 0 ∨ v < dd then ((x : Int), v) else (bb, dd) := by
          unfold Crs.ck
          rw [if_pos hcan, ← hsx, ← hv]
        have HCK := Lib.hid hck
        rw [← hsx] at HPR2
        clear hcan hpx hpl y1 y2 y3 y4 hbv hbs hvw hck hv hsx
        have hid : Inv w3.drew := HINV.out.2 _ _ hin.out.1 (Ext.drw (Ext.refl _))
        have HPRx := HPR
        clear HPR
        obtain ⟨wr, hwr⟩ : ∃ w, w = w3 := ⟨_, rfl⟩
        subst hwr
        go_upto_region 6 with fail
        refine wp_region_noPanic ?_
        refine wp_region_held_drew (S := fun X => Kq g1 g2 wr X) (by kernel_rfl) ((Kq.refl g1 g2 wr).drw) (fun _ => ?_)
        refine take_at 0 (some 22) (.agg #[.slice A c.n k, .slice A2 c.n k2, .slice A3 c.n k3, .slice A4 c.n k4]) rfl rfl (by kernel_rfl) (by kernel_rfl) (by kernel_rfl) (fun _ _ _ h => h) (Or.inl ⟨by rfl, fun w' hSw => ?_⟩) ((Kq.refl g1 g2 wr).drw) ?_
        · have m0 := hSw.cell z0 gs1 gs2 c0
          have m1 := hSw.cell z0 gs1 gs2 c1
          have m2 := hSw.cell z0 gs1 gs2 c2
          have m3 := hSw.cell z0 gs1 gs2 c3
          try clear hSw
          go_simp
          all_goals (with_reducible rfl)
        try simp only [Act.put, List.setIfInBounds_toArray, List.set_cons_zero, List.set_cons_succ]
        refine take_at 1 (some 23) (.int .i64 (s : Nat)) rfl rfl (by kernel_rfl) (by kernel_rfl) (by kernel_rfl) (fun _ _ _ h => h) (Or.inl ⟨by rfl, fun w' hSw => ?_⟩) ((Kq.refl g1 g2 wr).drw) ?_
        · skip
          try clear hSw
          go_simp
          all_goals (with_reducible rfl)
        try simp only [Act.put, List.setIfInBounds_toArray, List.set_cons_zero, List.set_cons_succ]
        refine take_at 2 (some 24) (.int .i64 (l : Nat)) rfl rfl (by kernel_rfl) (by kernel_rfl) (by kernel_rfl) (fun _ _ _ h => h) (Or.inl ⟨by rfl, fun w' hSw => ?_⟩) ((Kq.refl g1 g2 wr).drw) ?_
        · skip
          try clear hSw
          go_simp
          all_goals (with_reducible rfl)
        try simp only [Act.put, List.setIfInBounds_toArray, List.set_cons_zero, List.set_cons_succ]
        refine take_at 3 (some 25) (.int .i64 (x : Nat)) rfl rfl (by kernel_rfl) (by kernel_rfl) (by kernel_rfl) (fun _ _ _ h => h) (Or.inl ⟨by rfl, fun w' hSw => ?_⟩) ((Kq.refl g1 g2 wr).drw) ?_
        · skip
          try clear hSw
          go_simp
          all_goals (with_reducible rfl)
        try simp only [Act.put, List.setIfInBounds_toArray, List.set_cons_zero, List.set_cons_succ]
        refine take_at 5 (some 27) (.func (.func 83) #[] #[.pointer (some ⟨kb, 0, none⟩)]) rfl rfl (by kernel_rfl) (by kernel_rfl) (by kernel_rfl) (fun _ _ _ h => h) (Or.inl ⟨by rfl, fun w' hSw => ?_⟩) ((Kq.refl g1 g2 wr).drw) ?_
        · skip
          try clear hSw
          go_simp
          all_goals (with_reducible rfl)
        try simp only [Act.put, List.setIfInBounds_toArray, List.set_cons_zero, List.set_cons_succ]
        refine take_at 6 (some 28) (.agg #[.slice A c.n k, .slice A2 c.n k2, .slice A3 c.n k3, .slice A4 c.n k4]) rfl rfl (by kernel_rfl) (by kernel_rfl) (by kernel_rfl) (fun _ _ _ h => h) (Or.inl ⟨by rfl, fun w' hSw => ?_⟩) ((Kq.refl g1 g2 wr).drw) ?_
        · have m0 := hSw.cell z0 gs1 gs2 c0
          have m1 := hSw.cell z0 gs1 gs2 c1
          have m2 := hSw.cell z0 gs1 gs2 c2
          have m3 := hSw.cell z0 gs1 gs2 c3
          try clear hSw
          go_simp
          all_goals (with_reducible rfl)
        try simp only [Act.put, List.setIfInBounds_toArray, List.set_cons_zero, List.set_cons_succ]
        refine take_at 7 (some 29) (.int .i64 (s : Nat)) rfl rfl (by kernel_rfl) (by kernel_rfl) (by kernel_rfl) (fun _ _ _ h => h) (Or.inl ⟨by rfl, fun w' hSw => ?_⟩) ((Kq.refl g1 g2 wr).drw) ?_
        · skip
          try clear hSw
          go_simp
          all_goals (with_reducible rfl)
        try simp only [Act.put, List.setIfInBounds_toArray, List.set_cons_zero, List.set_cons_succ]
        refine take_at 8 (some 30) (.int .i64 (x : Nat)) rfl rfl (by kernel_rfl) (by kernel_rfl) (by kernel_rfl) (fun _ _ _ h => h) (Or.inl ⟨by rfl, fun w' hSw => ?_⟩) ((Kq.refl g1 g2 wr).drw) ?_
        · skip
          try clear hSw
          go_simp
          all_goals (with_reducible rfl)
        try simp only [Act.put, List.setIfInBounds_toArray, List.set_cons_zero, List.set_cons_succ]
        refine take_at 9 (some 31) (.int .i64 (px : Nat)) rfl rfl (by kernel_rfl) (by kernel_rfl) (by kernel_rfl) (fun _ _ _ h => h) (Or.inl ⟨by rfl, fun w' hSw => ?_⟩) ((Kq.refl g1 g2 wr).drw) ?_
        · have y := HSX.out.1
          have yw := HSX.out.2.2.2
          try clear hSw
          go_simp
          all_goals (with_reducible rfl)
        try simp only [Act.put, List.setIfInBounds_toArray, List.set_cons_zero, List.set_cons_succ]
        refine take_at 10 (some 32) (.int .i64 (sx : Nat)) rfl rfl (by kernel_rfl) (by kernel_rfl) (by kernel_rfl) (fun _ _ _ h => h) (Or.inl ⟨by rfl, fun w' hSw => ?_⟩) ((Kq.refl g1 g2 wr).drw) ?_
        · have y := HSX.out.2.1
          try clear hSw
          go_simp
          all_goals (with_reducible rfl)
        try simp only [Act.put, List.setIfInBounds_toArray, List.set_cons_zero, List.set_cons_succ]
        refine take_at 11 (some 33) (.int .i64 (x : Nat)) rfl rfl (by kernel_rfl) (by kernel_rfl) (by kernel_rfl) (fun _ _ _ h => h) (Or.inl ⟨by rfl, fun w' hSw => ?_⟩) ((Kq.refl g1 g2 wr).drw) ?_
        · skip
          try clear hSw
          go_simp
          all_goals (with_reducible rfl)
        try simp only [Act.put, List.setIfInBounds_toArray, List.set_cons_zero, List.set_cons_succ]
        refine wpAnyH_ready (rs := [4]) (by kernel_rfl) (by simp) ?_
        refine AllReadyH.cons rfl (fun K hK => ?_) AllReadyH.nil
        go_simp
        refine (step_any _ _ _ _ c _ s l x (HC.out.ext (HINV.out.1 _ hid)) hl hxn).mono ?_
        rintro e v4 ⟨rfl, hb4⟩
        have e4 : Kq g1 g2 wr v4 := ((Kq.refl g1 g2 wr).drw).trans (Kq.of g1 g2 hb4)
        have i4 : Inv v4 := HINV.out.2 _ _ (hid) hb4
        try go_wp2_with fail
        refine hK.out _ _ e4 (fun _ => ?_)
        clear hK K
        try simp only [Act.put, List.setIfInBounds_toArray, List.set_cons_zero, List.set_cons_succ]
        refine wpAnyH_ready (rs := [12]) (by kernel_rfl) (by simp) ?_
        refine AllReadyH.cons rfl (fun K hK => ?_) AllReadyH.nil
        go_simp
        refine (number_any _ _ _ _ c _ sx x (HC.out.ext (HINV.out.1 _ i4)) HOK.out HSX.out.2.2.1 hxn).mono ?_
        rintro e v12 ⟨rfl, hb12⟩
        have e12 : Kq g1 g2 wr v12 := (e4).trans (Kq.of g1 g2 hb12)
        have i12 : Inv v12 := HINV.out.2 _ _ (i4) hb12
        try go_wp2_with fail
        refine hK.out _ _ e12 (fun _ => ?_)
        clear hK K
        try simp only [Act.put, List.setIfInBounds_toArray, List.set_cons_zero, List.set_cons_succ]
        refine wpAnyH_ready (rs := [13]) (by kernel_rfl) (by simp) ?_
        refine AllReadyH.cons rfl (fun K hK => ?_) AllReadyH.nil
        go_simp
        refine (HPR2.out _ i12).mono ?_
        rintro e v13 ⟨rfl, hb13, hi13⟩
        have e13 : Kq g1 g2 wr v13 := (e12).trans hb13
        have i13 : Inv v13 := hi13
        try go_wp2_with fail
        refine hK.out _ _ e13 (fun _ => ?_)
        clear hK K
        try simp only [Act.put, List.setIfInBounds_toArray, List.set_cons_zero, List.set_cons_succ]
        refine take_at 14 (some 36) (.int .i64 v) rfl rfl (by kernel_rfl) (by kernel_rfl) (by kernel_rfl) (fun _ _ _ h => h) (Or.inl ⟨by rfl, fun w' hSw => ?_⟩) (e13) ?_
        · have y := HV.out
          try clear hSw
          go_simp
          all_goals (with_reducible rfl)
        try simp only [Act.put, List.setIfInBounds_toArray, List.set_cons_zero, List.set_cons_succ]
        refine take_at 15 (some 11) (.int .i64 v) rfl rfl (by kernel_rfl) (by kernel_rfl) (by kernel_rfl) (fun _ _ _ h => h) (Or.inl ⟨by rfl, fun w' hSw => ?_⟩) (e13) ?_
        · skip
          try clear hSw
          go_simp
          all_goals (with_reducible rfl)
        try simp only [Act.put, List.setIfInBounds_toArray, List.set_cons_zero, List.set_cons_succ]
        refine wpAnyH_done (by kernel_rfl) ?_ _
        refine NoPanic.normal ?_
        have HNK := Lib.hid (hkw.out.trans e13)
        have HN := Lib.hid (And.intro (hin.out.2.trans e13) i13)
        clear hb4 hb12 hb13 hi13 e4 e12 e13 i4 i12 i13 hid
        clear c0 c1 c2 c3 z0
        by_cases hbb : bb < 0
        · have HBB := Lib.hid hbb
          go_wp2
          go_roundw
          case rel => exact ⟨x + 1, (x : Int), v, by go_num, by omega, rfl, rfl, Lib.hid (by rw [HST.out, HCK.out, if_pos (Or.inl HBB.out)]), Lib.hid ⟨HN.out.2, HN.out.1⟩, HNK⟩
          case measure => simp [intOf] <;> omega
        · by_cases hvd : v < dd
          · have HBB := Lib.hid hvd
            go_wp2
            go_roundw
            case rel => exact ⟨x + 1, (x : Int), v, by go_num, by omega, rfl, rfl, Lib.hid (by rw [HST.out, HCK.out, if_pos (Or.inr HBB.out)]), Lib.hid ⟨HN.out.2, HN.out.1⟩, HNK⟩
            case measure => simp [intOf] <;> omega
          · have HBB := Lib.hid (And.intro hbb hvd)
            go_wp2
            go_roundw
            case rel => exact ⟨x + 1, bb, dd, by go_num, by omega, rfl, rfl, Lib.hid (by rw [HST.out, HCK.out, if_neg (fun h => h.elim HBB.out.1 HBB.out.2)]), Lib.hid ⟨HN.out.2, HN.out.1⟩, HNK⟩
            case measure => simp [intOf] <;> omega
    · obtain rfl : x = c.n := by omega
      have hfin : c.chp pr s l = (bb, dd) := hbd.out.symm
      have HFI := Lib.hid hfin
      have hx9 : ¬ (c.n : Int) < (c.n : Int) := by omega
      clear hfin
      go_wp2
      refine bodyPost_ret (v := .tuple #[.int .i64 bb, .int .i64 dd]) (by simp [results, Tryd.results84, go_sem]) rfl ?_
      exact ⟨by rw [HFI.out], hin.out.2, hin.out.1⟩
end Go.Proofs.YtlachbodibajlaaDoor
