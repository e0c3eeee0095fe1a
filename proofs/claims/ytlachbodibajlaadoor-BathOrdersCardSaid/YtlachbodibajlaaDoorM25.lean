/- Walks: the reference's follows, Order, Possible. · Walks: the reference's Cost. -/
import Derived.Test.YtlachbodibajlaaDoorM24
import Derived.Test.YtlachbodibajlaaDoorM22
namespace Go.Proofs.YtlachbodibajlaaDoor
open Go.RowKit Go.Shelf

set_option maxHeartbeats 4000000 in
set_option maxRecDepth 100000 in
theorem follows_any (S C B : Value) (n mc m : Nat) (st : Nat → Int) (ln : Nat → Nat) (y : Nat → Nat → Int) (a b : Nat → Int) (s j : Nat) (W : World) (h : Pv W S C B n mc m st ln y a b) (hk : Okp n mc m st ln y a b) (hs : s < 2 ^ n) (hj : j < n) :
    Calls Tryd.prog 78 #[.agg #[S, C, B], .int .i64 s, .int .i64 j] W fun e W' => e = .returned (.bool ((crs n m st y a b).can s j)) ∧ Ext W W' := by
  have hcan := can_crs (st := st) (y := y) (b := b) (m := m) (fun i hi => ⟨(hk.pr i hi).1, (hk.pr i hi).2.1⟩) hk.n10 s j
  obtain ⟨r, hr⟩ : ∃ r, r = (crs n m st y a b).can s j := ⟨_, rfl⟩
  rw [← hr] at hcan ⊢
  have HR := Lib.hid hcan
  have hs2 : s < 1024 := Nat.lt_of_lt_of_le hs (pow_1024 hk.n10)
  clear hcan hr
  obtain ⟨A, k, rfl, hk1, hk2, -⟩ := id h.vs
  obtain ⟨A2, k2, rfl, hk3, hk4, hrow⟩ := id h.vc
  obtain ⟨A3, k3, rfl, hk5, hk6, hpr⟩ := id h.vb
  have HROW := Lib.hid hrow; have HPR := Lib.hid hpr
  have hn10 := hk.n10; have hn1 := hk.n1; have hm40 := hk.m40
  have HK := Lib.hid hk
  have E1 : Hid (Ext W (W.alloc (.cells #[.slice A n k, .slice A2 mc k2, .slice A3 m k3] 48))) := Lib.hid (al1 W _)
  have hbk := heap_alloc_new W (.cells #[.slice A n k, .slice A2 mc k2, .slice A3 m k3] 48)
  clear h hk hrow hpr
  go_enter Tryd.func78, Tryd.ntmps78
  go_upto_region 1 with fail
  obtain ⟨s1, hs1⟩ : ∃ s, s = W.heap.size := ⟨_, rfl⟩
  rw [← hs1] at hbk ⊢
  generalize W.alloc (.cells #[.slice A n k, .slice A2 mc k2, .slice A3 m k3] 48) = W1 at *
  obtain ⟨c0, c1, c2, z0⟩ := three_c hbk
  have HB := Lib.hid hbk
  clear hbk hs1
  have hj10 : j < 10 := by omega
  go_wp2_with fail
  go_loopw [8, 12] (fun _ v wr => ∃ i : Nat, v = .int .i64 i ∧ i ≤ m ∧ Hid ((List.range i).all (fol1 a b j s) = true) ∧ Hid (Ext W1 wr)) (fun _ v _ => m - (intOf v).toNat)
  case atStart => exact ⟨0, rfl, Nat.zero_le _, Lib.hid rfl, Lib.hid (Ext.refl _)⟩
  case round =>
    clear c0 c1 c2 z0
    obtain ⟨i, rfl, hi, hall, hin⟩ := hrel
    obtain ⟨c0, c1, c2, z0⟩ := three_c (ext_ty' hin.out HB.out)
    by_cases hlt : i < m
    · obtain ⟨pg, po, rfl, zg, hcell⟩ := HPR.out (by omega)
      obtain ⟨q1, q2⟩ := hcell i hlt
      replace q1 := (E1.out.trans hin.out).at zg q1
      replace q2 := (E1.out.trans hin.out).at zg q2
      have zg2 := Nat.lt_of_lt_of_le zg (E1.out.trans hin.out).size
      obtain ⟨ha0, han, hb0, hbn, -⟩ := HK.out.pr i hlt
      obtain ⟨p, hp⟩ : ∃ t : Nat, a i = (t : Int) := ⟨(a i).toNat, by omega⟩
      obtain ⟨q, hq⟩ : ∃ t : Nat, b i = (t : Int) := ⟨(b i).toNat, by omega⟩
      rw [hp] at q1 han
      rw [hq] at q2 hbn
      have hpn : p < 10 := by omega
      have hqn : q < 10 := by omega
      have hst := range_all_succ (fol1 a b j s) i
      rw [hall.out, Bool.true_and] at hst
      have hf1 : fol1 a b j s i = !(decide (q = j) && !s.testBit p) := by
        unfold fol1
        rw [hp, hq, Int.toNat_natCast]
        congr 2
        rw [decide_eq_decide]; omega
      rw [hf1] at hst
      have HST := Lib.hid hst
      have HF1 := Lib.hid hf1
      clear hcell zg ha0 han hb0 hbn hp hq hst hf1
      go_upto_region 4 with fail
      have e4 : Ext wr (wr.alloc (.cells #[.int .i64 p, .int .i64 q] 60)) := al1 wr _
      have hb4 := heap_alloc_new wr (.cells #[.int .i64 p, .int .i64 q] 60)
      obtain ⟨p4, hp4⟩ : ∃ t, t = wr.heap.size := ⟨_, rfl⟩
      rw [← hp4] at hb4 ⊢
      generalize wr.alloc (.cells #[.int .i64 p, .int .i64 q] 60) = w4 at *
      obtain ⟨d0, d1, dz, -⟩ := two_c hb4
      have hin2 := Lib.hid (hin.out.trans e4)
      clear e4 hb4 hp4 hin c0 c1 c2 z0 q1 q2 zg2
      have y1 := and1_nat (l := p) hs2
      by_cases hqj : q = j
      · subst hqj
        cases hb : s.testBit p
        · rw [hb] at y1 HF1
          simp only [Bool.false_eq_true, if_false] at y1
          have hr0 : r = false := by rw [HR.out, range_all_no hlt (by rw [HF1.out]; simp)]; rfl
          subst hr0
          clear hb
          go_wp2
          go_ret
          exact ⟨rfl, E1.out.trans hin2.out⟩
        · rw [hb] at y1 HST
          simp only [if_true] at y1
          have HNX : Hid ((List.range (i + 1)).all (fol1 a b q s) = true) := Lib.hid (by rw [HST.out]; simp)
          clear hb
          go_wp2
          go_roundw
          case rel => exact ⟨i + 1, by go_num, by omega, HNX, hin2⟩
          case measure => simp [intOf] <;> omega
      · have hqj2 : ¬ (q : Int) = (j : Int) := by omega
        have HNX : Hid ((List.range (i + 1)).all (fol1 a b j s) = true) := Lib.hid (by rw [HST.out, decide_eq_false hqj]; rfl)
        clear hqj y1
        go_wp2
        go_roundw
        case rel => exact ⟨i + 1, by go_num, by omega, HNX, hin2⟩
        case measure => simp [intOf] <;> omega
    · obtain rfl : i = m := by omega
      have hx9 : ¬ (i : Int) < (i : Int) := by omega
      have y1 := and1_nat (l := j) hs2
      have hr9 := HR.out
      rw [hall.out, Bool.true_and] at hr9
      cases hb : s.testBit j
      · rw [hb] at y1 hr9
        simp only [Bool.false_eq_true, if_false] at y1
        obtain rfl : r = true := hr9
        clear hb
        go_wp2
        go_ret
        exact ⟨rfl, E1.out.trans hin.out⟩
      · rw [hb] at y1 hr9
        simp only [if_true] at y1
        obtain rfl : r = false := hr9
        clear hb
        go_wp2
        go_ret
        exact ⟨rfl, E1.out.trans hin.out⟩

set_option maxHeartbeats 4000000 in
set_option maxRecDepth 100000 in
theorem order_any (S C B : Value) (n mc m : Nat) (st : Nat → Int) (ln : Nat → Nat) (y : Nat → Nat → Int) (a b : Nat → Int) (O : Value) (q : Nat) (x : Nat → Int) (W : World) (h : Pv W S C B n mc m st ln y a b) (hk : Okp n mc m st ln y a b) (hO : Il W O q x) :
    Calls Tryd.prog 73 #[.agg #[S, C, B], O] W fun e W' => e = .returned (.bool ((crs n m st y a b).okO q x)) ∧ Ext W W' := by
  have HFO := Lib.hid fun s j X hX hs hj => follows_any S C B n mc m st ln y a b s j X hX hk hs hj
  have HV := Lib.hid h; have HO := Lib.hid hO
  obtain ⟨OA, oc, rfl, ho1, ho2, -⟩ := id hO
  obtain ⟨c, hc⟩ : ∃ c, c = crs n m st y a b := ⟨_, rfl⟩
  have hcn : c.n = n := by rw [hc]; rfl
  rw [← hc]
  have HF := Lib.hid fun s j X hX hs hj => HFO.out s j X hX hs hj
  rw [← hc] at HF
  obtain ⟨r, hr⟩ : ∃ r, r = c.okO q x := ⟨_, rfl⟩
  rw [← hr]
  have HR := Lib.hid hr
  have HCN := Lib.hid hcn
  clear hr hcn hc hO HFO
  obtain ⟨A, k, rfl, hk1, hk2, -⟩ := id h.vs
  obtain ⟨A2, k2, rfl, hk3, hk4, hrow⟩ := id h.vc
  obtain ⟨A3, k3, rfl, hk5, hk6, hpr⟩ := id h.vb
  have HROW := Lib.hid hrow; have HPR := Lib.hid hpr
  have hn10 := hk.n10; have hn1 := hk.n1; have hm40 := hk.m40
  have HK := Lib.hid hk
  have E1 : Hid (Ext W (W.alloc (.cells #[.slice A n k, .slice A2 mc k2, .slice A3 m k3] 48))) := Lib.hid (al1 W _)
  have hbk := heap_alloc_new W (.cells #[.slice A n k, .slice A2 mc k2, .slice A3 m k3] 48)
  clear h hk hrow hpr
  go_enter Tryd.func73, Tryd.ntmps73
  go_upto_region 1 with fail
  obtain ⟨s1, hs1⟩ : ∃ s, s = W.heap.size := ⟨_, rfl⟩
  rw [← hs1] at hbk ⊢
  generalize W.alloc (.cells #[.slice A n k, .slice A2 mc k2, .slice A3 m k3] 48) = W1 at *
  obtain ⟨c0, c1, c2, z0⟩ := three_c hbk
  have HB := Lib.hid hbk
  clear hbk hs1
  go_wp2_with fail
  go_loopw [5, 10] (fun sv v wr => ∃ (i s : Nat), v = .int .i64 i ∧ sv = .int .i64 s ∧ i ≤ q ∧ Hid ((∀ t, t < i → 0 ≤ x t ∧ x t ≤ (n : Int) - 1) ∧ c.fol 0 (ordL i x) = true ∧ s = fin 0 (ordL i x)) ∧ Hid (Ext W1 wr)) (fun _ v _ => q - (intOf v).toNat)
  case atStart => exact ⟨0, 0, rfl, rfl, Nat.zero_le _, Lib.hid ⟨fun t ht => absurd ht (Nat.not_lt_zero _), rfl, rfl⟩, Lib.hid (Ext.refl _)⟩
  case round =>
    clear c0 c1 c2 z0
    obtain ⟨i, s, rfl, rfl, hi, hst, hin⟩ := hrel
    obtain ⟨c0, c1, c2, z0⟩ := three_c (ext_ty' hin.out HB.out)
    by_cases hlt : i < q
    · obtain ⟨ob, oo, rfl, oz, oc1⟩ := Vl.at HO.out (E1.out.trans hin.out) hlt
      try dsimp only at oc1
      obtain ⟨v, hv⟩ : ∃ v, v = x i := ⟨_, rfl⟩
      rw [← hv] at oc1
      have HVV := Lib.hid hv
      clear hv
      by_cases hv0 : v < 0
      · have hr0 : r = false := by
          cases hrr : r
          · rfl
          · rw [HR.out] at hrr
            have h9 := ((okO_iff.1 hrr).2.1 i hlt).1
            rw [← HVV.out] at h9; omega
        subst hr0
        go_wp2
        go_ret
        exact ⟨rfl, E1.out.trans hin.out⟩
      by_cases hvn : (n : Int) ≤ v
      · have hr0 : r = false := by
          cases hrr : r
          · rfl
          · rw [HR.out] at hrr
            have h9 := ((okO_iff.1 hrr).2.1 i hlt).2
            rw [← HVV.out, HCN.out] at h9; omega
        subst hr0
        go_wp2
        go_ret
        exact ⟨rfl, E1.out.trans hin.out⟩
      obtain ⟨xj, hxj⟩ : ∃ t : Nat, v = (t : Int) := ⟨v.toNat, by omega⟩
      subst hxj
      have hxn : xj < n := by omega
      have hx10 : xj < 10 := by omega
      have hsu := ordL_succ i x
      rw [← HVV.out, Int.toNat_natCast] at hsu
      have hs9 : s < 2 ^ n := by rw [hst.out.2.2, ← HCN.out]; exact fin_lt _ 0 (Nat.two_pow_pos _) (fol_in _ _ hst.out.2.1)
      have hfs : c.fol 0 (ordL (i + 1) x) = c.can s xj := by rw [hsu, fol_snoc, hst.out.2.1, ← hst.out.2.2, decide_eq_true (by rw [HCN.out]; exact hxn)]; simp
      have HSU := Lib.hid hsu; have HS9 := Lib.hid hs9; have HFS := Lib.hid hfs
      clear hsu hs9 hfs
      go_wp2_with fail
      refine (HF.out s xj _ (HV.out.ext (E1.out.trans hin.out)) HS9.out hxn).mono ?_
      rintro e w3 ⟨rfl, hx⟩
      have hin2 := Lib.hid (hin.out.trans hx)
      clear hx c0 c1 c2 z0 oc1 oz
      cases hcan : c.can s xj
      · have hr0 : r = false := by
          cases hrr : r
          · rfl
          · rw [HR.out] at hrr
            have h9 := (okO_iff.1 hrr).2.2
            rw [fol_no hlt (by rw [HFS.out, hcan])] at h9; cases h9
        subst hr0
        clear hcan
        go_wp2
        go_ret
        exact ⟨rfl, E1.out.trans hin2.out⟩
      · have HF2 : Hid (c.fol 0 (ordL (i + 1) x) = true) := Lib.hid (by rw [HFS.out, hcan])
        have hs2 : s < 1024 := Nat.lt_of_lt_of_le HS9.out (pow_1024 hn10)
        obtain ⟨px, hpx⟩ : ∃ a : Nat, a = 2 ^ xj := ⟨_, rfl⟩
        obtain ⟨sx, hsx⟩ : ∃ a : Nat, a = s ||| 2 ^ xj := ⟨_, rfl⟩
        have hpl : px < 1024 := by rw [hpx]; exact Nat.lt_of_lt_of_le (Nat.pow_lt_pow_right (by omega) hxn) (pow_1024 hn10)
        have y1 : (2 : Int) ^ xj = (px : Int) := by rw [hpx]; simp
        have y2 : bits .or .i64 (s : Int) (px : Int) = (sx : Int) := by rw [or_nat hs2 hpl, hsx, hpx]
        have y4 : IntKind.i64.wrap (px : Int) = (px : Int) := IntWalk.i64_in _ (by omega)
        have HSX := Lib.hid hsx
        clear hcan hpx hsx hs2 hpl
        go_wp2
        go_roundw
        case rel =>
          refine ⟨i + 1, sx, by go_num, rfl, by omega, Lib.hid ⟨fun t ht => ?_, HF2.out, by rw [HSU.out, fin_snoc, ← hst.out.2.2, HSX.out]⟩, hin2⟩
          by_cases e : t = i
          · subst e; rw [← HVV.out]; omega
          · exact hst.out.1 t (by omega)
        case measure => simp [intOf] <;> omega
    · obtain rfl : i = q := by omega
      have hx9 : ¬ (i : Int) < (i : Int) := by omega
      have hr9 : r = decide (i = n) := by
        rw [HR.out]
        unfold Crs.okO
        rw [hst.out.2.1, HCN.out, btw_iff.2 hst.out.1]; simp
      have hbe : ((i : Int) == (n : Int)) = decide (i = n) := by rw [Bool.eq_iff_iff, beq_iff_eq, decide_eq_true_eq]; omega
      have HR9 := Lib.hid hr9
      clear hr9
      go_wp2
      go_ret
      exact ⟨by rw [HR9.out]; simp, E1.out.trans hin.out⟩

set_option maxHeartbeats 4000000 in
set_option maxRecDepth 100000 in
theorem possible_any (S C B : Value) (n mc m : Nat) (st : Nat → Int) (ln : Nat → Nat) (y : Nat → Nat → Int) (a b : Nat → Int) (W : World) (h : Pv W S C B n mc m st ln y a b) (hk : Okp n mc m st ln y a b) :
    Calls Tryd.prog 76 #[.agg #[S, C, B]] W fun e W' => e = .returned (.bool (crs n m st y a b).has) ∧ Ext W W' := by
  have HFO := Lib.hid fun s j X hX hs hj => follows_any S C B n mc m st ln y a b s j X hX hk hs hj
  have HV := Lib.hid h
  obtain ⟨c, hc⟩ : ∃ c, c = crs n m st y a b := ⟨_, rfl⟩
  have hcn : c.n = n := by rw [hc]; rfl
  rw [← hc]
  have HF := Lib.hid fun s j X hX hs hj => HFO.out s j X hX hs hj
  rw [← hc] at HF
  have HCN := Lib.hid hcn
  clear hcn hc HFO
  obtain ⟨A, k, rfl, hk1, hk2, -⟩ := id h.vs
  obtain ⟨A2, k2, rfl, hk3, hk4, hrow⟩ := id h.vc
  obtain ⟨A3, k3, rfl, hk5, hk6, hpr⟩ := id h.vb
  have HROW := Lib.hid hrow; have HPR := Lib.hid hpr
  have hn10 := hk.n10; have hn1 := hk.n1; have hm40 := hk.m40
  have HK := Lib.hid hk
  have E1 : Hid (Ext W (W.alloc (.cells #[.slice A n k, .slice A2 mc k2, .slice A3 m k3] 48))) := Lib.hid (al1 W _)
  have hbk := heap_alloc_new W (.cells #[.slice A n k, .slice A2 mc k2, .slice A3 m k3] 48)
  clear h hk hrow hpr
  go_enter Tryd.func76, Tryd.ntmps76
  go_upto_region 1 with fail
  obtain ⟨s1, hs1⟩ : ∃ s, s = W.heap.size := ⟨_, rfl⟩
  rw [← hs1] at hbk ⊢
  generalize W.alloc (.cells #[.slice A n k, .slice A2 mc k2, .slice A3 m k3] 48) = W1 at *
  obtain ⟨c0, c1, c2, z0⟩ := three_c hbk
  have HB := Lib.hid hbk
  clear hbk hs1
  go_wp2_with fail
  go_loopw [3, 8, 13] (fun s q _ wr => ∃ (j z : Nat), q = .int .i64 j ∧ j ≤ n ∧ s = .int .i64 z ∧ Hid (z = c.rnds j) ∧ Hid (Ext W1 wr)) (fun _ q _ _ => n - (intOf q).toNat)
  case atStart => exact ⟨0, 0, rfl, Nat.zero_le _, rfl, Lib.hid rfl, Lib.hid (Ext.refl _)⟩
  case round =>
    clear c0 c1 c2 z0
    obtain ⟨j, z, rfl, hj, rfl, hz, hin⟩ := hrel
    obtain ⟨c0, c1, c2, z0⟩ := three_c (ext_ty' hin.out HB.out)
    by_cases hlt : j < n
    · go_wp2_with fail
      go_loopw [3, 13] (fun s x wr => ∃ (t z' : Nat), x = .int .i64 t ∧ t ≤ n ∧ s = .int .i64 z' ∧ Hid (z' = (List.range t).foldl c.grow z) ∧ Hid (Ext W1 wr)) (fun _ x _ => n - (intOf x).toNat)
      case atStart => exact ⟨0, z, rfl, Nat.zero_le _, rfl, Lib.hid rfl, hin⟩
      case round =>
        clear c0 c1 c2 z0
        obtain ⟨t, z', rfl, ht, rfl, hz', hin3⟩ := hrel
        obtain ⟨c0, c1, c2, z0⟩ := three_c (ext_ty' hin3.out HB.out)
        by_cases htn : t < n
        · have hzl : z' < 2 ^ n := by rw [hz'.out, ← HCN.out]; exact grows_lt _ _ (fun x hx => by have := List.mem_range.1 hx; have := HCN.out; omega) (by rw [hz.out]; exact rnds_lt c j)
          have hz10 : z' < 1024 := Nat.lt_of_lt_of_le hzl (pow_1024 hn10)
          have hstep : (List.range (t + 1)).foldl c.grow z = c.grow z' t := by rw [List.range_succ, List.foldl_append, ← hz'.out]; rfl
          have HST := Lib.hid hstep
          have HZL := Lib.hid hzl
          clear hstep hzl
          go_wp2_with fail
          refine (HF.out z' t _ (HV.out.ext (E1.out.trans hin3.out)) HZL.out htn).mono ?_
          rintro e w4 ⟨rfl, hx⟩
          have hin4 := Lib.hid (hin3.out.trans hx)
          clear hx c0 c1 c2 z0
          cases hcan : c.can z' t
          · have hg : c.grow z' t = z' := by unfold Crs.grow; rw [hcan]; rfl
            have HG := Lib.hid hg
            clear hg hcan
            go_wp2
            go_roundw
            case rel => exact ⟨t + 1, z', by go_num, by omega, rfl, Lib.hid (by rw [HST.out, HG.out]), hin4⟩
            case measure => simp [intOf] <;> omega
          · have ht10 : t < 10 := by omega
            obtain ⟨py, hpy⟩ : ∃ a : Nat, a = 2 ^ t := ⟨_, rfl⟩
            obtain ⟨zy, hzy⟩ : ∃ a : Nat, a = z' ||| 2 ^ t := ⟨_, rfl⟩
            have hpl : py < 1024 := by rw [hpy]; exact Nat.lt_of_lt_of_le (Nat.pow_lt_pow_right (by omega) htn) (pow_1024 hn10)
            have y1 : (2 : Int) ^ t = (py : Int) := by rw [hpy]; simp
            have y2 : bits .or .i64 (z' : Int) (py : Int) = (zy : Int) := by rw [or_nat hz10 hpl, hzy, hpy]
            have y4 : IntKind.i64.wrap (py : Int) = (py : Int) := IntWalk.i64_in _ (by omega)
            have hg : c.grow z' t = zy := by unfold Crs.grow; rw [if_pos hcan, hzy]
            have HG := Lib.hid hg
            clear hg hcan hpy hzy hpl
            go_wp2
            go_roundw
            case rel => exact ⟨t + 1, zy, by go_num, by omega, rfl, Lib.hid (by rw [HST.out, HG.out]), hin4⟩
            case measure => simp [intOf] <;> omega
        · obtain rfl : t = n := by omega
          have hx9 : ¬ (t : Int) < (t : Int) := by omega
          have hnext : z' = c.rnds (j + 1) := by rw [hz'.out, hz.out, ← HCN.out]; rfl
          have HN := Lib.hid hnext
          clear hnext c0 c1 c2 z0
          go_wp2
          go_roundw
          case rel => exact ⟨j + 1, z', by go_num, by omega, rfl, HN, hin3⟩
          case measure => simp [intOf] <;> omega
    · obtain rfl : j = n := by omega
      have hx9 : ¬ (j : Int) < (j : Int) := by omega
      obtain ⟨P, hP⟩ : ∃ P, P = 2 ^ j := ⟨_, rfl⟩
      have hPl : P ≤ 1024 := by rw [hP]; exact pow_1024 hn10
      have hP1 : 1 ≤ P := by rw [hP]; exact Nat.one_le_two_pow
      have y1 : (2 : Int) ^ j = (P : Int) := by rw [hP]; simp
      have y2 : IntKind.i64.wrap (P : Int) = (P : Int) := IntWalk.i64_in _ (by omega)
      have y3 : IntKind.i64.wrap ((P : Int) - 1) = (P : Int) - 1 := IntWalk.i64_in _ (by omega)
      have hhas : c.has = decide ((z : Int) = (P : Int) - 1) := by
        unfold Crs.has Crs.all
        rw [HCN.out, ← hz.out, ← hP, decide_eq_decide]; omega
      have HH := Lib.hid hhas
      clear hhas hP
      go_wp2
      go_ret
      exact ⟨by rw [HH.out]; simp; rw [Bool.eq_iff_iff, beq_iff_eq, decide_eq_true_eq], E1.out.trans hin.out⟩
end Go.Proofs.YtlachbodibajlaaDoor
namespace Go.Proofs.YtlachbodibajlaaDoor
open Go.RowKit Go.Shelf

theorem fin_ne {c : Crs} {o : List Nat} (h : c.fol 0 o = true) (ho : 0 < o.length) : fin 0 o ≠ 0 := fun e => by
  have := fol_cnt o 0 h
  rw [e, cntN_zero] at this
  omega
/-- one bath more, behind another -/
theorem cst_next {c : Crs} {x : Nat → Int} {j : Nat} (h : c.fol 0 (ordL (j + 1) x) = true) : c.cst 0 0 (ordL (j + 1 + 1) x) = c.cst 0 0 (ordL (j + 1) x) + c.ch (x j).toNat (x (j + 1)).toNat := by
  rw [ordL_succ (j + 1), cst_snoc]
  unfold Crs.stp
  rw [if_neg (fin_ne h (by rw [ordL_len]; omega))]
  congr 2
  rw [ordL_succ, lst_snoc]

set_option maxHeartbeats 8000000 in
set_option maxRecDepth 100000 in
theorem costR_any (S C B : Value) (n mc m : Nat) (st : Nat → Int) (ln : Nat → Nat) (y : Nat → Nat → Int) (a b : Nat → Int) (O : Value) (q : Nat) (x : Nat → Int) (W : World) (h : Pv W S C B n mc m st ln y a b) (hO : Il W O q x) :
    Calls Tryd.prog 32 #[.agg #[S, C, B], O] W fun e W' => e = .returned (.tuple #[.int .i64 (costV (okPlan n mc m st ln y a b) (crs n m st y a b) q x), .int .i64 (costE (okPlan n mc m st ln y a b) (crs n m st y a b) q x)]) ∧ Ext W W' := by
  obtain ⟨rv, hrv⟩ : ∃ v, v = costV (okPlan n mc m st ln y a b) (crs n m st y a b) q x := ⟨_, rfl⟩
  obtain ⟨re, hre⟩ : ∃ v, v = costE (okPlan n mc m st ln y a b) (crs n m st y a b) q x := ⟨_, rfl⟩
  rw [← hrv, ← hre]
  have HR0 := Lib.hid (And.intro hrv hre)
  clear hrv hre
  have HV := Lib.hid h; have HO := Lib.hid hO
  have HVA := Lib.hid fun X hX => validR_any S C B n mc m st ln y a b X hX
  have HOR := Lib.hid fun X hX hk hO => order_any S C B n mc m st ln y a b O q x X hX hk hO
  obtain ⟨A, k, rfl, hk1, hk2, -⟩ := id h.vs
  obtain ⟨A2, k2, rfl, hk3, hk4, hrow⟩ := id h.vc
  obtain ⟨A3, k3, rfl, -⟩ := id h.vb
  obtain ⟨OA, oc, rfl, ho1, ho2, -⟩ := id hO
  have HROW := Lib.hid hrow
  have E1 : Hid (Ext W (W.alloc (.cells #[.slice A n k, .slice A2 mc k2, .slice A3 m k3] 48))) := Lib.hid (al1 W _)
  have hbk := heap_alloc_new W (.cells #[.slice A n k, .slice A2 mc k2, .slice A3 m k3] 48)
  clear h hO hrow
  go_enter Tryd.func32, Tryd.ntmps32
  go_upto_region 1 with fail
  obtain ⟨s1, hs1⟩ : ∃ s, s = W.heap.size := ⟨_, rfl⟩
  rw [← hs1] at hbk ⊢
  generalize W.alloc (.cells #[.slice A n k, .slice A2 mc k2, .slice A3 m k3] 48) = W1 at *
  obtain ⟨c0, c1, c2, z0⟩ := three_c hbk
  have HB := Lib.hid hbk
  clear hbk hs1
  go_wp2_with fail
  refine (HVA.out _ (HV.out.ext E1.out)).mono ?_
  rintro e w2 ⟨rfl, hx⟩
  have HX2 := Lib.hid hx
  replace c0 := hx.at z0 c0
  replace c1 := hx.at z0 c1
  replace c2 := hx.at z0 c2
  replace z0 := Nat.lt_of_lt_of_le z0 hx.size
  clear hx
  cases hok : okPlan n mc m st ln y a b
  · have HR : Hid (rv = 0 ∧ re = 2) := Lib.hid (by rw [HR0.out.1, HR0.out.2, hok]; exact ⟨rfl, rfl⟩)
    clear hok HR0 c0 c1 c2 z0
    go_wp2
    refine bodyPost_ret (v := .tuple #[.int .i64 0, .int .i64 2]) (by simp [results, Tryd.results32, go_sem]) rfl ?_
    exact ⟨by rw [HR.out.1, HR.out.2], E1.out.trans HX2.out⟩
  have hkp := okPlan_iff.1 hok
  have HK := Lib.hid hkp
  have hn10 := hkp.n10; have hn1 := hkp.n1
  have HOR2 := Lib.hid fun X hX hO => HOR.out X hX hkp hO
  obtain ⟨c, hc⟩ : ∃ c, c = crs n m st y a b := ⟨_, rfl⟩
  have hcn : c.n = n := by rw [hc]; rfl
  have hcch : c.ch = y := by rw [hc]; rfl
  have hcst : c.st = st := by rw [hc]; rfl
  rw [← hc] at HOR2
  obtain ⟨kk, hkk⟩ : ∃ v, v = c.okO q x := ⟨_, rfl⟩
  have HR : Hid (rv = (if kk = true then c.cst 0 0 (ordL q x) else 0) ∧ re = if kk = true then 0 else 6) := Lib.hid (by rw [HR0.out.1, HR0.out.2, hok, hkk, hc]; exact ⟨rfl, rfl⟩)
  rw [← hkk] at HOR2
  have HKK := Lib.hid hkk
  have HCN := Lib.hid hcn; have HCH := Lib.hid hcch; have HCS := Lib.hid hcst
  clear hok hkp hc hcn hcch hcst hkk HR0 HOR
  go_wp2_with fail
  refine (HOR2.out _ (HV.out.ext (E1.out.trans HX2.out)) (HO.out.ext (E1.out.trans HX2.out))).mono ?_
  rintro e w3 ⟨rfl, hx⟩
  have HX3 := Lib.hid (HX2.out.trans hx)
  replace c0 := hx.at z0 c0
  replace c1 := hx.at z0 c1
  replace c2 := hx.at z0 c2
  replace z0 := Nat.lt_of_lt_of_le z0 hx.size
  clear hx
  cases kk
  · clear c0 c1 c2 z0
    go_wp2
    refine bodyPost_ret (v := .tuple #[.int .i64 0, .int .i64 6]) (by simp [results, Tryd.results32, go_sem]) rfl ?_
    exact ⟨by rw [HR.out.1, HR.out.2]; rfl, E1.out.trans HX3.out⟩
  obtain ⟨hqn, hxb, hfo⟩ := okO_iff.1 HKK.out.symm
  rw [HCN.out] at hqn hxb
  have HXB := Lib.hid hxb; have HFO := Lib.hid hfo; have HQN := Lib.hid hqn
  have hq10 : q ≤ 10 := by omega
  have hq1 : 0 < q := by omega
  obtain ⟨x0, hx0⟩ : ∃ t : Nat, x 0 = (t : Int) := ⟨(x 0).toNat, by have := hxb 0 hq1; omega⟩
  have hx0n : x0 < n := by have := hxb 0 hq1; omega
  obtain ⟨ob, oo, rfl, oz, oc0⟩ := Vl.at HO.out (E1.out.trans HX3.out) hq1
  try dsimp only at oc0
  rw [hx0, Nat.add_zero] at oc0
  obtain ⟨sb, so, rfl, sz, sc⟩ := Vl.at HV.out.vs (E1.out.trans HX3.out) hx0n
  try dsimp only at sc
  obtain ⟨v0, hv0⟩ : ∃ v, v = st x0 := ⟨_, rfl⟩
  rw [← hv0] at sc
  have hs0 : c.cst 0 0 (ordL 1 x) = v0 := by
    rw [ordL_succ, cst_snoc, hx0]
    unfold Crs.stp
    rw [hv0, ← HCS.out]
    show (0 : Int) + (if (0 : Nat) = 0 then c.st ((x0 : Int)).toNat else _) = _
    simp
  have hb0 := HK.out.st x0 hx0n
  rw [← hv0] at hb0
  have HS0 := Lib.hid hs0
  have HB0 := Lib.hid hb0
  clear hqn hxb hfo hx0 hv0 hs0 hb0
  go_upto_region 5 with fail
  refine wp_region_noPanic ?_
  refine wp_region_held_drew (S := fun X => Ext w3 X) (by kernel_rfl) (Ext.drw (Ext.refl _)) (fun _ => ?_)
  refine take_at 0 (some 15) (.pointer (some ⟨s1, 0, none⟩)) rfl rfl (by kernel_rfl) (by kernel_rfl) (by kernel_rfl) (fun _ _ _ h => h) (Or.inl ⟨by rfl, fun w' hSw => ?_⟩) (Ext.drw (Ext.refl _)) ?_
  · skip
    try clear hSw
    go_simp
    all_goals (with_reducible rfl)
  try simp only [Act.put, List.setIfInBounds_toArray, List.set_cons_zero, List.set_cons_succ]
  refine take_at 1 (some 16) (.slice (some ⟨sb, so, none⟩) n k) rfl rfl (by kernel_rfl) (by kernel_rfl) (by kernel_rfl) (fun _ _ _ h => h) (Or.inl ⟨by rfl, fun w' hSw => ?_⟩) (Ext.drw (Ext.refl _)) ?_
  · have m0 := keepAt hSw z0 c0
    have m1 := keepAt hSw z0 c1
    have m2 := keepAt hSw z0 c2
    try clear hSw
    go_simp
    all_goals (with_reducible rfl)
  try simp only [Act.put, List.setIfInBounds_toArray, List.set_cons_zero, List.set_cons_succ]
  refine take_at 2 (some 17) (.slice (some ⟨ob, oo, none⟩) q oc) rfl rfl (by kernel_rfl) (by kernel_rfl) (by kernel_rfl) (fun _ _ _ h => h) (Or.inl ⟨by rfl, fun w' hSw => ?_⟩) (Ext.drw (Ext.refl _)) ?_
  · skip
    try clear hSw
    go_simp
    all_goals (with_reducible rfl)
  try simp only [Act.put, List.setIfInBounds_toArray, List.set_cons_zero, List.set_cons_succ]
  refine take_at 3 (some 18) (.pointer (some ⟨ob, oo, none⟩)) rfl rfl (by kernel_rfl) (by kernel_rfl) (by kernel_rfl) (fun _ _ _ h => h) (Or.inl ⟨by rfl, fun w' hSw => ?_⟩) (Ext.drw (Ext.refl _)) ?_
  · skip
    try clear hSw
    go_simp
    all_goals (with_reducible rfl)
  try simp only [Act.put, List.setIfInBounds_toArray, List.set_cons_zero, List.set_cons_succ]
  refine take_at 4 (some 19) (.int .i64 (x0 : Nat)) rfl rfl (by kernel_rfl) (by kernel_rfl) (by kernel_rfl) (fun _ _ _ h => h) (Or.inl ⟨by rfl, fun w' hSw => ?_⟩) (Ext.drw (Ext.refl _)) ?_
  · have m0 := keepAt hSw oz oc0
    try clear hSw
    go_simp
    all_goals (with_reducible rfl)
  try simp only [Act.put, List.setIfInBounds_toArray, List.set_cons_zero, List.set_cons_succ]
  refine take_at 5 (some 20) (.pointer (some ⟨sb, so + x0, none⟩)) rfl rfl (by kernel_rfl) (by kernel_rfl) (by kernel_rfl) (fun _ _ _ h => h) (Or.inl ⟨by rfl, fun w' hSw => ?_⟩) (Ext.drw (Ext.refl _)) ?_
  · skip
    try clear hSw
    go_simp
    all_goals (with_reducible rfl)
  try simp only [Act.put, List.setIfInBounds_toArray, List.set_cons_zero, List.set_cons_succ]
  refine take_at 6 (some 21) (.int .i64 v0) rfl rfl (by kernel_rfl) (by kernel_rfl) (by kernel_rfl) (fun _ _ _ h => h) (Or.inl ⟨by rfl, fun w' hSw => ?_⟩) (Ext.drw (Ext.refl _)) ?_
  · have m0 := keepAt hSw sz sc
    try clear hSw
    go_simp
    all_goals (with_reducible rfl)
  try simp only [Act.put, List.setIfInBounds_toArray, List.set_cons_zero, List.set_cons_succ]
  refine take_at 7 (some 6) (.int .i64 v0) rfl rfl (by kernel_rfl) (by kernel_rfl) (by kernel_rfl) (fun _ _ _ h => h) (Or.inl ⟨by rfl, fun w' hSw => ?_⟩) (Ext.drw (Ext.refl _)) ?_
  · skip
    try clear hSw
    go_simp
    all_goals (with_reducible rfl)
  try simp only [Act.put, List.setIfInBounds_toArray, List.set_cons_zero, List.set_cons_succ]
  refine wpAnyH_done (by kernel_rfl) ?_ _
  refine NoPanic.normal ?_
  have hin0 : Hid (Ext W1 w3.drew) := Lib.hid HX3.out.drw
  clear c0 c1 c2 z0 oc0 sc oz sz
  go_wp2_with fail
  go_loopw [6, 7] (fun sm kv wr => ∃ (j1 : Nat) (cv : Int), kv = .int .i64 (j1 + 1 : Nat) ∧ j1 + 1 ≤ q ∧ sm = .int .i64 cv ∧ Hid (cv = c.cst 0 0 (ordL (j1 + 1) x) ∧ 0 ≤ cv ∧ cv ≤ 1000 * (j1 + 1 : Nat)) ∧ Hid (Ext W1 wr)) (fun _ kv _ => q - (intOf kv).toNat)
  case atStart => exact ⟨0, v0, rfl, by omega, rfl, Lib.hid ⟨HS0.out.symm, by have := HB0.out; omega, by have := HB0.out; omega⟩, hin0⟩
  case round =>
    clear hin0
    obtain ⟨j1, cv, rfl, hj, rfl, hst, hin⟩ := hrel
    obtain ⟨j, hjj⟩ : ∃ j, j = j1 + 1 := ⟨_, rfl⟩
    rw [← hjj] at hj ⊢
    have HJ := Lib.hid hjj
    obtain ⟨c0, c1, c2, z0⟩ := three_c (ext_ty' hin.out HB.out)
    by_cases hlt : j < q
    · have hj1q : j1 < q := by omega
      obtain ⟨xp, hxp⟩ : ∃ t : Nat, x j1 = (t : Int) := ⟨(x j1).toNat, by have := HXB.out j1 hj1q; omega⟩
      obtain ⟨xj, hxj⟩ : ∃ t : Nat, x j = (t : Int) := ⟨(x j).toNat, by have := HXB.out j hlt; omega⟩
      have hxpn : xp < n := by have := HXB.out j1 hj1q; omega
      have hxjn : xj < n := by have := HXB.out j hlt; omega
      have hxmc : xp < mc := by have := HK.out.mn; omega
      have hEX := E1.out.trans hin.out
      obtain ⟨ob', oo', e9, oz1, oc1⟩ := Vl.at HO.out hEX hj1q
      cases e9
      obtain ⟨ob', oo', e9, -, oc2⟩ := Vl.at HO.out hEX hlt
      cases e9
      try dsimp only at oc1
      try dsimp only at oc2
      rw [hxp] at oc1
      rw [hxj] at oc2
      obtain ⟨rb, ro, rfl, zb, hrr⟩ := HROW.out (by omega)
      obtain ⟨R, hR, hRl⟩ := hrr xp hxmc
      have hln := HK.out.ln xp hxpn
      rw [hln] at hRl
      obtain ⟨RA, rc, rfl, hr1, hr2, -⟩ := id hRl
      obtain ⟨qb, qo, rfl, zq, hQ⟩ := Vl.at hRl hEX hxjn
      try dsimp only at hQ
      replace hR := hEX.at zb hR
      replace zb := Nat.lt_of_lt_of_le zb hEX.size
      obtain ⟨chv, hchv⟩ : ∃ v, v = y xp xj := ⟨_, rfl⟩
      rw [← hchv] at hQ
      have hb2 := HK.out.ch xp xj hxpn hxjn
      rw [← hchv] at hb2
      obtain ⟨sv, hsv⟩ : ∃ v, v = cv + chv := ⟨_, rfl⟩
      have hcb := hst.out.2
      have y1 : IntKind.i64.wrap ((j : Int) - 1) = (j1 : Int) := by rw [show (j : Int) - 1 = (j1 : Int) by omega]; exact IntWalk.i64_in _ (by omega)
      have y2 : IntKind.i64.wrap (cv + chv) = sv := by rw [hsv]; exact IntWalk.i64_in _ (by omega)
      have HN := Lib.hid (And.intro y1 y2)
      have hpre : c.fol 0 (ordL (j1 + 1) x) = true := by
        obtain ⟨r, hr⟩ := ordL_pre x (j1 + 1) q (by omega)
        have h9 := HFO.out
        rw [hr, fol_app, Bool.and_eq_true] at h9
        exact h9.1
      have HNX : Hid (sv = c.cst 0 0 (ordL (j + 1) x) ∧ 0 ≤ sv ∧ sv ≤ 1000 * (j + 1 : Nat)) := Lib.hid (by
        refine ⟨?_, by omega, by omega⟩
        have h1 := cst_next hpre
        have h2 := hst.out.1
        rw [← hjj] at h1 h2
        rw [h1, hxp, hxj, hsv, h2, hchv, HCH.out, Int.toNat_natCast, Int.toNat_natCast])
      clear hxp hxj hln hRl hrr hr1 hr2 hchv hb2 hsv hcb y1 y2 hpre hEX hjj
      go_wp2_with fail
      refine wp_region_noPanic ?_
      refine wp_region_held_drew (S := fun X => Ext wr X) (by kernel_rfl) (Ext.drw (Ext.refl _)) (fun _ => ?_)
      refine take_at 0 (some 28) (.int .i64 cv) rfl rfl (by kernel_rfl) (by kernel_rfl) (by kernel_rfl) (fun _ _ _ h => h) (Or.inl ⟨by rfl, fun w' hSw => ?_⟩) (Ext.drw (Ext.refl _)) ?_
      · skip
        try clear hSw
        go_simp
        all_goals (with_reducible rfl)
      try simp only [Act.put, List.setIfInBounds_toArray, List.set_cons_zero, List.set_cons_succ]
      refine take_at 1 (some 29) (.pointer (some ⟨s1, 1, none⟩)) rfl rfl (by kernel_rfl) (by kernel_rfl) (by kernel_rfl) (fun _ _ _ h => h) (Or.inl ⟨by rfl, fun w' hSw => ?_⟩) (Ext.drw (Ext.refl _)) ?_
      · skip
        try clear hSw
        go_simp
        all_goals (with_reducible rfl)
      try simp only [Act.put, List.setIfInBounds_toArray, List.set_cons_zero, List.set_cons_succ]
      refine take_at 2 (some 30) (.slice (some ⟨rb, ro, none⟩) mc k2) rfl rfl (by kernel_rfl) (by kernel_rfl) (by kernel_rfl) (fun _ _ _ h => h) (Or.inl ⟨by rfl, fun w' hSw => ?_⟩) (Ext.drw (Ext.refl _)) ?_
      · have m0 := keepAt hSw z0 c0
        have m1 := keepAt hSw z0 c1
        have m2 := keepAt hSw z0 c2
        try clear hSw
        go_simp
        all_goals (with_reducible rfl)
      try simp only [Act.put, List.setIfInBounds_toArray, List.set_cons_zero, List.set_cons_succ]
      refine take_at 3 (some 31) (.slice (some ⟨ob, oo, none⟩) q oc) rfl rfl (by kernel_rfl) (by kernel_rfl) (by kernel_rfl) (fun _ _ _ h => h) (Or.inl ⟨by rfl, fun w' hSw => ?_⟩) (Ext.drw (Ext.refl _)) ?_
      · skip
        try clear hSw
        go_simp
        all_goals (with_reducible rfl)
      try simp only [Act.put, List.setIfInBounds_toArray, List.set_cons_zero, List.set_cons_succ]
      refine take_at 4 (some 32) (.int .i64 (j : Nat)) rfl rfl (by kernel_rfl) (by kernel_rfl) (by kernel_rfl) (fun _ _ _ h => h) (Or.inl ⟨by rfl, fun w' hSw => ?_⟩) (Ext.drw (Ext.refl _)) ?_
      · skip
        try clear hSw
        go_simp
        all_goals (with_reducible rfl)
      try simp only [Act.put, List.setIfInBounds_toArray, List.set_cons_zero, List.set_cons_succ]
      refine take_at 5 (some 33) (.int .i64 (j1 : Nat)) rfl rfl (by kernel_rfl) (by kernel_rfl) (by kernel_rfl) (fun _ _ _ h => h) (Or.inl ⟨by rfl, fun w' hSw => ?_⟩) (Ext.drw (Ext.refl _)) ?_
      · have y := HN.out.1
        try clear hSw
        go_simp
        all_goals (with_reducible rfl)
      try simp only [Act.put, List.setIfInBounds_toArray, List.set_cons_zero, List.set_cons_succ]
      refine take_at 6 (some 34) (.pointer (some ⟨ob, oo + j1, none⟩)) rfl rfl (by kernel_rfl) (by kernel_rfl) (by kernel_rfl) (fun _ _ _ h => h) (Or.inl ⟨by rfl, fun w' hSw => ?_⟩) (Ext.drw (Ext.refl _)) ?_
      · skip
        try clear hSw
        go_simp
        all_goals (with_reducible rfl)
      try simp only [Act.put, List.setIfInBounds_toArray, List.set_cons_zero, List.set_cons_succ]
      refine take_at 7 (some 35) (.int .i64 (xp : Nat)) rfl rfl (by kernel_rfl) (by kernel_rfl) (by kernel_rfl) (fun _ _ _ h => h) (Or.inl ⟨by rfl, fun w' hSw => ?_⟩) (Ext.drw (Ext.refl _)) ?_
      · have m0 := keepAt hSw oz1 oc1
        try clear hSw
        go_simp
        all_goals (with_reducible rfl)
      try simp only [Act.put, List.setIfInBounds_toArray, List.set_cons_zero, List.set_cons_succ]
      refine take_at 8 (some 36) (.pointer (some ⟨rb, ro + xp, none⟩)) rfl rfl (by kernel_rfl) (by kernel_rfl) (by kernel_rfl) (fun _ _ _ h => h) (Or.inl ⟨by rfl, fun w' hSw => ?_⟩) (Ext.drw (Ext.refl _)) ?_
      · skip
        try clear hSw
        go_simp
        all_goals (with_reducible rfl)
      try simp only [Act.put, List.setIfInBounds_toArray, List.set_cons_zero, List.set_cons_succ]
      refine take_at 9 (some 37) (.slice (some ⟨qb, qo, none⟩) n rc) rfl rfl (by kernel_rfl) (by kernel_rfl) (by kernel_rfl) (fun _ _ _ h => h) (Or.inl ⟨by rfl, fun w' hSw => ?_⟩) (Ext.drw (Ext.refl _)) ?_
      · have m0 := keepAt hSw zb hR
        try clear hSw
        go_simp
        all_goals (with_reducible rfl)
      try simp only [Act.put, List.setIfInBounds_toArray, List.set_cons_zero, List.set_cons_succ]
      refine take_at 10 (some 38) (.slice (some ⟨ob, oo, none⟩) q oc) rfl rfl (by kernel_rfl) (by kernel_rfl) (by kernel_rfl) (fun _ _ _ h => h) (Or.inl ⟨by rfl, fun w' hSw => ?_⟩) (Ext.drw (Ext.refl _)) ?_
      · skip
        try clear hSw
        go_simp
        all_goals (with_reducible rfl)
      try simp only [Act.put, List.setIfInBounds_toArray, List.set_cons_zero, List.set_cons_succ]
      refine take_at 11 (some 39) (.int .i64 (j : Nat)) rfl rfl (by kernel_rfl) (by kernel_rfl) (by kernel_rfl) (fun _ _ _ h => h) (Or.inl ⟨by rfl, fun w' hSw => ?_⟩) (Ext.drw (Ext.refl _)) ?_
      · skip
        try clear hSw
        go_simp
        all_goals (with_reducible rfl)
      try simp only [Act.put, List.setIfInBounds_toArray, List.set_cons_zero, List.set_cons_succ]
      refine take_at 12 (some 40) (.pointer (some ⟨ob, oo + j, none⟩)) rfl rfl (by kernel_rfl) (by kernel_rfl) (by kernel_rfl) (fun _ _ _ h => h) (Or.inl ⟨by rfl, fun w' hSw => ?_⟩) (Ext.drw (Ext.refl _)) ?_
      · skip
        try clear hSw
        go_simp
        all_goals (with_reducible rfl)
      try simp only [Act.put, List.setIfInBounds_toArray, List.set_cons_zero, List.set_cons_succ]
      refine take_at 13 (some 41) (.int .i64 (xj : Nat)) rfl rfl (by kernel_rfl) (by kernel_rfl) (by kernel_rfl) (fun _ _ _ h => h) (Or.inl ⟨by rfl, fun w' hSw => ?_⟩) (Ext.drw (Ext.refl _)) ?_
      · have m0 := keepAt hSw oz1 oc2
        try clear hSw
        go_simp
        all_goals (with_reducible rfl)
      try simp only [Act.put, List.setIfInBounds_toArray, List.set_cons_zero, List.set_cons_succ]
      refine take_at 14 (some 42) (.pointer (some ⟨qb, qo + xj, none⟩)) rfl rfl (by kernel_rfl) (by kernel_rfl) (by kernel_rfl) (fun _ _ _ h => h) (Or.inl ⟨by rfl, fun w' hSw => ?_⟩) (Ext.drw (Ext.refl _)) ?_
      · skip
        try clear hSw
        go_simp
        all_goals (with_reducible rfl)
      try simp only [Act.put, List.setIfInBounds_toArray, List.set_cons_zero, List.set_cons_succ]
      refine take_at 15 (some 43) (.int .i64 chv) rfl rfl (by kernel_rfl) (by kernel_rfl) (by kernel_rfl) (fun _ _ _ h => h) (Or.inl ⟨by rfl, fun w' hSw => ?_⟩) (Ext.drw (Ext.refl _)) ?_
      · have m0 := keepAt hSw zq hQ
        try clear hSw
        go_simp
        all_goals (with_reducible rfl)
      try simp only [Act.put, List.setIfInBounds_toArray, List.set_cons_zero, List.set_cons_succ]
      refine take_at 16 (some 44) (.int .i64 sv) rfl rfl (by kernel_rfl) (by kernel_rfl) (by kernel_rfl) (fun _ _ _ h => h) (Or.inl ⟨by rfl, fun w' hSw => ?_⟩) (Ext.drw (Ext.refl _)) ?_
      · have y := HN.out.2
        try clear hSw
        go_simp
        all_goals (with_reducible rfl)
      try simp only [Act.put, List.setIfInBounds_toArray, List.set_cons_zero, List.set_cons_succ]
      refine take_at 17 (some 6) (.int .i64 sv) rfl rfl (by kernel_rfl) (by kernel_rfl) (by kernel_rfl) (fun _ _ _ h => h) (Or.inl ⟨by rfl, fun w' hSw => ?_⟩) (Ext.drw (Ext.refl _)) ?_
      · skip
        try clear hSw
        go_simp
        all_goals (with_reducible rfl)
      try simp only [Act.put, List.setIfInBounds_toArray, List.set_cons_zero, List.set_cons_succ]
      refine wpAnyH_done (by kernel_rfl) ?_ _
      refine NoPanic.normal ?_
      clear c0 c1 c2 z0 oc1 oc2 hQ hR oz1 zb zq
      go_wp2
      go_roundw
      case rel => exact ⟨j, sv, by go_num, by omega, rfl, HNX, Lib.hid hin.out.drw⟩
      case measure => simp [intOf] <;> omega
    · obtain rfl : j = q := by omega
      have hx9 : ¬ (j : Int) < (j : Int) := by omega
      have HCV : Hid (cv = c.cst 0 0 (ordL j x)) := Lib.hid (by rw [HJ.out]; exact hst.out.1)
      clear hjj
      go_wp2
      refine bodyPost_ret (v := .tuple #[.int .i64 cv, .int .i64 0]) (by simp [results, Tryd.results32, go_sem]) rfl ?_
      exact ⟨by rw [HR.out.1, HR.out.2, HCV.out]; rfl, E1.out.trans hin.out⟩
end Go.Proofs.YtlachbodibajlaaDoor
