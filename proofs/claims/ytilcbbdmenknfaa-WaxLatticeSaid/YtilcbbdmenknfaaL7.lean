/- The law WaxLattice. -/
import Derived.Test.YtilcbbdmenknfaaG3
namespace Go.Proofs.Ytilcbbdmenknfaa
open Go.RowKit

theorem own_shape {w : World} {base : Nat} {e : TypeId} {size n : Nat} {v : Value} {xs : List Value} (h : w.ownsRow base e size v n xs) : ∃ A m c, v = .slice A m c := by
  obtain ⟨-, ⟨rfl, -⟩ | ⟨g, cap, cur, rfl, -⟩⟩ := h
  · exact ⟨_, _, _, rfl⟩
  · exact ⟨_, _, _, rfl⟩

set_option maxHeartbeats 4000000 in
set_option maxRecDepth 100000 in
theorem waxLattice_walk (N i j : Int) (a : Ar) (AV : Value) (W : World) (hA : Al W AV a) :
    Calls Try.prog 7 #[.agg #[.int .i64 N, AV], .int .i64 i, .int .i64 j] W fun e W' => e = .returned (.bool true) ∧ Ext W W' := by
  have HA := Lib.hid hA
  obtain ⟨A, c, rfl, hac, hcm, -⟩ := hA
  go_enter Try.func7, Try.ntmps7
  go_upto_region 1 with fail
  have bb := al1 W (.cells #[.int .i64 N, .slice A a.n c] 24)
  have m0 : (W.alloc (.cells #[.int .i64 N, .slice A a.n c] 24)).cell? ⟨W.heap.size, 0, none⟩ = some (.int .i64 N) := by rw [World.cell?_alloc_new]; rfl
  have m1 : (W.alloc (.cells #[.int .i64 N, .slice A a.n c] 24)).cell? ⟨W.heap.size, 1, none⟩ = some (.slice A a.n c) := by rw [World.cell?_alloc_new]; rfl
  generalize W.alloc (.cells #[.int .i64 N, .slice A a.n c] 24) = W1 at *
  have HB : Hid (Ext W W1) := Lib.hid bb
  clear bb
  go_wp2_with fail
  refine (net_any N a _ _ (HA.out.ext HB.out)).mono ?_
  rintro e w1 ⟨o, rfl, hal, -, hx⟩
  have HAL := Lib.hid hal
  have HX : Hid (Ext W w1) := Lib.hid (HB.out.trans hx)
  obtain ⟨Ao, co, rfl, -, -, -⟩ := hal
  clear hx m0 m1
  go_wp2_with fail
  refine (sides_any N (a.cut 162) _ _ HAL.out).mono ?_
  rintro e w2 ⟨F, er, rfl, hx, hcase⟩
  have HX2 : Hid (Ext W w2) := Lib.hid (HX.out.trans hx)
  clear hx
  rcases hcase with ⟨hv, rfl, rfl⟩ | ⟨hv, h12, rfl, rfl⟩ | ⟨hv, h12, rfl, v, hmc, hsd⟩
  · have _h := hv
    clear hv _h
    go_wp2_with fail
    refine (awake_any _).mono ?_
    rintro e w9 ⟨rfl, hx⟩
    have EF : Hid (Ext W w9) := Lib.hid (HX2.out.trans hx); clear hx
    go_wp2
    go_ret
    exact ⟨rfl, EF.out⟩
  · clear hv h12
    go_wp2_with fail
    refine (awake_any _).mono ?_
    rintro e w9 ⟨rfl, hx⟩
    have EF : Hid (Ext W w9) := Lib.hid (HX2.out.trans hx); clear hx
    go_wp2
    go_ret
    exact ⟨rfl, EF.out⟩
  · rw [vNet_cut] at hv
    have hcu := vNet_same hv
    rw [hcu] at hmc hsd
    obtain ⟨m, rfl, hm2, hm40, hn, hO⟩ := vNet_ok hv
    rw [Int.toNat_natCast] at hmc hsd
    have hm12 : m ≤ 12 := by omega
    obtain ⟨ks, hks⟩ : ∃ ks, ks = mins a.nw m v (2 ^ (m - 2)) := ⟨_, rfl⟩
    rw [← hks] at hsd
    have hne : 0 < ks.length := by
      obtain ⟨S, hS, hct⟩ := hmc.is
      obtain ⟨k, hk, hkS⟩ := numb_ex hm2 hS
      have : k ∈ ks := by rw [hks]; exact mins_mem.2 ⟨hk, by rw [← hct]; exact a.nw.ct_congr hO.in_ hkS⟩
      exact List.length_pos_of_mem this
    have hle : ks.length ≤ 1024 := by
      rw [hks]
      exact Nat.le_trans (mins_len _ _ _ _) (Nat.le_trans (Nat.pow_le_pow_right (by omega) (show m - 2 ≤ 10 by omega)) (by decide))
    obtain ⟨n, hnn⟩ : ∃ n, n = ks.length := ⟨_, rfl⟩
    rw [← hnn] at hne hle
    have hcp : ∀ k, k < a.nw.m → 0 ≤ a.nw.cp k := hO.c0
    have HLAT : ∀ p q, p < ks.length → q < ks.length → _ := fun p q hp hq => mins_lattice hm2 hO.in_ hcp hmc hks (p := p) (q := q) hp hq
    have HL := Lib.hid HLAT
    clear HLAT hcp
    have HO := Lib.hid hO; have HMC := Lib.hid hmc; have HKS := Lib.hid hks; have HNN := Lib.hid hnn; have HSD := Lib.hid hsd
    -- the slice itself
    have hF : ∃ g cc gs, F = .slice (some ⟨g, 0, none⟩) n cc ∧ n ≤ cc ∧ cc ≤ 9223372036854775807 ∧ List.length gs = n ∧ g < w2.heap.size ∧ (∀ i, i < n → w2.cell? ⟨g, i, none⟩ = some (.slice (some ⟨gs.getD i 0, 0, none⟩) m m)) ∧ ∀ i, i < n → BB w2 (gs.getD i 0) m (numb m (ks.getD i 0)) := by
      obtain ⟨gs, h1, h2, h3⟩ := hsd
      obtain ⟨h4, ⟨-, h5⟩ | ⟨g, cc, cur, rfl, -, h6, h7, h8, h9, h10⟩⟩ := h2
      · omega
      · refine ⟨g, cc, gs, by rw [← hnn], by omega, by simp only [maxLen] at h8; omega, by omega, (Array.getElem?_eq_some_iff.1 h6).1, fun i hi => ?_, fun i hi => h3 i (by omega)⟩
        rw [cell_of_row w2 g i cur 40 (0, 0) h6]
        have h11 : (gs.map fun g => Value.slice (some ⟨g, 0, none⟩) m m)[i]? = some (.slice (some ⟨gs.getD i 0, 0, none⟩) m m) := by
          rw [List.getElem?_map, List.getD_eq_getElem?_getD, List.getElem?_eq_getElem (by omega)]; rfl
        rw [← h10, List.getElem?_take, if_pos (by omega)] at h11
        simpa using h11
    obtain ⟨g, cc, gs, rfl, hncc, hccm, hgsl, hgl, hcell, hbb⟩ := hF
    have HCL := Lib.hid hcell; have HBB := Lib.hid hbb
    clear hv hO hmc hks hnn hsd hcell hbb hcu h12 hgsl
    go_upto_region 4 with fail
    have hnp : ∀ i : Int, ∃ iu p : Nat, IntKind.u64.wrap i = (iu : Int) ∧ iu % n = p ∧ p < n := fun i => ⟨(i % 18446744073709551616).toNat, _, by rw [IntKind.wrap_u64]; omega, rfl, Nat.mod_lt _ hne⟩
    obtain ⟨iu, p, hi1, hi2, hi3⟩ := hnp i
    obtain ⟨ju, q, hj1, hj2, hj3⟩ := hnp j
    have hn64 : IntKind.u64.wrap (n : Int) = n := by rw [IntKind.wrap_u64]; omega
    have hip : ((iu : Int)).tmod n = p := by rw [Int.tmod_eq_emod_of_nonneg (by omega)]; omega
    have hjq : ((ju : Int)).tmod n = q := by rw [Int.tmod_eq_emod_of_nonneg (by omega)]; omega
    have hip2 : ((iu : Int)) % n = p := by omega
    have hjq2 : ((ju : Int)) % n = q := by omega
    have hwp : IntKind.i64.wrap (p : Int) = p := IntWalk.i64_in _ (by omega)
    have hwq : IntKind.i64.wrap (q : Int) = q := IntWalk.i64_in _ (by omega)
    have hwp2 : IntKind.u64.wrap (p : Int) = p := by rw [IntKind.wrap_u64]; omega
    have hwq2 : IntKind.u64.wrap (q : Int) = q := by rw [IntKind.wrap_u64]; omega
    have cp : w2.drew.cell? ⟨g, p, none⟩ = some (.slice (some ⟨gs.getD p 0, 0, none⟩) m m) := HCL.out p hi3
    have cq : w2.drew.cell? ⟨g, q, none⟩ = some (.slice (some ⟨gs.getD q 0, 0, none⟩) m m) := HCL.out q hj3
    obtain ⟨gp, hgp⟩ : ∃ x, x = gs.getD p 0 := ⟨_, rfl⟩
    obtain ⟨gq, hgq⟩ : ∃ x, x = gs.getD q 0 := ⟨_, rfl⟩
    rw [← hgp] at cp; rw [← hgq] at cq
    have HG := Lib.hid (And.intro hgp hgq)
    clear hnp hgp hgq hi2 hj2
    obtain ⟨S, hS⟩ : ∃ S, S = numb m (ks.getD p 0) := ⟨_, rfl⟩
    obtain ⟨T, hT⟩ : ∃ T, T = numb m (ks.getD q 0) := ⟨_, rfl⟩
    obtain ⟨both, hboth⟩ : ∃ f : Nat → Bool, f = fun u => S u && T u := ⟨_, rfl⟩
    obtain ⟨some_, hsome⟩ : ∃ f : Nat → Bool, f = fun u => S u || T u := ⟨_, rfl⟩
    have HST := Lib.hid (And.intro hS hT)
    have HB1 : Hid ((∀ u, both u = (S u && T u)) ∧ ∀ u, some_ u = (S u || T u)) := Lib.hid ⟨fun u => by rw [hboth], fun u => by rw [hsome]⟩
    have HLT : Hid ((∃ i, i < n ∧ ∀ u, u < m → numb m (ks.getD i 0) u = both u) ∧ ∃ i, i < n ∧ ∀ u, u < m → numb m (ks.getD i 0) u = some_ u) := by
      have := HL.out p q (by rw [← HNN.out]; exact hi3) (by rw [← HNN.out]; exact hj3)
      rw [hboth, hsome, hS, hT, HNN.out]
      exact Lib.hid this
    clear hS hT hboth hsome HL
    go_region
    have hgpq : BB w2 gp m S ∧ BB w2 gq m T := by rw [HG.out.1, HG.out.2, HST.out.1, HST.out.2]; exact ⟨HBB.out p hi3, HBB.out q hj3⟩
    have hgql : gq < w2.heap.size := hgpq.2.lt
    have hgpl : gp < w2.heap.size := hgpq.1.lt
    have HPQ := Lib.hid hgpq
    have hbk : ∀ i, i < n → BB w2 (gs.getD i 0) m (numb m (ks.getD i 0)) := HBB.out
    have HBKS := Lib.hid hbk
    clear hbk
    obtain ⟨i0, hi, hz0, hz1, hz2⟩ := info_parts info4
    have HI := Lib.hid (And.intro hi (And.intro hz0 (And.intro hz1 hz2)))
    clear hgpq cp cq hi hz0 hz1 hz2 hip hjq hip2 hjq2 hwp hwq hwp2 hwq2 hn64 hi1 hj1
    go_wp2_with fail
    have hn0 : ((n : Int) == 0) = false := by simp; omega
    try simp only [hn0]
    go_loopw [11, 12, 68] (fun qa qb i wr => ∃ k : Nat, i = .int .i64 k ∧ k ≤ m ∧ Hid (Tw wr w2.heap.size qa qb k k both some_ ∧ Ext w2 wr)) (fun _ _ i _ => m - (intOf i).toNat)
    case atStart => exact ⟨0, rfl, Nat.zero_le _, Lib.hid ⟨(Tw.nil w2 _ _).ext (Ext.drw (Ext.refl _)), Ext.drw (Ext.refl _)⟩⟩
    case round =>
      obtain ⟨k, rfl, hk, hin⟩ := hrel
      obtain ⟨qa, rfl⟩ : ∃ q, q = u11 := ⟨_, rfl⟩
      obtain ⟨qb, rfl⟩ : ∃ q, q = u12 := ⟨_, rfl⟩
      by_cases hlt : k < m
      · have cpk := keepAt hin.out.2 hgpl (Bk.cell HPQ.out.1 hlt)
        have cqk := keepAt hin.out.2 hgql (Bk.cell HPQ.out.2 hlt)
        have HCQ := Lib.hid (Bk.cell HPQ.out.2 hlt)
        obtain ⟨x, hx⟩ : ∃ x, x = S k := ⟨_, rfl⟩
        obtain ⟨y, hy⟩ : ∃ y, y = T k := ⟨_, rfl⟩
        rw [← hx] at cpk
        rw [← hy] at cqk HCQ
        have HXY := Lib.hid (And.intro hx hy)
        clear hx hy
        cases x
        · have HT : Hid (Tw (wr.alloc (.cells #[.bool false] 4)) w2.heap.size qa qb k k both some_) := Lib.hid (hin.out.1.ext (Ext.alc (Ext.refl wr) _))
          have HSZ : Hid (w2.heap.size ≤ wr.heap.size) := Lib.hid hin.out.1.le
          have hqa := own_shape HT.out.fst
          obtain ⟨Aa, na, ca, rfl⟩ := hqa
          have hqb := own_shape HT.out.snd
          obtain ⟨Ab, nb, cb, rfl⟩ := hqb
          go_wp2_with (at_builtin; refine wpList_append_own_at _ rfl _ _ 40 rfl w2.heap.size 4 i0 (.bool false) 1 1 Try.underlying40 HI.out.1 HI.out.2.1 HI.out.2.2.1 HI.out.2.2.2 rfl (by decide) _ k _ rfl HT.out.fst ⟨wr.heap.size, 0, none⟩ 1 1 [.bool false] rfl rfl ?c1 ?c2 ?c3 ?c4 ?c5 ?_)
          case c1 =>
            intro jj uu hj
            match jj, hj with
            | 0, hj => simp at hj; subst hj; simp [Addr.add]
            | jj + 1, hj => simp at hj
          case c2 => intro uu hu; simp at hu; subst hu; rfl
          case c3 => unfold maxLen; omega
          case c4 => omega
          case c5 => have := HSZ.out; simp; omega
          intro v1 x1 o1 g1 _n1 a1
          clear _n1
          have hone := HT.out.one (z := false) (by rw [HB1.out.1, ← HXY.out.1]; rfl) o1 g1 (by simpa using a1)
          have HT1 : Hid (Tw (x1.alloc (.cells #[.bool y] 4)) w2.heap.size (.slice Ab nb cb) v1 k (k + 1) some_ both) := Lib.hid (hone.1.symm.ext (Ext.alc (Ext.refl x1) _))
          have HE1 : Hid (Ext w2 (x1.alloc (.cells #[.bool y] 4)) ∧ Ext w2 x1) := Lib.hid ⟨Ext.alc (hone.2 w2 (Ext.alc hin.out.2 _) (Nat.le_refl _)) _, hone.2 w2 (Ext.alc hin.out.2 _) (Nat.le_refl _)⟩
          clear HSZ
          have HSZ : Hid (w2.heap.size ≤ x1.heap.size) := Lib.hid hone.1.le
          have cq1 := keepAt HE1.out.2 hgql HCQ.out
          clear o1 g1 a1 hone
          go_wp2_with (at_builtin; refine wpList_append_own_at _ rfl _ _ 40 rfl w2.heap.size 4 i0 (.bool false) 1 1 Try.underlying40 HI.out.1 HI.out.2.1 HI.out.2.2.1 HI.out.2.2.2 rfl (by decide) _ k _ rfl HT1.out.fst ⟨x1.heap.size, 0, none⟩ 1 1 [.bool y] rfl rfl ?c1 ?c2 ?c3 ?c4 ?c5 ?_)
          case c1 =>
            intro jj uu hj
            match jj, hj with
            | 0, hj => simp at hj; subst hj; simp [Addr.add]
            | jj + 1, hj => simp at hj
          case c2 => intro uu hu; simp at hu; subst hu; rfl
          case c3 => unfold maxLen; omega
          case c4 => omega
          case c5 => have := HSZ.out; simp; omega
          intro v2 x2 o2 g2 _n2 a2
          clear _n2
          have hone := HT1.out.one (z := y) (by rw [HB1.out.2, ← HXY.out.1, ← HXY.out.2]; rfl) o2 g2 (by simpa using a2)
          have HT2 := Lib.hid (And.intro hone.1.symm (hone.2 w2 HE1.out.1 (Nat.le_refl _)))
          clear o2 g2 a2 hone cq1
          go_wp2
          go_roundw
          case rel => exact ⟨k + 1, by go_num, by omega, HT2⟩
          case measure => simp [intOf]; omega
        · have HT : Hid (Tw (wr.alloc (.cells #[.bool y] 4)) w2.heap.size qa qb k k both some_) := Lib.hid (hin.out.1.ext (Ext.alc (Ext.refl wr) _))
          have HSZ : Hid (w2.heap.size ≤ wr.heap.size) := Lib.hid hin.out.1.le
          have hqa := own_shape HT.out.fst
          obtain ⟨Aa, na, ca, rfl⟩ := hqa
          have hqb := own_shape HT.out.snd
          obtain ⟨Ab, nb, cb, rfl⟩ := hqb
          go_wp2_with (at_builtin; refine wpList_append_own_at _ rfl _ _ 40 rfl w2.heap.size 4 i0 (.bool false) 1 1 Try.underlying40 HI.out.1 HI.out.2.1 HI.out.2.2.1 HI.out.2.2.2 rfl (by decide) _ k _ rfl HT.out.fst ⟨wr.heap.size, 0, none⟩ 1 1 [.bool y] rfl rfl ?c1 ?c2 ?c3 ?c4 ?c5 ?_)
          case c1 =>
            intro jj uu hj
            match jj, hj with
            | 0, hj => simp at hj; subst hj; simp [Addr.add]
            | jj + 1, hj => simp at hj
          case c2 => intro uu hu; simp at hu; subst hu; rfl
          case c3 => unfold maxLen; omega
          case c4 => omega
          case c5 => have := HSZ.out; simp; omega
          intro v1 x1 o1 g1 _n1 a1
          clear _n1
          have hone := HT.out.one (z := y) (by rw [HB1.out.1, ← HXY.out.1, ← HXY.out.2]; rfl) o1 g1 (by simpa using a1)
          have HT1 : Hid (Tw (x1.alloc (.cells #[.bool true] 4)) w2.heap.size (.slice Ab nb cb) v1 k (k + 1) some_ both) := Lib.hid (hone.1.symm.ext (Ext.alc (Ext.refl x1) _))
          have HE1 : Hid (Ext w2 (x1.alloc (.cells #[.bool true] 4)) ∧ Ext w2 x1) := Lib.hid ⟨Ext.alc (hone.2 w2 (Ext.alc hin.out.2 _) (Nat.le_refl _)) _, hone.2 w2 (Ext.alc hin.out.2 _) (Nat.le_refl _)⟩
          clear HSZ
          have HSZ : Hid (w2.heap.size ≤ x1.heap.size) := Lib.hid hone.1.le
          have cq1 := keepAt HE1.out.2 hgql HCQ.out
          clear o1 g1 a1 hone
          go_wp2_with (at_builtin; refine wpList_append_own_at _ rfl _ _ 40 rfl w2.heap.size 4 i0 (.bool false) 1 1 Try.underlying40 HI.out.1 HI.out.2.1 HI.out.2.2.1 HI.out.2.2.2 rfl (by decide) _ k _ rfl HT1.out.fst ⟨x1.heap.size, 0, none⟩ 1 1 [.bool true] rfl rfl ?c1 ?c2 ?c3 ?c4 ?c5 ?_)
          case c1 =>
            intro jj uu hj
            match jj, hj with
            | 0, hj => simp at hj; subst hj; simp [Addr.add]
            | jj + 1, hj => simp at hj
          case c2 => intro uu hu; simp at hu; subst hu; rfl
          case c3 => unfold maxLen; omega
          case c4 => omega
          case c5 => have := HSZ.out; simp; omega
          intro v2 x2 o2 g2 _n2 a2
          clear _n2
          have hone := HT1.out.one (z := true) (by rw [HB1.out.2, ← HXY.out.1]; rfl) o2 g2 (by simpa using a2)
          have HT2 := Lib.hid (And.intro hone.1.symm (hone.2 w2 HE1.out.1 (Nat.le_refl _)))
          clear o2 g2 a2 hone cq1
          go_wp2
          go_roundw
          case rel => exact ⟨k + 1, by go_num, by omega, HT2⟩
          case measure => simp [intOf]; omega
      · have hT := hin.out.1
        obtain rfl : m = k := by omega
        have hnl : ¬ (m : Int) < m := by omega
        obtain ⟨wo, rfl⟩ : ∃ w, w = wr := ⟨_, rfl⟩
        have hqa := own_shape hT.fst
        have hqb := own_shape hT.snd
        have HQA := Lib.hid (And.intro (ownsRow_bl hT.fst) (ownsRow_bl hT.snd))
        have HEO := Lib.hid hin.out.2
        obtain ⟨Aa, na, ca, rfl⟩ := hqa
        obtain ⟨Ab, nb, cb, rfl⟩ := hqb
        clear hT hin
        obtain ⟨fx, hfx⟩ : ∃ f : Nat → Bool, f = fun i => eqB m m (numb m (ks.getD i 0)) both := ⟨_, rfl⟩
        obtain ⟨fy, hfy⟩ : ∃ f : Nat → Bool, f = fun i => eqB m m (numb m (ks.getD i 0)) some_ := ⟨_, rfl⟩
        have HFX : Hid (∀ i, eqB m m (numb m (ks.getD i 0)) both = fx i) := Lib.hid fun i => by rw [hfx]
        have HFY : Hid (∀ i, eqB m m (numb m (ks.getD i 0)) some_ = fy i) := Lib.hid fun i => by rw [hfy]
        have HEX : Hid (anyTo fx n = true ∧ anyTo fy n = true) := by
          obtain ⟨⟨i, hi, h1⟩, ⟨j, hj, h2⟩⟩ := HLT.out
          exact Lib.hid ⟨anyTo_true hi (by rw [← HFX.out]; exact eqB_iff.2 ⟨rfl, h1⟩), anyTo_true hj (by rw [← HFY.out]; exact eqB_iff.2 ⟨rfl, h2⟩)⟩
        clear hfx hfy HLT
        go_wp2_with fail
        go_loopw [15, 16, 96] (fun bx by_ i wr => ∃ k : Nat, i = .int .i64 k ∧ k ≤ n ∧ bx = .bool (anyTo fx k) ∧ by_ = .bool (anyTo fy k) ∧ Hid (Ext wo wr)) (fun _ _ i _ => n - (intOf i).toNat)
        case atStart => exact ⟨0, rfl, Nat.zero_le _, rfl, rfl, Lib.hid (Ext.refl _)⟩
        case round =>
          obtain ⟨k, rfl, hk, rfl, rfl, hin⟩ := hrel
          by_cases hlt : k < n
          · have hlt2 : (k : Int) < n := by omega
            have HBK := Lib.hid (HBKS.out k hlt)
            have ck := keepAt (HEO.out.trans hin.out) hgl (HCL.out k hlt)
            obtain ⟨px, hpx⟩ : ∃ b, b = anyTo fx k := ⟨_, rfl⟩
            obtain ⟨py, hpy⟩ : ∃ b, b = anyTo fy k := ⟨_, rfl⟩
            rw [← hpx, ← hpy]
            have HP := Lib.hid (And.intro hpx hpy)
            clear hpx hpy
            cases px
            · cases py
              · go_wp2_with fail
                refine (equalB_any m m (numb m (ks.getD k 0)) both _ _ _ (BB.bl (HBK.out.ext (HEO.out.trans hin.out)) (by omega)) (HQA.out.1.ext hin.out) (by omega)).mono ?_
                rintro e w6 ⟨rfl, hx⟩
                rw [HFX.out]
                have H6 : Hid (Ext wo w6) := Lib.hid (hin.out.trans hx)
                clear hx
                try clear ck
                go_wp2_with fail
                refine (equalB_any m m (numb m (ks.getD k 0)) some_ _ _ _ (BB.bl (HBK.out.ext (HEO.out.trans H6.out)) (by omega)) (HQA.out.2.ext H6.out) (by omega)).mono ?_
                rintro e w7 ⟨rfl, hx⟩
                rw [HFY.out]
                have H7 : Hid (Ext wo w7) := Lib.hid (H6.out.trans hx)
                clear hx
                try clear ck
                go_wp2
                go_roundw
                case rel => exact ⟨k + 1, by go_num, by omega, by rw [anyTo_succ, ← HP.out.1, Bool.false_or], by rw [anyTo_succ, ← HP.out.2, Bool.false_or], Lib.hid H7.out⟩
                case measure => simp [intOf]; omega
              · go_wp2_with fail
                refine (equalB_any m m (numb m (ks.getD k 0)) both _ _ _ (BB.bl (HBK.out.ext (HEO.out.trans hin.out)) (by omega)) (HQA.out.1.ext hin.out) (by omega)).mono ?_
                rintro e w6 ⟨rfl, hx⟩
                rw [HFX.out]
                have H6 : Hid (Ext wo w6) := Lib.hid (hin.out.trans hx)
                clear hx
                try clear ck
                go_wp2
                go_roundw
                case rel => exact ⟨k + 1, by go_num, by omega, by rw [anyTo_succ, ← HP.out.1, Bool.false_or], by rw [anyTo_succ, ← HP.out.2]; rfl, Lib.hid H6.out⟩
                case measure => simp [intOf]; omega
            · cases py
              · go_wp2_with fail
                refine (equalB_any m m (numb m (ks.getD k 0)) some_ _ _ _ (BB.bl (HBK.out.ext (HEO.out.trans hin.out)) (by omega)) (HQA.out.2.ext hin.out) (by omega)).mono ?_
                rintro e w7 ⟨rfl, hx⟩
                rw [HFY.out]
                have H7 : Hid (Ext wo w7) := Lib.hid (hin.out.trans hx)
                clear hx
                try clear ck
                go_wp2
                go_roundw
                case rel => exact ⟨k + 1, by go_num, by omega, by rw [anyTo_succ, ← HP.out.1]; rfl, by rw [anyTo_succ, ← HP.out.2, Bool.false_or], Lib.hid H7.out⟩
                case measure => simp [intOf]; omega
              · go_wp2
                go_roundw
                case rel => exact ⟨k + 1, by go_num, by omega, by rw [anyTo_succ, ← HP.out.1]; rfl, by rw [anyTo_succ, ← HP.out.2]; rfl, Lib.hid hin.out⟩
                case measure => simp [intOf]; omega
          · obtain rfl : k = n := by omega
            rw [HEX.out.1, HEX.out.2]
            go_wp2_with fail
            refine (awake_any _).mono ?_
            rintro e w9 ⟨rfl, hx⟩
            have EF : Hid (Ext W w9) := Lib.hid (HX2.out.trans (HEO.out.trans (hin.out.trans hx))); clear hx
            go_wp2
            go_ret
            exact ⟨rfl, EF.out⟩
end Go.Proofs.Ytilcbbdmenknfaa
