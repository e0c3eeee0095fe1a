/- Walks: the reference's Valid and Side. · Walks: the reference's Web and between. · A grid of numbers in memory. · Walks: the reference's way. -/
import Derived.Test.YtilcbbdmenknfaaM13
import Derived.Lib.MinMax
import Derived.Test.YtilcbbdmenknfaaM9
import Derived.Deep.LoopGhost
namespace Go.Proofs.Ytilcbbdmenknfaa
open Go.RowKit

theorem bw_f1 {x lo hi : Int} (h : x < lo) : bw x lo hi = false := by
  cases e : bw x lo hi
  · rfl
  · have := bw_iff.1 e; omega
theorem bw_f2 {x lo hi : Int} (h : hi < x) : bw x lo hi = false := by
  cases e : bw x lo hi
  · rfl
  · have := bw_iff.1 e; omega
set_option maxHeartbeats 4000000 in
set_option maxRecDepth 100000 in
theorem validR_any (N : Int) (a : Ar) (AV : Value) (W : World) (hA : Al W AV a) :
    Calls Try.prog 50 #[.agg #[.int .i64 N, AV]] W fun e W' => e = .returned (.bool (vNet N a)) ∧ Ext W W' := by
  have HA := Lib.hid hA
  obtain ⟨A, c, rfl, hac, hcm, -⟩ := hA
  obtain ⟨r, hr⟩ : ∃ r, r = vNet N a := ⟨_, rfl⟩
  rw [← hr]
  have HR := Lib.hid hr; clear hr
  have bb := al1 W (.cells #[.int .i64 N, .slice A a.n c] 24)
  go_enter Try.func50, Try.ntmps50
  by_cases hN1 : N < 2
  · have hr : vNet N a = false := by unfold vNet; rw [bw_f1 hN1]; rfl
    rw [← HR.out] at hr
    have HR2 := Lib.hid hr; clear hr HR
    go_wp2
    go_ret
    exact ⟨by rw [HR2.out]; rfl, bb⟩
  by_cases hN2 : 40 < N
  · have hr : vNet N a = false := by unfold vNet; rw [bw_f2 hN2]; rfl
    rw [← HR.out] at hr
    have HR2 := Lib.hid hr; clear hr HR
    go_wp2
    go_ret
    exact ⟨by rw [HR2.out]; rfl, bb⟩
  by_cases hn : a.n ≤ 160
  · go_wp2_with fail
    go_loopw [22] (fun i wr => ∃ k : Nat, i = .int .i64 k ∧ k ≤ a.n ∧ Hid ((∀ j, j < k → okA N a j = true) ∧ wr.cell? ⟨W.heap.size, 0, none⟩ = some (.int .i64 N) ∧ W.heap.size < wr.heap.size ∧ Ext W wr)) (fun i _ => a.n - (intOf i).toNat)
    case atStart => exact ⟨0, rfl, Nat.zero_le _, Lib.hid ⟨fun j hj => by omega, by rw [World.cell?_alloc_new]; rfl, by simp, bb⟩⟩
    case round =>
      clear bb
      obtain ⟨k, rfl, hk, hin⟩ := hrel
      by_cases hlt : k < a.n
      · obtain ⟨b, off, rfl, d1, d2, d3⟩ := HA.out.arc hin.out.2.2.2 hlt
        have m0 := hin.out.2.1
        have mz := hin.out.2.2.1
        obtain ⟨ok, hok⟩ : ∃ ok, ok = okA N a k := ⟨_, rfl⟩
        have hok2 := hok
        unfold okA at hok2
        obtain ⟨fk, hfk⟩ : ∃ x, x = a.f k := ⟨_, rfl⟩
        obtain ⟨tk, htk⟩ : ∃ x, x = a.t k := ⟨_, rfl⟩
        obtain ⟨ck, hck⟩ : ∃ x, x = a.c k := ⟨_, rfl⟩
        rw [← hfk, ← htk, ← hck] at hok2
        rw [← hfk] at d1; rw [← htk] at d2; rw [← hck] at d3
        have HOK := Lib.hid hok; have HO2 := Lib.hid hok2
        clear hfk htk hck hok hok2
        have hEX : Hid (Ext W (wr.alloc (.cells #[.int .i64 fk, .int .i64 tk, .int .i64 ck] 64))) := Lib.hid (hin.out.2.2.2.alc _)
        have hno : ok = false → r = false := fun h => by rw [HR.out]; exact vNet_no hlt (by rw [← HOK.out]; exact h)
        have HNO := Lib.hid hno; clear hno
        by_cases h1 : fk < 0
        · have hr := Lib.hid (HNO.out (by rw [HO2.out]; rw [bw_f1 h1]; rfl))
          go_wp2
          go_ret
          exact ⟨by rw [hr.out]; rfl, hEX.out⟩
        by_cases h2 : N ≤ fk
        · have hr := Lib.hid (HNO.out (by rw [HO2.out]; rw [bw_f2 (by omega)]; rfl))
          go_wp2
          go_ret
          exact ⟨by rw [hr.out]; rfl, hEX.out⟩
        by_cases h3 : tk < 0
        · have hr := Lib.hid (HNO.out (by rw [HO2.out]; rw [bw_f1 (x := tk) h3]; simp))
          go_wp2
          go_ret
          exact ⟨by rw [hr.out]; rfl, hEX.out⟩
        by_cases h4 : N ≤ tk
        · have hr := Lib.hid (HNO.out (by rw [HO2.out]; rw [bw_f2 (x := tk) (by omega)]; simp))
          go_wp2
          go_ret
          exact ⟨by rw [hr.out]; rfl, hEX.out⟩
        by_cases h5 : fk = tk
        · have hr := Lib.hid (HNO.out (by rw [HO2.out, decide_eq_true h5]; simp))
          subst h5
          go_wp2
          go_ret
          exact ⟨by rw [hr.out]; rfl, hEX.out⟩
        by_cases h6 : ck < 0
        · have hr := Lib.hid (HNO.out (by rw [HO2.out]; rw [bw_f1 (x := ck) h6]; simp))
          go_wp2
          go_ret
          exact ⟨by rw [hr.out]; rfl, hEX.out⟩
        by_cases h7 : 1000000 < ck
        · have hr := Lib.hid (HNO.out (by rw [HO2.out]; rw [bw_f2 (x := ck) h7]; simp))
          go_wp2
          go_ret
          exact ⟨by rw [hr.out]; rfl, hEX.out⟩
        have hok3 : okA N a k = true := by
          rw [← HOK.out, HO2.out, decide_eq_false h5, bw_iff.2 (show 0 ≤ fk ∧ fk ≤ N - 1 by omega), bw_iff.2 (show 0 ≤ tk ∧ tk ≤ N - 1 by omega), bw_iff.2 (show 0 ≤ ck ∧ ck ≤ 1000000 by omega)]; rfl
        have HK := Lib.hid hok3
        have hcell : Hid ((wr.alloc (.cells #[.int .i64 fk, .int .i64 tk, .int .i64 ck] 64)).cell? ⟨W.heap.size, 0, none⟩ = some (.int .i64 N)) := Lib.hid (keepAt (Ext.alc (Ext.refl wr) _) mz m0)
        clear hok3
        go_wp2
        go_roundw
        case rel =>
          refine ⟨k + 1, by go_num, by omega, Lib.hid ⟨fun j hj => ?_, hcell.out, by simp; omega, hEX.out⟩⟩
          by_cases e : j = k
          · subst e; exact HK.out
          · exact hin.out.1 j (by omega)
        case measure => simp [intOf]; omega
      · obtain rfl : k = a.n := by omega
        have hr : r = true := by rw [HR.out]; exact vNet_iff.2 ⟨⟨by omega, by omega⟩, hn, hin.out.1⟩
        have HR2 := Lib.hid hr; clear hr
        go_wp2
        go_ret
        exact ⟨by rw [HR2.out]; rfl, hin.out.2.2.2⟩
  · have hr : vNet N a = false := by unfold vNet; rw [decide_eq_false hn, Bool.and_false, Bool.false_and]
    rw [← HR.out] at hr
    have HR2 := Lib.hid hr; clear hr HR
    have hn3 : (160 : Int) < a.n := by omega
    go_wp2
    go_ret
    exact ⟨by rw [HR2.out]; rfl, bb⟩

end Go.Proofs.Ytilcbbdmenknfaa
namespace Go.Proofs.Ytilcbbdmenknfaa
open Go.RowKit

set_option maxHeartbeats 4000000 in
set_option maxRecDepth 100000 in
theorem webR_any (N : Int) (a : Ar) (AV : Value) (W : World) (hA : Al W AV a) :
    Calls Try.prog 36 #[.agg #[.int .i64 N, AV]] W fun e W' => e = .returned (.bool (vNet N a && decide (N ≤ 12))) ∧ Ext W W' := by
  obtain ⟨r, hr⟩ : ∃ r, r = (vNet N a && decide (N ≤ 12)) := ⟨_, rfl⟩
  rw [← hr]
  have HR := Lib.hid hr; clear hr
  have HA := Lib.hid hA
  obtain ⟨A, c, rfl, hac, hcm, -⟩ := hA
  go_enter Try.func36, Try.ntmps36
  go_upto_region 1 with fail
  have bb := al1 W (.cells #[.int .i64 N, .slice A a.n c] 24)
  obtain ⟨m0, m1, -, mz⟩ := two (heap_alloc_new W (.cells #[.int .i64 N, .slice A a.n c] 24))
  generalize W.alloc (.cells #[.int .i64 N, .slice A a.n c] 24) = W1 at *
  have HB : Hid (Ext W W1) := Lib.hid bb
  clear bb
  go_wp2_with fail
  refine (validR_any N a _ _ (HA.out.ext HB.out)).mono ?_
  rintro e w1 ⟨rfl, hx⟩
  replace m0 := keepAt hx mz m0
  have HX : Hid (Ext W w1) := Lib.hid (HB.out.trans hx)
  clear hx m1
  cases hv : vNet N a
  · have hr : r = false := by rw [HR.out, hv]; rfl
    have HR2 := Lib.hid hr; clear hv hr
    go_wp2
    go_ret
    exact ⟨by rw [HR2.out]; rfl, HX.out⟩
  · by_cases h : N ≤ 12
    · have hr : r = true := by rw [HR.out, hv, decide_eq_true h]; rfl
      have HR2 := Lib.hid hr; clear hv hr
      go_wp2
      go_ret
      exact ⟨by rw [HR2.out]; rfl, HX.out⟩
    · have hr : r = false := by rw [HR.out, hv, decide_eq_false h]; rfl
      have HR2 := Lib.hid hr; clear hv hr
      go_wp2
      go_ret
      refine ⟨?_, HX.out⟩
      rw [HR2.out]
      show Ending.returned (.bool (decide (N ≤ 12))) = _
      rw [decide_eq_false (by omega)]

/-- the parents as they are written -/
def parI (p : Nat → Nat) (i : Nat) : Int := if i = 0 then -1 else (p i : Int)

set_option maxHeartbeats 4000000 in
set_option maxRecDepth 100000 in
theorem betweenT_any (f : Nat → Nat → Int) (N : Nat) (p : Nat → Nat) (w : Nat → Int) (u v : Nat) (PV WV : Value) (W : World) (hT : Tr f N p w) (hN : N ≤ 100) (hu : u < N) (hv : v < N) (hne : u ≠ v)
    (hP : Il W PV N (parI p)) (hW : Il W WV N w) :
    Calls Try.prog 65 #[PV, WV, .int .i64 u, .int .i64 v] W fun e W' => e = .returned (.int .i64 (f u v)) ∧ Ext W W' := by
  have hm1 : ∀ w, (Instr.makeSlice 40 (.int .i64 (N : Int)) (.int .i64 (N : Int))).run Try.prog w = .ok (.slice (some ⟨w.heap.size, 0, none⟩) N N) (w.alloc (.cells (Array.ofFn fun _ : Fin N => .bool false) 4)) := fun w => make_one 40 4 _ 1 Try.underlying40 info4 rfl (by omega) N (by omega) w
  obtain ⟨L, hL1, hL2, hL3⟩ := hT.top hu
  have HT := Lib.hid hT; have HP := Lib.hid hP; have HW := Lib.hid hW; have HL := Lib.hid (And.intro hL2 hL3)
  obtain ⟨A1, c1, rfl, hc1, hd1, -⟩ := hP
  obtain ⟨A2, c2, rfl, hc2, hd2, -⟩ := hW
  obtain ⟨z0, hz0⟩ : ∃ z, z = f u v := ⟨_, rfl⟩
  rw [← hz0]
  have HZ0 := Lib.hid hz0
  clear hT hL2 hL3 hz0
  go_enter Try.func65, Try.ntmps65
  go_upto_region 3 with fail
  have y1 : BB (W.alloc (.cells (Array.ofFn fun _ : Fin N => Value.bool false) 4)) W.heap.size N (fun _ => false) := heap_alloc_new W _
  have e1 : Ext W (W.alloc (.cells (Array.ofFn fun _ : Fin N => Value.bool false) 4)) := Ext.alc (Ext.refl _) _
  obtain ⟨g, hg⟩ : ∃ g, g = W.heap.size := ⟨_, rfl⟩
  rw [← hg] at y1
  rw [← hg]
  have hgW : W.heap.size ≤ g := by omega
  have Y1 := Lib.hid (And.intro y1 e1)
  clear y1 e1 hg
  generalize W.alloc (.cells (Array.ofFn fun _ : Fin N => Value.bool false) 4) = W1 at *
  go_wp2_with fail
  go_loopw [11] (fun j wr => ∃ n : Nat, n ≤ L + 1 ∧ j = .int .i64 (if n ≤ L then ((bk p u n : Nat) : Int) else -1) ∧ Hid (BB wr g N (upn p u n) ∧ Ext W wr)) (fun j _ => (intOf j + 1).toNat)
  case atStart => exact ⟨0, by omega, by rw [if_pos (by omega)]; rfl, Lib.hid ⟨Bk.congr Y1.out.1 (fun j _ => by simp [upn]), Y1.out.2⟩⟩
  case round =>
    clear Y1
    obtain ⟨n, hn, hj, hin⟩ := hrel
    by_cases hle : n ≤ L
    · rw [if_pos hle] at hj
      subst hj
      obtain ⟨z, hz⟩ : ∃ z, z = bk p u n := ⟨_, rfl⟩
      have hzN : z < N := by rw [hz]; exact (HT.out.bk_lt hu n).1
      rw [← hz]
      obtain ⟨b1, o1, rfl, -, e1⟩ := Vl.at HP.out hin.out.2 hzN
      have c6 := Bk.cell hin.out.1 hzN
      have f6 := Bk.free hin.out.1 z
      have HE : Hid (wr.cell? ⟨b1, o1 + z, none⟩ = some (.int .i64 (parI p z))) := Lib.hid e1
      have hx2 : Hid (Ext W (wr.setCell ⟨g, z, none⟩ (.bool true))) := Lib.hid (hin.out.2.sc hgW)
      obtain ⟨b1', o1', e3, -, e1'⟩ := Vl.at HP.out hx2.out hzN
      injection e3 with e3; injection e3 with e3 e4
      subst e3 e4
      have HB2 : Hid (BB (wr.setCell ⟨g, z, none⟩ (.bool true)) g N (upn p u (n + 1))) := Lib.hid (Bk.congr (BB.set_ hin.out.1 z true) fun j _ => by
        congr 1
        rw [upn_succ, ← hz]
        by_cases e : j = z
        · subst e; rw [up_self]; simp
        · rw [up_ne _ _ e, decide_eq_false (fun c => e c.symm), Bool.or_false])
      have HZ := Lib.hid hz
      clear e1 hz
      by_cases h0 : z = 0
      · have hpi : parI p z = -1 := by unfold parI; rw [if_pos h0]
        rw [hpi] at e1'
        have hnL : n = L := by
          rcases Nat.lt_or_ge n L with h | h
          · exact absurd (HZ.out.symm.trans h0) (HL.out.2 n h)
          · omega
        subst h0
        simp only [Nat.add_zero] at e1'
        go_wp2
        go_roundw
        case rel => exact ⟨n + 1, by omega, by rw [if_neg (by omega)], Lib.hid ⟨HB2.out, hx2.out⟩⟩
        case measure => simp [intOf]
      · have hpi : parI p z = ((p z : Nat) : Int) := by unfold parI; rw [if_neg h0]
        rw [hpi] at e1'
        have hnL : n < L := by
          rcases Nat.lt_or_ge n L with h | h
          · exact h
          · exfalso; apply h0; rw [HZ.out, show n = L by omega]; exact HL.out.1
        have hdec : p z < z := HT.out.par z (by omega) hzN
        obtain ⟨pz, hpz⟩ : ∃ q, q = p z := ⟨_, rfl⟩
        rw [← hpz] at e1' hdec
        have HPZ := Lib.hid hpz
        clear hpz hpi
        go_wp2
        go_roundw
        case rel => exact ⟨n + 1, by omega, by rw [if_pos (by omega)]; congr 2; rw [HPZ.out, HZ.out]; rfl, Lib.hid ⟨HB2.out, hx2.out⟩⟩
        case measure => simp [intOf]; omega
    · rw [if_neg hle] at hj
      subst hj
      obtain rfl : n = L + 1 := by omega
      obtain ⟨wo, rfl⟩ : ∃ w, w = wr := ⟨_, rfl⟩
      have HAB := hin
      clear hin
      have hF0 : Fx f u v = min 1152921504606846976 (Fx f u v) := by have := HT.out.fx_le u v; omega
      have HF0 := Lib.hid hF0
      clear hF0
      go_wp2_with fail
      go_loopw [9, 12] (fun l j wx => ∃ (lv : Int) (m : Nat), l = .int .i64 lv ∧ j = .int .i64 m ∧ m < N ∧ Hid (lv ≤ 1152921504606846976 ∧ Fx f u v = min lv (Fx f u m) ∧ wx = wo)) (fun _ j _ => (intOf j).toNat)
      case atStart => exact ⟨_, v, rfl, rfl, hv, Lib.hid ⟨by omega, HF0.out, rfl⟩⟩
      case round =>
        obtain ⟨lv, m, rfl, rfl, hm, hin⟩ := hrel
        obtain ⟨h1, h2, h3⟩ := hin.out
        rw [h3]
        have H12 := Lib.hid (And.intro h1 h2)
        clear hin h1 h2 h3
        have c6 := Bk.cell HAB.out.1 hm
        cases hab : upn p u (L + 1) m
        · rw [hab] at c6
          have hall := upn_all HT.out HL.out.1 hab
          have hm0 : 1 ≤ m := by
            rcases Nat.eq_zero_or_pos m with e | e
            · exact absurd (HL.out.1.trans e.symm) (hall L)
            · exact e
          obtain ⟨b1, o1, rfl, -, e1⟩ := Vl.at HP.out HAB.out.2 hm
          obtain ⟨b2, o2, rfl, -, e2⟩ := Vl.at HW.out HAB.out.2 hm
          have hpi : parI p m = ((p m : Nat) : Int) := by unfold parI; rw [if_neg (by omega)]
          rw [hpi] at e1
          have htwo := HT.out.two hm0 hm (u + 1) u (by omega) hu hall
          have hdec : p m < m := HT.out.par m hm0 hm
          obtain ⟨pz, hpz⟩ : ∃ q, q = p m := ⟨_, rfl⟩
          obtain ⟨wz, hwz⟩ : ∃ q, q = w m := ⟨_, rfl⟩
          rw [← hpz] at e1 hdec htwo; rw [← hwz] at e2 htwo
          have HTW := Lib.hid htwo
          clear hpz hwz hpi htwo hall hab
          go_wp2
          go_roundw
          case rel => exact ⟨_, pz, rfl, rfl, by omega, Lib.hid ⟨by have := H12.out.1; omega, by have a1 := H12.out.2; have a2 := HTW.out; omega, by trivial⟩⟩
          case measure => simp [intOf]; omega
        · rw [hab] at c6
          obtain ⟨M, hM1, hM2⟩ := upn_true.1 hab
          have HM := Lib.hid (And.intro hM1 hM2)
          clear hab hM1 hM2
          go_wp2_with fail
          clear c6
          go_loopw [9, 13] (fun l j wx => ∃ (lv : Int) (n : Nat), l = .int .i64 lv ∧ j = .int .i64 (bk p u n : Nat) ∧ Hid (n ≤ M ∧ lv ≤ 1152921504606846976 ∧ Fx f u v = min lv (Fx f (bk p u n) m) ∧ wx = wo)) (fun _ j _ => (intOf j).toNat)
          case atStart => exact ⟨_, 0, rfl, rfl, Lib.hid ⟨by omega, H12.out.1, H12.out.2, rfl⟩⟩
          case round =>
            obtain ⟨lv2, n, rfl, rfl, hin⟩ := hrel
            obtain ⟨h0, h1, h2, h3⟩ := hin.out
            rw [h3]
            have H12b := Lib.hid (And.intro h0 (And.intro h1 h2))
            clear hin h0 h1 h2 h3
            obtain ⟨z, hz⟩ : ∃ z, z = bk p u n := ⟨_, rfl⟩
            have hzN : z < N := by rw [hz]; exact (HT.out.bk_lt hu n).1
            rw [← hz]
            have HZ := Lib.hid hz
            by_cases hzm : z = m
            · have hend : f u v = lv2 := by
                have a := H12b.out.2.2
                have b := H12b.out.2.1
                rw [← HZ.out, hzm] at a
                unfold Fx at a
                rw [if_neg hne, if_pos rfl] at a
                omega
              obtain rfl : z0 = lv2 := by rw [HZ0.out]; exact hend
              subst hzm
              clear hz
              go_wp2
              go_ret
              exact ⟨rfl, HAB.out.2⟩
            · have hnM : n < M := by
                have a := H12b.out.1
                rcases Nat.lt_or_ge n M with h | h
                · exact h
                · exfalso; apply hzm; rw [hz, show n = M by omega]; exact HM.out.2
              have hz0 : 1 ≤ z := by
                rcases Nat.eq_zero_or_pos z with e | e
                · exfalso; apply hzm
                  have := HT.out.bk_zero (u := u) (m := n) (by rw [← hz]; exact e) (M - n)
                  rw [show n + (M - n) = M by omega, HM.out.2] at this
                  omega
                · exact e
              have hmz : m < z := by
                have key : ∀ d, bk p u (n + 1 + d) ≤ bk p u (n + 1) := by
                  intro d
                  induction d with
                  | zero => exact Nat.le_refl _
                  | succ d ih =>
                    by_cases e : bk p u (n + 1 + d) = 0
                    · have := HT.out.bk_zero e 1
                      rw [show n + 1 + (d + 1) = n + 1 + d + 1 by omega, this]; omega
                    · have := HT.out.bk_dec hu e
                      rw [show n + 1 + (d + 1) = n + 1 + d + 1 by omega]; omega
                have k1 := key (M - (n + 1))
                rw [show n + 1 + (M - (n + 1)) = M by omega, HM.out.2] at k1
                have k2 := HT.out.bk_dec hu (m := n) (by rw [← hz]; omega)
                rw [← hz] at k2
                omega
              obtain ⟨b1, o1, rfl, -, e1⟩ := Vl.at HP.out HAB.out.2 hzN
              obtain ⟨b2, o2, rfl, -, e2⟩ := Vl.at HW.out HAB.out.2 hzN
              have hpi : parI p z = ((p z : Nat) : Int) := by unfold parI; rw [if_neg (by omega)]
              rw [hpi] at e1
              have hone := HT.out.one hz0 hzN hmz
              rw [HT.out.fx_sym m z, HT.out.fx_sym m (p z)] at hone
              have hdec : p z < z := HT.out.par z hz0 hzN
              obtain ⟨pz, hpz⟩ : ∃ q, q = p z := ⟨_, rfl⟩
              obtain ⟨wz, hwz⟩ : ∃ q, q = w z := ⟨_, rfl⟩
              rw [← hpz] at e1 hdec hone; rw [← hwz] at e2 hone
              have HON := Lib.hid hone
              have HPZ := Lib.hid hpz
              clear hpz hwz hpi hone hz
              go_wp2
              go_roundw
              case rel =>
                have e9 : bk p u (n + 1) = pz := by rw [HPZ.out, HZ.out]; rfl
                refine ⟨_, n + 1, rfl, by rw [e9], Lib.hid ⟨by omega, by have := H12b.out.2.1; omega, ?_, by trivial⟩⟩
                rw [e9]
                have a1 := H12b.out.2.2
                rw [← HZ.out] at a1
                have a2 := HON.out
                omega
              case measure => simp [intOf]; omega
end Go.Proofs.Ytilcbbdmenknfaa
namespace Go.Proofs.Ytilcbbdmenknfaa
open Go.RowKit

/-- the grid of N rows at block b: row i lies at block b + 1 + i -/
structure Gd (W : World) (b N : Nat) (y : Nat → Nat → Int) : Prop where
  top : Bk W b 33 N (fun i => .slice (some ⟨b + 1 + i, 0, none⟩) N N)
  row : ∀ i, i < N → BI W (b + 1 + i) N (y i)
section
variable {w w' : World} {b N : Nat} {y : Nat → Nat → Int}
theorem Gd.ext (h : Gd w b N y) (e : Ext w w') : Gd w' b N y := ⟨h.top.ext e, fun i hi => (h.row i hi).ext e⟩
theorem Gd.congr {z : Nat → Nat → Int} (h : Gd w b N y) (e : ∀ i j, i < N → j < N → y i j = z i j) : Gd w b N z :=
  ⟨h.top, fun i hi => Bk.congr (h.row i hi) fun j hj => by rw [e i j hi hj]⟩
theorem Gd.cellT (h : Gd w b N y) {i : Nat} (hi : i < N) : w.cell? ⟨b, i, none⟩ = some (.slice (some ⟨b + 1 + i, 0, none⟩) N N) := Bk.cell h.top hi
theorem Gd.cell (h : Gd w b N y) {i j : Nat} (hi : i < N) (hj : j < N) : w.cell? ⟨b + 1 + i, j, none⟩ = some (.int .i64 (y i j)) := Bk.cell (h.row i hi) hj
theorem Gd.lt (h : Gd w b N y) {i : Nat} (hi : i < N) : b + 1 + i < w.heap.size := Bk.lt (h.row i hi)
theorem Gd.set_ (h : Gd w b N y) (i j : Nat) (v : Int) : Gd (w.setCell ⟨b + 1 + i, j, none⟩ (.int .i64 v)) b N (fun p q => if p = i ∧ q = j then v else y p q) := by
  refine ⟨Bk.far h.top (by show b ≠ b + 1 + i; omega) _, fun p hp => ?_⟩
  by_cases e : p = i
  · subst e
    refine Bk.congr (BI.set_ (h.row p hp) j v) fun q _ => ?_
    by_cases e2 : q = j
    · subst e2; simp only [up_self, and_self, if_true]
    · simp only [up_ne _ _ e2, and_false, e2, if_false]
  · refine Bk.congr (Bk.far (h.row p hp) (by show b + 1 + p ≠ b + 1 + i; omega) _) fun q _ => ?_
    simp only [e, false_and, if_false]
theorem Gd.far (h : Gd w b N y) {p : Addr} (hp : p.block < b) (v : Value) : Gd (w.setCell p v) b N y :=
  ⟨Bk.far h.top (by omega) _, fun i hi => Bk.far (h.row i hi) (by omega) _⟩
end
end Go.Proofs.Ytilcbbdmenknfaa
namespace Go.Proofs.Ytilcbbdmenknfaa
open Go.RowKit

/-- what holds while the walk is under way -/
structure Wd (W : World) (N s : Nat) (y : Nat → Nat → Int) (g : Nat) (q : Value) (wr : World) (R : Nat → Bool) (la rk : Nat → Nat) (l : List Nat) (K i : Nat) : Prop where
  qs : Qs wr W.heap.size q l.length (fun i => ((l.getD i 0 : Nat) : Int))
  own : q.ownBlock ≠ some g
  bF : BI wr g N (fun v => if R v = true then ((la v : Nat) : Int) else -1)
  wz : Wz N s y R la rk l K i
  ext : Ext W wr
theorem Wd.next {W X Y : World} {N s g K i : Nat} {y : Nat → Nat → Int} {q : Value} {R : Nat → Bool} {la rk : Nat → Nat} {l : List Nat} (h : Wd W N s y g q X R la rk l K i) (e : Ext X Y) : Wd W N s y g q Y R la rk l K i :=
  ⟨h.qs.ext e, h.own, h.bF.ext e, h.wz, h.ext.trans e⟩

set_option maxHeartbeats 4000000 in
set_option maxRecDepth 100000 in
theorem way_any (b N s : Nat) (y : Nat → Nat → Int) (W : World) (hG : Gd W b N y) (hN : N ≤ 100) (hs : s < N) :
    Calls Try.prog 79 #[.slice (some ⟨b, 0, none⟩) N N, .int .i64 s] W fun e W' => ∃ R la rk h,
      e = .returned (.slice (some ⟨h, 0, none⟩) N N) ∧ W.heap.size ≤ h ∧ BI W' h N (fun v => if R v = true then ((la v : Nat) : Int) else -1) ∧ Wm N s y R la rk ∧ (∀ v, R v = true → v < N ∧ la v < N) ∧ Ext W W' := by
  have hm1 : ∀ w, (Instr.makeSlice 33 (.int .i64 (N : Int)) (.int .i64 (N : Int))).run Try.prog w = .ok (.slice (some ⟨w.heap.size, 0, none⟩) N N) (w.alloc (.cells (Array.ofFn fun _ : Fin N => .int .i64 0) 3)) := fun w => make_one 33 3 _ 8 Try.underlying33 info3 rfl (by omega) N (by omega) w
  have HG := Lib.hid hG
  clear hG
  go_enter Try.func79, Try.ntmps79
  go_wp2_with fail
  have y1 : BI (W.alloc (.cells (Array.ofFn fun _ : Fin N => Value.int .i64 0) 3)) W.heap.size N (fun _ => 0) := heap_alloc_new W _
  have e1 : Ext W (W.alloc (.cells (Array.ofFn fun _ : Fin N => Value.int .i64 0) 3)) := Ext.alc (Ext.refl _) _
  have z1 : (W.alloc (.cells (Array.ofFn fun _ : Fin N => Value.int .i64 0) 3)).heap.size = W.heap.size + 1 := by simp
  generalize W.alloc (.cells (Array.ofFn fun _ : Fin N => Value.int .i64 0) 3) = W1 at *
  have Y1 := Lib.hid y1; have E1 := Lib.hid e1
  obtain ⟨g, hg⟩ : ∃ g, g = W.heap.size := ⟨_, rfl⟩
  rw [← hg] at z1 Y1
  rw [← hg]
  have hgW : W.heap.size ≤ g := by omega
  have Hg := Lib.hid hg
  clear y1 e1 hg
  go_loopw [16] (fun i wr => ∃ k : Nat, i = .int .i64 k ∧ k ≤ N ∧ Hid (BI wr g N (fun v => if v < k then -1 else 0) ∧ wr.heap.size = g + 1 ∧ Ext W wr)) (fun i _ => N - (intOf i).toNat)
  case atStart => exact ⟨0, rfl, Nat.zero_le _, Lib.hid ⟨Bk.congr Y1.out (fun j _ => by simp), z1, E1.out⟩⟩
  case round =>
    clear z1 E1 Y1
    obtain ⟨k, rfl, hk, hin⟩ := hrel
    by_cases hlt : k < N
    · have c6 := Bk.cell hin.out.1 hlt
      have f6 := Bk.free hin.out.1 k
      go_wp2
      go_roundw
      case rel =>
        refine ⟨k + 1, by go_num, by omega, Lib.hid ⟨Bk.congr (BI.set_ hin.out.1 k (-1)) fun j hj => ?_, by simp [World.setCell]; exact hin.out.2.1, hin.out.2.2.sc (by omega)⟩⟩
        by_cases e : j = k
        · subst e; rw [up_self]; dsimp only; rw [if_pos (by omega)]
        · rw [up_ne _ _ e]; dsimp only
          by_cases e2 : j < k
          · rw [if_pos e2, if_pos (by omega)]
          · rw [if_neg e2, if_neg (by omega)]
      case measure => simp [intOf]; omega
    · obtain rfl : k = N := by omega
      have c6 := Bk.cell hin.out.1 hs
      have f6 := Bk.free hin.out.1 s
      have y2 := BI.set_ hin.out.1 s s
      have e2 : Ext W (wr.setCell ⟨g, s, none⟩ (.int .i64 s)) := hin.out.2.2.sc (by omega)
      have z2 : (wr.setCell ⟨g, s, none⟩ (.int .i64 s)).heap.size = g + 1 := by simp [World.setCell]; exact hin.out.2.1
      have z3 : (wr.setCell ⟨g, s, none⟩ (.int .i64 s)).heap.size = wr.heap.size := by simp [World.setCell]
      have Y2 := Lib.hid y2; have E2 := Lib.hid e2; have Z2 := Lib.hid (And.intro z2 z3)
      clear y2 e2 z2 z3
      go_wp2_with fail
      clear c6 f6 hin
      generalize wr.setCell ⟨g, s, none⟩ (.int .i64 s) = w2 at *
      go_loopw [7, 8] (fun q i wr => ∃ K : Nat, i = .int .i64 K ∧ Hid (∃ R la rk l, Wd W k s y g q wr R la rk l K 0)) (fun _ i _ => k + 1 - (intOf i).toNat)
      case atStart =>
        have hq := Qs.one w2 W.heap.size s (by rw [Z2.out.1]; omega) (fun i => (([s].getD i 0 : Nat) : Int)) rfl
        rw [Z2.out.2] at hq
        have hz2 := Z2.out.1
        have hz3 := Z2.out.2
        refine ⟨0, rfl, Lib.hid ⟨_, _, _, [s], hq, ?_, ?_, Wz.start y hs, E2.out.alc _⟩⟩
        · simp [Value.ownBlock]; omega
        · refine Bk.congr (BI.ext Y2.out (Ext.alc (Ext.refl _) _)) fun j hj => ?_
          by_cases e : j = s
          · subst e; simp only [up_self, if_true]
          · simp only [up_ne _ _ e, if_pos hj, Bool.false_eq_true, if_false]
      case round =>
        clear Y2 E2 Z2
        obtain ⟨K, rfl, hin⟩ := hrel
        obtain ⟨R, la, rk, l, hwd⟩ := hin.out
        clear hin
        have hlN : l.length ≤ k := by have := hwd.wz.len; omega
        have HWD := Lib.hid hwd
        obtain ⟨A, c, rfl, hlc, hcm, hcell⟩ := hwd.qs.il
        clear hwd
        by_cases hlt : K < l.length
        · obtain ⟨b2, off, rfl, hb2, hcl⟩ := hcell (by omega)
          have c7 := hcl K hlt
          obtain ⟨u, hu⟩ : ∃ u, u = l.getD K 0 := ⟨_, rfl⟩
          dsimp only at c7
          rw [← hu] at c7
          have huN : u < k := by rw [hu]; exact HWD.out.wz.low _ (HWD.out.wz.qin _ (HWD.out.wz.mem hlt))
          have c8 := Gd.cellT (HG.out.ext HWD.out.ext) huN
          have HU := Lib.hid hu
          obtain ⟨n, hn⟩ : ∃ n, n = l.length := ⟨_, rfl⟩
          rw [← hn] at hlt hlN hlc hcl ⊢
          have HNL := Lib.hid hn
          clear hu hcell hcl hn
          go_wp2_with fail
          clear c7 c8
          go_loopw [7, 43] (fun q i wr => ∃ m : Nat, i = .int .i64 m ∧ m ≤ k ∧ Hid (∃ R la rk l, Wd W k s y g q wr R la rk l K m ∧ l.getD K 0 = u ∧ K < l.length)) (fun _ i _ => k - (intOf i).toNat)
          case atStart => exact ⟨0, rfl, Nat.zero_le _, Lib.hid ⟨R, la, rk, l, by have h := HWD.out; rw [← HNL.out] at h; exact h, HU.out.symm, by rw [← HNL.out]; exact hlt⟩⟩
          case round =>
            clear HWD HU HNL hlt hlN hlc
            obtain ⟨m, rfl, hm, hin⟩ := hrel
            by_cases hlt2 : m < k
            · obtain ⟨R, la, rk, l, hwd, hlu, hKl⟩ := hin.out
              have hlN : l.length ≤ k := by have := hwd.wz.len; omega
              have HWD := Lib.hid hwd; have HLU := Lib.hid hlu
              obtain ⟨A, c, rfl, hlc, hcm, hcell⟩ := hwd.qs.il
              clear hin hwd
              obtain ⟨b3, off3, rfl, hb3, hcl⟩ := hcell (by omega)
              have c7 := hcl K hKl
              dsimp only at c7
              rw [hlu] at c7
              clear hcell hcl hlu
              have c9 := Gd.cell (HG.out.ext HWD.out.ext) huN hlt2
              obtain ⟨z, hz⟩ : ∃ z, z = y u m := ⟨_, rfl⟩
              rw [← hz] at c9
              have HZ := Lib.hid hz
              clear hz
              have c6 := Bk.cell HWD.out.bF hlt2
              have f6 := Bk.free HWD.out.bF m
              by_cases h0 : 0 < z
              · cases hR : R m
                · simp only [hR, Bool.false_eq_true, if_false] at c6
                  have HR := Lib.hid hR
                  have HKL := Lib.hid hKl
                  clear hR
                  obtain ⟨n, hn⟩ : ∃ n, n = l.length := ⟨_, rfl⟩
                  rw [← hn] at hKl hlN hlc ⊢
                  have HNL := Lib.hid hn
                  clear hn
                  go_upto_region 17 with fail
                  have y1 := BI.set_ HWD.out.bF m u
                  have yq : Qs (wr.setCell ⟨g, m, none⟩ (.int .i64 u)) W.heap.size (.slice (some ⟨b3, off3, none⟩) l.length c) l.length (fun i => ((l.getD i 0 : Nat) : Int)) := HWD.out.qs.block (by simp [World.setCell]) (fun g' hg' => by
                    rw [Below.heap_setCell _ ⟨g, m, none⟩ _ g' (fun e => HWD.out.own (by rw [hg']; exact congrArg some e))])
                  have ye : Ext W (wr.setCell ⟨g, m, none⟩ (.int .i64 u)) := HWD.out.ext.sc (by omega)
                  have ys : g < (wr.setCell ⟨g, m, none⟩ (.int .i64 u)).heap.size := by have := Bk.lt HWD.out.bF; simpa [World.setCell] using this
                  have yo := HWD.out.own
                  rw [← HNL.out] at yq yo
                  have YO := Lib.hid yo; have YW := Lib.hid HWD.out.wz; have Y1 := Lib.hid y1; have YQ := Lib.hid yq; have YE := Lib.hid ye
                  clear y1 yq ye yo c6 f6 c7 c9 HWD
                  generalize wr.setCell ⟨g, m, none⟩ (.int .i64 u) = w3 at *
                  have yle : W.heap.size ≤ w3.heap.size := YE.out.size
                  obtain ⟨i0, hi, hz0, hz1, hz2⟩ := info_parts info3
                  go_wp2_with (at_builtin; refine wpList_append_q rfl _ _ 33 rfl i0 Try.underlying33 hi hz0 hz1 hz2 W.heap.size _ n (fun i => ((l.getD i 0 : Nat) : Int)) rfl ?qs ?base ⟨w3.heap.size, 0, none⟩ 1 m rfl ?cell ?n ?_)
                  case qs => exact YQ.out.ext (Ext.alc (Ext.refl _) _)
                  case base => simp; omega
                  case cell => rw [World.cell?_alloc_new]; rfl
                  case n => omega
                  intro v' w4 hq4 hgr
                  have g3 := hgr.bi (Y1.out.ext (Ext.alc (Ext.refl _) _)) YO.out
                  have ge := hgr.ext (YE.out.alc _) (fun b hb => (YQ.out.1 b hb).1)
                  have o1 := hgr.apart (b := g) (by simp; omega) YO.out
                  have HH := Lib.hid (And.intro hq4 (And.intro g3 (And.intro ge o1)))
                  clear hq4 hgr g3 ge o1
                  go_wp2
                  go_roundw
                  case rel =>
                    obtain ⟨hq4, g3, ge, o1⟩ := HH.out
                    have hnl := HNL.out
                    have hKl2 : K < l.length := by omega
                    have hp := YW.out.push hKl2 hlt2 (by rw [HLU.out, ← HZ.out]; exact h0) HR.out
                    rw [HLU.out] at hp
                    refine ⟨m + 1, by go_num, by omega, Lib.hid ⟨_, _, _, l ++ [m], ⟨?_, o1, ?_, hp, ge⟩, by rw [getD_snoc hKl2]; exact HLU.out, by rw [List.length_append]; omega⟩⟩
                    · rw [List.length_append, List.length_singleton, ← hnl]
                      refine hq4.congr fun i hi => ?_
                      by_cases e : i = n
                      · subst e; rw [up_self, hnl]; simp
                      · rw [up_ne _ _ e]; simp only [List.getD_eq_getElem?_getD]; rw [List.getElem?_append_left (by omega)]
                    · refine Bk.congr g3 fun j _ => ?_
                      by_cases e : j = m
                      · subst e; simp only [up_self, if_true]
                      · simp only [up_ne _ _ e]
                  case measure => simp [intOf]; omega
                · simp only [hR, if_true] at c6
                  have HR := Lib.hid hR
                  clear hR
                  obtain ⟨lv, hlv⟩ : ∃ lv : Int, lv = ((la m : Nat) : Int) := ⟨_, rfl⟩
                  have hlv0 : 0 ≤ lv := by omega
                  rw [← hlv] at c6
                  clear hlv c7
                  go_wp2
                  go_roundw
                  case rel => exact ⟨m + 1, by go_num, by omega, Lib.hid ⟨R, la, rk, l, ⟨HWD.out.qs, HWD.out.own, HWD.out.bF, HWD.out.wz.skip (fun _ => HR.out), HWD.out.ext⟩, HLU.out, hKl⟩⟩
                  case measure => simp [intOf]; omega
              · clear c6 c7
                go_wp2
                go_roundw
                case rel => exact ⟨m + 1, by go_num, by omega, Lib.hid ⟨R, la, rk, l, ⟨HWD.out.qs, HWD.out.own, HWD.out.bF, HWD.out.wz.skip (fun h => absurd (by rw [HLU.out, ← HZ.out] at h; exact h) h0), HWD.out.ext⟩, HLU.out, hKl⟩⟩
                case measure => simp [intOf]; omega
            · obtain rfl : m = k := by omega
              obtain ⟨R, la, rk, l, hwd, hlu, hKl⟩ := hin.out
              have hlN : l.length ≤ m := by have := hwd.wz.len; omega
              have HWD := Lib.hid hwd
              clear hwd hin hlu
              go_wp2
              go_roundw
              case rel => exact ⟨K + 1, by go_num, Lib.hid ⟨R, la, rk, l, ⟨HWD.out.qs, HWD.out.own, HWD.out.bF, HWD.out.wz.next hKl, HWD.out.ext⟩⟩⟩
              case measure => simp [intOf]; omega
        · go_wp2
          refine bodyPost_ret (v := .slice (some ⟨g, 0, none⟩) k k) (by simp [results, Try.results79, go_sem]) rfl ?_
          have h := HWD.out
          exact ⟨R, la, rk, g, rfl, hgW, h.bF, h.wz.wm hlt, fun v hv => ⟨h.wz.low v hv, h.wz.lal v hv⟩, h.ext⟩
end Go.Proofs.Ytilcbbdmenknfaa
