/- Walks: the reference's greatest. · Walks: the reference's capacities. · The least and the greatest minimum side: mathematics. · Walks: Clone and few of a slice of numbers, areCosts. -/
import Derived.Test.YtilcbbdmenknfaaM14
import Derived.Lib.MinMax
import Derived.RegionTactic
import Derived.ChangeAlike
import Derived.Test.YtilcbbdmenknfaaM10
import Derived.Test.YtilcbbdmenknfaaM9
import Derived.Test.YtilcbbdmenknfaaM13
import Derived.Lib.SliceRun
namespace Go.Proofs.Ytilcbbdmenknfaa
open Go.RowKit

theorem rc_one {N : Nat} {c : Nat → Nat → Int} {s : Nat} {B : Int} (hB : ∀ i j, i < N → j < N → 0 ≤ c i j ∧ c i j ≤ B) (h0 : 0 ≤ B) (hs : s < N) : rc N c (fun v => decide (v = s)) ≤ N * B := by
  have h1 : rc N c (fun v => decide (v = s)) ≤ sm N fun i => if i = s then N * B else 0 := by
    refine sm_le fun i hi => ?_
    by_cases e : i = s
    · rw [if_pos e]
      refine sm_const_le fun j hj => ?_
      split
      · exact (hB i j hi hj).2
      · exact h0
    · rw [if_neg e]
      refine Int.le_of_eq (Eq.trans (sm_congr (g := fun _ => 0) fun j _ => ?_) (sm_zero N))
      simp [e]
  rw [sm_one, if_pos hs] at h1
  exact h1

set_option maxHeartbeats 4000000 in
set_option maxRecDepth 100000 in
theorem greatestR_any (b N s t : Nat) (c : Nat → Nat → Int) (B : Int) (W0 W : World) (hG : Gd W b N c) (hN : N ≤ 100) (hs : s < N) (ht : t < N) (hst : s ≠ t)
    (hB : ∀ i j, i < N → j < N → 0 ≤ c i j ∧ c i j ≤ B) (hB0 : 0 ≤ B) (hB2 : B ≤ 10000000000000) (h0 : Ext W0 W) (hb : W0.heap.size ≤ b) :
    Calls Try.prog 51 #[.slice (some ⟨b, 0, none⟩) N N, .int .i64 s, .int .i64 t] W fun e W' => ∃ (T : Int) (y : Nat → Nat → Int) (R : Nat → Bool) (la rk : Nat → Nat),
      e = .returned (.int .i64 T) ∧ Gd W' b N y ∧ Rm N s t c y T ∧ Wm N s y R la rk ∧ R t = false ∧ Ext W0 W' := by
  obtain ⟨C, hC⟩ : ∃ C : Int, C = rc N c (fun v => decide (v = s)) := ⟨_, rfl⟩
  have hCb : C ≤ 1000000000000000 := by
    have h1 := rc_one (s := s) hB hB0 hs
    have h2 : (N : Int) * B ≤ 100 * 10000000000000 := Int.mul_le_mul (by omega) hB2 hB0 (by omega)
    omega
  have hle : ∀ T y, Rm N s t c y T → 0 ≤ T → T ≤ C := fun T y h _ => by rw [hC]; exact h.weak ⟨by simp, by simp; omega⟩
  have HLE := Lib.hid hle
  have HB := Lib.hid hB
  have HG := Lib.hid hG; have H0 := Lib.hid h0
  clear hG h0 hB hC hle
  go_enter Try.func51, Try.ntmps51
  go_wp2_with fail
  go_loopg [7] C.toNat (fun k q wr => ∃ T : Int, q = .int .i64 T ∧ 0 ≤ T ∧ T ≤ C ∧ C - T ≤ k ∧ Hid (∃ y, Gd wr b N y ∧ Rm N s t c y T ∧ Ext W0 wr))
  case atStart => 
    have h00 : 0 ≤ C := HLE.out 0 c (Rm.start fun i j hi hj => (HB.out i j hi hj).1) (by omega)
    exact ⟨0, rfl, by omega, h00, by omega, Lib.hid ⟨c, HG.out, Rm.start fun i j hi hj => (HB.out i j hi hj).1, H0.out⟩⟩
  case round =>
    obtain ⟨gO, hgO⟩ : ∃ g : Nat, g = gk := ⟨_, rfl⟩
    have HGO := Lib.hid hgO
    rw [← hgO] at hrel
    clear hgO
    obtain ⟨T, rfl, hT0, hTC, hTk, hin⟩ := hrel
    obtain ⟨y, hgd, hrm, hex⟩ := hin.out
    have hbw : ∀ i, i < N → b + 1 + i < wr.heap.size := fun i hi => hgd.lt hi
    have HBW := Lib.hid hbw; clear hbw
    have HGD := Lib.hid hgd; have HRM := Lib.hid hrm; have HEX := Lib.hid hex
    clear hin hgd hrm hex
    go_wp2_with fail
    refine (way_any b N s y _ HGD.out hN hs).mono ?_
    rintro e w1 ⟨R, la, rk, h, rfl, hh, hbi, hwm, hlow, hx⟩
    have HBI := Lib.hid hbi; have HWM := Lib.hid hwm; have HLOW := Lib.hid hlow
    replace HGD := Lib.hid (HGD.out.ext hx)
    replace HEX := Lib.hid (HEX.out.trans hx)
    clear hbi hwm hlow hx
    have c1 := Bk.cell HBI.out ht
    cases hR : R t
    · simp only [hR, Bool.false_eq_true, if_false] at c1
      have HR := Lib.hid hR
      clear hR
      go_wp2
      go_ret
      exact ⟨T, y, R, la, rk, rfl, HGD.out, HRM.out, HWM.out, HR.out, HEX.out⟩
    · simp only [hR, if_true] at c1
      obtain ⟨L, hL⟩ := HWM.out.back _ t (Nat.lt_succ_self _) ht hR
      have HL := Lib.hid hL
      have hL0 : 0 < L := by
        rcases Nat.eq_zero_or_pos L with e | e
        · subst e; exact absurd hL.fin (fun e => hst e.symm)
        · exact e
      have hhb : ∀ i, i < N → b + 1 + i < h := fun i hi => Nat.lt_of_lt_of_le (HBW.out i hi) hh
      have HHB := Lib.hid hhb; clear hhb
      clear hR hL
      obtain ⟨l0, hl0⟩ : ∃ l0 : Int, l0 = ((la t : Nat) : Int) := ⟨_, rfl⟩
      have hl00 : 0 ≤ l0 := by omega
      rw [← hl0] at c1
      clear hl0
      go_wp2_with fail
      clear c1
      go_loopg [9, 10] L (fun k q j wx => ∃ (n : Nat) (r : Int), q = .int .i64 r ∧ j = .int .i64 (bk la t n : Nat) ∧ n + k = L ∧ 0 < r ∧ r ≤ 1152921504606846976 ∧ Hid ((∀ m, m < n → r ≤ y (bk la t (m + 1)) (bk la t m)) ∧ Ext w1 wx))
      case atStart => exact ⟨0, 1152921504606846976, rfl, rfl, by omega, by omega, by omega, Lib.hid ⟨fun m hm => by omega, Ext.refl _⟩⟩
      case round =>
        obtain ⟨n, r, rfl, rfl, hnk, hr0, hr1, hin2⟩ := hrel
        obtain ⟨v, hv⟩ : ∃ v, v = bk la t n := ⟨_, rfl⟩
        rw [← hv]
        by_cases hlt : n < L
        · have hvN : v < N := by rw [hv]; exact HL.out.low n (by omega)
          have hvs : v ≠ s := by rw [hv]; exact HL.out.mid n hlt
          obtain ⟨p, hp⟩ : ∃ p, p = bk la t (n + 1) := ⟨_, rfl⟩
          have hpN : p < N := by rw [hp]; exact HL.out.low (n + 1) (by omega)
          have c2 := Bk.cell (HBI.out.ext hin2.out.2) hvN
          have hRv : R v = true := by rw [hv]; exact HL.out.rch n (by omega)
          have hpl : la v = p := by rw [hv, hp]; rfl
          simp only [hRv, if_true, hpl] at c2
          have c3 := Gd.cellT (HGD.out.ext hin2.out.2) hpN
          have c4 := Gd.cell (HGD.out.ext hin2.out.2) hpN hvN
          obtain ⟨z, hz⟩ : ∃ z, z = y p v := ⟨_, rfl⟩
          rw [← hz] at c4
          have hz0 : 0 < z := by rw [hz, hp, hv]; exact HL.out.pos n hlt
          have HZ := Lib.hid hz
          have HPV := Lib.hid (And.intro hp hv)
          clear hz hp hv hRv hpl
          go_wp2
          go_roundg (gk - 1)
          case measure => omega
          case rel =>
            refine ⟨n + 1, min r z, rfl, by rw [← HPV.out.1], by omega, by omega, by omega, Lib.hid ⟨fun m hm => ?_, hin2.out.2⟩⟩
            by_cases e : m = n
            · subst e
              rw [← HPV.out.1, ← HPV.out.2, ← HZ.out]; omega
            · have := hin2.out.1 m (by omega); omega
        · obtain rfl : n = L := by omega
          obtain rfl : v = s := by rw [hv]; exact HL.out.fin
          have hall : ∀ m, 0 ≤ m → m < n → r ≤ y (bk la t (m + 1)) (bk la t m) := fun m _ hm => hin2.out.1 m hm
          have HALL := Lib.hid hall
          have HEX2 := Lib.hid (HEX.out.trans hin2.out.2)
          have HGD2 := Lib.hid (HGD.out.ext hin2.out.2)
          have HBI2 := Lib.hid (BI.ext HBI.out hin2.out.2)
          have hrC : T + r ≤ 1000000000000000 + 20000000000000 := by
            have h1 := HALL.out 0 (by omega) hL0
            have h2 := HRM.out.sum (bk la t 1) (bk la t 0) (HL.out.low 1 (by omega)) (HL.out.low 0 (by omega)) (HL.out.ne (show 0 < 1 by omega) (by omega))
            have h3 := HB.out (bk la t 1) (bk la t 0) (HL.out.low 1 (by omega)) (HL.out.low 0 (by omega))
            have h4 := HB.out (bk la t 0) (bk la t 1) (HL.out.low 0 (by omega)) (HL.out.low 1 (by omega))
            have h5 := HRM.out.nn (bk la t 0) (bk la t 1) (HL.out.low 0 (by omega)) (HL.out.low 1 (by omega))
            rw [Nat.zero_add] at h1
            omega
          clear hv hall hin2 HGD HBI HEX
          go_wp2_with fail
          go_loopg [11] n (fun k j wx => ∃ m : Nat, j = .int .i64 (bk la t m : Nat) ∧ m + k = n ∧ Hid (∃ z, Gd wx b N z ∧ Pu N v t c z T r (bk la t m) ∧ (∀ q, m ≤ q → q < n → r ≤ z (bk la t (q + 1)) (bk la t q)) ∧ BI wx h N (fun v => if R v = true then ((la v : Nat) : Int) else -1) ∧ Ext W0 wx))
          case atStart => exact ⟨0, rfl, by omega, Lib.hid ⟨y, HGD2.out, HRM.out.pu r, HALL.out, HBI2.out, HEX2.out⟩⟩
          case round =>
            clear HALL HGD2 HBI2 HEX2
            obtain ⟨m, rfl, hmk, hin⟩ := hrel
            obtain ⟨z, hgd, hpu, hcan, hbi, hex⟩ := hin.out
            have HGD := Lib.hid hgd; have HPU := Lib.hid hpu; have HCAN := Lib.hid hcan; have HBI := Lib.hid hbi; have HEX := Lib.hid hex
            clear hin hgd hpu hcan hbi hex
            obtain ⟨u, hu⟩ : ∃ u, u = bk la t m := ⟨_, rfl⟩
            rw [← hu]
            by_cases hlt : m < n
            · have huN : u < N := by rw [hu]; exact HL.out.low m (by omega)
              have huv : u ≠ v := by rw [hu]; exact HL.out.mid m hlt
              obtain ⟨p, hp⟩ : ∃ p, p = bk la t (m + 1) := ⟨_, rfl⟩
              have hpN : p < N := by rw [hp]; exact HL.out.low (m + 1) (by omega)
              have hpu : p ≠ u := by rw [hp, hu]; exact HL.out.ne (show m < m + 1 by omega) (by omega)
              have c2 := Bk.cell HBI.out huN
              have hRv : R u = true := by rw [hu]; exact HL.out.rch m (by omega)
              have hpl : la u = p := by rw [hu, hp]; rfl
              simp only [hRv, if_true, hpl] at c2
              have c3 := Gd.cellT HGD.out hpN
              have c3u := Gd.cellT HGD.out huN
              have c4 := Gd.cell HGD.out hpN huN
              have c5 := Gd.cell HGD.out huN hpN
              have f4 := Bk.free (HGD.out.row p hpN) u
              obtain ⟨a, ha⟩ : ∃ a, a = z p u := ⟨_, rfl⟩
              obtain ⟨d, hd⟩ : ∃ d, d = z u p := ⟨_, rfl⟩
              rw [← ha] at c4; rw [← hd] at c5
              have hra : r ≤ a := by rw [ha, hp, hu]; exact HCAN.out m (Nat.le_refl _) hlt
              have hd0 : 0 ≤ d := by rw [hd]; exact HPU.out.nn u p huN hpN
              have had : a + d ≤ 20000000000000 := by
                have h2 := HPU.out.sum p u hpN huN hpu
                have h3 := HB.out p u hpN huN
                have h4 := HB.out u p huN hpN
                omega
              have hs1 := HHB.out p hpN
              have hs2 := HHB.out u huN
              have HPU2 := Lib.hid (And.intro hp (And.intro hu (And.intro ha hd)))
              have g1 := Gd.set_ HGD.out p u (a - r)
              have k1 : BI (wr.setCell ⟨b + 1 + p, u, none⟩ (.int .i64 (a - r))) h N (fun v => if R v = true then ((la v : Nat) : Int) else -1) := Bk.far HBI.out (by show h ≠ b + 1 + p; omega) _
              have x1 : Ext W0 (wr.setCell ⟨b + 1 + p, u, none⟩ (.int .i64 (a - r))) := HEX.out.sc (by omega)
              have G1 := Lib.hid g1; have K1 := Lib.hid k1; have X1 := Lib.hid x1
              clear hp hu ha hd hRv hpl g1 k1 x1
              go_upto_region 14 with fail
              clear c2 c3 c3u c4 c5 f4
              have c2 := Bk.cell K1.out huN
              have hRv : R u = true := by rw [HPU2.out.2.1]; exact HL.out.rch m (by omega)
              have hpl : la u = p := by rw [HPU2.out.1, HPU2.out.2.1]; rfl
              simp only [hRv, if_true, hpl] at c2
              have c3 := Gd.cellT G1.out huN
              have c5 := Gd.cell G1.out huN hpN
              have f5 := Bk.free (G1.out.row u huN) p
              have hne : ¬ (u = p ∧ p = u) := fun e => hpu e.2
              simp only [hne, if_false, ← HPU2.out.2.2.2] at c5
              clear hRv hpl hne
              generalize wr.setCell ⟨b + 1 + p, u, none⟩ (.int .i64 (a - r)) = w2 at *
              have e2 : w2.drew.cell? ⟨h, u, none⟩ = some (.int .i64 p) := c2
              have e3 : w2.drew.cell? ⟨b, u, none⟩ = some (.slice (some ⟨b + 1 + u, 0, none⟩) N N) := c3
              have e5 : w2.drew.cell? ⟨b + 1 + u, p, none⟩ = some (.int .i64 d) := c5
              have g5 : w2.drew.frozen? ⟨b + 1 + u, p, none⟩ = false := f5
              clear c2 c3 c5 f5
              have hwr : IntKind.i64.wrap (d + r) = d + r := IntWalk.i64_in _ (by omega)
              go_region
              clear e2 e3 e5 g5
              have k2 : BI (w2.setCell ⟨b + 1 + u, p, none⟩ (.int .i64 (d + r))).drew h N (fun v => if R v = true then ((la v : Nat) : Int) else -1) := Bk.drew (Bk.far K1.out (by show h ≠ b + 1 + u; omega) _)
              have g2 : Gd (w2.setCell ⟨b + 1 + u, p, none⟩ (.int .i64 (d + r))).drew b N _ := (Gd.set_ G1.out u p (d + r)).ext (Ext.drw (Ext.refl _))
              have x2 : Ext W0 (w2.setCell ⟨b + 1 + u, p, none⟩ (.int .i64 (d + r))).drew := Ext.drw (X1.out.sc (by omega))
              have K2 := Lib.hid k2; have G2 := Lib.hid g2; have X2 := Lib.hid x2
              clear k2 g2 x2 K1 G1 X1
              generalize (w2.setCell ⟨b + 1 + u, p, none⟩ (.int .i64 (d + r))).drew = w3 at *
              have c2 := Bk.cell K2.out huN
              have hRv : R u = true := by rw [HPU2.out.2.1]; exact HL.out.rch m (by omega)
              have hpl : la u = p := by rw [HPU2.out.1, HPU2.out.2.1]; rfl
              simp only [hRv, if_true, hpl] at c2
              clear hRv hpl hwr
              go_wp2
              go_roundg (gk - 1)
              case measure => omega
              case rel =>
                obtain ⟨hp, hu, ha, hd⟩ := HPU2.out
                refine ⟨m + 1, by rw [← hp], by omega, Lib.hid ⟨psh z p u r, G2.out.congr fun i j hi hj => ?_, ?_, ?_, K2.out, X2.out⟩⟩
                · unfold psh
                  by_cases e1 : i = u ∧ j = p
                  · obtain ⟨rfl, rfl⟩ := e1
                    simp only [and_self, if_true]
                    rw [if_neg (fun e => hpu e.2), hd]
                  · rw [if_neg e1]
                    by_cases e4 : i = p ∧ j = u
                    · obtain ⟨rfl, rfl⟩ := e4
                      simp only [and_self, if_true, ha]
                    · rw [if_neg e4, if_neg e4, if_neg e1]
                · rw [← hp]
                  have hpu2 := HPU.out
                  rw [← hu] at hpu2
                  exact hpu2.step hpN huN hpu (by omega) (by rw [← ha]; exact hra)
                · have hk := HL.out.keep (r := r) (n := m) (z := z) (by omega) (fun q h1 h2 => HCAN.out q h1 h2)
                  rw [← hp, ← hu] at hk
                  exact hk
            · obtain rfl : m = n := by omega
              obtain rfl : u = v := by rw [hu]; exact HL.out.fin
              have hrm2 := HPU.out
              rw [← hu] at hrm2
              have hrm3 := hrm2.rm
              have hTr := HLE.out _ _ hrm3 (by omega)
              have HR3 := Lib.hid hrm3
              clear hu hrm2 hrm3
              go_wp2
              go_roundg (gO - 1)
              case measure => have := HGO.out; omega
              case rel => exact ⟨T + r, rfl, by omega, hTr, by omega, Lib.hid ⟨z, HGD.out, HR3.out, HEX.out⟩⟩
end Go.Proofs.Ytilcbbdmenknfaa
namespace Go.Proofs.Ytilcbbdmenknfaa
open Go.RowKit

/-- the matrix of the first k arcs -/
def Ar.mxk (a : Ar) (k i j : Nat) : Int := sm k fun q => if a.nw.fr q = i ∧ a.nw.to q = j then a.nw.cp q else 0
theorem Ar.mxk_end (a : Ar) : a.mxk a.n = a.nw.mx := rfl
theorem Ar.mxk_succ (a : Ar) (k i j : Nat) : a.mxk (k + 1) i j = a.mxk k i j + if (a.f k).toNat = i ∧ (a.t k).toNat = j then a.c k else 0 := rfl
theorem Ar.mxk_bd {a : Ar} {N : Nat} {M : Int} (h : a.Ok N M) (hM : 0 ≤ M) {k : Nat} (hk : k ≤ a.n) (i j : Nat) : 0 ≤ a.mxk k i j ∧ a.mxk k i j ≤ k * M := by
  refine ⟨sm_nonneg fun q hq => ?_, sm_const_le fun q hq => ?_⟩
  · split
    · exact h.c0 q (by omega)
    · omega
  · split
    · exact h.cM q (by omega)
    · exact hM

set_option maxHeartbeats 4000000 in
set_option maxRecDepth 100000 in
theorem capacities_any (a : Ar) (N : Nat) (AV : Value) (W : World) (hA : Al W AV a) (hO : a.Ok N 1000000) (hn : a.n ≤ 1000) (hN : N ≤ 100) :
    Calls Try.prog 52 #[.agg #[.int .i64 N, AV]] W fun e W' => ∃ b, e = .returned (.slice (some ⟨b, 0, none⟩) N N) ∧ W.heap.size ≤ b ∧ Gd W' b N a.nw.mx ∧ Ext W W' := by
  have hm1 : ∀ w, (Instr.makeSlice 91 (.int .i64 (N : Int)) (.int .i64 (N : Int))).run Try.prog w = .ok (.slice (some ⟨w.heap.size, 0, none⟩) N N) (w.alloc (.cells (Array.ofFn fun _ : Fin N => .slice none 0 0) 33)) := fun w => make_one 91 33 _ 24 Try.underlying91 info33 rfl (by omega) N (by omega) w
  have hm2 : ∀ w, (Instr.makeSlice 33 (.int .i64 (N : Int)) (.int .i64 (N : Int))).run Try.prog w = .ok (.slice (some ⟨w.heap.size, 0, none⟩) N N) (w.alloc (.cells (Array.ofFn fun _ : Fin N => .int .i64 0) 3)) := fun w => make_one 33 3 _ 8 Try.underlying33 info3 rfl (by omega) N (by omega) w
  have HA := Lib.hid hA; have HO := Lib.hid hO
  clear hO
  obtain ⟨A, c, rfl, hac, hcm, -⟩ := hA
  go_enter Try.func52, Try.ntmps52
  go_upto_region 1 with fail
  have bb := al1 W (.cells #[.int .i64 N, .slice A a.n c] 24)
  have hh := heap_alloc_new W (.cells #[.int .i64 N, .slice A a.n c] 24)
  have zz : W.heap.size < (W.alloc (.cells #[.int .i64 N, .slice A a.n c] 24)).heap.size := by simp
  generalize W.alloc (.cells #[.int .i64 N, .slice A a.n c] 24) = W1 at *
  have HX : Hid (Ext W W1) := Lib.hid bb
  obtain ⟨m0, m1, m2, m3⟩ := two hh
  have HM := Lib.hid (And.intro m0 m1)
  clear bb hh m2 m3
  go_wp2_with fail
  obtain ⟨b, hb⟩ : ∃ b, b = W1.heap.size := ⟨_, rfl⟩
  have y1 : Bk (W1.alloc (.cells (Array.ofFn fun _ : Fin N => Value.slice none 0 0) 33)) b 33 N (fun _ => .slice none 0 0) := by rw [hb]; exact heap_alloc_new W1 _
  have e1 : Ext W1 (W1.alloc (.cells (Array.ofFn fun _ : Fin N => Value.slice none 0 0) 33)) := Ext.alc (Ext.refl _) _
  have z1 : (W1.alloc (.cells (Array.ofFn fun _ : Fin N => Value.slice none 0 0) 33)).heap.size = b + 1 := by rw [hb]; simp
  generalize W1.alloc (.cells (Array.ofFn fun _ : Fin N => Value.slice none 0 0) 33) = W2 at *
  rw [← hb]
  have HY := Lib.hid (And.intro y1 (And.intro z1 e1))
  have HBB := Lib.hid hb
  have hbW : W.heap.size < b := by omega
  clear y1 e1 z1 m0 m1 hb
  go_loopw [12] (fun i wr => ∃ k : Nat, i = .int .i64 k ∧ k ≤ N ∧ Hid (Bk wr b 33 N (fun v => if v < k then .slice (some ⟨b + 1 + v, 0, none⟩) N N else .slice none 0 0) ∧ wr.heap.size = b + 1 + k ∧ (∀ v, v < k → BI wr (b + 1 + v) N (fun _ => 0)) ∧ Ext W1 wr)) (fun i _ => N - (intOf i).toNat)
  case atStart => exact ⟨0, rfl, Nat.zero_le _, Lib.hid ⟨Bk.congr HY.out.1 (fun j _ => by simp), HY.out.2.1, fun v hv => by omega, HY.out.2.2⟩⟩
  case round =>
    obtain ⟨k, rfl, hk, hin⟩ := hrel
    have m0 := keepAt hin.out.2.2.2 zz HM.out.1
    have m1 := keepAt hin.out.2.2.2 zz HM.out.2
    by_cases hlt : k < N
    · have zs := hin.out.2.1
      have c6 := Bk.cell (Bk.alloc hin.out.1 (.cells (Array.ofFn fun _ : Fin N => Value.int .i64 0) 3)) hlt
      have f6 := Bk.free (Bk.alloc hin.out.1 (.cells (Array.ofFn fun _ : Fin N => Value.int .i64 0) 3)) k
      have y2 := Bk.set_ (Bk.alloc hin.out.1 (.cells (Array.ofFn fun _ : Fin N => Value.int .i64 0) 3)) k (.slice (some ⟨b + 1 + k, 0, none⟩) N N)
      have y3 : BI (wr.alloc (.cells (Array.ofFn fun _ : Fin N => Value.int .i64 0) 3)) (b + 1 + k) N (fun _ => 0) := by rw [← zs]; exact heap_alloc_new wr _
      have Y2 := Lib.hid y2; have Y3 := Lib.hid y3; have ZS := Lib.hid zs
      clear y2 y3
      go_wp2_with fail
      go_roundw
      case rel =>
        have zs := ZS.out
        refine ⟨k + 1, by go_num, by omega, Lib.hid ⟨?_, by simp [World.setCell]; omega, fun v hv => ?_, (hin.out.2.2.2.alc _).sc (by have := HBB.out; omega)⟩⟩
        · refine Bk.congr Y2.out fun j hj => ?_
          by_cases e : j = k
          · subst e; rw [up_self, if_pos (by omega)]
          · rw [up_ne _ _ e]
            by_cases e2 : j < k
            · rw [if_pos e2, if_pos (by omega)]
            · rw [if_neg e2, if_neg (by omega)]
        · by_cases e : v = k
          · subst e; exact Bk.far Y3.out (by show b + 1 + v ≠ b; omega) _
          · exact Bk.far (Bk.alloc (hin.out.2.2.1 v (by omega)) _) (by show b + 1 + v ≠ b; omega) _
      case measure => simp [intOf]; omega
    · obtain rfl : k = N := by omega
      have hgd : Gd wr b k (a.mxk 0) := ⟨Bk.congr hin.out.1 (fun j hj => by rw [if_pos hj]), fun i hi => hin.out.2.2.1 i hi⟩
      have HG0 := Lib.hid (And.intro hgd hin.out.2.2.2)
      clear hgd hin HY
      go_wp2_with fail
      clear m0 m1
      go_loopw [25] (fun i wr => ∃ q : Nat, i = .int .i64 q ∧ q ≤ a.n ∧ Hid (Gd wr b k (a.mxk q) ∧ Ext W1 wr)) (fun i _ => a.n - (intOf i).toNat)
      case atStart => exact ⟨0, rfl, Nat.zero_le _, HG0⟩
      case round =>
        clear HG0
        obtain ⟨q, rfl, hq, hin⟩ := hrel
        by_cases hlt2 : q < a.n
        · obtain ⟨b2, off, rfl, d1, d2, d3⟩ := HA.out.arc (HX.out.trans hin.out.2) hlt2
          obtain ⟨fk, hfk, hfN⟩ : ∃ x : Nat, a.f q = (x : Int) ∧ x < k := ⟨(a.f q).toNat, by have := HO.out.f0 q hlt2; omega, by have := HO.out.f0 q hlt2; have := HO.out.fN q hlt2; omega⟩
          obtain ⟨tk, htk, htN⟩ : ∃ x : Nat, a.t q = (x : Int) ∧ x < k := ⟨(a.t q).toNat, by have := HO.out.t0 q hlt2; omega, by have := HO.out.t0 q hlt2; have := HO.out.tN q hlt2; omega⟩
          obtain ⟨ck, hck⟩ : ∃ x, x = a.c q := ⟨_, rfl⟩
          have hc0 := HO.out.c0 q hlt2
          have hcM := HO.out.cM q hlt2
          rw [hfk] at d1; rw [htk] at d2; rw [← hck] at d3 hc0 hcM
          have c3 := Gd.cellT hin.out.1 hfN
          have c4 := Gd.cell hin.out.1 hfN htN
          obtain ⟨z, hz⟩ : ∃ z, z = a.mxk q fk tk := ⟨_, rfl⟩
          have hzb := Ar.mxk_bd HO.out (by omega) hq fk tk
          rw [← hz] at c4 hzb
          have hz2 : 0 ≤ z ∧ z ≤ 2000000000 := by omega
          have HF := Lib.hid (And.intro hfk (And.intro htk (And.intro hck hz)))
          clear hfk htk hck hz hzb
          go_upto_region 10 with fail
          have gl := hin.out.1.lt hfN
          have e4 : Ext wr (wr.alloc (.cells #[.int .i64 fk, .int .i64 tk, .int .i64 ck] 64)) := Ext.alc (Ext.refl _) _
          have G4 := Lib.hid (hin.out.1.ext e4)
          have X4 := Lib.hid (hin.out.2.trans e4)
          have hh := heap_alloc_new wr (.cells #[.int .i64 fk, .int .i64 tk, .int .i64 ck] 64)
          clear c3 c4 d1 d2 d3
          have k0 : (wr.alloc (.cells #[.int .i64 fk, .int .i64 tk, .int .i64 ck] 64)).drew.cell? ⟨wr.heap.size, 0, none⟩ = some (.int .i64 fk) := cell_of_row _ _ 0 _ 64 (0, 0) hh
          have k1 : (wr.alloc (.cells #[.int .i64 fk, .int .i64 tk, .int .i64 ck] 64)).drew.cell? ⟨wr.heap.size, 1, none⟩ = some (.int .i64 tk) := cell_of_row _ _ 1 _ 64 (0, 0) hh
          have k2 : (wr.alloc (.cells #[.int .i64 fk, .int .i64 tk, .int .i64 ck] 64)).drew.cell? ⟨wr.heap.size, 2, none⟩ = some (.int .i64 ck) := cell_of_row _ _ 2 _ 64 (0, 0) hh
          have k3 : (wr.alloc (.cells #[.int .i64 fk, .int .i64 tk, .int .i64 ck] 64)).drew.cell? ⟨b, fk, none⟩ = some (.slice (some ⟨b + 1 + fk, 0, none⟩) k k) := Gd.cellT G4.out hfN
          have k4 : (wr.alloc (.cells #[.int .i64 fk, .int .i64 tk, .int .i64 ck] 64)).drew.cell? ⟨b + 1 + fk, tk, none⟩ = some (.int .i64 z) := by rw [HF.out.2.2.2]; exact Gd.cell G4.out hfN htN
          have g4 : (wr.alloc (.cells #[.int .i64 fk, .int .i64 tk, .int .i64 ck] 64)).drew.frozen? ⟨b + 1 + fk, tk, none⟩ = false := Bk.free (G4.out.row fk hfN) tk
          clear hh
          generalize wr.alloc (.cells #[.int .i64 fk, .int .i64 tk, .int .i64 ck] 64) = w3 at *
          have hwr : IntKind.i64.wrap (z + ck) = z + ck := IntWalk.i64_in _ (by omega)
          go_region
          clear k0 k1 k2 k3 k4 g4
          go_wp2
          go_roundw
          case rel =>
            refine ⟨q + 1, by go_num, by omega, Lib.hid ⟨?_, Ext.drw (X4.out.sc (by have := HBB.out; omega))⟩⟩
            refine Gd.congr ((Gd.set_ G4.out fk tk (z + ck)).ext (Ext.drw (Ext.refl _))) fun i j hi hj => ?_
            obtain ⟨h1, h2, h3, h4⟩ := HF.out
            rw [Ar.mxk_succ, h1, h2, Int.toNat_natCast, Int.toNat_natCast]
            by_cases e : i = fk ∧ j = tk
            · obtain ⟨rfl, rfl⟩ := e
              simp only [and_self, if_true, h3, h4]
            · rw [if_neg e, if_neg (fun h => e ⟨h.1.symm, h.2.symm⟩), Int.add_zero]
          case measure => simp [intOf]; omega
        · obtain rfl : q = a.n := by omega
          go_wp2
          go_ret
          exact ⟨b, rfl, by omega, hin.out.1, HX.out.trans hin.out.2⟩
end Go.Proofs.Ytilcbbdmenknfaa
namespace Go.Proofs.Ytilcbbdmenknfaa

/-- S is a minimum side -/
structure Ms (G : Nw) (s t : Nat) (S : Nat → Bool) : Prop where
  sd : Nw.Sd s t S
  le : ∀ T, Nw.Sd s t T → G.ct S ≤ G.ct T
/-- .. the least one, on the nodes below N -/
def Lst (G : Nw) (N s t : Nat) (L : Nat → Bool) : Prop := Ms G s t L ∧ ∀ S, Ms G s t S → ∀ v, v < N → L v = true → S v = true
/-- .. the greatest one -/
def Gst (G : Nw) (N s t : Nat) (L : Nat → Bool) : Prop := Ms G s t L ∧ ∀ S, Ms G s t S → ∀ v, v < N → S v = true → L v = true

theorem Ms.mc {G : Nw} {s t : Nat} {S : Nat → Bool} (h : Ms G s t S) : Mc G s t (G.ct S) := ⟨⟨S, h.sd, rfl⟩, h.le⟩
theorem Mc.ms {G : Nw} {s t : Nat} {v : Int} (h : Mc G s t v) {S : Nat → Bool} (hS : Nw.Sd s t S) (hv : G.ct S = v) : Ms G s t S := ⟨hS, fun T hT => by rw [hv]; exact h.le T hT⟩
theorem Full.ms {G : Nw} {N s t : Nat} {x : Nat → Int} (hN : G.In N) (hs : s < N) (ht : t < N) (h : Full G N s t x) {S : Nat → Bool} : Ms G s t S ↔ Nw.Sd s t S ∧ G.Clo x S := by
  have hm := h.mc hN hs ht
  constructor
  · intro k
    exact ⟨k.sd, (G.tight hN hs h.fp.rs h.fp.cons k.sd).1 (k.mc.one hm)⟩
  · rintro ⟨k1, k2⟩
    exact hm.ms k1 ((G.tight hN hs h.fp.rs h.fp.cons k1).2 k2)
theorem Full.lst {G : Nw} {N s t : Nat} {x : Nat → Int} (hN : G.In N) (hs : s < N) (ht : t < N) (h : Full G N s t x) {R : Nat → Bool} {la rk : Nat → Nat} (hw : G.Wk N s (fun j => decide (0 < x j)) R la rk) : Lst G N s t R := by
  have hcl : G.Clo x R := fun j hj hx hS => hw.closed j hj (by simpa using hx) hS
  obtain ⟨R', la', rk', hw', hR'⟩ := h.no
  have hRt : R t = false := by
    cases e : R t
    · rfl
    · have := hw.least G (S := R') hw'.root (fun j hj ho hS => hw'.closed j hj ho hS) t ht e
      rw [hR'] at this; cases this
  refine ⟨(h.ms hN hs ht).2 ⟨⟨hw.root, hRt⟩, hcl⟩, fun S hS v hv hR => ?_⟩
  obtain ⟨k1, k2⟩ := (h.ms hN hs ht).1 hS
  exact hw.least G (S := S) k1.1 (fun j hj ho hS => k2 j hj (by simpa using ho) hS) v hv hR
theorem Full.gst {G : Nw} {N s t : Nat} {x : Nat → Int} (hN : G.In N) (hs : s < N) (ht : t < N) (h : Full G N s t x) {Q : Nat → Bool} {la rk : Nat → Nat} (hw : G.Wk N t (fun j => decide (0 < x (rev j))) Q la rk) : Gst G N s t (fun v => !Q v) := by
  have key : ∀ S, Nw.Sd s t S → G.Clo x S → ∀ v, v < N → Q v = true → S v = false := by
    intro S hS hC v hv hQ
    have := hw.least G (S := fun v => !S v) (by simp [hS.2]) (fun j hj ho hj2 => by
      simp at hj2 ⊢
      cases e : S (G.hd j)
      · rfl
      · have h1 := hC (rev j) (rev_lt hj) (by simpa using ho) (by rw [G.tl_rev]; exact e)
        rw [G.hd_rev, hj2] at h1; cases h1) v hv hQ
    simpa using this
  obtain ⟨R, la', rk', hw', hR⟩ := h.no
  have hRc : G.Clo x R := fun j hj hx hS => hw'.closed j hj (by simpa using hx) hS
  have hQs : Q s = false := by
    cases e : Q s
    · rfl
    · have := key R ⟨hw'.root, hR⟩ hRc s hs e
      rw [hw'.root] at this; cases this
  have hcl : G.Clo x (fun v => !Q v) := fun j hj hx hS => by
    simp at hS ⊢
    cases e : Q (G.hd j)
    · rfl
    · have h1 := hw.closed (rev j) (rev_lt hj) (by rw [rev_rev]; simpa using hx) (by rw [G.tl_rev]; exact e)
      rw [G.hd_rev, hS] at h1; cases h1
  refine ⟨(h.ms hN hs ht).2 ⟨⟨by simp [hQs], by simp [hw.root]⟩, hcl⟩, fun S hS v hv hSv => ?_⟩
  obtain ⟨k1, k2⟩ := (h.ms hN hs ht).1 hS
  cases e : Q v
  · simp [e]
  · have := key S k1 k2 v hv e
    rw [hSv] at this; cases this
end Go.Proofs.Ytilcbbdmenknfaa
namespace Go.Proofs.Ytilcbbdmenknfaa
open Go.RowKit

/-- the list of the first k numbers -/
def nl (k : Nat) (x : Nat → Int) : List Value := (List.range k).map fun j => Value.int .i64 (x j)
theorem nl_get {k j : Nat} (x : Nat → Int) (h : j < k) : (nl k x)[j]? = some (.int .i64 (x j)) := by unfold nl; rw [List.getElem?_map, List.getElem?_range h]; rfl
theorem nl_len (k : Nat) (x : Nat → Int) : (nl k x).length = k := by simp [nl]
theorem shape_own {w : World} {base : Nat} {e : TypeId} {size n : Nat} {v : Value} {xs : List Value} (h : w.ownsRow base e size v n xs) : ∃ A c, v = .slice A n c := by
  obtain ⟨-, ⟨rfl, rfl⟩ | ⟨g, cap, cur, rfl, -⟩⟩ := h
  · exact ⟨_, _, rfl⟩
  · exact ⟨_, _, rfl⟩
theorem own_mono {w : World} {base b' : Nat} {e : TypeId} {size n : Nat} {v : Value} {xs : List Value} (h : w.ownsRow base e size v n xs) (hb : b' ≤ base) : w.ownsRow b' e size v n xs :=
  ⟨h.1, h.2.imp id fun ⟨g, cap, cur, e, hg, rest⟩ => ⟨g, cap, cur, e, Nat.le_trans hb hg, rest⟩⟩
theorem ownsRow_il {w : World} {base n : Nat} {v : Value} {x : Nat → Int} (h : w.ownsRow base 3 1 v n (nl n x)) : Il w v n x := by
  obtain ⟨h1, ⟨rfl, h2⟩ | ⟨g, cap, cur, rfl, hb, hh, h5, h6, h7, h8⟩⟩ := h
  · subst h2
    exact ⟨none, 0, rfl, Nat.le_refl _, by omega, fun h => by omega⟩
  · refine ⟨_, cap, rfl, by omega, by simp only [maxLen] at *; omega, fun hp => ⟨g, 0, rfl, (Array.getElem?_eq_some_iff.1 hh).1, fun j hj => ?_⟩⟩
    rw [Nat.zero_add, cell_of_row w g j cur 3 (0, 0) hh]
    have h11 := nl_get x hj
    rw [← h8, List.getElem?_take, if_pos (by omega)] at h11
    simpa using h11

set_option maxHeartbeats 2000000 in
set_option maxRecDepth 100000 in
theorem clone_any (n : Nat) (x : Nat → Int) (V : Value) (W : World) (hV : Il W V n x) (hn : n ≤ 1000000) :
    Calls Try.prog 85 #[V] W fun e W' => ∃ U, e = .returned U ∧ W'.ownsRow W.heap.size 3 1 U n (nl n x) ∧ Ext W W' := by
  have HV := Lib.hid hV
  obtain ⟨A, c, rfl, hc, hd, hex⟩ := hV
  obtain ⟨i0, hi, hz0, hz1, hz2⟩ := info_parts info3
  have q33 : ∀ (w : World) (a : Option Addr) (n c n' c' : Nat), (binOp .eql 33 (.slice a n c) (.slice none n' c')).run Try.prog w = .ok (.bool a.isNone) w := fun w a n c n' c' => Lib.run_eql_slice_nil w _ _ a n c n' c' Try.underlying33
  cases A with
  | none =>
    obtain rfl : n = 0 := by
      rcases Nat.eq_zero_or_pos n with h | h
      · exact h
      · obtain ⟨b, o, e, -⟩ := hex h; cases e
    clear hex
    go_enter Try.func85, Try.ntmps85
    go_wp2
    go_ret
    exact ⟨_, rfl, World.ownsRow_nil _ _ _ _, Ext.refl _⟩
  | some ad =>
    have hcell : ∀ j u, (nl n x)[j]? = some u → W.cell? (ad.add j) = some u := by
      intro j u hu
      have hj : j < n := by have := (List.getElem?_eq_some_iff.1 hu).1; rw [nl_len] at this; exact this
      obtain ⟨b, o, e, -, hcs⟩ := hex (by omega)
      cases e
      rw [nl_get x hj] at hu
      cases hu
      rw [Addr.add_lit]
      exact hcs j hj
    have HC := Lib.hid hcell
    clear hex hcell
    go_enter Try.func85, Try.ntmps85
    go_wp2_with (at_builtin; refine wpList_append_own _ rfl _ _ 33 rfl W.heap.size 3 i0 (.int .i64 0) 1 8 Try.underlying33 hi hz0 hz1 hz2 rfl (by decide) _ 0 [] rfl (World.ownsRow_lit W #[] 0 (Nat.le_refl _) (Nat.zero_le _) rfl) ad n c (nl n x) rfl ?qc1 ?qc2 ?qc3 ?qc4 ?qc5 ?qc6 ?_)
    case qc1 => rw [nl_len]; omega
    case qc2 =>
      intro j u hj
      exact Lib.cell?_alloc_some _ (HC.out j u hj)
    case qc3 => intro u hu; unfold nl at hu; obtain ⟨y, _, rfl⟩ := List.mem_map.1 hu; rfl
    case qc4 => unfold maxLen; omega
    case qc5 => omega
    case qc6 => simp
    intro v' w1 hown hgrow hnil
    clear hnil
    have hI : w1.ownsRow W.heap.size 3 1 v' n (nl n x) := by simpa using hown
    have hE : Ext W w1 := ⟨hgrow.os, hgrow.tape, hgrow.output, by have h1 := hgrow.size; simp at h1; omega, fun k hk => (hgrow.block k (by simp; omega) (fun e => by simp [Value.ownBlock] at e; omega)).trans (Below.heap_alloc _ _ k hk)⟩
    have HR := Lib.hid (And.intro hI hE)
    clear hI hE hown hgrow
    go_wp2
    go_ret
    exact ⟨v', rfl, HR.out.1, HR.out.2⟩

set_option maxHeartbeats 2000000 in
set_option maxRecDepth 100000 in
theorem few_any (n : Nat) (x : Nat → Int) (V : Value) (W : World) (hV : Il W V n x) :
    Calls Try.prog 68 #[V] W fun e W' => ∃ U, e = .returned U ∧ W'.ownsRow W.heap.size 3 1 U (min n 50) (nl (min n 50) x) ∧ Ext W W' := by
  obtain ⟨A, c, rfl, hc, hd, hex⟩ := hV
  obtain ⟨m, hm⟩ : ∃ m, m = min n 50 := ⟨_, rfl⟩
  have hmi : min (n : Int) 50 = (m : Int) := by omega
  have hml : m ≤ n := by omega
  have hmc : m ≤ c := by omega
  have hm5 : m ≤ 50 := by omega
  have hcut : Il W (.slice A m c) m x := ⟨A, c, rfl, hmc, hd, fun hp => by
    obtain ⟨b, o, e, hb, hcs⟩ := hex (by omega)
    exact ⟨b, o, e, hb, fun j hj => hcs j (by omega)⟩⟩
  have HC := Lib.hid hcut; have HM := Lib.hid hm
  clear hex hcut hm
  go_enter Try.func68, Try.ntmps68
  go_wp2_with fail
  refine (clone_any m x _ _ HC.out (by omega)).mono ?_
  rintro e w1 ⟨U, rfl, hI, hx⟩
  have HR := Lib.hid (And.intro hI hx)
  clear hI hx
  go_wp2
  go_ret
  exact ⟨U, rfl, by rw [← HM.out]; exact HR.out.1, HR.out.2⟩

/-- n costs -/
def okL (n : Nat) (x : Nat → Int) (l : Int) : Bool := decide ((n : Int) = l) && (List.range n).all fun k => bw (x k) 0 1000
theorem okL_iff {n : Nat} {x : Nat → Int} {l : Int} : okL n x l = true ↔ (n : Int) = l ∧ ∀ k, k < n → 0 ≤ x k ∧ x k ≤ 1000 := by
  unfold okL
  rw [Bool.and_eq_true, decide_eq_true_iff, List.all_eq_true]
  exact and_congr_right fun _ => ⟨fun h k hk => bw_iff.1 (h k (List.mem_range.2 hk)), fun h k hk => bw_iff.2 (h k (List.mem_range.1 hk))⟩
theorem okL_no {n : Nat} {x : Nat → Int} {l : Int} (h : ¬ ((n : Int) = l ∧ ∀ k, k < n → 0 ≤ x k ∧ x k ≤ 1000)) : okL n x l = false := by
  cases hv : okL n x l
  · rfl
  · exact absurd (okL_iff.1 hv) h

set_option maxHeartbeats 4000000 in
set_option maxRecDepth 100000 in
theorem areCosts_any (n : Nat) (x : Nat → Int) (l : Int) (V : Value) (W : World) (hV : Il W V n x) :
    Calls Try.prog 84 #[V, .int .i64 l] W fun e W' => e = .returned (.bool (okL n x l)) ∧ Ext W W' := by
  obtain ⟨r, hr⟩ : ∃ r, r = okL n x l := ⟨_, rfl⟩
  rw [← hr]
  have HR := Lib.hid hr; clear hr
  have HV := Lib.hid hV
  obtain ⟨A, c, rfl, hc, hd, -⟩ := hV
  go_enter Try.func84, Try.ntmps84
  by_cases hnl : (n : Int) = l
  · subst hnl
    go_wp2_with fail
    go_loopw [13] (fun i wr => ∃ k : Nat, i = .int .i64 k ∧ k ≤ n ∧ Hid ((∀ j, j < k → 0 ≤ x j ∧ x j ≤ 1000) ∧ Ext W wr)) (fun i _ => n - (intOf i).toNat)
    case atStart => exact ⟨0, rfl, Nat.zero_le _, Lib.hid ⟨fun j hj => by omega, Ext.refl _⟩⟩
    case round =>
      obtain ⟨k, rfl, hk, hin⟩ := hrel
      by_cases hlt : k < n
      · obtain ⟨b1, o1, rfl, -, e1⟩ := Vl.at HV.out hin.out.2 hlt
        obtain ⟨p, hp⟩ : ∃ p, p = x k := ⟨_, rfl⟩
        rw [← hp] at e1
        have HP := Lib.hid hp
        clear hp
        go_wp2_with fail
        refine (isBetween_bw _ _ _ _).mono ?_
        rintro e w1 ⟨rfl, rfl⟩
        cases h1 : bw p 0 1000
        · have hr : r = false := by
            rw [HR.out]
            refine okL_no fun h => ?_
            have h2 := h.2 k hlt
            rw [← HP.out] at h2
            rw [bw_iff.2 h2] at h1
            cases h1
          have HR2 := Lib.hid hr; clear hr h1
          go_wp2
          go_ret
          exact ⟨by rw [HR2.out]; rfl, hin.out.2⟩
        · have h2 := bw_iff.1 h1
          rw [HP.out] at h2
          have H2 := Lib.hid h2
          clear h1 h2
          go_wp2
          go_roundw
          case rel =>
            refine ⟨k + 1, by go_num, by omega, Lib.hid ⟨fun j hj => ?_, hin.out.2⟩⟩
            by_cases e : j = k
            · subst e; exact H2.out
            · exact hin.out.1 j (by omega)
          case measure => simp [intOf]; omega
      · obtain rfl : k = n := by omega
        have hr : r = true := by rw [HR.out]; exact okL_iff.2 ⟨rfl, hin.out.1⟩
        have HR2 := Lib.hid hr; clear hr
        go_wp2
        go_ret
        exact ⟨by rw [HR2.out]; rfl, hin.out.2⟩
  · have hne : ((n : Int) != l) = true := by simp; omega
    have hr : r = false := by rw [HR.out]; exact okL_no fun h => hnl h.1
    have HR2 := Lib.hid hr; clear hr
    go_wp2
    go_ret
    exact ⟨by rw [HR2.out]; rfl, Ext.refl _⟩
end Go.Proofs.Ytilcbbdmenknfaa
