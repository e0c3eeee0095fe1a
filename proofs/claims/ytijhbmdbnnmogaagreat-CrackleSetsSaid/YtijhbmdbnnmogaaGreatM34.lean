/- The law CrackleSets, all inputs. -/
import Derived.Test.YtijhbmdbnnmogaaGreatM33
namespace Go.Proofs.YtijhbmdbnnmogaaGreat.G
open Go.RowKit

theorem sets_good {n : Nat} {f : Nat → Int} (hv : vMap n f = true) (h12 : n / 2 ≤ 12) {Q : (Nat → Nat) → Nat → Bool} {v : Value} {er : Int} {W' : World} (g : SetsOf n f Q v er W') :
    er = 0 ∧ ∃ (m : Nat → Nat) (x : Nat → Int), Nm n 1 (fun _ => tn f) m ∧ Il W' v (ek (Q m) (2 ^ (n / 2))) x ∧ Es (Q m) (2 ^ (n / 2)) x := by
  rcases g with ⟨g, -⟩ | ⟨-, g, -⟩ | ⟨-, -, g1, g2⟩
  · rw [hv] at g; cases g
  · omega
  · exact ⟨g1, g2⟩
set_option maxHeartbeats 4000000 in
set_option maxRecDepth 100000 in
theorem crackleSets_ok (n : Nat) (f : Nat → Int) (NV : Value) (W : World) (hN : Il W NV n f) (hv : vMap n f = true) (h12 : n / 2 ≤ 12) :
    Calls Tryz.prog 4 #[.agg #[NV]] W fun e W' => e = .returned (.bool true) ∧ Below W.heap.size W W' := by
  have HN := Lib.hid hN
  have hM := vMap_mp hv
  have hn80 : n ≤ 80 := hM.le
  have hof : ∀ X, Ext W X → Calls Tryz.prog 12 #[.agg #[NV]] X fun e W' => ∃ U, e = .returned (.agg #[U]) ∧ Il W' U n f ∧ Ext X W' := fun X hX => by
    have := of_any n f NV X (hN.ext hX)
    rw [Nat.min_eq_left (by omega)] at this
    exact this
  have hP2 : 2 ^ (n / 2) ≤ 4096 := Nat.le_trans (Nat.pow_le_pow_right (by omega) h12) (by decide)
  have HOF := Lib.hid hof
  have HH := Lib.hid (And.intro hv (And.intro hM h12))
  have HP := Lib.hid hP2
  have h24 : ¬ 24 < n := by have := hM.even; omega
  clear hof hv hM h12 hP2
  obtain ⟨A, c, rfl, hac, hcm, -⟩ := hN
  go_enter Tryz.func4, Tryz.ntmps4
  go_upto_region 1 with fail
  have bb := al1 W (.cells #[.slice A n c] 24)
  obtain ⟨m0, -, mz⟩ := uno (heap_alloc_new W (.cells #[.slice A n c] 24))
  generalize W.alloc (.cells #[.slice A n c] 24) = W1 at *
  have HX : Hid (Ext W W1) := Lib.hid bb
  have HM := Lib.hid m0
  clear bb
  go_wp2_with fail
  refine (HOF.out _ HX.out).mono ?_
  rintro e w2 ⟨U, rfl, hu, hx⟩
  have HU := Lib.hid hu
  replace HX := Lib.hid (HX.out.trans hx)
  have HX1 := Lib.hid hx
  clear hu hx m0
  go_wp2_with fail
  refine (cycles_any _ f _ _ HU.out).mono ?_
  rintro e w3 ⟨v1, er, rfl, hx, hs⟩
  obtain ⟨rfl, m, x, hm, hil, hes⟩ := sets_good HH.out.1 HH.out.2.2 hs
  have HA := Lib.hid (And.intro hm hes)
  have HIA := Lib.hid hil
  replace HX := Lib.hid (HX.out.trans hx)
  replace HX1 := Lib.hid (HX1.out.trans hx)
  have m0 := keepAt HX1.out mz HM.out
  clear hs hx hm hil hes
  go_wp2_with fail
  refine (HOF.out _ HX.out).mono ?_
  rintro e w4 ⟨U2, rfl, hu, hx⟩
  have HU2 := Lib.hid hu
  replace HIA := Lib.hid (HIA.out.ext hx)
  replace HX := Lib.hid (HX.out.trans hx)
  replace HX1 := Lib.hid (HX1.out.trans hx)
  clear hu hx m0
  go_wp2_with fail
  refine (bonds_any _ f _ _ HU2.out).mono ?_
  rintro e w5 ⟨v2, er2, rfl, hx, hs⟩
  obtain ⟨rfl, m', x', hm, hil, hes⟩ := sets_good HH.out.1 HH.out.2.2 hs
  have HB := Lib.hid (And.intro hm hes)
  have HIB := Lib.hid hil
  replace HIA := Lib.hid (HIA.out.ext hx)
  replace HX := Lib.hid (HX.out.trans hx)
  replace HX1 := Lib.hid (HX1.out.trans hx)
  have m0 := keepAt HX1.out mz HM.out
  clear hs hx hm hil hes
  go_wp2_with fail
  refine (validR_any n f _ _ (HN.out.ext HX.out)).mono ?_
  rintro e w6 ⟨rfl, hx⟩
  replace HIA := Lib.hid (HIA.out.ext hx)
  replace HIB := Lib.hid (HIB.out.ext hx)
  replace HX := Lib.hid (HX.out.trans hx)
  replace HX1 := Lib.hid (HX1.out.trans hx)
  clear m0
  have m0 := keepAt HX1.out mz HM.out
  clear hx
  rw [HH.out.1]
  go_wp2_with fail
  refine (cyclesR_any n f _ _ (HN.out.ext HX.out) HH.out.2.1 HH.out.2.2 m HA.out.1).mono ?_
  rintro e w7 ⟨v3, y, rfl, hx, hil, hes⟩
  replace HIA := Lib.hid (HIA.out.ext hx)
  replace HIB := Lib.hid (HIB.out.ext hx)
  replace HX := Lib.hid (HX.out.trans hx)
  replace HX1 := Lib.hid (HX1.out.trans hx)
  have HV := Lib.hid (hil.congr fun j hj => Es.same hes HA.out.2 hj)
  clear hx hil hes m0
  go_wp2_with fail
  refine (equalI_any _ x _ _ _ HIA.out HV.out (Nat.le_trans (ek_le _ _) (by have := HP.out; omega))).mono ?_
  rintro e w8 ⟨rfl, hx⟩
  replace HIB := Lib.hid (HIB.out.ext hx)
  replace HX := Lib.hid (HX.out.trans hx)
  replace HX1 := Lib.hid (HX1.out.trans hx)
  have m0 := keepAt HX1.out mz HM.out
  clear hx
  go_wp2_with fail
  refine (bondsR_fin n f _ _ (HN.out.ext HX.out) HH.out.2.1 HH.out.2.2 m' HB.out.1).mono ?_
  rintro e w9 ⟨v4, y', rfl, hx, hil, hes⟩
  replace HIB := Lib.hid (HIB.out.ext hx)
  replace HX := Lib.hid (HX.out.trans hx)
  have HV2 := Lib.hid (hil.congr fun j hj => Es.same hes HB.out.2 hj)
  clear hx hil hes m0
  go_wp2_with fail
  refine (equalI_any _ x' _ _ _ HIB.out HV2.out (Nat.le_trans (ek_le _ _) (by have := HP.out; omega))).mono ?_
  rintro e w10 ⟨rfl, hx⟩
  replace HX := Lib.hid (HX.out.trans hx)
  clear hx
  go_wp2_with fail
  refine (awake_any _).mono ?_
  rintro e w11 ⟨rfl, hx⟩
  have HF := Lib.hid (HX.out.trans hx)
  clear hx
  go_wp2
  go_ret
  exact ⟨rfl, HF.out⟩
theorem crackleSets_walk (n : Nat) (f : Nat → Int) (NV : Value) (W : World) (hN : Il W NV n f) :
    Calls Tryz.prog 4 #[.agg #[NV]] W fun e W' => e = .returned (.bool true) ∧ Below W.heap.size W W' := by
  cases hv : vMap n f
  · exact crackleSets_err n f NV W hN 2 (.inl ⟨hv, rfl⟩)
  · by_cases h : n / 2 ≤ 12
    · exact crackleSets_ok n f NV W hN hv h
    · exact crackleSets_err n f NV W hN 3 (.inr ⟨hv, by omega, rfl⟩)
end Go.Proofs.YtijhbmdbnnmogaaGreat.G
