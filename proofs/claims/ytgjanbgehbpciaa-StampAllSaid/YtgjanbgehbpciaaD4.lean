/- Walks: Cells. -/
import Derived.Test.YtgjanbgehbpciaaD3
import Derived.Test.YtgjanbgehbpciaaV10w
import Derived.Lib.MinMax
namespace Go.Proofs.Ytgjanbgehbpciaa
open Go.RowKit

/-- the least cell to which moves take a cell -/
def mg (w h : Nat) (ms : List Mv) (i : Nat) : Int := ms.foldl (fun a m => min a (goalAt w h m i)) (i : Int)
theorem mg_snoc (w h : Nat) (ms : List Mv) (m : Mv) (i : Nat) : mg w h (ms ++ [m]) i = min (mg w h ms i) (goalAt w h m i) := by unfold mg; rw [List.foldl_append]; rfl
def mgs (w h : Nat) (ms : List Mv) : List Int := (List.range (w * h)).map (mg w h ms)
/-- the same, the first j cells with one move more -/
def mgx (w h : Nat) (ms : List Mv) (m : Mv) (j : Nat) : List Int := (List.range (w * h)).map (fun i => if i < j then min (mg w h ms i) (goalAt w h m i) else mg w h ms i)
section
variable {w h : Nat} {ms : List Mv} {m : Mv} {j : Nat}
theorem mgs_len : (mgs w h ms).length = w * h := by simp [mgs]
theorem mgx_len : (mgx w h ms m j).length = w * h := by simp [mgx]
theorem mgx_zero : mgx w h ms m 0 = mgs w h ms := by simp [mgx, mgs]
theorem mgx_end : mgx w h ms m (w * h) = mgs w h (ms ++ [m]) := by
  unfold mgx mgs
  refine List.map_congr_left fun i hi => ?_
  rw [List.mem_range] at hi
  rw [if_pos hi, mg_snoc]
theorem mgx_at (hj : j < w * h) : (mgx w h ms m j).getD j 0 = mg w h ms j := by
  rw [List.getD_eq_getElem?_getD, List.getElem?_eq_getElem (by rw [mgx_len]; exact hj)]
  simp [mgx]
theorem mgx_set (hj : j < w * h) : (mgx w h ms m j).set j (min (mg w h ms j) (goalAt w h m j)) = mgx w h ms m (j + 1) := by
  apply List.ext_getElem
  · rw [List.length_set, mgx_len, mgx_len]
  · intro i h1 h2
    rw [List.length_set, mgx_len] at h1
    rw [List.getElem_set]
    by_cases hij : j = i
    · subst hij; simp [mgx]
    · rw [if_neg hij]
      simp only [mgx, List.getElem_map, List.getElem_range]
      by_cases hlt : i < j
      · rw [if_pos hlt, if_pos (by omega)]
      · rw [if_neg hlt, if_neg (by omega)]
theorem goal_one (hw : 1 ≤ w) {i : Nat} (hi : i < w * h) : goalAt w h Mv.one i = (i : Int) := by
  have h1 : i / w < h := Nat.div_lt_of_lt_mul hi
  have h2 : i % w < w := Nat.mod_lt _ (by omega)
  unfold goalAt
  simp only [Mv.one, Int.toNat_zero, spin, rot, flp, Bool.false_eq_true, if_false, Int.add_zero]
  rw [Int.emod_eq_of_lt (Int.natCast_nonneg _) (Int.ofNat_lt.2 h1), Int.emod_eq_of_lt (Int.natCast_nonneg _) (Int.ofNat_lt.2 h2)]
  have := Nat.div_add_mod i w
  rw [Nat.mul_comm] at this
  have e : ((i / w : Nat) : Int) * (w : Int) = ((i / w * w : Nat) : Int) := by simp
  rw [e, ← Int.natCast_add, this]
theorem gl_one (hw : 1 ≤ w) : gl w h Mv.one (w * h) = mgs w h [] := by
  unfold gl mgs
  refine List.map_congr_left fun i hi => ?_
  rw [List.mem_range] at hi
  rw [goal_one hw hi]; rfl
theorem gl_at {k : Nat} (hj : j < k) : (gl w h m k).getD j 0 = goalAt w h m j := by
  rw [List.getD_eq_getElem?_getD, List.getElem?_eq_getElem (by rw [gl_len]; exact hj)]
  simp [gl]
end
theorem Aw.far {W : World} {g g' i : Nat} {v : Value} {l : List Int} (h : Aw W g l) (hne : g ≠ g') : Aw (W.setCell ⟨g', i, none⟩ v) g l := by
  obtain ⟨t, cur, h, h2⟩ := h
  have hne' : ¬ g' = g := fun e => hne e.symm
  exact ⟨t, cur, by simp [World.setCell, Array.getElem?_modify, h, hne'], h2⟩
theorem goals_m (w h : Nat) (m : Mv) (W : World) (hs : okSize w h = true) (hm : has w h m = true) :
    Calls Try.prog 70 #[.agg #[.int .i64 w, .int .i64 h], .agg #[.int .i64 m.dx, .int .i64 m.dy, .int .i64 m.t, .bool m.f]] W fun e W' =>
      ∃ g cap, e = .returned (.slice (some ⟨g, 0, none⟩) (w * h) cap) ∧ W.heap.size ≤ g ∧ w * h ≤ cap ∧ cap ≤ 9223372036854775807 ∧ Aw W' g (gl w h m (w * h)) ∧ Ext W W' := by
  have hs' := okSize_iff.1 hs
  have ha := area_in hs
  rw [has_iff] at hm
  obtain ⟨dx, dy, t, f⟩ := m
  simp only at hm
  obtain ⟨n, rfl⟩ : ∃ n : Nat, t = n := ⟨t.toNat, by omega⟩
  refine (goals_w w h dx dy n f W (by omega) (by omega) (by omega)).mono ?_
  rintro e W' ⟨r, rfl, ho, hx⟩
  have hl : (gl w h ⟨dx, dy, n, f⟩ (w * h)).length = w * h := gl_len _ _ _ _
  have hp : 0 < w * h := by have e : ((w * h : Nat) : Int) = (w : Int) * h := by simp
                            omega
  obtain ⟨g, cap, rfl, h1, h2, h3, h4⟩ := aw_own (l := gl w h ⟨dx, dy, n, f⟩ (w * h)) (by rw [hl]; exact ho) (by rw [hl]; exact hp)
  rw [hl] at h2
  exact ⟨g, cap, by rw [hl], h1, h2, h3, h4, hx⟩

set_option maxHeartbeats 4000000 in
set_option maxRecDepth 100000 in
theorem cellsS_c (w h : Nat) (A : Option Addr) (N c : Nat) (l : List Mv) (W : World) (hs : okSize w h = true) (hml : Ml W (.slice A N c) l) (hN : N ≤ 1000) (hg : grpB w h l = true) :
    Calls Try.prog 42 #[.int .i64 w, .int .i64 h, .slice A N c] W fun e W' => ∃ g cap, e = .returned (.tuple #[.slice (some ⟨g, 0, none⟩) (w * h) cap, .int .i64 0]) ∧ w * h ≤ cap ∧ cap ≤ 9223372036854775807 ∧ Aw W' g (mgs w h l) ∧ Ext W W' := by
  have hs' := okSize_iff.1 hs
  have hall := (grpB_iff.1 hg).has
  have hgm := fun m X hm => goals_m w h m X hs hm
  have hg1 := fun X => goals_m w h Mv.one X hs (one_has hs)
  have hw1 : 1 ≤ w := by omega
  rw [gl_one hw1] at hg1
  have hhg := fun X (hml : Ml X (.slice A N c) l) => hasGroup_c w h A N c l X hs hml hN
  rw [hg] at hhg
  obtain ⟨P, hP⟩ : ∃ P, P = w * h := ⟨_, rfl⟩
  have hP64 : P ≤ 64 := by rw [hP]; exact Nat.mul_le_mul (show w ≤ 8 by omega) (show h ≤ 8 by omega)
  simp only [← hP] at hgm hg1 ⊢
  have HGM := Lib.hid hgm; have HG1 := Lib.hid hg1; have HHG := Lib.hid hhg; have HML := Lib.hid hml; have HALL := Lib.hid hall; have HP := Lib.hid hP
  clear hgm hg1 hhg hml hall hs hs' hg hP hw1
  have hlen : N = l.length := HML.out.len
  have HLEN := Lib.hid hlen; clear hlen
  go_enter Try.func42, Try.ntmps42
  go_upto_region 2 with fail
  have q1 : C2 (W.alloc (.cells #[.int .i64 w, .int .i64 h] 84)) W.heap.size (.int .i64 w) (.int .i64 h) := by
    refine ⟨?_, ?_⟩ <;> (rw [World.cell?_alloc_new]; rfl)
  have bb := al1 W (.cells #[.int .i64 w, .int .i64 h] 84)
  have zz : (W.alloc (.cells #[.int .i64 w, .int .i64 h] 84)).heap.size = W.heap.size + 1 := by simp
  generalize (W.alloc (.cells #[.int .i64 w, .int .i64 h] 84)) = W1 at *
  have zle : W.heap.size < W1.heap.size := by omega
  have BB : Hid (Ext W W1) := Lib.hid bb; have H1 := Lib.hid q1
  clear bb zz
  obtain ⟨q0, q1'⟩ := q1
  go_wp2_with fail
  refine (HHG.out _ (HML.out.ext BB.out)).mono ?_
  rintro e V ⟨rfl, hx⟩
  have HV := Lib.hid hx; clear hx q0 q1'
  obtain ⟨z0, z1⟩ := H1.out.ext zle HV.out
  go_wp2_with fail
  refine (HG1.out _).mono ?_
  rintro e V1 ⟨g9, cap, rfl, hge, hcap, hcap2, haw, hx⟩
  have hex1 := HV.out.trans hx
  have hgw : W1.heap.size ≤ g9 := Nat.le_trans HV.out.size hge
  have HAW := Lib.hid haw; have HEX1 := Lib.hid hex1; clear haw hex1 hx hge z0 z1 HV HG1 HHG
  go_wp2_with fail
  go_loopw [26] (fun i wr => ∃ k : Nat, i = .int .i64 k ∧ k ≤ N ∧ Aw wr g9 (mgs w h (l.take k)) ∧ Ext W1 wr) (fun i _ => N - (intOf i).toNat)
  case atStart => exact ⟨0, rfl, by omega, HAW.out, HEX1.out⟩
  case round =>
    clear HAW HEX1
    obtain ⟨k, rfl, hk, haw, hex⟩ := hrel
    have HAW := Lib.hid haw; have HEX := Lib.hid hex; clear haw hex
    by_cases hlt : k < N
    · obtain ⟨m, hm⟩ : ∃ m, l[k]? = some m := ⟨l[k]'(by rw [← HLEN.out]; exact hlt), List.getElem?_eq_getElem _⟩
      obtain ⟨b, off, rfl, hb, hc⟩ := HML.out.cm (by omega)
      obtain ⟨d0, d1, d2, d3⟩ := (hc.ext hb (BB.out.trans HEX.out)) k m hm
      clear hc
      obtain ⟨z0, z1⟩ := H1.out.ext zle HEX.out
      have hszz : W.heap.size < wr.heap.size := Nat.lt_of_lt_of_le zle HEX.out.size
      have hmh : has w h m = true := HALL.out m (List.mem_of_getElem? hm)
      have HM := Lib.hid hm; have HMH := Lib.hid hmh; clear hm hmh
      go_wp2_with fail
      refine (HGM.out m _ HMH.out).mono ?_
      rintro e V2 ⟨g2, cap2, rfl, hge2, hcp2, hcp3, haw2, hx⟩
      have e1 : Ext wr V2 := nx ((Ext.refl wr).alc _) hx
      have hne : g9 ≠ g2 := by have := HAW.out.lt; simp at hge2; omega
      have haw9 := HAW.out.ext e1
      have hex9 := HEX.out.trans e1
      have hg2 : W1.heap.size ≤ g2 := by have := HEX.out.size; simp at hge2; omega
      have HA2 := Lib.hid haw2; have HAW9 := Lib.hid haw9; have HEX9 := Lib.hid hex9; clear haw2 haw9 hex9 hx e1 d0 d1 d2 d3 z0 z1 hge2
      have hlt2 := HA2.out.lt
      go_wp2_with fail
      obtain ⟨wo, rfl⟩ : ∃ wo : World, wo = wr := ⟨_, rfl⟩
      go_loopw [34] (fun i wr => ∃ j : Nat, i = .int .i64 j ∧ j ≤ P ∧ Aw wr g9 (mgx w h (l.take k) m j) ∧ Aw wr g2 (gl w h m P) ∧ Ext W1 wr) (fun i _ => P - (intOf i).toNat)
      case atStart => exact ⟨0, rfl, by omega, by rw [mgx_zero]; exact HAW9.out, HA2.out, HEX9.out⟩
      case round =>
        obtain ⟨j, rfl, hj, haw, ha2, hex⟩ := hrel
        clear HAW HAW9 HEX9 HA2 hlt2
        have HAW := Lib.hid haw; have HA2 := Lib.hid ha2; have HEX9 := Lib.hid hex; clear haw ha2 hex
        by_cases hjl : j < P
        · have hjw : j < w * h := by rw [← HP.out]; exact hjl
          have hcell := HAW.out.cell (j := j) (by rw [mgx_len]; exact hjw)
          rw [mgx_at hjw] at hcell
          have hc2 := HA2.out.cell (j := j) (by rw [gl_len]; exact hjl)
          rw [gl_at hjl] at hc2
          have fz := HAW.out.frozen
          have hset := mgx_set (ms := l.take k) (m := m) hjw
          obtain ⟨x, hx⟩ : ∃ x, x = mg w h (l.take k) j := ⟨_, rfl⟩
          obtain ⟨y, hy⟩ : ∃ y, y = goalAt w h m j := ⟨_, rfl⟩
          rw [← hx] at hcell hset
          rw [← hy] at hc2 hset
          have HSET := Lib.hid hset; clear hset hx hy
          go_wp2_with fail
          go_roundw
          case rel => exact ⟨j + 1, by go_num, by omega, by rw [← HSET.out]; exact HAW.out.set j _, HA2.out.far (fun e => hne e.symm), HEX9.out.sc hgw⟩
          case measure => simp [intOf]; omega
        · obtain rfl : j = P := by omega
          go_wp2_with fail
          go_roundw
          case rel =>
            refine ⟨k + 1, by go_num, by omega, ?_, HEX9.out⟩
            have e : l.take (k + 1) = l.take k ++ [m] := by rw [List.take_add_one, HM.out]; rfl
            rw [e, ← mgx_end, ← HP.out]; exact HAW.out
          case measure => simp [intOf]; omega
    · obtain rfl : k = N := by omega
      have hfin := HAW.out
      rw [HLEN.out, List.take_of_length_le (Nat.le_refl _)] at hfin
      have HFIN := Lib.hid hfin; clear hfin
      go_wp2
      go_ret2
      exact ⟨g9, cap, rfl, hcap, hcap2, HFIN.out, BB.out.trans HEX.out⟩

set_option maxRecDepth 100000 in
theorem cellsS_f (w h : Int) (v : Value) (W : World) (hhg : ∀ X, Ext W X → Calls Try.prog 65 #[.agg #[.int .i64 w, .int .i64 h], v] X fun e W' => e = .returned (.bool false) ∧ Ext X W') :
    Calls Try.prog 42 #[.int .i64 w, .int .i64 h, v] W fun e W' => e = .returned (.tuple #[.slice none 0 0, .int .i64 2]) ∧ Ext W W' := by
  have HHG := Lib.hid hhg; clear hhg
  go_enter Try.func42, Try.ntmps42
  go_wp2_with fail
  refine (HHG.out _ (al1 W _)).mono ?_
  rintro e V ⟨rfl, hx⟩
  have E : Hid (Ext W V) := Lib.hid (nx (al1 W _) hx); clear hx
  go_wp2
  go_ret2
  exact ⟨rfl, E.out⟩
end Go.Proofs.Ytgjanbgehbpciaa
