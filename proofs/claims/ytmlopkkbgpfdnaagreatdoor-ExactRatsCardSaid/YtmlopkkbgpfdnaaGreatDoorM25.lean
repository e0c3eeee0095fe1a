/- Walks of the reference: RatPrint, RatFloor. · Walks: RatParse. -/
import Derived.Test.YtmlopkkbgpfdnaaGreatDoorM24
namespace Go.Proofs.YtmlopkkbgpfdnaaGreatDoor
open Go.RowKit

theorem put_two {W : World} {g h : Nat} (R1 : RB W g) (R2 : RB W h) (hne : h ≠ g) (b1 : Bool) (A1 : Option Addr) (n1 c1 : Nat) (b2 : Bool) (A2 : Option Addr) (n2 c2 : Nat) {z1 : Int}
    (h1 : ZV W (.agg #[.bool b1, .slice A1 n1 c1]) z1) {B : Nat} {w : World} (hb : Below B w W) (hg : B ≤ g) (hh : B ≤ h) :
    ∃ W', W' = (((W.setCell ⟨g, 0, none⟩ (.bool b1)).setCell ⟨g, 1, none⟩ (.slice A1 n1 c1)).setCell ⟨h, 0, none⟩ (.bool b2)).setCell ⟨h, 1, none⟩ (.slice A2 n2 c2) ∧
    HZ W' g z1 ∧ Below B w W' ∧ (∀ k, RB W k → k ≠ g → k ≠ h → RB W' k) := by
  have T := R2.far R1 hne (.bool b1) (.slice A1 n1 c1)
  exact ⟨_, rfl, (HZ.put R1 h1).far T (by omega) _ _, below_set2 (below_set2 hb hg _ _) hh _ _, fun k hk n1 n2 => (hk.far R1 n1 _ _).far T n2 _ _⟩
set_option maxHeartbeats 400000 in
set_option maxRecDepth 100000 in
theorem refRatPrint_no (p q : Bool) (A A' : Option Addr) (n c n' c' : Nat) (l l' : List Nat) (w : World) (hx : Wd w (.slice A n c) l) (hy : Wd w (.slice A' n' c') l') (hno : vldR p q l l' = false) : Calls Tryz.prog 12 #[.agg #[.bool p, .slice A n c, .bool q, .slice A' n' c']] w fun e w' => e = .returned (.tuple #[.string ⟨#[]⟩, .int .i64 2]) ∧ Below w.heap.size w w' := by
  obtain ⟨W0, hW0⟩ : ∃ W0, W0 = w.alloc (Obj.cells #[.bool p, .slice A n c, .bool q, .slice A' n' c'] 26) := ⟨_, rfl⟩
  have e0 : Ext w W0 := by rw [hW0]; exact (Ext.refl w).alc _
  have s0 : W0.heap.size = w.heap.size + 1 := by rw [hW0]; simp
  have h1 : RW W0 w.heap.size p q A n c A' n' c' l l' := by rw [hW0]; exact RW.new 26 hx hy
  have V1 := Lib.hid (validRatR_any p q A A' n c n' c' l l' W0 h1.w1 h1.w2)
  have H1 := Lib.hid h1; have E1 := Lib.hid e0; have HW0 := Lib.hid hW0
  have z1 : w.heap.size + 1 ≤ W0.heap.size := by omega
  rw [hno] at V1
  clear h1 e0 s0 hW0 hx hy
  go_enter Tryz.func12, Tryz.ntmps12
  go_upto_region 1 with fail
  rw [← HW0.out]
  clear HW0
  have k0 := H1.out.k0; have k1 := H1.out.k1; have k2 := H1.out.k2; have k3 := H1.out.k3
  go_wp2_with fail
  refine V1.out.mono ?_
  rintro e W2 ⟨rfl, x2⟩
  replace x2 : Ext W0 W2 := x2
  clear V1 k0 k1 k2 k3
  go_wp2
  go_ret2
  exact ⟨rfl, Ext.below (E1.out.trans x2)⟩
theorem one_text (y : Int) : ((⟨(txt y).toArray⟩ : ByteArray).toList == [49]) = decide (y = 1) := by
  rw [Lib.toList_data]
  show (txt y == [49]) = _
  by_cases h : y = 1
  · subst h
    have e : txt 1 = [49] := by
      unfold txt
      rw [if_neg (by decide), dec_small (by decide)]; rfl
    rw [e, decide_eq_true rfl]; rfl
  · rw [decide_eq_false h, Bool.eq_false_iff]
    intro e
    have e1 : txt y = [49] := eq_of_beq e
    have e2 := numT_txt y
    rw [e1] at e2
    have e3 : numT [49] = 1 := by
      have h1 : negT [49] = false := rfl
      have h2 : digT [49] = [49] := rfl
      unfold numT
      rw [h1, h2]; rfl
    exact h (e2.symm.trans e3)
set_option maxHeartbeats 400000 in
set_option maxRecDepth 100000 in
theorem refRatPrint_one (p q : Bool) (A A' : Option Addr) (n c n' c' : Nat) (l l' : List Nat) (w : World) (hx : Wd w (.slice A n c) l) (hy : Wd w (.slice A' n' c') l') (hp : vldR p q l l' = true) (h1' : numOf q l' = 1) (htab : Tab w) : Calls Tryz.prog 12 #[.agg #[.bool p, .slice A n c, .bool q, .slice A' n' c']] w fun e w' => e = .returned (.tuple #[.string ⟨(txt (numOf p l)).toArray⟩, .int .i64 0]) ∧ Below w.heap.size w w' := by
  obtain ⟨W0, hW0⟩ : ∃ W0, W0 = w.alloc (Obj.cells #[.bool p, .slice A n c, .bool q, .slice A' n' c'] 26) := ⟨_, rfl⟩
  have e0 : Ext w W0 := by rw [hW0]; exact (Ext.refl w).alc _
  have s0 : W0.heap.size = w.heap.size + 1 := by rw [hW0]; simp
  have h1 : RW W0 w.heap.size p q A n c A' n' c' l l' := by rw [hW0]; exact RW.new 26 hx hy
  have V1 := Lib.hid (validRatR_any p q A A' n c n' c' l l' W0 h1.w1 h1.w2)
  have H1 := Lib.hid h1; have E1 := Lib.hid e0; have HW0 := Lib.hid hW0
  have z1 : w.heap.size + 1 ≤ W0.heap.size := by omega
  obtain ⟨hv1, hv2, hv3, hv4⟩ := vldR_parts hp
  have hf := h1.hf hv1 hv2
  obtain ⟨vx, hvx⟩ : ∃ z, z = numOf p l := ⟨_, rfl⟩
  obtain ⟨vy, hvy⟩ : ∃ z, z = numOf q l' := ⟨_, rfl⟩
  have lx : (dig vx.natAbs).length ≤ 256 := by rw [hvx, vld_dig hx.ok hv1]; exact vld_len hv1
  have ly : (dig vy.natAbs).length ≤ 256 := by rw [hvy, vld_dig hy.ok hv2]; exact vld_len hv2
  rw [← hvx, ← hvy] at hf
  try rw [← hvx]
  try rw [← hvy]
  have LL := Lib.hid (And.intro lx ly)
  obtain ⟨S1, hS1⟩ : ∃ S : ByteArray, S = ⟨(txt vx).toArray⟩ := ⟨_, rfl⟩
  obtain ⟨S3, hS3⟩ : ∃ S : ByteArray, S = ⟨(txt vy).toArray⟩ := ⟨_, rfl⟩
  have l1 : S1.size ≤ 2600 := by rw [hS1]; exact txt_len vx lx
  have l3 : S3.size ≤ 2600 := by rw [hS3]; exact txt_len vy ly
  have hcat : S1 ++ ⟨#[47]⟩ ++ S3 = ⟨(txt vx ++ (47 :: txt vy)).toArray⟩ := by
    rw [hS1, hS3]
    rw [show (⟨#[47]⟩ : ByteArray) = ⟨[47].toArray⟩ from rfl, str_append, str_append, List.append_assoc]; rfl
  have HLS := Lib.hid (And.intro l1 l3)
  have HS1 := Lib.hid hS1; have HS3 := Lib.hid hS3; have HC := Lib.hid hcat
  have HT := Lib.hid htab
  have hone : (S3.toList == [49]) = decide (vy = 1) := by rw [hS3]; exact one_text vy
  rw [decide_eq_true (show vy = 1 by rw [hvy]; exact h1')] at hone
  have HO := Lib.hid hone
  clear h1' hone
  rw [hp] at V1
  have F1 := Lib.hid hf
  clear hv1 hv2 hv3 hv4 hvx hvy lx ly hS1 hS3 hcat htab hp hf l1 l3
  clear h1 e0 s0 hW0 hx hy
  go_enter Tryz.func12, Tryz.ntmps12
  go_upto_region 1 with fail
  rw [← HW0.out]
  clear HW0
  have k0 := H1.out.k0; have k1 := H1.out.k1; have k2 := H1.out.k2; have k3 := H1.out.k3
  go_wp2_with fail
  refine V1.out.mono ?_
  rintro e W2 ⟨rfl, x2⟩
  replace x2 : Ext W0 W2 := x2
  clear V1 k0 k1 k2 k3
  have F2 := Lib.hid (F1.out.ext x2); have E2 := Lib.hid (E1.out.trans x2)
  have z2 := x2.size
  have HT2 := Lib.hid (tab_below HT.out (Ext.below (E1.out.trans x2)))
  clear H1 F1 E1 x2
  obtain ⟨⟨b9, A9, n9, c9, j0, j1, jz⟩, ⟨b8, A8, n8, c8, i0, i1, iz⟩⟩ := F2.out
  have OF := Lib.hid (of_z jz)
  have HIZ := Lib.hid iz
  clear jz iz
  go_wp2_with fail
  refine OF.out.mono ?_
  rintro e W3 ⟨b, B, m, d, rfl, y1, x3⟩
  replace x3 : Ext W2 W3 := x3
  have D1 := Lib.hid (digits_s S1 HS1.out y1 LL.out.1 (tab_below HT2.out (Ext.below x3)))
  have z3 := x3.size
  have i0 := keepAt x3 (by omega) i0; have i1 := keepAt x3 (by omega) i1
  have HX3 := Lib.hid x3
  clear OF j0 j1 y1 x3
  go_wp2_with fail
  refine D1.out.mono ?_
  rintro e W4 ⟨rfl, x4⟩
  replace x4 : Ext W3 W4 := x4
  have i0 := keepAt x4 (by omega) i0; have i1 := keepAt x4 (by omega) i1
  have HX4 := Lib.hid (HX3.out.trans x4)
  have z4 := x4.size
  have OF := Lib.hid (of_z (HIZ.out.ext HX4.out))
  clear D1 x4 HX3
  go_wp2_with fail
  refine OF.out.mono ?_
  rintro e W5 ⟨b', B', m', d', rfl, y1, x5⟩
  replace x5 : Ext W4 W5 := x5
  have HX5 := Lib.hid (HX4.out.trans x5)
  have D3 := Lib.hid (digits_s S3 HS3.out y1 LL.out.2 (tab_below HT2.out (Ext.below HX5.out)))
  clear OF i0 i1 y1 x5 HX4
  go_wp2_with fail
  refine D3.out.mono ?_
  rintro e W6 ⟨rfl, x6⟩
  replace x6 : Ext W5 W6 := x6
  have E6 := Lib.hid ((E2.out.trans HX5.out).trans x6)
  clear D3 x6 HX5 E2 F2 HIZ HT2 HT
  have hone := HO.out
  go_wp2
  go_ret2
  exact ⟨by rw [HS1.out]; rfl, Ext.below E6.out⟩
set_option maxHeartbeats 400000 in
set_option maxRecDepth 100000 in
theorem refRatPrint_two (p q : Bool) (A A' : Option Addr) (n c n' c' : Nat) (l l' : List Nat) (w : World) (hx : Wd w (.slice A n c) l) (hy : Wd w (.slice A' n' c') l') (hp : vldR p q l l' = true) (h1' : numOf q l' ≠ 1) (htab : Tab w) : Calls Tryz.prog 12 #[.agg #[.bool p, .slice A n c, .bool q, .slice A' n' c']] w fun e w' => e = .returned (.tuple #[.string ⟨(txt (numOf p l) ++ (47 :: txt (numOf q l'))).toArray⟩, .int .i64 0]) ∧ Below w.heap.size w w' := by
  obtain ⟨W0, hW0⟩ : ∃ W0, W0 = w.alloc (Obj.cells #[.bool p, .slice A n c, .bool q, .slice A' n' c'] 26) := ⟨_, rfl⟩
  have e0 : Ext w W0 := by rw [hW0]; exact (Ext.refl w).alc _
  have s0 : W0.heap.size = w.heap.size + 1 := by rw [hW0]; simp
  have h1 : RW W0 w.heap.size p q A n c A' n' c' l l' := by rw [hW0]; exact RW.new 26 hx hy
  have V1 := Lib.hid (validRatR_any p q A A' n c n' c' l l' W0 h1.w1 h1.w2)
  have H1 := Lib.hid h1; have E1 := Lib.hid e0; have HW0 := Lib.hid hW0
  have z1 : w.heap.size + 1 ≤ W0.heap.size := by omega
  obtain ⟨hv1, hv2, hv3, hv4⟩ := vldR_parts hp
  have hf := h1.hf hv1 hv2
  obtain ⟨vx, hvx⟩ : ∃ z, z = numOf p l := ⟨_, rfl⟩
  obtain ⟨vy, hvy⟩ : ∃ z, z = numOf q l' := ⟨_, rfl⟩
  have lx : (dig vx.natAbs).length ≤ 256 := by rw [hvx, vld_dig hx.ok hv1]; exact vld_len hv1
  have ly : (dig vy.natAbs).length ≤ 256 := by rw [hvy, vld_dig hy.ok hv2]; exact vld_len hv2
  rw [← hvx, ← hvy] at hf
  try rw [← hvx]
  try rw [← hvy]
  have LL := Lib.hid (And.intro lx ly)
  obtain ⟨S1, hS1⟩ : ∃ S : ByteArray, S = ⟨(txt vx).toArray⟩ := ⟨_, rfl⟩
  obtain ⟨S3, hS3⟩ : ∃ S : ByteArray, S = ⟨(txt vy).toArray⟩ := ⟨_, rfl⟩
  have l1 : S1.size ≤ 2600 := by rw [hS1]; exact txt_len vx lx
  have l3 : S3.size ≤ 2600 := by rw [hS3]; exact txt_len vy ly
  have hcat : S1 ++ (⟨#[47]⟩ ++ S3) = ⟨(txt vx ++ (47 :: txt vy)).toArray⟩ := by
    rw [hS1, hS3]
    rw [show (⟨#[47]⟩ : ByteArray) = ⟨[47].toArray⟩ from rfl, str_append, str_append]; rfl
  have HLS := Lib.hid (And.intro l1 l3)
  have HS1 := Lib.hid hS1; have HS3 := Lib.hid hS3; have HC := Lib.hid hcat
  have HT := Lib.hid htab
  have hone : (S3.toList == [49]) = decide (vy = 1) := by rw [hS3]; exact one_text vy
  rw [decide_eq_false (show ¬ vy = 1 by rw [hvy]; exact h1')] at hone
  have HO := Lib.hid hone
  clear h1' hone
  rw [hp] at V1
  have F1 := Lib.hid hf
  clear hv1 hv2 hv3 hv4 hvx hvy lx ly hS1 hS3 hcat htab hp hf l1 l3
  clear h1 e0 s0 hW0 hx hy
  go_enter Tryz.func12, Tryz.ntmps12
  go_upto_region 1 with fail
  rw [← HW0.out]
  clear HW0
  have k0 := H1.out.k0; have k1 := H1.out.k1; have k2 := H1.out.k2; have k3 := H1.out.k3
  go_wp2_with fail
  refine V1.out.mono ?_
  rintro e W2 ⟨rfl, x2⟩
  replace x2 : Ext W0 W2 := x2
  clear V1 k0 k1 k2 k3
  have F2 := Lib.hid (F1.out.ext x2); have E2 := Lib.hid (E1.out.trans x2)
  have z2 := x2.size
  have HT2 := Lib.hid (tab_below HT.out (Ext.below (E1.out.trans x2)))
  clear H1 F1 E1 x2
  obtain ⟨⟨b9, A9, n9, c9, j0, j1, jz⟩, ⟨b8, A8, n8, c8, i0, i1, iz⟩⟩ := F2.out
  have OF := Lib.hid (of_z jz)
  have HIZ := Lib.hid iz
  clear jz iz
  go_wp2_with fail
  refine OF.out.mono ?_
  rintro e W3 ⟨b, B, m, d, rfl, y1, x3⟩
  replace x3 : Ext W2 W3 := x3
  have D1 := Lib.hid (digits_s S1 HS1.out y1 LL.out.1 (tab_below HT2.out (Ext.below x3)))
  have z3 := x3.size
  have i0 := keepAt x3 (by omega) i0; have i1 := keepAt x3 (by omega) i1
  have HX3 := Lib.hid x3
  clear OF j0 j1 y1 x3
  go_wp2_with fail
  refine D1.out.mono ?_
  rintro e W4 ⟨rfl, x4⟩
  replace x4 : Ext W3 W4 := x4
  have i0 := keepAt x4 (by omega) i0; have i1 := keepAt x4 (by omega) i1
  have HX4 := Lib.hid (HX3.out.trans x4)
  have z4 := x4.size
  have OF := Lib.hid (of_z (HIZ.out.ext HX4.out))
  clear D1 x4 HX3
  go_wp2_with fail
  refine OF.out.mono ?_
  rintro e W5 ⟨b', B', m', d', rfl, y1, x5⟩
  replace x5 : Ext W4 W5 := x5
  have HX5 := Lib.hid (HX4.out.trans x5)
  have D3 := Lib.hid (digits_s S3 HS3.out y1 LL.out.2 (tab_below HT2.out (Ext.below HX5.out)))
  clear OF i0 i1 y1 x5 HX4
  go_wp2_with fail
  refine D3.out.mono ?_
  rintro e W6 ⟨rfl, x6⟩
  replace x6 : Ext W5 W6 := x6
  have E6 := Lib.hid ((E2.out.trans HX5.out).trans x6)
  clear D3 x6 HX5 E2 F2 HIZ HT2 HT
  have hone := HO.out
  have l1 : ¬ (9223372036854775807 < 1 + S3.size) := by have := HLS.out; omega
  have l2 : ¬ (9223372036854775807 < S1.size + (1 + S3.size)) := by have := HLS.out; omega
  go_wp2
  go_ret2
  exact ⟨by rw [HC.out]; rfl, Ext.below E6.out⟩
theorem refRatPrint_u (p q : Bool) (A A' : Option Addr) (n c n' c' : Nat) (l l' : List Nat) (w : World) (hx : Wd w (.slice A n c) l) (hy : Wd w (.slice A' n' c') l') (hp : vldR p q l l' = true) (htab : Tab w) : Calls Tryz.prog 12 #[.agg #[.bool p, .slice A n c, .bool q, .slice A' n' c']] w fun e w' => e = .returned (.tuple #[.string ⟨(pT (numOf p l) (numOf q l')).toArray⟩, .int .i64 0]) ∧ Below w.heap.size w w' := by
  unfold pT
  by_cases h : numOf q l' = 1
  · rw [if_pos h]; exact refRatPrint_one p q A A' n c n' c' l l' w hx hy hp h htab
  · rw [if_neg h]; exact refRatPrint_two p q A A' n c n' c' l l' w hx hy hp h htab
set_option maxHeartbeats 400000 in
set_option maxRecDepth 100000 in
theorem refRatFloor_no (p q : Bool) (A A' : Option Addr) (n c n' c' : Nat) (l l' : List Nat) (w : World) (hx : Wd w (.slice A n c) l) (hy : Wd w (.slice A' n' c') l') (hno : vldR p q l l' = false) : Calls Tryz.prog 14 #[.agg #[.bool p, .slice A n c, .bool q, .slice A' n' c']] w (RetI w 0 2) := by
  obtain ⟨W0, hW0⟩ : ∃ W0, W0 = (w.alloc (Obj.cells #[.bool p, .slice A n c, .bool q, .slice A' n' c'] 26)).alloc (Obj.cells #[.bool false, .slice none 0 0] 24) := ⟨_, rfl⟩
  have e0 : Ext w W0 := by rw [hW0]; exact ((Ext.refl w).alc _).alc _
  have h1 : RW W0 w.heap.size p q A n c A' n' c' l l' := by rw [hW0]; exact (RW.new 26 hx hy).ext ((Ext.refl _).alc _)
  have r2 : RB W0 (w.heap.size + 1) := by
    have := RB.c1 (w.alloc (Obj.cells #[.bool p, .slice A n c, .bool q, .slice A' n' c'] 26)) false none 0 0 24
    rw [World.size_alloc] at this
    rw [hW0]; exact this
  have s0 : W0.heap.size = w.heap.size + 1 + 1 := by rw [hW0]; simp
  have V1 := Lib.hid (validRatR_any p q A A' n c n' c' l l' W0 h1.w1 h1.w2)
  have H1 := Lib.hid h1; have R2 := Lib.hid r2; have E1 := Lib.hid e0; have HW0 := Lib.hid hW0
  have z1 : w.heap.size + 1 + 1 ≤ W0.heap.size := by omega
  rw [hno] at V1
  clear h1 r2 e0 s0 hW0 hx hy
  go_enter Tryz.func14, Tryz.ntmps14
  go_upto_region 1 with fail
  rw [← HW0.out]
  clear HW0
  have k0 := H1.out.k0; have k1 := H1.out.k1; have k2 := H1.out.k2; have k3 := H1.out.k3
  go_wp2_with fail
  refine V1.out.mono ?_
  rintro e W2 ⟨rfl, x2⟩
  replace x2 : Ext W0 W2 := x2
  clear V1 k0 k1 k2 k3
  have r2 := R2.out.ext x2
  obtain ⟨_, _, _, _, g30, g31, g32, g33⟩ := r2.facts
  have s0 := r2.set0 false (.slice none 0 0); have s1 := r2.set1 false (.slice none 0 0)
  have hz := (ZV.zero W2).rb r2 (.bool false) (.slice none 0 0)
  have hbf := below_set2 (Ext.below (E1.out.trans x2)) (i := 0) (j := 1) (show w.heap.size ≤ w.heap.size + 1 by omega) (.bool false) (.slice none 0 0)
  have F := Lib.hid (And.intro s0 (And.intro s1 (And.intro hz hbf)))
  clear s0 s1 hz hbf r2 x2 hno
  go_wp2
  obtain ⟨s0, s1, hz, hbf⟩ := F.out
  exact bodyPost_ret (v := .tuple #[.agg #[.bool false, .slice none 0 0], .int .i64 2]) (by simp [results, Tryz.results14, go_sem, s0, s1]) rfl ⟨_, _, _, _, rfl, hz, hbf⟩
set_option maxHeartbeats 400000 in
set_option maxRecDepth 100000 in
theorem refRatFloor_yes (p q : Bool) (A A' : Option Addr) (n c n' c' : Nat) (l l' : List Nat) (w : World) (hx : Wd w (.slice A n c) l) (hy : Wd w (.slice A' n' c') l') (hp : vldR p q l l' = true) : Calls Tryz.prog 14 #[.agg #[.bool p, .slice A n c, .bool q, .slice A' n' c']] w (RetI w (numOf p l / numOf q l') 0) := by
  obtain ⟨W0, hW0⟩ : ∃ W0, W0 = (w.alloc (Obj.cells #[.bool p, .slice A n c, .bool q, .slice A' n' c'] 26)).alloc (Obj.cells #[.bool false, .slice none 0 0] 24) := ⟨_, rfl⟩
  have e0 : Ext w W0 := by rw [hW0]; exact ((Ext.refl w).alc _).alc _
  have h1 : RW W0 w.heap.size p q A n c A' n' c' l l' := by rw [hW0]; exact (RW.new 26 hx hy).ext ((Ext.refl _).alc _)
  have r2 : RB W0 (w.heap.size + 1) := by
    have := RB.c1 (w.alloc (Obj.cells #[.bool p, .slice A n c, .bool q, .slice A' n' c'] 26)) false none 0 0 24
    rw [World.size_alloc] at this
    rw [hW0]; exact this
  have s0 : W0.heap.size = w.heap.size + 1 + 1 := by rw [hW0]; simp
  have V1 := Lib.hid (validRatR_any p q A A' n c n' c' l l' W0 h1.w1 h1.w2)
  have H1 := Lib.hid h1; have R2 := Lib.hid r2; have E1 := Lib.hid e0; have HW0 := Lib.hid hW0
  have z1 : w.heap.size + 1 + 1 ≤ W0.heap.size := by omega
  obtain ⟨hv1, hv2, hv3, hv4⟩ := vldR_parts hp
  have hf := h1.hf hv1 hv2
  obtain ⟨vx, hvx⟩ : ∃ z, z = numOf p l := ⟨_, rfl⟩
  obtain ⟨vy, hvy⟩ : ∃ z, z = numOf q l' := ⟨_, rfl⟩
  have lx : (dig vx.natAbs).length ≤ 999999 := by rw [hvx, vld_dig hx.ok hv1]; have := vld_len hv1; omega
  have ly : (dig vy.natAbs).length ≤ 999990 := by rw [hvy, vld_dig hy.ok hv2]; have := vld_len hv2; omega
  rw [← hvx, ← hvy] at hf ⊢
  have LX := Lib.hid (And.intro lx ly)
  have HY0 := Lib.hid (show vy ≠ 0 by rw [hvy]; omega)
  rw [hp] at V1
  have F1 := Lib.hid hf
  clear hv1 hv2 hv3 hv4 hvx hvy lx ly hp hf
  clear h1 r2 e0 s0 hW0 hx hy
  go_enter Tryz.func14, Tryz.ntmps14
  go_upto_region 1 with fail
  rw [← HW0.out]
  clear HW0
  have k0 := H1.out.k0; have k1 := H1.out.k1; have k2 := H1.out.k2; have k3 := H1.out.k3
  go_wp2_with fail
  refine V1.out.mono ?_
  rintro e W2 ⟨rfl, x2⟩
  replace x2 : Ext W0 W2 := x2
  clear V1 k0 k1 k2 k3
  have F2 := Lib.hid (F1.out.ext x2); have E2 := Lib.hid (E1.out.trans x2); have R2 := Lib.hid (R2.out.ext x2)
  have zz2 := x2.size
  have lr := R2.out.lt
  clear H1 F1 E1 x2
  go_upto_region 3 with fail
  refine wp_region_noPanic ?_
  refine wp_pool 12 [some 11, some 12, some 13, some 14, some 15, some 16, some 17, some 10, some 18, some 19, some 4, some 5] [(9, 7)] [10, 11] [(fun (v : Value) (_ : World) => v = .pointer (some ⟨w.heap.size, 0, none⟩)), (fun (v : Value) (X : World) => ∃ b A n c, v = .agg #[.bool b, .slice A n c] ∧ ZV X (.agg #[.bool b, .slice A n c]) (vx)), (fun (v : Value) (X : World) => ∃ b A n c, v = .agg #[.bool b, .slice A n c] ∧ ZV X (.agg #[.bool b, .slice A n c]) (vx)), (fun (v : Value) (_ : World) => v = .pointer (some ⟨w.heap.size, 2, none⟩)), (fun (v : Value) (X : World) => ∃ b A n c, v = .agg #[.bool b, .slice A n c] ∧ ZV X (.agg #[.bool b, .slice A n c]) (vy)), (fun (v : Value) (X : World) => ∃ b A n c, v = .agg #[.bool b, .slice A n c] ∧ ZV X (.agg #[.bool b, .slice A n c]) (vy)), (fun (v : Value) (X : World) => ∃ b A n c b' A' n' c', v = .tuple #[.agg #[.bool b, .slice A n c], .agg #[.bool b', .slice A' n' c']] ∧ ZV X (.agg #[.bool b, .slice A n c]) (vx / vy) ∧ ZV X (.agg #[.bool b', .slice A' n' c']) (vx % vy)), (fun (v : Value) (X : World) => ∃ b A n c b' A' n' c', v = .tuple #[.agg #[.bool b, .slice A n c], .agg #[.bool b', .slice A' n' c']] ∧ ZV X (.agg #[.bool b, .slice A n c]) (vx / vy) ∧ ZV X (.agg #[.bool b', .slice A' n' c']) (vx % vy)), (fun (v : Value) (X : World) => ∃ b A n c, v = .agg #[.bool b, .slice A n c] ∧ ZV X (.agg #[.bool b, .slice A n c]) (vx / vy)), (fun (v : Value) (X : World) => ∃ b A n c, v = .agg #[.bool b, .slice A n c] ∧ ZV X (.agg #[.bool b, .slice A n c]) (vx % vy)), (fun (v : Value) (X : World) => ∃ g, v = .pointer (some ⟨g, 0, none⟩) ∧ W2.heap.size ≤ g ∧ RB X g), (fun (v : Value) (X : World) => ∃ g, v = .pointer (some ⟨g, 0, none⟩) ∧ W2.heap.size ≤ g ∧ RB X g)] [noF, noF, noF, noF, noF, noF, noF, noF, noF, noF, ptrF, ptrF] (by kernel_rfl) (by kernel_rfl) (by kernel_rfl) (by kernel_rfl) (by kernel_rfl) (by kernel_rfl) (by kernel_rfl) (by kernel_rfl) (fun _ _ _ _ h => h) ⟨Stays.pure _, (fun _ _ _ e ⟨b, A, n, c, h1, h2⟩ => ⟨b, A, n, c, h1, h2.ext e⟩), (fun _ _ _ e ⟨b, A, n, c, h1, h2⟩ => ⟨b, A, n, c, h1, h2.ext e⟩), Stays.pure _, (fun _ _ _ e ⟨b, A, n, c, h1, h2⟩ => ⟨b, A, n, c, h1, h2.ext e⟩), (fun _ _ _ e ⟨b, A, n, c, h1, h2⟩ => ⟨b, A, n, c, h1, h2.ext e⟩), (fun _ _ _ e ⟨b, A, n, c, b', A', n', c', h1, h2, h3⟩ => ⟨b, A, n, c, b', A', n', c', h1, h2.ext e, h3.ext e⟩), (fun _ _ _ e ⟨b, A, n, c, b', A', n', c', h1, h2, h3⟩ => ⟨b, A, n, c, b', A', n', c', h1, h2.ext e, h3.ext e⟩), (fun _ _ _ e ⟨b, A, n, c, h1, h2⟩ => ⟨b, A, n, c, h1, h2.ext e⟩), (fun _ _ _ e ⟨b, A, n, c, h1, h2⟩ => ⟨b, A, n, c, h1, h2.ext e⟩), (fun _ _ _ e ⟨g, h1, h2, h3⟩ => ⟨g, h1, h2, h3.ext e⟩), (fun _ _ _ e ⟨g, h1, h2, h3⟩ => ⟨g, h1, h2, h3.ext e⟩), True.intro⟩ ?steps ?done
  case steps =>
    simp only [List.take_succ_cons, List.take_zero]
    refine Steps.cons (fun (v : Value) (_ : World) => v = .pointer (some ⟨w.heap.size, 0, none⟩)) [] rfl (by kernel_rfl) rfl (by kernel_rfl) (fun y X ex0 hf K hK => ?_) ?_
    · clear hf
      have ex := (Ext.drw (Ext.refl _)).trans ex0
      refine Box.mk ?_
      simp only [fill, Act.put, Nat.reduceAdd, List.setIfInBounds_toArray, List.set_cons_zero, List.set_cons_succ] at hK ⊢
      go_simp
      exact hK.out _ _ rfl (Ext.refl _) (fun b hb => by cases hb)
    refine Steps.cons (fun (v : Value) (X : World) => ∃ b A n c, v = .agg #[.bool b, .slice A n c] ∧ ZV X (.agg #[.bool b, .slice A n c]) (vx)) [0] rfl (by kernel_rfl) rfl (by kernel_rfl) (fun y X ex0 hf K hK => ?_) ?_
    · have h0 : ((fun (v : Value) (_ : World) => v = .pointer (some ⟨w.heap.size, 0, none⟩))) (y 0) X := hf.1
      clear hf
      have ex := (Ext.drw (Ext.refl _)).trans ex0
      refine Box.mk ?_
      simp only [fill, Act.put, Nat.reduceAdd, List.setIfInBounds_toArray, List.set_cons_zero, List.set_cons_succ, h0] at hK ⊢
      obtain ⟨bl, Al, nl, cl, k0, k1, kz⟩ := ((F2.out.ext ex).1)
      go_simp
      exact hK.out _ _ ⟨_, _, _, _, rfl, kz⟩ (Ext.refl _) (fun b hb => by cases hb)
    refine Steps.cons (fun (v : Value) (X : World) => ∃ b A n c, v = .agg #[.bool b, .slice A n c] ∧ ZV X (.agg #[.bool b, .slice A n c]) (vx)) [1] rfl (by kernel_rfl) rfl (by kernel_rfl) (fun y X ex0 hf K hK => ?_) ?_
    · obtain ⟨b1, A1, n1, c1, h1, z1⟩ : ((fun (v : Value) (X : World) => ∃ b A n c, v = .agg #[.bool b, .slice A n c] ∧ ZV X (.agg #[.bool b, .slice A n c]) (vx))) (y 1) X := hf.1
      clear hf
      have ex := (Ext.drw (Ext.refl _)).trans ex0
      refine Box.mk ?_
      simp only [fill, Act.put, Nat.reduceAdd, List.setIfInBounds_toArray, List.set_cons_zero, List.set_cons_succ, h1] at hK ⊢
      go_simp
      refine (of_z z1).mono ?_
      rintro e V ⟨b9, A9, n9, c9, rfl, hz, hb⟩
      try go_wp2_with fail
      exact hK.out _ _ ⟨_, _, _, _, rfl, hz⟩ hb (fun b hb => by cases hb)
    refine Steps.cons (fun (v : Value) (_ : World) => v = .pointer (some ⟨w.heap.size, 2, none⟩)) [] rfl (by kernel_rfl) rfl (by kernel_rfl) (fun y X ex0 hf K hK => ?_) ?_
    · clear hf
      have ex := (Ext.drw (Ext.refl _)).trans ex0
      refine Box.mk ?_
      simp only [fill, Act.put, Nat.reduceAdd, List.setIfInBounds_toArray, List.set_cons_zero, List.set_cons_succ] at hK ⊢
      go_simp
      exact hK.out _ _ rfl (Ext.refl _) (fun b hb => by cases hb)
    refine Steps.cons (fun (v : Value) (X : World) => ∃ b A n c, v = .agg #[.bool b, .slice A n c] ∧ ZV X (.agg #[.bool b, .slice A n c]) (vy)) [3] rfl (by kernel_rfl) rfl (by kernel_rfl) (fun y X ex0 hf K hK => ?_) ?_
    · have h3 : ((fun (v : Value) (_ : World) => v = .pointer (some ⟨w.heap.size, 2, none⟩))) (y 3) X := hf.1
      clear hf
      have ex := (Ext.drw (Ext.refl _)).trans ex0
      refine Box.mk ?_
      simp only [fill, Act.put, Nat.reduceAdd, List.setIfInBounds_toArray, List.set_cons_zero, List.set_cons_succ, h3] at hK ⊢
      obtain ⟨bl, Al, nl, cl, k0, k1, kz⟩ := ((F2.out.ext ex).2)
      go_simp
      exact hK.out _ _ ⟨_, _, _, _, rfl, kz⟩ (Ext.refl _) (fun b hb => by cases hb)
    refine Steps.cons (fun (v : Value) (X : World) => ∃ b A n c, v = .agg #[.bool b, .slice A n c] ∧ ZV X (.agg #[.bool b, .slice A n c]) (vy)) [4, 2] rfl (by kernel_rfl) rfl (by kernel_rfl) (fun y X ex0 hf K hK => ?_) ?_
    · obtain ⟨b4, A4, n4, c4, h4, z4⟩ : ((fun (v : Value) (X : World) => ∃ b A n c, v = .agg #[.bool b, .slice A n c] ∧ ZV X (.agg #[.bool b, .slice A n c]) (vy))) (y 4) X := hf.1
      obtain ⟨b2, A2, n2, c2, h2, z2⟩ : ((fun (v : Value) (X : World) => ∃ b A n c, v = .agg #[.bool b, .slice A n c] ∧ ZV X (.agg #[.bool b, .slice A n c]) (vx))) (y 2) X := hf.2.1
      clear hf
      have ex := (Ext.drw (Ext.refl _)).trans ex0
      refine Box.mk ?_
      simp only [fill, Act.put, Nat.reduceAdd, List.setIfInBounds_toArray, List.set_cons_zero, List.set_cons_succ, h4, h2] at hK ⊢
      go_simp
      refine (of_z z4).mono ?_
      rintro e V ⟨b9, A9, n9, c9, rfl, hz, hb⟩
      try go_wp2_with fail
      exact hK.out _ _ ⟨_, _, _, _, rfl, hz⟩ hb (fun b hb => by cases hb)
    refine Steps.cons (fun (v : Value) (X : World) => ∃ b A n c b' A' n' c', v = .tuple #[.agg #[.bool b, .slice A n c], .agg #[.bool b', .slice A' n' c']] ∧ ZV X (.agg #[.bool b, .slice A n c]) (vx / vy) ∧ ZV X (.agg #[.bool b', .slice A' n' c']) (vx % vy)) [2, 5] rfl (by kernel_rfl) rfl (by kernel_rfl) (fun y X ex0 hf K hK => ?_) ?_
    · obtain ⟨b2, A2, n2, c2, h2, z2⟩ : ((fun (v : Value) (X : World) => ∃ b A n c, v = .agg #[.bool b, .slice A n c] ∧ ZV X (.agg #[.bool b, .slice A n c]) (vx))) (y 2) X := hf.1
      obtain ⟨b5, A5, n5, c5, h5, z5⟩ : ((fun (v : Value) (X : World) => ∃ b A n c, v = .agg #[.bool b, .slice A n c] ∧ ZV X (.agg #[.bool b, .slice A n c]) (vy))) (y 5) X := hf.2.1
      clear hf
      have ex := (Ext.drw (Ext.refl _)).trans ex0
      refine Box.mk ?_
      simp only [fill, Act.put, Nat.reduceAdd, List.setIfInBounds_toArray, List.set_cons_zero, List.set_cons_succ, h2, h5] at hK ⊢
      go_simp
      refine (overR_any _ _ _ _ _ z2 z5 LX.out.1 LX.out.2 HY0.out).mono ?_
      rintro e V ⟨b9, A9, n9, c9, b8, A8, n8, c8, rfl, hz, hy, hb⟩
      try go_wp2_with fail
      exact hK.out _ _ ⟨_, _, _, _, _, _, _, _, rfl, hz, hy⟩ hb (fun b hb => by cases hb)
    refine Steps.cons (fun (v : Value) (X : World) => ∃ b A n c b' A' n' c', v = .tuple #[.agg #[.bool b, .slice A n c], .agg #[.bool b', .slice A' n' c']] ∧ ZV X (.agg #[.bool b, .slice A n c]) (vx / vy) ∧ ZV X (.agg #[.bool b', .slice A' n' c']) (vx % vy)) [6] rfl (by kernel_rfl) rfl (by kernel_rfl) (fun y X ex0 hf K hK => ?_) ?_
    · obtain ⟨b6, A6, n6, c6, bb6, AA6, nn6, cc6, h6, z6, y6⟩ : ((fun (v : Value) (X : World) => ∃ b A n c b' A' n' c', v = .tuple #[.agg #[.bool b, .slice A n c], .agg #[.bool b', .slice A' n' c']] ∧ ZV X (.agg #[.bool b, .slice A n c]) (vx / vy) ∧ ZV X (.agg #[.bool b', .slice A' n' c']) (vx % vy))) (y 6) X := hf.1
      clear hf
      have ex := (Ext.drw (Ext.refl _)).trans ex0
      refine Box.mk ?_
      simp only [fill, Act.put, Nat.reduceAdd, List.setIfInBounds_toArray, List.set_cons_zero, List.set_cons_succ, h6] at hK ⊢
      go_simp
      exact hK.out _ _ ⟨_, _, _, _, _, _, _, _, rfl, z6, y6⟩ (Ext.refl _) (fun b hb => by cases hb)
    refine Steps.cons (fun (v : Value) (X : World) => ∃ b A n c, v = .agg #[.bool b, .slice A n c] ∧ ZV X (.agg #[.bool b, .slice A n c]) (vx / vy)) [7] rfl (by kernel_rfl) rfl (by kernel_rfl) (fun y X ex0 hf K hK => ?_) ?_
    · obtain ⟨b7, A7, n7, c7, bb7, AA7, nn7, cc7, h7, z7, y7⟩ : ((fun (v : Value) (X : World) => ∃ b A n c b' A' n' c', v = .tuple #[.agg #[.bool b, .slice A n c], .agg #[.bool b', .slice A' n' c']] ∧ ZV X (.agg #[.bool b, .slice A n c]) (vx / vy) ∧ ZV X (.agg #[.bool b', .slice A' n' c']) (vx % vy))) (y 7) X := hf.1
      clear hf
      have ex := (Ext.drw (Ext.refl _)).trans ex0
      refine Box.mk ?_
      simp only [fill, Act.put, Nat.reduceAdd, List.setIfInBounds_toArray, List.set_cons_zero, List.set_cons_succ, h7] at hK ⊢
      go_simp
      exact hK.out _ _ ⟨_, _, _, _, rfl, z7⟩ (Ext.refl _) (fun b hb => by cases hb)
    refine Steps.flw (fun (v : Value) (X : World) => ∃ b A n c, v = .agg #[.bool b, .slice A n c] ∧ ZV X (.agg #[.bool b, .slice A n c]) (vx % vy)) [7] rfl (by kernel_rfl) (by kernel_rfl) (fun _ => rfl) (fun y X ex0 hf => ?_) ?_
    · obtain ⟨b7, A7, n7, c7, bb7, AA7, nn7, cc7, h7, z7, y7⟩ : ((fun (v : Value) (X : World) => ∃ b A n c b' A' n' c', v = .tuple #[.agg #[.bool b, .slice A n c], .agg #[.bool b', .slice A' n' c']] ∧ ZV X (.agg #[.bool b, .slice A n c]) (vx / vy) ∧ ZV X (.agg #[.bool b', .slice A' n' c']) (vx % vy))) (y 7) X := hf.1
      clear hf
      simp only [fill, Act.put, Nat.reduceAdd, List.setIfInBounds_toArray, List.set_cons_zero, List.set_cons_succ, h7]
      exact ⟨_, ⟨by rfl, fun w => by go_simp⟩, ⟨_, _, _, _, rfl, y7⟩⟩
    refine Steps.cons (fun (v : Value) (X : World) => ∃ g, v = .pointer (some ⟨g, 0, none⟩) ∧ W2.heap.size ≤ g ∧ RB X g) [] rfl (by kernel_rfl) rfl (by kernel_rfl) (fun y X ex0 hf K hK => ?_) ?_
    · clear hf
      have ex := (Ext.drw (Ext.refl _)).trans ex0
      refine Box.mk ?_
      simp only [fill, Act.put, Nat.reduceAdd, List.setIfInBounds_toArray, List.set_cons_zero, List.set_cons_succ] at hK ⊢
      go_simp
      exact hK.out _ _ ⟨X.heap.size, rfl, ex.size, RB.c1 X false none 0 0 55⟩ (Ext.alc (Ext.refl X) (.cells #[.bool false, .slice none 0 0] 55)) (New.ptr (Nat.le_refl _) (by simp))
    refine Steps.cons (fun (v : Value) (X : World) => ∃ g, v = .pointer (some ⟨g, 0, none⟩) ∧ W2.heap.size ≤ g ∧ RB X g) [] rfl (by kernel_rfl) rfl (by kernel_rfl) (fun y X ex0 hf K hK => ?_) ?_
    · clear hf
      have ex := (Ext.drw (Ext.refl _)).trans ex0
      refine Box.mk ?_
      simp only [fill, Act.put, Nat.reduceAdd, List.setIfInBounds_toArray, List.set_cons_zero, List.set_cons_succ] at hK ⊢
      go_simp
      exact hK.out _ _ ⟨X.heap.size, rfl, ex.size, RB.c1 X false none 0 0 55⟩ (Ext.alc (Ext.refl X) (.cells #[.bool false, .slice none 0 0] 55)) (New.ptr (Nat.le_refl _) (by simp))
    exact Steps.nil
  case done =>
    intro y X ex hf hlt hsep
    have h0 : ((fun (v : Value) (_ : World) => v = .pointer (some ⟨w.heap.size, 0, none⟩))) (y 0) X := hf.1
    obtain ⟨b1, A1, n1, c1, h1, z1⟩ : ((fun (v : Value) (X : World) => ∃ b A n c, v = .agg #[.bool b, .slice A n c] ∧ ZV X (.agg #[.bool b, .slice A n c]) (vx))) (y 1) X := hf.2.1
    obtain ⟨b2, A2, n2, c2, h2, z2⟩ : ((fun (v : Value) (X : World) => ∃ b A n c, v = .agg #[.bool b, .slice A n c] ∧ ZV X (.agg #[.bool b, .slice A n c]) (vx))) (y 2) X := hf.2.2.1
    have h3 : ((fun (v : Value) (_ : World) => v = .pointer (some ⟨w.heap.size, 2, none⟩))) (y 3) X := hf.2.2.2.1
    obtain ⟨b4, A4, n4, c4, h4, z4⟩ : ((fun (v : Value) (X : World) => ∃ b A n c, v = .agg #[.bool b, .slice A n c] ∧ ZV X (.agg #[.bool b, .slice A n c]) (vy))) (y 4) X := hf.2.2.2.2.1
    obtain ⟨b5, A5, n5, c5, h5, z5⟩ : ((fun (v : Value) (X : World) => ∃ b A n c, v = .agg #[.bool b, .slice A n c] ∧ ZV X (.agg #[.bool b, .slice A n c]) (vy))) (y 5) X := hf.2.2.2.2.2.1
    obtain ⟨b6, A6, n6, c6, bb6, AA6, nn6, cc6, h6, z6, y6⟩ : ((fun (v : Value) (X : World) => ∃ b A n c b' A' n' c', v = .tuple #[.agg #[.bool b, .slice A n c], .agg #[.bool b', .slice A' n' c']] ∧ ZV X (.agg #[.bool b, .slice A n c]) (vx / vy) ∧ ZV X (.agg #[.bool b', .slice A' n' c']) (vx % vy))) (y 6) X := hf.2.2.2.2.2.2.1
    obtain ⟨b7, A7, n7, c7, bb7, AA7, nn7, cc7, h7, z7, y7⟩ : ((fun (v : Value) (X : World) => ∃ b A n c b' A' n' c', v = .tuple #[.agg #[.bool b, .slice A n c], .agg #[.bool b', .slice A' n' c']] ∧ ZV X (.agg #[.bool b, .slice A n c]) (vx / vy) ∧ ZV X (.agg #[.bool b', .slice A' n' c']) (vx % vy))) (y 7) X := hf.2.2.2.2.2.2.2.1
    obtain ⟨b8, A8, n8, c8, h8, z8⟩ : ((fun (v : Value) (X : World) => ∃ b A n c, v = .agg #[.bool b, .slice A n c] ∧ ZV X (.agg #[.bool b, .slice A n c]) (vx / vy))) (y 8) X := hf.2.2.2.2.2.2.2.2.1
    obtain ⟨b9, A9, n9, c9, h9, z9⟩ : ((fun (v : Value) (X : World) => ∃ b A n c, v = .agg #[.bool b, .slice A n c] ∧ ZV X (.agg #[.bool b, .slice A n c]) (vx % vy))) (y 9) X := hf.2.2.2.2.2.2.2.2.2.1
    obtain ⟨g10, h10, z10, q10⟩ : ((fun (v : Value) (X : World) => ∃ g, v = .pointer (some ⟨g, 0, none⟩) ∧ W2.heap.size ≤ g ∧ RB X g)) (y 10) X := hf.2.2.2.2.2.2.2.2.2.2.1
    obtain ⟨g11, h11, z11, q11⟩ : ((fun (v : Value) (X : World) => ∃ g, v = .pointer (some ⟨g, 0, none⟩) ∧ W2.heap.size ≤ g ∧ RB X g)) (y 11) X := hf.2.2.2.2.2.2.2.2.2.2.2.1
    clear hf
    have n10_11 : g10 ≠ g11 := sep_ne (hsep 10 11 (by decide) (by decide) (by decide) (by decide)) h10 h11
    clear hsep hlt
    refine Box.mk ?_
    simp only [List.drop_succ_cons, List.drop_zero, fill, Act.put, Nat.reduceAdd, List.setIfInBounds_toArray, List.set_cons_zero, List.set_cons_succ, h0, h1, h2, h3, h4, h5, h6, h7, h8, h9, h10, h11]
    clear h0 h1 h2 h3 h4 h5 h6 h7 h8 h9 h10 h11
    obtain ⟨W', hW', m1, m5, m6⟩ := put_two q10 q11 (Ne.symm n10_11) b8 A8 n8 c8 b9 A9 n9 c9 z8 (Ext.below (E2.out.trans ex)) (by have := E2.out.size; omega) (by have := E2.out.size; omega)
    obtain ⟨_, _, _, _, g30, g31, g32, g33⟩ := q10.facts
    have T := q11.far q10 (Ne.symm n10_11) (.bool b8) (.slice A8 n8 c8)
    obtain ⟨_, _, _, _, g50, g51, g52, g53⟩ := T.facts
    have r9 := m6 _ (R2.out.ext ex) (by omega) (by omega)
    have HM := Lib.hid (And.intro m1 (And.intro r9 (show Ext w W' from m5)))
    have HW' := Lib.hid hW'
    clear hW' m1 m5 m6 r9 T ex z1 z2 z4 z5 z6 z7 z8 y6 y7 z9 q10 q11 n10_11
    go_wp2_with fail
    refine NoPanic.normal ?_
    go_upto_region 4 with fail
    rw [← HW'.out]
    clear g30 g31 g32 g33 g50 g51 g52 g53 HW'
    obtain ⟨b5, A5, n5, c5, k0, k1, kz⟩ := HM.out.1
    have IZ := Lib.hid (int_z kz)
    have l9 := HM.out.2.1.lt
    clear kz
    go_wp2_with fail
    refine IZ.out.mono ?_
    rintro e W8 ⟨b6, A6, n6, c6, rfl, y1, x8⟩
    replace x8 : Ext W' W8 := x8
    have r2 := HM.out.2.1.ext x8
    obtain ⟨_, _, _, _, g30, g31, g32, g33⟩ := r2.facts
    have s0 := r2.set0 b6 (.slice A6 n6 c6); have s1 := r2.set1 b6 (.slice A6 n6 c6)
    have hz := y1.rb r2 (.bool b6) (.slice A6 n6 c6)
    have hbf := below_set2 (Ext.below (HM.out.2.2.trans x8)) (i := 0) (j := 1) (show w.heap.size ≤ w.heap.size + 1 by omega) (.bool b6) (.slice A6 n6 c6)
    have F := Lib.hid (And.intro s0 (And.intro s1 (And.intro hz hbf)))
    clear s0 s1 hz hbf r2 x8 y1 k0 k1
    go_wp2
    obtain ⟨s0, s1, hz, hbf⟩ := F.out
    exact bodyPost_ret (v := .tuple #[.agg #[.bool b6, .slice A6 n6 c6], .int .i64 0]) (by simp [results, Tryz.results14, go_sem, s0, s1]) rfl ⟨_, _, _, _, rfl, hz, hbf⟩
end Go.Proofs.YtmlopkkbgpfdnaaGreatDoor
namespace Go.Proofs.YtmlopkkbgpfdnaaGreatDoor
open Go.RowKit

section
variable {W : World} {g : Nat}
theorem FB.sb0 (h : FB W g) (b : Bool) : FB (W.setCell ⟨g, 0, none⟩ (.bool b)) g := by
  obtain ⟨b1, A1, n1, c1, b2, A2, n2, c2, t, h⟩ := h
  exact ⟨b, A1, n1, c1, b2, A2, n2, c2, t, by simp [World.setCell, Array.getElem?_modify, h]⟩
theorem FB.ss1 (h : FB W g) (A : Option Addr) (n c : Nat) : FB (W.setCell ⟨g, 1, none⟩ (.slice A n c)) g := by
  obtain ⟨b1, A1, n1, c1, b2, A2, n2, c2, t, h⟩ := h
  exact ⟨b1, A, n, c, b2, A2, n2, c2, t, by simp [World.setCell, Array.getElem?_modify, h]⟩
theorem FB.sb2 (h : FB W g) (b : Bool) : FB (W.setCell ⟨g, 2, none⟩ (.bool b)) g := by
  obtain ⟨b1, A1, n1, c1, b2, A2, n2, c2, t, h⟩ := h
  exact ⟨b1, A1, n1, c1, b, A2, n2, c2, t, by simp [World.setCell, Array.getElem?_modify, h]⟩
theorem FB.ss3 (h : FB W g) (A : Option Addr) (n c : Nat) : FB (W.setCell ⟨g, 3, none⟩ (.slice A n c)) g := by
  obtain ⟨b1, A1, n1, c1, b2, A2, n2, c2, t, h⟩ := h
  exact ⟨b1, A1, n1, c1, b2, A, n, c, t, by simp [World.setCell, Array.getElem?_modify, h]⟩
theorem Wd.setF {v : Value} {l : List Nat} (h : Wd W v l) (hs : FB W g) (i : Nat) (u : Value) : Wd (W.setCell ⟨g, i, none⟩ u) v l := by
  obtain ⟨A, c, rfl, h1, h2, h3, h4⟩ := h
  refine ⟨A, c, rfl, h1, h2, h3, fun hp => ?_⟩
  obtain ⟨b, off, rfl, hb, hc⟩ := h4 hp
  refine ⟨b, off, rfl, by simpa [World.setCell] using hb, fun j hj => ?_⟩
  have hne : b ≠ g := by
    rintro rfl
    have h0 := hc j hj
    obtain ⟨b1, A1, n1, c1, b2, A2, n2, c2, t, hg⟩ := hs
    rw [cell_of_row W b (off + j) _ t (0, 0) hg] at h0
    match hk : off + j with
    | 0 => rw [hk] at h0; simp at h0
    | 1 => rw [hk] at h0; simp at h0
    | 2 => rw [hk] at h0; simp at h0
    | 3 => rw [hk] at h0; simp at h0
    | k + 4 => rw [hk] at h0; simp at h0
  exact (World.cell?_setCell_other _ _ _ _ (by intro e; injection e with e1; exact hne e1.symm)).trans (hc j hj)
theorem ZV.setF {v : Value} {z : Int} (h : ZV W v z) (hs : FB W g) (i : Nat) (u : Value) : ZV (W.setCell ⟨g, i, none⟩ u) v z := by
  obtain ⟨s, rfl, hs2⟩ := h
  exact ⟨s, rfl, hs2.setF hs i u⟩
end

/-- the denominator's cells are written -/
theorem put_hi {w W : World} {g : Nat} (h : FB W g) {b : Bool} {A : Option Addr} {n c : Nat} {z : Int} (hz : ZV W (.agg #[.bool b, .slice A n c]) z) {B : Nat} (hb : Below B w W) (hg : B ≤ g) :
    ∃ W', W' = (W.setCell ⟨g, 2, none⟩ (.bool b)).setCell ⟨g, 3, none⟩ (.slice A n c) ∧ FB W' g ∧ HZo W' g 2 3 z ∧ Below B w W' ∧ ∀ k, FB W k → k ≠ g → FB W' k := by
  obtain ⟨⟨a0, a1, a2, a3, f0, f1, f2, f3⟩, -⟩ := h.facts
  refine ⟨_, rfl, (h.sb2 b).ss3 A n c, ⟨b, A, n, c, ?_, ?_, (hz.setF h 2 _).setF (h.sb2 b) 3 _⟩, below_set2 hb hg _ _, fun k hk hne => hk.far hne⟩
  · rw [World.cell?_setCell_other _ _ _ _ (by simp)]; exact World.cell?_setCell_same _ _ _ f2
  · exact World.cell?_setCell_same _ _ _ ((World.cell?_setCell_other _ _ _ _ (by simp)).trans f3)
/-- the numerator's cells are written -/
theorem put_lo {w W : World} {g : Nat} (h : FB W g) {b : Bool} {A : Option Addr} {n c : Nat} {z y : Int} (hz : ZV W (.agg #[.bool b, .slice A n c]) z) (hy : HZo W g 2 3 y) {B : Nat} (hb : Below B w W) (hg : B ≤ g) :
    ∃ W', W' = (W.setCell ⟨g, 0, none⟩ (.bool b)).setCell ⟨g, 1, none⟩ (.slice A n c) ∧ FB W' g ∧ HF W' g z y ∧ Below B w W' ∧ ∀ k, FB W k → k ≠ g → FB W' k := by
  obtain ⟨⟨a0, a1, a2, a3, f0, f1, f2, f3⟩, -⟩ := h.facts
  obtain ⟨b2, A2, n2, c2, j0, j1, jz⟩ := hy
  refine ⟨_, rfl, (h.sb0 b).ss1 A n c, ⟨⟨b, A, n, c, ?_, ?_, (hz.setF h 0 _).setF (h.sb0 b) 1 _⟩, b2, A2, n2, c2, ?_, ?_, (jz.setF h 0 _).setF (h.sb0 b) 1 _⟩, below_set2 hb hg _ _, fun k hk hne => hk.far hne⟩
  · rw [World.cell?_setCell_other _ _ _ _ (by simp)]; exact World.cell?_setCell_same _ _ _ f0
  · exact World.cell?_setCell_same _ _ _ ((World.cell?_setCell_other _ _ _ _ (by simp)).trans f1)
  · rw [World.cell?_setCell_other _ _ _ _ (by simp), World.cell?_setCell_other _ _ _ _ (by simp)]; exact j0
  · rw [World.cell?_setCell_other _ _ _ _ (by simp), World.cell?_setCell_other _ _ _ _ (by simp)]; exact j1

/-- a fraction is written into the block of the answer -/
theorem put_ret {w X : World} {g : Nat} (h : FB X g) (hb : Below w.heap.size w X) (hg : w.heap.size ≤ g) (b : Bool) (A : Option Addr) (n c : Nat) (b' : Bool) (A' : Option Addr) (n' c' : Nat) {x y : Int} (z1 : ZV X (.agg #[.bool b, .slice A n c]) x) (z2 : ZV X (.agg #[.bool b', .slice A' n' c']) y) :
    ∃ W', W' = (((X.setCell ⟨g, 0, none⟩ (.bool b)).setCell ⟨g, 1, none⟩ (.slice A n c)).setCell ⟨g, 2, none⟩ (.bool b')).setCell ⟨g, 3, none⟩ (.slice A' n' c') ∧
      (W'.cell? ⟨g, 0, none⟩ = some (.bool b) ∧ W'.cell? ⟨g, 1, none⟩ = some (.slice A n c) ∧ W'.cell? ⟨g, 2, none⟩ = some (.bool b') ∧ W'.cell? ⟨g, 3, none⟩ = some (.slice A' n' c')) ∧
      ZV W' (.agg #[.bool b, .slice A n c]) x ∧ ZV W' (.agg #[.bool b', .slice A' n' c']) y ∧ Below w.heap.size w W' := by
  obtain ⟨f0, f1, f2, f3⟩ := put4_cells h (.bool b) (.slice A n c) (.bool b') (.slice A' n' c')
  exact ⟨put4 X g (.bool b) (.slice A n c) (.bool b') (.slice A' n' c'), rfl, ⟨f0, f1, f2, f3⟩, z1.put4 h _ _ _ _, z2.put4 h _ _ _ _, put4_below hb hg _ _ _ _⟩

/-- the text of a fraction -/
def denT (l : List UInt8) : Int := if divT l then numT (botT l) else 1
def okD (l : List UInt8) : Prop := divT l = true → okF (botT l) ∧ numT (botT l) ≠ 1
def RF (l : List UInt8) : Prop := okF (topT l) ∧ okD l ∧ 0 < denT l ∧ Int.gcd (numT (topT l)) (denT l) = 1
def PF (l : List UInt8) (w : World) (e : Ending) (w' : World) : Prop := (RF l ∧ RetR w (numT (topT l)) (denT l) 0 e w') ∨ (¬ RF l ∧ RetR w 0 0 6 e w')

theorem read_u (s : ByteArray) (l : List UInt8) (hl : s.data.toList = l) (w : World) : Calls Tryz.prog 45 #[.string s] w fun e w' => ∃ (b : Bool) (A : Option Addr) (n c : Nat) (ok : Bool) (z : Int), e = .returned (.tuple #[.agg #[.bool b, .slice A n c], .bool ok]) ∧ ZV w' (.agg #[.bool b, .slice A n c]) z ∧ Below w.heap.size w w' ∧ (ok = true → okF l ∧ z = numT l) ∧ (ok = false → ¬ okF l) := by
  subst hl
  by_cases h : okT s.data.toList
  · refine (read_yes s w h _ rfl).mono ?_
    rintro e w' ⟨b, A, n, c, rfl, hz, hb⟩
    refine ⟨b, A, n, c, _, _, rfl, hz, hb, fun hd => ⟨⟨h, of_decide_eq_true hd⟩, rfl⟩, fun hd hf => ?_⟩
    exact of_decide_eq_false hd hf.2
  · refine (read_no s w h).mono ?_
    rintro e w' ⟨rfl, hb⟩
    exact ⟨false, none, 0, 0, false, 0, rfl, ZV.zero w', hb, fun hd => (by cases hd), fun _ hf => h hf.1⟩

set_option maxHeartbeats 400000 in
set_option maxRecDepth 100000 in
theorem ratParse_any (s : ByteArray) (hsz : s.size ≤ 9223372036854775807) (w : World) : Calls Tryz.prog 15 #[.string s] w (PF s.data.toList w) := by
  obtain ⟨l, hl⟩ : ∃ l, l = s.data.toList := ⟨_, rfl⟩
  obtain ⟨a, ha⟩ : ∃ a : ByteArray, a.data.toList = topT s.data.toList := ⟨⟨(topT s.data.toList).toArray⟩, rfl⟩
  obtain ⟨b, hb⟩ : ∃ b : ByteArray, b.data.toList = botT s.data.toList := ⟨⟨(botT s.data.toList).toArray⟩, rfl⟩
  obtain ⟨f, hf⟩ : ∃ f, f = divT s.data.toList := ⟨_, rfl⟩
  have CT := Lib.hid (fun W => cut43 s a b f ha hb hf hsz W)
  rw [← hl] at ha hb hf ⊢
  have RA_ := Lib.hid (fun W => read_u a _ ha W)
  have RB_ := Lib.hid (fun W => read_u b _ hb W)
  have HF_ := Lib.hid hf
  clear ha hb hf hl hsz
  go_enter Tryz.func15, Tryz.ntmps15
  go_wp2_with fail
  have r0 := FB.new w false none 0 0 false none 0 0 26
  have e0 := below_alloc w (Obj.cells #[.bool false, .slice none 0 0, .bool false, .slice none 0 0] 26)
  obtain ⟨W0, hW0⟩ : ∃ W0, W0 = w.alloc (Obj.cells #[.bool false, .slice none 0 0, .bool false, .slice none 0 0] 26) := ⟨_, rfl⟩
  rw [← hW0] at r0 e0 ⊢
  have z0 : W0.heap.size = w.heap.size + 1 := by rw [hW0]; simp
  clear hW0
  refine (CT.out W0).mono ?_
  rintro e W1 ⟨rfl, x1⟩
  have R0 := Lib.hid (r0.ext x1)
  have E1 := Lib.hid (e0.trans (x1.mono e0.size))
  have z1 := x1.size
  clear r0 e0 x1 CT
  go_wp2_with fail
  refine (smallE_any 1 W1 (by decide) (by decide)).mono ?_
  rintro e W2 ⟨r, rfl, y1, x2⟩
  replace x2 : Ext W1 W2 := x2
  obtain ⟨A1, n1, c1, rfl, -, -, -⟩ := y1.open_
  obtain ⟨b1, hb1⟩ : ∃ b, b = decide ((1:Int) < 0) := ⟨_, rfl⟩
  rw [← hb1] at y1 ⊢
  clear hb1
  obtain ⟨W3, hW3⟩ : ∃ W3, W3 = W2.alloc (Obj.cells #[.bool false, .slice none 0 0, .bool b1, .slice A1 n1 c1] 49) := ⟨_, rfl⟩
  have r7 : FB W3 W2.heap.size := by rw [hW3]; exact FB.new W2 _ _ _ _ _ _ _ _ 49
  have hd : HZo W3 W2.heap.size 2 3 1 := by rw [hW3]; exact (HF.new W2 _ _ _ _ _ _ _ _ 49 (ZV.zero W2) y1).2
  have x3 : Ext W2 W3 := by rw [hW3]; exact (Ext.refl _).alc _
  have HW3 := Lib.hid hW3
  have z2 := x2.size
  have R0' := Lib.hid (R0.out.ext (x2.trans x3))
  have E3 := Lib.hid (E1.out.trans ((Ext.below (x2.trans x3)).mono (by omega)))
  have R7 := Lib.hid r7; have HD := Lib.hid hd
  obtain ⟨g0, hg0⟩ : ∃ g, g = w.heap.size := ⟨_, rfl⟩
  obtain ⟨g7, hg7⟩ : ∃ g, g = W2.heap.size := ⟨_, rfl⟩
  have hgg : g0 < g7 := by omega
  rw [← hg0] at R0'
  rw [← hg7] at R7 HD
  have HG0 := Lib.hid hg0; have HG7 := Lib.hid hg7
  have z3 := r7.lt
  rw [← hg7] at z3
  clear hW3 x2 x3 y1 r7 hd R0 E1 hg0 hg7 z0 z1 z2
  go_upto_if 17 with fail
  rw [← HW3.out, ← HG7.out, ← HG0.out]
  rw [← HG0.out] at E3
  clear HW3
  go_cut [8] (fun v wx => ∃ ok, v = .bool ok ∧ (ok = true → okD l) ∧ (ok = false → ¬ RF l) ∧ (ok = true → HZo wx g7 2 3 (denT l)) ∧ FB wx g0 ∧ FB wx g7 ∧ Below g0 w wx)
  case first =>
    cases f with
    | false =>
      go_wp2_with fail
      go_meet
      have hD := HF_.out
      refine ⟨true, rfl, fun _ hd => absurd (hD.trans hd) (by decide), fun h => (by cases h), fun _ => ?_, R0'.out, R7.out, E3.out⟩
      have he : denT l = 1 := by unfold denT; rw [← hD]; rfl
      rw [he]; exact HD.out
    | true =>
      go_wp2_with fail
      refine (RB_.out W3).mono ?_
      rintro e W4 ⟨b2, A2, n2, c2, ok, z, rfl, hz, x4, o1, o2⟩
      replace x4 : Ext W3 W4 := x4
      have r7 := R7.out.ext x4
      have E4 := Lib.hid (E3.out.trans ((Ext.below x4).mono (by omega)))
      obtain ⟨⟨a0, a1, a2, a3, k0, k1, k2, k3⟩, hfz⟩ := r7.facts
      have hz0 := hfz 2; have hz1 := hfz 3
      obtain ⟨W', hW', p1, p2, p3, p4⟩ := put_hi r7 hz E4.out (by omega)
      have p5 := p4 g0 (R0'.out.ext x4) (by omega)
      have HD_ := Lib.hid (And.intro o1 o2)
      have HZ := Lib.hid (show ZV W' (.agg #[.bool b2, .slice A2 n2 c2]) z by rw [hW']; exact (hz.setF r7 2 _).setF (r7.sb2 b2) 3 _)
      have HP := Lib.hid (And.intro p1 (And.intro p2 (And.intro p3 p5)))
      have HW' := Lib.hid hW'
      clear o1 o2 p1 p2 p3 p4 p5 hW' r7 x4 E3 R0' R7 HD hz E4 hfz
      cases ok with
      | false =>
        go_wp2_with fail
        go_meet
        rw [← HW'.out]
        obtain ⟨p1, p2, p3, p5⟩ := HP.out
        exact ⟨false, rfl, fun h => (by cases h), fun _ hr => HD_.out.2 trivial (hr.2.1 HF_.out.symm).1, fun h => (by cases h), p5, p1, p3⟩
      | true =>
        have IO := Lib.hid (isOne_any z _ W' HZ.out)
        clear HZ
        go_wp2_with fail
        rw [← HW'.out]
        refine IO.out.mono ?_
        rintro e W5 ⟨rfl, x5⟩
        replace x5 : Ext W' W5 := x5
        obtain ⟨p1, p2, p3, p5⟩ := HP.out
        have HP5 := Lib.hid (And.intro (p1.ext x5) (And.intro (p2.ext p1.lt x5) (And.intro (p3.trans ((Ext.below x5).mono (Nat.le_of_lt p5.lt))) (p5.ext x5))))
        clear p1 p2 p3 p5 HP x5 HW'
        go_wp2_with fail
        go_meet
        obtain ⟨p1, p2, p3, p5⟩ := HP5.out
        obtain ⟨o1, rfl⟩ := HD_.out.1 trivial
        have hd : denT l = numT (botT l) := by unfold denT; rw [← HF_.out]; rfl
        refine ⟨!decide (numT (botT l) = 1), rfl, fun h _ => ⟨o1, by simpa using h⟩, fun h hr => (hr.2.1 HF_.out.symm).2 (by simpa using h), fun _ => by rw [hd]; exact p2, p5, p1, p3⟩
  case rest =>
  obtain ⟨ok, rfl, o1, o2, o3, p5, p1, p3⟩ := hcut
  have O := Lib.hid (And.intro o1 (And.intro o2 o3))
  have P := Lib.hid (And.intro p1 (And.intro p5 p3))
  have zz := p1.lt
  clear o1 o2 o3 p1 p5 p3 z3 R0' R7 HD E3 RB_
  go_upto_if 31 with fail
  go_cut [8] (fun v wx => ∃ ok, v = .bool ok ∧ (ok = true → okF (topT l) ∧ okD l ∧ HF wx g7 (numT (topT l)) (denT l)) ∧ (ok = false → ¬ RF l) ∧ FB wx g0 ∧ Below g0 w wx)
  case first =>
    cases ok with
    | false =>
      go_wp2_with fail
      go_meet
      obtain ⟨p1, p5, p3⟩ := P.out
      exact ⟨false, rfl, fun h => (by cases h), fun _ => O.out.2.1 trivial, p5, p3⟩
    | true =>
      obtain ⟨q1, -, q3⟩ := O.out
      obtain ⟨p1, p5, p3⟩ := P.out
      go_wp2_with fail
      refine (RA_.out wc).mono ?_
      rintro e W4 ⟨b2, A2, n2, c2, ok, z, rfl, hz, x4, o1, o2⟩
      replace x4 : Ext wc W4 := x4
      have r7 := p1.ext x4
      have E4 := p3.trans ((Ext.below x4).mono (by omega))
      have hy := (q3 trivial).ext p1.lt x4
      obtain ⟨⟨a0, a1, a2, a3, k0, k1, k2, k3⟩, hfz⟩ := r7.facts
      have hz0 := hfz 0; have hz1 := hfz 1
      obtain ⟨W', hW', s1, s2, s3, s4⟩ := put_lo r7 hz hy E4 (by omega)
      have s5 := s4 g0 (p5.ext x4) (by omega)
      have HD_ := Lib.hid (And.intro o1 o2)
      have HP := Lib.hid (And.intro s2 (And.intro s3 s5))
      have HW' := Lib.hid hW'
      have HQ := Lib.hid q1
      clear o1 o2 s1 s2 s3 s4 s5 hW' r7 x4 hz E4 hfz hy p1 p5 p3 q1 q3 O P
      go_wp2_with fail
      go_meet
      rw [← HW'.out]
      obtain ⟨s2, s3, s5⟩ := HP.out
      refine ⟨ok, rfl, fun h => ?_, fun h hr => HD_.out.2 h hr.1, s5, s3⟩
      obtain ⟨o1, rfl⟩ := HD_.out.1 h
      exact ⟨o1, HQ.out trivial, s2⟩
  case rest =>
  obtain ⟨ok, rfl, o1, o2, p5, p3⟩ := hcut
  clear O P zz
  have O := Lib.hid (And.intro o1 o2)
  have P := Lib.hid (And.intro p5 p3)
  cases ok with
  | false =>
    have hno := o2 rfl
    have HN := Lib.hid hno
    rw [HG0.out] at p3
    have hgw : w.heap.size ≤ g0 := Nat.le_of_eq HG0.out.symm
    obtain ⟨_, _, _, _, k40, k41, k42, k43, k44, k45, k46, k47⟩ := put4_walk p5 (.bool false) (.slice none 0 0) (.bool false)
    obtain ⟨W', hW', FR⟩ := put_ret p5 p3 (by omega) false none 0 0 false none 0 0 (ZV.zero wc) (ZV.zero wc)
    have HW' := Lib.hid hW'
    have HFR := Lib.hid FR
    clear hW' FR p5 p3 hno o1 o2 O P
    go_wp2_with fail
    rw [← HW'.out]
    obtain ⟨⟨f0, f1, f2, f3⟩, y1, y2, y3⟩ := HFR.out
    exact bodyPost_ret (v := .tuple #[.agg #[.bool false, .slice none 0 0, .bool false, .slice none 0 0], .int .i64 6]) (by simp [results, Tryz.results15, go_sem, f0, f1, f2, f3]) rfl (.inr ⟨HN.out, ⟨_, _, _, _, _, _, _, _, rfl, y1, y2, y3⟩⟩)
  | true =>
    obtain ⟨q1, q2, q3⟩ := o1 rfl
    rw [HG0.out] at p3
    have hgw : w.heap.size ≤ g0 := Nat.le_of_eq HG0.out.symm
    obtain ⟨vx, hvx⟩ : ∃ z, z = numT (topT l) := ⟨_, rfl⟩
    obtain ⟨vy, hvy⟩ : ∃ z, z = denT l := ⟨_, rfl⟩
    have lx : (dig vx.natAbs).length ≤ 256 := by rw [hvx]; exact q1.2
    have ly : (dig vy.natAbs).length ≤ 256 := by
      rw [hvy]; unfold denT
      by_cases hd : divT l = true
      · rw [if_pos hd]; exact (q2 hd).1.2
      · rw [if_neg hd]
        have h1 := dig_len_le (n := 1) (k := 1) (by decide)
        exact Nat.le_trans h1 (by decide)
    have hRF : RF l ↔ 0 < vy ∧ Int.gcd vx vy = 1 := by
      rw [hvx, hvy]; exact ⟨fun h => h.2.2, fun h => ⟨q1, q2, h⟩⟩
    rw [← hvx, ← hvy] at q3
    have hg7 := q3.lt
    obtain ⟨⟨b9, A9, n9, c9, j0, j1, jz⟩, ⟨b8, A8, n8, c8, i0, i1, iz⟩⟩ := q3
    have LO := Lib.hid (lowest_any vx vy _ wc (fv_mk jz iz) ⟨by omega, by omega⟩)
    have LL := Lib.hid (And.intro lx ly)
    have HX := Lib.hid (And.intro jz iz)
    have HR := Lib.hid hRF; have HV := Lib.hid (And.intro hvx hvy)
    have P := Lib.hid (And.intro p5 p3)
    obtain ⟨lw, hlw⟩ : ∃ b, b = decide (0 < vy ∧ Int.gcd vx vy = 1) := ⟨_, rfl⟩
    rw [← hlw] at LO
    have HL := Lib.hid hlw
    clear o1 o2 O jz iz lx ly hRF hvx hvy hlw p5 p3 q1 q2
    go_wp2_with fail
    refine LO.out.mono ?_
    rintro e W5 ⟨rfl, x5⟩
    replace x5 : Ext wc W5 := x5
    obtain ⟨p5, p3⟩ := P.out
    have p5 := p5.ext x5
    have p3 := p3.trans ((Ext.below x5).mono (by have := P.out.1.lt; omega))
    cases lw with
    | false =>
      have hno : ¬ RF l := fun h => by have := decide_eq_true (HR.out.1 h); rw [← HL.out] at this; cases this
      have HN := Lib.hid hno
      obtain ⟨_, _, _, _, k40, k41, k42, k43, k44, k45, k46, k47⟩ := put4_walk p5 (.bool false) (.slice none 0 0) (.bool false)
      obtain ⟨W', hW', FR⟩ := put_ret p5 p3 (by omega) false none 0 0 false none 0 0 (ZV.zero W5) (ZV.zero W5)
      have HW' := Lib.hid hW'
      have HFR := Lib.hid FR
      clear hW' FR p5 p3 hno P HX LO x5
      go_wp2_with fail
      rw [← HW'.out]
      obtain ⟨⟨f0, f1, f2, f3⟩, y1, y2, y3⟩ := HFR.out
      exact bodyPost_ret (v := .tuple #[.agg #[.bool false, .slice none 0 0, .bool false, .slice none 0 0], .int .i64 6]) (by simp [results, Tryz.results15, go_sem, f0, f1, f2, f3]) rfl (.inr ⟨HN.out, ⟨_, _, _, _, _, _, _, _, rfl, y1, y2, y3⟩⟩)
    | true =>
      have hyes : RF l := HR.out.2 (of_decide_eq_true HL.out.symm)
      have HN := Lib.hid hyes
      have RO := Lib.hid (ratOf_any vx vy _ W5 (fv_mk (HX.out.1.ext x5) (HX.out.2.ext x5)) (by have := LL.out.1; omega) (by have := LL.out.2; omega))
      have P5 := Lib.hid (And.intro p5 p3)
      have j0 := keepAt x5 hg7 j0
      have j1 := keepAt x5 hg7 j1
      have i0 := keepAt x5 hg7 i0
      have i1 := keepAt x5 hg7 i1
      clear p5 p3 hyes P HX LO x5
      go_wp2_with fail
      refine RO.out.mono ?_
      rintro e W6 ⟨b, A, n, c, b', A', n', c', rfl, z1, z2, x6⟩
      replace x6 : Ext W5 W6 := x6
      obtain ⟨p5, p3⟩ := P5.out
      have p5 := p5.ext x6
      have p3 := p3.trans ((Ext.below x6).mono (by have := P5.out.1.lt; omega))
      obtain ⟨_, _, _, _, k40, k41, k42, k43, k44, k45, k46, k47⟩ := put4_walk p5 (.bool b) (.slice A n c) (.bool b')
      obtain ⟨W', hW', FR⟩ := put_ret p5 p3 (by omega) b A n c b' A' n' c' z1 z2
      have HW' := Lib.hid hW'
      have HFR := Lib.hid FR
      clear hW' FR p5 p3 P5 z1 z2 RO x6
      go_wp2_with fail
      rw [HV.out.1, HV.out.2] at HFR
      rw [← HW'.out]
      obtain ⟨⟨f0, f1, f2, f3⟩, y1, y2, y3⟩ := HFR.out
      exact bodyPost_ret (v := .tuple #[.agg #[.bool b, .slice A n c, .bool b', .slice A' n' c'], .int .i64 0]) (by simp [results, Tryz.results15, go_sem, f0, f1, f2, f3]) rfl (.inl ⟨HN.out, ⟨_, _, _, _, _, _, _, _, rfl, y1, y2, y3⟩⟩)
end Go.Proofs.YtmlopkkbgpfdnaaGreatDoor
