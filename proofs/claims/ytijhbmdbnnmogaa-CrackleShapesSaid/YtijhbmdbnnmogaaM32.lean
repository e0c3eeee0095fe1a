/- Walks: the law CrackleShapes. -/
import Derived.Test.YtijhbmdbnnmogaaM9
import Derived.Test.YtijhbmdbnnmogaaM31
namespace Go.Proofs.Ytijhbmdbnnmogaa.G
open Go.RowKit

set_option maxRecDepth 100000 in
theorem field24 (A : Option Addr) (n c : Nat) (w : World) : (Instr.field 24 (.agg #[.slice A n c]) 0).run Try.prog w = .ok (.slice A n c) w := by kernel_rfl

set_option maxHeartbeats 8000000 in
set_option maxRecDepth 100000 in
theorem crackleShapes_no (n q : Nat) (f : Nat → Int) (NV : Value) (x : Int) (W : World) (hN : Il W NV n f) (HV : Hid (vMap q f = false)) (HVN : Hid (vMap n f = false)) (HK : Hid (okE q f x = false))
    (HO : Hid (∀ X, Il X NV n f → Calls Try.prog 8 #[.agg #[NV]] X fun e W' => ∃ U, e = .returned (.agg #[U]) ∧ Il W' U q f ∧ Ext X W')) :
    Calls Try.prog 4 #[.agg #[NV], .int .i64 x] W fun e W' => e = .returned (.bool true) ∧ Below W.heap.size W W' := by
  have HN := Lib.hid hN
  obtain ⟨A, c, rfl, hac, hcm, -⟩ := hN
  go_enter Try.func4, Try.ntmps4
  go_upto_region 1 with fail
  have bb := al1 W (.cells #[.slice A n c] 24)
  obtain ⟨m0, -, mz⟩ := uno (heap_alloc_new W (.cells #[.slice A n c] 24))
  generalize W.alloc (.cells #[.slice A n c] 24) = s0 at *
  have HB : Hid (Ext W s0) := Lib.hid bb
  have HM0 := Lib.hid m0
  have HE0 : Hid (Ext s0 s0) := Lib.hid (Ext.refl _)
  clear bb
  go_wp2_with fail
  refine (HO.out _ (HN.out.ext (HB.out.trans HE0.out))).mono ?_
  rintro e u ⟨U, rfl, hu, hx⟩
  have HU := Lib.hid (And.intro hu hx)
  obtain ⟨Au, cu, rfl, -⟩ := hu
  clear hx m0
  go_wp2_with fail
  refine (dualS_any q f _ _ HU.out.1).mono ?_
  rintro e v ⟨V, er, rfl, hx, hc⟩
  obtain ⟨-, rfl, rfl⟩ | ⟨hv, -⟩ := hc
  rotate_left
  · rw [HV.out] at hv; cases hv
  go_upto_region 2 with fail
  have bb := al1 v (.cells #[.slice none 0 0] 28)
  obtain ⟨y0, -, z0⟩ := uno (heap_alloc_new v (.cells #[.slice none 0 0] 28))
  obtain ⟨a0, ha0⟩ : ∃ a, a = v.heap.size := ⟨_, rfl⟩
  rw [← ha0] at y0 z0 ⊢
  clear ha0
  generalize v.alloc (.cells #[.slice none 0 0] 28) = s1 at *
  have HE1 : Hid (Ext s0 s1) := Lib.hid (HE0.out.trans (HU.out.2.trans (hx.trans bb)))
  have HS0 : Hid (Ext s0 s1) := Lib.hid (HU.out.2.trans (hx.trans bb))
  have HY0 := Lib.hid y0
  clear bb hx y0 HU
  have m0 := keepAt HE1.out mz HM0.out
  go_wp2_with fail
  refine (HO.out _ (HN.out.ext (HB.out.trans HE1.out))).mono ?_
  rintro e u ⟨U, rfl, hu, hx⟩
  have HU := Lib.hid (And.intro hu hx)
  obtain ⟨Au, cu, rfl, -⟩ := hu
  clear hx m0
  go_wp2_with fail
  refine (deleteS_any q f _ x _ HU.out.1).mono ?_
  rintro e v ⟨V, er, rfl, hx, hc⟩
  obtain ⟨-, rfl, rfl⟩ | ⟨hv, -⟩ := hc
  rotate_left
  · rw [HK.out] at hv; cases hv
  go_upto_region 3 with fail
  have bb := al1 v (.cells #[.slice none 0 0] 28)
  obtain ⟨y1, -, z1⟩ := uno (heap_alloc_new v (.cells #[.slice none 0 0] 28))
  obtain ⟨a1, ha1⟩ : ∃ a, a = v.heap.size := ⟨_, rfl⟩
  rw [← ha1] at y1 z1 ⊢
  clear ha1
  generalize v.alloc (.cells #[.slice none 0 0] 28) = s2 at *
  have HE2 : Hid (Ext s0 s2) := Lib.hid (HE1.out.trans (HU.out.2.trans (hx.trans bb)))
  have HS1 : Hid (Ext s1 s2) := Lib.hid (HU.out.2.trans (hx.trans bb))
  have HY1 := Lib.hid y1
  clear bb hx y1 HU
  have m0 := keepAt HE2.out mz HM0.out
  go_wp2_with fail
  refine (HO.out _ (HN.out.ext (HB.out.trans HE2.out))).mono ?_
  rintro e u ⟨U, rfl, hu, hx⟩
  have HU := Lib.hid (And.intro hu hx)
  obtain ⟨Au, cu, rfl, -⟩ := hu
  clear hx m0
  go_wp2_with fail
  refine (contractS_any q f _ x _ HU.out.1).mono ?_
  rintro e v ⟨V, er, rfl, hx, hc⟩
  obtain ⟨-, rfl, rfl⟩ | ⟨hv, -⟩ := hc
  rotate_left
  · rw [HK.out] at hv; cases hv
  go_upto_region 4 with fail
  have bb := al1 v (.cells #[.slice none 0 0] 28)
  obtain ⟨y2, -, z2⟩ := uno (heap_alloc_new v (.cells #[.slice none 0 0] 28))
  obtain ⟨a2, ha2⟩ : ∃ a, a = v.heap.size := ⟨_, rfl⟩
  rw [← ha2] at y2 z2 ⊢
  clear ha2
  generalize v.alloc (.cells #[.slice none 0 0] 28) = s3 at *
  have HE3 : Hid (Ext s0 s3) := Lib.hid (HE2.out.trans (HU.out.2.trans (hx.trans bb)))
  have HS2 : Hid (Ext s2 s3) := Lib.hid (HU.out.2.trans (hx.trans bb))
  have HY2 := Lib.hid y2
  clear bb hx y2 HU
  have m0 := keepAt HE3.out mz HM0.out
  have HT0 : Hid (Ext s1 s3) := Lib.hid (HS1.out.trans HS2.out)
  have HT1 : Hid (Ext s2 s3) := HS2
  have HT2 : Hid (Ext s3 s3) := Lib.hid (Ext.refl _)
  have z0' : a0 < s3.heap.size := Nat.lt_of_lt_of_le z0 HT0.out.size
  have z1' : a1 < s3.heap.size := Nat.lt_of_lt_of_le z1 HT1.out.size
  have HYY := Lib.hid (And.intro (keepAt HT0.out z0 HY0.out) (And.intro (keepAt HT1.out z1 HY1.out) HY2.out))
  go_wp2_with fail
  refine (validR_any n f _ _ (HN.out.ext (HB.out.trans HE3.out))).mono ?_
  rintro e w0 ⟨rfl, hx⟩
  rw [HVN.out]
  have HX0 : Hid (Ext s3 w0) := Lib.hid hx
  clear hx m0
  have y0 := keepAt (HX0.out) z0' HYY.out.1
  have y1 := keepAt (HX0.out) z1' HYY.out.2.1
  have y2 := keepAt (HX0.out) z2 HYY.out.2.2
  go_wp2_with fail
  refine (awake_any _).mono ?_
  rintro e w9 ⟨rfl, hx⟩
  have HX9 := Lib.hid ((HB.out.trans (HE3.out.trans HX0.out)).trans hx)
  clear hx
  go_wp2
  go_ret
  exact ⟨rfl, HX9.out⟩

set_option maxHeartbeats 8000000 in
set_option maxRecDepth 100000 in
theorem crackleShapes_edge (n : Nat) (f : Nat → Int) (NV : Value) (x : Int) (W : World) (hN : Il W NV n f) (HV : Hid (vMap n f = true)) (HVN : Hid (vMap n f = true)) (HMP : Hid (Mp n f)) (HK : Hid (okE n f x = false)) (HG : Hid ((decide (0 ≤ x) && decide (x ≤ ((n / 2 : Nat) : Int) - 1)) = false))
    (HO : Hid (∀ X, Il X NV n f → Calls Try.prog 8 #[.agg #[NV]] X fun e W' => ∃ U, e = .returned (.agg #[U]) ∧ Il W' U n f ∧ Ext X W')) :
    Calls Try.prog 4 #[.agg #[NV], .int .i64 x] W fun e W' => e = .returned (.bool true) ∧ Below W.heap.size W W' := by
  have HN := Lib.hid hN
  obtain ⟨A, c, rfl, hac, hcm, -⟩ := hN
  go_enter Try.func4, Try.ntmps4
  go_upto_region 1 with fail
  have bb := al1 W (.cells #[.slice A n c] 24)
  obtain ⟨m0, -, mz⟩ := uno (heap_alloc_new W (.cells #[.slice A n c] 24))
  generalize W.alloc (.cells #[.slice A n c] 24) = s0 at *
  have HB : Hid (Ext W s0) := Lib.hid bb
  have HM0 := Lib.hid m0
  have HE0 : Hid (Ext s0 s0) := Lib.hid (Ext.refl _)
  clear bb
  go_wp2_with fail
  refine (HO.out _ (HN.out.ext (HB.out.trans HE0.out))).mono ?_
  rintro e u ⟨U, rfl, hu, hx⟩
  have HU := Lib.hid (And.intro hu hx)
  obtain ⟨Au, cu, rfl, -⟩ := hu
  clear hx m0
  go_wp2_with fail
  refine (dualS_any n f _ _ HU.out.1).mono ?_
  rintro e v ⟨V, er, rfl, hx, hc⟩
  obtain ⟨hv, -⟩ | ⟨-, rfl, hil⟩ := hc
  · rw [HV.out] at hv; cases hv
  have HL0 := Lib.hid hil
  obtain ⟨A0, c0, rfl, -⟩ := hil
  go_upto_region 2 with fail
  have bb := al1 v (.cells #[.slice A0 n c0] 28)
  obtain ⟨y0, -, z0⟩ := uno (heap_alloc_new v (.cells #[.slice A0 n c0] 28))
  obtain ⟨a0, ha0⟩ : ∃ a, a = v.heap.size := ⟨_, rfl⟩
  rw [← ha0] at y0 z0 ⊢
  clear ha0
  generalize v.alloc (.cells #[.slice A0 n c0] 28) = s1 at *
  have HE1 : Hid (Ext s0 s1) := Lib.hid (HE0.out.trans (HU.out.2.trans (hx.trans bb)))
  have HS0 : Hid (Ext s0 s1) := Lib.hid (HU.out.2.trans (hx.trans bb))
  have HY0 := Lib.hid y0
  replace HL0 := Lib.hid (HL0.out.ext bb)
  clear bb hx y0 HU
  have m0 := keepAt HE1.out mz HM0.out
  go_wp2_with fail
  refine (HO.out _ (HN.out.ext (HB.out.trans HE1.out))).mono ?_
  rintro e u ⟨U, rfl, hu, hx⟩
  have HU := Lib.hid (And.intro hu hx)
  obtain ⟨Au, cu, rfl, -⟩ := hu
  clear hx m0
  go_wp2_with fail
  refine (deleteS_any n f _ x _ HU.out.1).mono ?_
  rintro e v ⟨V, er, rfl, hx, hc⟩
  obtain ⟨-, rfl, rfl⟩ | ⟨hv, -⟩ := hc
  rotate_left
  · rw [HK.out] at hv; cases hv
  go_upto_region 3 with fail
  have bb := al1 v (.cells #[.slice none 0 0] 28)
  obtain ⟨y1, -, z1⟩ := uno (heap_alloc_new v (.cells #[.slice none 0 0] 28))
  obtain ⟨a1, ha1⟩ : ∃ a, a = v.heap.size := ⟨_, rfl⟩
  rw [← ha1] at y1 z1 ⊢
  clear ha1
  generalize v.alloc (.cells #[.slice none 0 0] 28) = s2 at *
  have HE2 : Hid (Ext s0 s2) := Lib.hid (HE1.out.trans (HU.out.2.trans (hx.trans bb)))
  have HS1 : Hid (Ext s1 s2) := Lib.hid (HU.out.2.trans (hx.trans bb))
  have HY1 := Lib.hid y1
  clear bb hx y1 HU
  have m0 := keepAt HE2.out mz HM0.out
  go_wp2_with fail
  refine (HO.out _ (HN.out.ext (HB.out.trans HE2.out))).mono ?_
  rintro e u ⟨U, rfl, hu, hx⟩
  have HU := Lib.hid (And.intro hu hx)
  obtain ⟨Au, cu, rfl, -⟩ := hu
  clear hx m0
  go_wp2_with fail
  refine (contractS_any n f _ x _ HU.out.1).mono ?_
  rintro e v ⟨V, er, rfl, hx, hc⟩
  obtain ⟨-, rfl, rfl⟩ | ⟨hv, -⟩ := hc
  rotate_left
  · rw [HK.out] at hv; cases hv
  go_upto_region 4 with fail
  have bb := al1 v (.cells #[.slice none 0 0] 28)
  obtain ⟨y2, -, z2⟩ := uno (heap_alloc_new v (.cells #[.slice none 0 0] 28))
  obtain ⟨a2, ha2⟩ : ∃ a, a = v.heap.size := ⟨_, rfl⟩
  rw [← ha2] at y2 z2 ⊢
  clear ha2
  generalize v.alloc (.cells #[.slice none 0 0] 28) = s3 at *
  have HE3 : Hid (Ext s0 s3) := Lib.hid (HE2.out.trans (HU.out.2.trans (hx.trans bb)))
  have HS2 : Hid (Ext s2 s3) := Lib.hid (HU.out.2.trans (hx.trans bb))
  have HY2 := Lib.hid y2
  clear bb hx y2 HU
  have m0 := keepAt HE3.out mz HM0.out
  have HT0 : Hid (Ext s1 s3) := Lib.hid (HS1.out.trans HS2.out)
  have HT1 : Hid (Ext s2 s3) := HS2
  have HT2 : Hid (Ext s3 s3) := Lib.hid (Ext.refl _)
  have z0' : a0 < s3.heap.size := Nat.lt_of_lt_of_le z0 HT0.out.size
  have z1' : a1 < s3.heap.size := Nat.lt_of_lt_of_le z1 HT1.out.size
  have HYY := Lib.hid (And.intro (keepAt HT0.out z0 HY0.out) (And.intro (keepAt HT1.out z1 HY1.out) HY2.out))
  go_wp2_with fail
  refine (validR_any n f _ _ (HN.out.ext (HB.out.trans HE3.out))).mono ?_
  rintro e w0 ⟨rfl, hx⟩
  rw [HVN.out]
  have HX0 : Hid (Ext s3 w0) := Lib.hid hx
  clear hx m0
  have HMW := Lib.hid (And.intro (Nat.lt_of_lt_of_le mz (HE3.out.trans HX0.out).size) (keepAt (HE3.out.trans HX0.out) mz HM0.out))
  go_upto_region 6 with fail
  refine wp_region_noPanic ?_
  refine wp_region_held_drew (S := fun X => Ext w0 X) (by kernel_rfl) (Ext.drw (Ext.refl _)) (fun _ => ?_)
  refine take_at 0 (some 61) (.pointer (some ⟨a0, 0, none⟩)) rfl rfl (by kernel_rfl) (by kernel_rfl) (by kernel_rfl) (fun _ _ _ h => h) (Or.inl ⟨by rfl, fun w' hSw => ?_⟩) (Ext.drw (Ext.refl _)) ?_
  · skip
    try clear hSw
    go_simp
    all_goals (with_reducible rfl)
  try simp only [Act.put, List.setIfInBounds_toArray, List.set_cons_zero, List.set_cons_succ]
  refine take_at 1 (some 62) (.slice A0 n c0) rfl rfl (by kernel_rfl) (by kernel_rfl) (by kernel_rfl) (fun _ _ _ h => h) (Or.inl ⟨by rfl, fun w' hSw => ?_⟩) (Ext.drw (Ext.refl _)) ?_
  · have q0 := keepAt (HX0.out.trans hSw) z0' HYY.out.1
    try clear hSw
    go_simp
    all_goals (with_reducible rfl)
  try simp only [Act.put, List.setIfInBounds_toArray, List.set_cons_zero, List.set_cons_succ]
  refine take_at 2 (some 63) (.agg #[.slice A n c]) rfl rfl (by kernel_rfl) (by kernel_rfl) (by kernel_rfl) (fun _ _ _ h => h) (Or.inl ⟨by rfl, fun w' hSw => ?_⟩) (Ext.drw (Ext.refl _)) ?_
  · have q0 := keepAt hSw HMW.out.1 HMW.out.2
    try clear hSw
    go_simp
    all_goals (with_reducible rfl)
  try simp only [Act.put, List.setIfInBounds_toArray, List.set_cons_zero, List.set_cons_succ]
  refine wpAnyH_ready (rs := [3]) (by kernel_rfl) (by simp) ?_
  refine AllReadyH.cons rfl (fun K hK => ?_) AllReadyH.nil
  go_simp
  refine (dualR_any n f _ _ (HN.out.ext (HB.out.trans (HE3.out.trans (HX0.out.trans (Ext.drw (Ext.refl _)))))) HMP.out.le HMP.out.even).mono ?_
  rintro e v3 ⟨V3, rfl, hil3, hb3⟩
  have e3 : Ext w0 v3 := (Ext.drw (Ext.refl _)).trans hb3
  try go_wp2_with fail
  refine hK.out _ _ e3 (fun _ => ?_)
  clear hK K
  try simp only [Act.put, List.setIfInBounds_toArray, List.set_cons_zero, List.set_cons_succ]
  have HIL3 := Lib.hid hil3
  obtain ⟨A3, c3, rfl, -⟩ := hil3
  skip
  refine take_at 4 (some 65) (.slice A3 n c3) rfl rfl (by kernel_rfl) (by kernel_rfl) (by kernel_rfl) (fun _ _ _ h => h) (Or.inl ⟨by rfl, fun w' hSw => ?_⟩) (e3) ?_
  · skip
    try clear hSw
    go_simp
    all_goals (first | (with_reducible rfl) | (rw [field24]; rfl))
  try simp only [Act.put, List.setIfInBounds_toArray, List.set_cons_zero, List.set_cons_succ]
  refine wpAnyH_ready (rs := [5]) (by kernel_rfl) (by simp) ?_
  refine AllReadyH.cons rfl (fun K hK => ?_) AllReadyH.nil
  go_simp
  refine (equalI_any n (fun d => f (rev d)) _ _ _ (HL0.out.ext (HT0.out.trans (HX0.out.trans e3))) HIL3.out (by have := HMP.out.le; omega)).mono ?_
  rintro e v5 ⟨rfl, hb5⟩
  have e5 : Ext w0 v5 := (e3).trans hb5
  try go_wp2_with fail
  refine hK.out _ _ e5 (fun _ => ?_)
  clear hK K
  try simp only [Act.put, List.setIfInBounds_toArray, List.set_cons_zero, List.set_cons_succ]
  refine take_at 6 (some 67) (.bool false) rfl rfl (by kernel_rfl) (by kernel_rfl) (by kernel_rfl) (fun _ _ _ h => h) (Or.inl ⟨by rfl, fun w' hSw => ?_⟩) (e5) ?_
  · skip
    try clear hSw
    go_simp
    all_goals (with_reducible rfl)
  try simp only [Act.put, List.setIfInBounds_toArray, List.set_cons_zero, List.set_cons_succ]
  refine take_at 7 (some 68) (.bool false) rfl rfl (by kernel_rfl) (by kernel_rfl) (by kernel_rfl) (fun _ _ _ h => h) (Or.inl ⟨by rfl, fun w' hSw => ?_⟩) (e5) ?_
  · skip
    try clear hSw
    go_simp
    all_goals (with_reducible rfl)
  try simp only [Act.put, List.setIfInBounds_toArray, List.set_cons_zero, List.set_cons_succ]
  refine take_at 8 (some 69) (.int .i64 0) rfl rfl (by kernel_rfl) (by kernel_rfl) (by kernel_rfl) (fun _ _ _ h => h) (Or.inl ⟨by rfl, fun w' hSw => ?_⟩) (e5) ?_
  · skip
    try clear hSw
    go_simp
    all_goals (with_reducible rfl)
  try simp only [Act.put, List.setIfInBounds_toArray, List.set_cons_zero, List.set_cons_succ]
  refine take_at 9 (some 70) (.bool false) rfl rfl (by kernel_rfl) (by kernel_rfl) (by kernel_rfl) (fun _ _ _ h => h) (Or.inl ⟨by rfl, fun w' hSw => ?_⟩) (e5) ?_
  · skip
    try clear hSw
    go_simp
    all_goals (with_reducible rfl)
  try simp only [Act.put, List.setIfInBounds_toArray, List.set_cons_zero, List.set_cons_succ]
  refine take_at 10 (some 71) (.bool false) rfl rfl (by kernel_rfl) (by kernel_rfl) (by kernel_rfl) (fun _ _ _ h => h) (Or.inl ⟨by rfl, fun w' hSw => ?_⟩) (e5) ?_
  · skip
    try clear hSw
    go_simp
    all_goals (with_reducible rfl)
  try simp only [Act.put, List.setIfInBounds_toArray, List.set_cons_zero, List.set_cons_succ]
  refine wpAnyH_done (by kernel_rfl) ?_ _
  refine NoPanic.normal ?_
  have HX5 : Hid (Ext s3 v5) := Lib.hid (HX0.out.trans e5)
  have m0 := keepAt (HE3.out.trans HX5.out) mz HM0.out
  clear e3 e5 hb3 hb5
  go_wp2_with fail
  refine (edge_any n f _ x _ (HN.out.ext (HB.out.trans (HE3.out.trans HX5.out))) (by have := HMP.out.le; omega)).mono ?_
  rintro e w6 ⟨rfl, hx⟩
  rw [HG.out]
  have HX6 : Hid (Ext s3 w6) := Lib.hid (HX5.out.trans hx)
  clear hx m0
  have y1 := keepAt (HX6.out) z1' HYY.out.2.1
  have y2 := keepAt (HX6.out) z2 HYY.out.2.2
  go_wp2_with fail
  refine (awake_any _).mono ?_
  rintro e w9 ⟨rfl, hx⟩
  have HX9 := Lib.hid ((HB.out.trans (HE3.out.trans HX6.out)).trans hx)
  clear hx
  go_wp2
  go_ret
  exact ⟨rfl, HX9.out⟩

set_option maxHeartbeats 8000000 in
set_option maxRecDepth 100000 in
theorem crackleShapes_yes (n e : Nat) (f : Nat → Int) (NV : Value) (W : World) (hN : Il W NV n f) (HV : Hid (vMap n f = true)) (HVN : Hid (vMap n f = true)) (HMP : Hid (Mp n f)) (HEE : Hid (2 * e + 1 < n)) (HK : Hid (okE n f (e : Nat) = true)) (HG : Hid ((decide ((0 : Int) ≤ (e : Nat)) && decide (((e : Nat) : Int) ≤ ((n / 2 : Nat) : Int) - 1)) = true))
    (HO : Hid (∀ X, Il X NV n f → Calls Try.prog 8 #[.agg #[NV]] X fun e W' => ∃ U, e = .returned (.agg #[U]) ∧ Il W' U n f ∧ Ext X W')) :
    Calls Try.prog 4 #[.agg #[NV], .int .i64 (e : Nat)] W fun e W' => e = .returned (.bool true) ∧ Below W.heap.size W W' := by
  have HN := Lib.hid hN
  obtain ⟨A, c, rfl, hac, hcm, -⟩ := hN
  go_enter Try.func4, Try.ntmps4
  go_upto_region 1 with fail
  have bb := al1 W (.cells #[.slice A n c] 24)
  obtain ⟨m0, -, mz⟩ := uno (heap_alloc_new W (.cells #[.slice A n c] 24))
  generalize W.alloc (.cells #[.slice A n c] 24) = s0 at *
  have HB : Hid (Ext W s0) := Lib.hid bb
  have HM0 := Lib.hid m0
  have HE0 : Hid (Ext s0 s0) := Lib.hid (Ext.refl _)
  clear bb
  go_wp2_with fail
  refine (HO.out _ (HN.out.ext (HB.out.trans HE0.out))).mono ?_
  rintro e u ⟨U, rfl, hu, hx⟩
  have HU := Lib.hid (And.intro hu hx)
  obtain ⟨Au, cu, rfl, -⟩ := hu
  clear hx m0
  go_wp2_with fail
  refine (dualS_any n f _ _ HU.out.1).mono ?_
  rintro e v ⟨V, er, rfl, hx, hc⟩
  obtain ⟨hv, -⟩ | ⟨-, rfl, hil⟩ := hc
  · rw [HV.out] at hv; cases hv
  have HL0 := Lib.hid hil
  obtain ⟨A0, c0, rfl, -⟩ := hil
  go_upto_region 2 with fail
  have bb := al1 v (.cells #[.slice A0 n c0] 28)
  obtain ⟨y0, -, z0⟩ := uno (heap_alloc_new v (.cells #[.slice A0 n c0] 28))
  obtain ⟨a0, ha0⟩ : ∃ a, a = v.heap.size := ⟨_, rfl⟩
  rw [← ha0] at y0 z0 ⊢
  clear ha0
  generalize v.alloc (.cells #[.slice A0 n c0] 28) = s1 at *
  have HE1 : Hid (Ext s0 s1) := Lib.hid (HE0.out.trans (HU.out.2.trans (hx.trans bb)))
  have HS0 : Hid (Ext s0 s1) := Lib.hid (HU.out.2.trans (hx.trans bb))
  have HY0 := Lib.hid y0
  replace HL0 := Lib.hid (HL0.out.ext bb)
  clear bb hx y0 HU
  have m0 := keepAt HE1.out mz HM0.out
  go_wp2_with fail
  refine (HO.out _ (HN.out.ext (HB.out.trans HE1.out))).mono ?_
  rintro e u ⟨U, rfl, hu, hx⟩
  have HU := Lib.hid (And.intro hu hx)
  obtain ⟨Au, cu, rfl, -⟩ := hu
  clear hx m0
  go_wp2_with fail
  refine (deleteS_any n f _ (e : Nat) _ HU.out.1).mono ?_
  rintro e v ⟨V, er, rfl, hx, hc⟩
  obtain ⟨hv, -⟩ | ⟨-, rfl, hil⟩ := hc
  · rw [HK.out] at hv; cases hv
  have HL1 := Lib.hid hil
  obtain ⟨A1, c1, rfl, -⟩ := hil
  go_upto_region 3 with fail
  have bb := al1 v (.cells #[.slice A1 (n - 2) c1] 28)
  obtain ⟨y1, -, z1⟩ := uno (heap_alloc_new v (.cells #[.slice A1 (n - 2) c1] 28))
  obtain ⟨a1, ha1⟩ : ∃ a, a = v.heap.size := ⟨_, rfl⟩
  rw [← ha1] at y1 z1 ⊢
  clear ha1
  generalize v.alloc (.cells #[.slice A1 (n - 2) c1] 28) = s2 at *
  have HE2 : Hid (Ext s0 s2) := Lib.hid (HE1.out.trans (HU.out.2.trans (hx.trans bb)))
  have HS1 : Hid (Ext s1 s2) := Lib.hid (HU.out.2.trans (hx.trans bb))
  have HY1 := Lib.hid y1
  replace HL1 := Lib.hid (HL1.out.ext bb)
  clear bb hx y1 HU
  have m0 := keepAt HE2.out mz HM0.out
  go_wp2_with fail
  refine (HO.out _ (HN.out.ext (HB.out.trans HE2.out))).mono ?_
  rintro e u ⟨U, rfl, hu, hx⟩
  have HU := Lib.hid (And.intro hu hx)
  obtain ⟨Au, cu, rfl, -⟩ := hu
  clear hx m0
  go_wp2_with fail
  refine (contractS_any n f _ (e : Nat) _ HU.out.1).mono ?_
  rintro e v ⟨V, er, rfl, hx, hc⟩
  obtain ⟨hv, -⟩ | ⟨-, rfl, hil⟩ := hc
  · rw [HK.out] at hv; cases hv
  have HL2 := Lib.hid hil
  obtain ⟨A2, c2, rfl, -⟩ := hil
  go_upto_region 4 with fail
  have bb := al1 v (.cells #[.slice A2 (n - 2) c2] 28)
  obtain ⟨y2, -, z2⟩ := uno (heap_alloc_new v (.cells #[.slice A2 (n - 2) c2] 28))
  obtain ⟨a2, ha2⟩ : ∃ a, a = v.heap.size := ⟨_, rfl⟩
  rw [← ha2] at y2 z2 ⊢
  clear ha2
  generalize v.alloc (.cells #[.slice A2 (n - 2) c2] 28) = s3 at *
  have HE3 : Hid (Ext s0 s3) := Lib.hid (HE2.out.trans (HU.out.2.trans (hx.trans bb)))
  have HS2 : Hid (Ext s2 s3) := Lib.hid (HU.out.2.trans (hx.trans bb))
  have HY2 := Lib.hid y2
  replace HL2 := Lib.hid (HL2.out.ext bb)
  clear bb hx y2 HU
  have m0 := keepAt HE3.out mz HM0.out
  have HT0 : Hid (Ext s1 s3) := Lib.hid (HS1.out.trans HS2.out)
  have HT1 : Hid (Ext s2 s3) := HS2
  have HT2 : Hid (Ext s3 s3) := Lib.hid (Ext.refl _)
  have z0' : a0 < s3.heap.size := Nat.lt_of_lt_of_le z0 HT0.out.size
  have z1' : a1 < s3.heap.size := Nat.lt_of_lt_of_le z1 HT1.out.size
  have HYY := Lib.hid (And.intro (keepAt HT0.out z0 HY0.out) (And.intro (keepAt HT1.out z1 HY1.out) HY2.out))
  go_wp2_with fail
  refine (validR_any n f _ _ (HN.out.ext (HB.out.trans HE3.out))).mono ?_
  rintro e w0 ⟨rfl, hx⟩
  rw [HVN.out]
  have HX0 : Hid (Ext s3 w0) := Lib.hid hx
  clear hx m0
  have HMW := Lib.hid (And.intro (Nat.lt_of_lt_of_le mz (HE3.out.trans HX0.out).size) (keepAt (HE3.out.trans HX0.out) mz HM0.out))
  go_upto_region 6 with fail
  refine wp_region_noPanic ?_
  refine wp_region_held_drew (S := fun X => Ext w0 X) (by kernel_rfl) (Ext.drw (Ext.refl _)) (fun _ => ?_)
  refine take_at 0 (some 61) (.pointer (some ⟨a0, 0, none⟩)) rfl rfl (by kernel_rfl) (by kernel_rfl) (by kernel_rfl) (fun _ _ _ h => h) (Or.inl ⟨by rfl, fun w' hSw => ?_⟩) (Ext.drw (Ext.refl _)) ?_
  · skip
    try clear hSw
    go_simp
    all_goals (with_reducible rfl)
  try simp only [Act.put, List.setIfInBounds_toArray, List.set_cons_zero, List.set_cons_succ]
  refine take_at 1 (some 62) (.slice A0 n c0) rfl rfl (by kernel_rfl) (by kernel_rfl) (by kernel_rfl) (fun _ _ _ h => h) (Or.inl ⟨by rfl, fun w' hSw => ?_⟩) (Ext.drw (Ext.refl _)) ?_
  · have q0 := keepAt (HX0.out.trans hSw) z0' HYY.out.1
    try clear hSw
    go_simp
    all_goals (with_reducible rfl)
  try simp only [Act.put, List.setIfInBounds_toArray, List.set_cons_zero, List.set_cons_succ]
  refine take_at 2 (some 63) (.agg #[.slice A n c]) rfl rfl (by kernel_rfl) (by kernel_rfl) (by kernel_rfl) (fun _ _ _ h => h) (Or.inl ⟨by rfl, fun w' hSw => ?_⟩) (Ext.drw (Ext.refl _)) ?_
  · have q0 := keepAt hSw HMW.out.1 HMW.out.2
    try clear hSw
    go_simp
    all_goals (with_reducible rfl)
  try simp only [Act.put, List.setIfInBounds_toArray, List.set_cons_zero, List.set_cons_succ]
  refine wpAnyH_ready (rs := [3]) (by kernel_rfl) (by simp) ?_
  refine AllReadyH.cons rfl (fun K hK => ?_) AllReadyH.nil
  go_simp
  refine (dualR_any n f _ _ (HN.out.ext (HB.out.trans (HE3.out.trans (HX0.out.trans (Ext.drw (Ext.refl _)))))) HMP.out.le HMP.out.even).mono ?_
  rintro e v3 ⟨V3, rfl, hil3, hb3⟩
  have e3 : Ext w0 v3 := (Ext.drw (Ext.refl _)).trans hb3
  try go_wp2_with fail
  refine hK.out _ _ e3 (fun _ => ?_)
  clear hK K
  try simp only [Act.put, List.setIfInBounds_toArray, List.set_cons_zero, List.set_cons_succ]
  have HIL3 := Lib.hid hil3
  obtain ⟨A3, c3, rfl, -⟩ := hil3
  skip
  refine take_at 4 (some 65) (.slice A3 n c3) rfl rfl (by kernel_rfl) (by kernel_rfl) (by kernel_rfl) (fun _ _ _ h => h) (Or.inl ⟨by rfl, fun w' hSw => ?_⟩) (e3) ?_
  · skip
    try clear hSw
    go_simp
    all_goals (first | (with_reducible rfl) | (rw [field24]; rfl))
  try simp only [Act.put, List.setIfInBounds_toArray, List.set_cons_zero, List.set_cons_succ]
  refine wpAnyH_ready (rs := [5]) (by kernel_rfl) (by simp) ?_
  refine AllReadyH.cons rfl (fun K hK => ?_) AllReadyH.nil
  go_simp
  refine (equalI_any n (fun d => f (rev d)) _ _ _ (HL0.out.ext (HT0.out.trans (HX0.out.trans e3))) HIL3.out (by have := HMP.out.le; omega)).mono ?_
  rintro e v5 ⟨rfl, hb5⟩
  have e5 : Ext w0 v5 := (e3).trans hb5
  try go_wp2_with fail
  refine hK.out _ _ e5 (fun _ => ?_)
  clear hK K
  try simp only [Act.put, List.setIfInBounds_toArray, List.set_cons_zero, List.set_cons_succ]
  refine take_at 6 (some 67) (.bool false) rfl rfl (by kernel_rfl) (by kernel_rfl) (by kernel_rfl) (fun _ _ _ h => h) (Or.inl ⟨by rfl, fun w' hSw => ?_⟩) (e5) ?_
  · skip
    try clear hSw
    go_simp
    all_goals (with_reducible rfl)
  try simp only [Act.put, List.setIfInBounds_toArray, List.set_cons_zero, List.set_cons_succ]
  refine take_at 7 (some 68) (.bool false) rfl rfl (by kernel_rfl) (by kernel_rfl) (by kernel_rfl) (fun _ _ _ h => h) (Or.inl ⟨by rfl, fun w' hSw => ?_⟩) (e5) ?_
  · skip
    try clear hSw
    go_simp
    all_goals (with_reducible rfl)
  try simp only [Act.put, List.setIfInBounds_toArray, List.set_cons_zero, List.set_cons_succ]
  refine take_at 8 (some 69) (.int .i64 0) rfl rfl (by kernel_rfl) (by kernel_rfl) (by kernel_rfl) (fun _ _ _ h => h) (Or.inl ⟨by rfl, fun w' hSw => ?_⟩) (e5) ?_
  · skip
    try clear hSw
    go_simp
    all_goals (with_reducible rfl)
  try simp only [Act.put, List.setIfInBounds_toArray, List.set_cons_zero, List.set_cons_succ]
  refine take_at 9 (some 70) (.bool false) rfl rfl (by kernel_rfl) (by kernel_rfl) (by kernel_rfl) (fun _ _ _ h => h) (Or.inl ⟨by rfl, fun w' hSw => ?_⟩) (e5) ?_
  · skip
    try clear hSw
    go_simp
    all_goals (with_reducible rfl)
  try simp only [Act.put, List.setIfInBounds_toArray, List.set_cons_zero, List.set_cons_succ]
  refine take_at 10 (some 71) (.bool false) rfl rfl (by kernel_rfl) (by kernel_rfl) (by kernel_rfl) (fun _ _ _ h => h) (Or.inl ⟨by rfl, fun w' hSw => ?_⟩) (e5) ?_
  · skip
    try clear hSw
    go_simp
    all_goals (with_reducible rfl)
  try simp only [Act.put, List.setIfInBounds_toArray, List.set_cons_zero, List.set_cons_succ]
  refine wpAnyH_done (by kernel_rfl) ?_ _
  refine NoPanic.normal ?_
  have HX5 : Hid (Ext s3 v5) := Lib.hid (HX0.out.trans e5)
  have m0 := keepAt (HE3.out.trans HX5.out) mz HM0.out
  clear e3 e5 hb3 hb5
  go_wp2_with fail
  refine (edge_any n f _ (e : Nat) _ (HN.out.ext (HB.out.trans (HE3.out.trans HX5.out))) (by have := HMP.out.le; omega)).mono ?_
  rintro e w6 ⟨rfl, hx⟩
  rw [HG.out]
  have HX6 : Hid (Ext s3 w6) := Lib.hid (HX5.out.trans hx)
  clear hx m0
  have HMW2 := Lib.hid (And.intro (Nat.lt_of_lt_of_le mz (HE3.out.trans HX6.out).size) (keepAt (HE3.out.trans HX6.out) mz HM0.out))
  go_upto_region 10 with fail
  refine wp_region_noPanic ?_
  refine wp_region_held_drew (S := fun X => Ext w6 X) (by kernel_rfl) (Ext.drw (Ext.refl _)) (fun _ => ?_)
  refine take_at 0 (some 95) (.pointer (some ⟨a1, 0, none⟩)) rfl rfl (by kernel_rfl) (by kernel_rfl) (by kernel_rfl) (fun _ _ _ h => h) (Or.inl ⟨by rfl, fun w' hSw => ?_⟩) (Ext.drw (Ext.refl _)) ?_
  · skip
    try clear hSw
    go_simp
    all_goals (with_reducible rfl)
  try simp only [Act.put, List.setIfInBounds_toArray, List.set_cons_zero, List.set_cons_succ]
  refine take_at 1 (some 96) (.slice A1 (n - 2) c1) rfl rfl (by kernel_rfl) (by kernel_rfl) (by kernel_rfl) (fun _ _ _ h => h) (Or.inl ⟨by rfl, fun w' hSw => ?_⟩) (Ext.drw (Ext.refl _)) ?_
  · have q0 := keepAt (HX6.out.trans hSw) z1' HYY.out.2.1
    try clear hSw
    go_simp
    all_goals (with_reducible rfl)
  try simp only [Act.put, List.setIfInBounds_toArray, List.set_cons_zero, List.set_cons_succ]
  refine take_at 2 (some 97) (.agg #[.slice A n c]) rfl rfl (by kernel_rfl) (by kernel_rfl) (by kernel_rfl) (fun _ _ _ h => h) (Or.inl ⟨by rfl, fun w' hSw => ?_⟩) (Ext.drw (Ext.refl _)) ?_
  · have q0 := keepAt hSw HMW2.out.1 HMW2.out.2
    try clear hSw
    go_simp
    all_goals (with_reducible rfl)
  try simp only [Act.put, List.setIfInBounds_toArray, List.set_cons_zero, List.set_cons_succ]
  refine take_at 3 (some 98) (.int .i64 (e : Nat)) rfl rfl (by kernel_rfl) (by kernel_rfl) (by kernel_rfl) (fun _ _ _ h => h) (Or.inl ⟨by rfl, fun w' hSw => ?_⟩) (Ext.drw (Ext.refl _)) ?_
  · skip
    try clear hSw
    go_simp
    all_goals (with_reducible rfl)
  try simp only [Act.put, List.setIfInBounds_toArray, List.set_cons_zero, List.set_cons_succ]
  refine wpAnyH_ready (rs := [4]) (by kernel_rfl) (by simp) ?_
  refine AllReadyH.cons rfl (fun K hK => ?_) AllReadyH.nil
  go_simp
  refine (deleteR_any n e f _ _ (HN.out.ext (HB.out.trans (HE3.out.trans (HX6.out.trans (Ext.drw (Ext.refl _)))))) HMP.out HEE.out).mono ?_
  rintro e v4 ⟨V4, rfl, hil4, hb4⟩
  have e4 : Ext w6 v4 := (Ext.drw (Ext.refl _)).trans hb4
  try go_wp2_with fail
  refine hK.out _ _ e4 (fun _ => ?_)
  clear hK K
  try simp only [Act.put, List.setIfInBounds_toArray, List.set_cons_zero, List.set_cons_succ]
  have hil4b : Il v4 V4 (n - 2) (dF f (e : Nat)) := hil4
  have HIL4 := Lib.hid hil4b
  obtain ⟨A4, c4, rfl, -⟩ := hil4
  clear hil4b
  refine take_at 5 (some 100) (.slice A4 (n - 2) c4) rfl rfl (by kernel_rfl) (by kernel_rfl) (by kernel_rfl) (fun _ _ _ h => h) (Or.inl ⟨by rfl, fun w' hSw => ?_⟩) (e4) ?_
  · skip
    try clear hSw
    go_simp
    all_goals (first | (with_reducible rfl) | (rw [field24]; rfl))
  try simp only [Act.put, List.setIfInBounds_toArray, List.set_cons_zero, List.set_cons_succ]
  refine wpAnyH_ready (rs := [6]) (by kernel_rfl) (by simp) ?_
  refine AllReadyH.cons rfl (fun K hK => ?_) AllReadyH.nil
  go_simp
  refine (equalI_any (n - 2) (dF f (e : Nat)) _ _ _ (HL1.out.ext (HT1.out.trans (HX6.out.trans e4))) HIL4.out (by have := HMP.out.le; omega)).mono ?_
  rintro e v6 ⟨rfl, hb6⟩
  have e6 : Ext w6 v6 := (e4).trans hb6
  try go_wp2_with fail
  refine hK.out _ _ e6 (fun _ => ?_)
  clear hK K
  try simp only [Act.put, List.setIfInBounds_toArray, List.set_cons_zero, List.set_cons_succ]
  refine take_at 7 (some 102) (.bool true) rfl rfl (by kernel_rfl) (by kernel_rfl) (by kernel_rfl) (fun _ _ _ h => h) (Or.inl ⟨by rfl, fun w' hSw => ?_⟩) (e6) ?_
  · skip
    try clear hSw
    go_simp
    all_goals (with_reducible rfl)
  try simp only [Act.put, List.setIfInBounds_toArray, List.set_cons_zero, List.set_cons_succ]
  refine take_at 8 (some 103) (.pointer (some ⟨a2, 0, none⟩)) rfl rfl (by kernel_rfl) (by kernel_rfl) (by kernel_rfl) (fun _ _ _ h => h) (Or.inl ⟨by rfl, fun w' hSw => ?_⟩) (e6) ?_
  · skip
    try clear hSw
    go_simp
    all_goals (with_reducible rfl)
  try simp only [Act.put, List.setIfInBounds_toArray, List.set_cons_zero, List.set_cons_succ]
  refine take_at 9 (some 104) (.slice A2 (n - 2) c2) rfl rfl (by kernel_rfl) (by kernel_rfl) (by kernel_rfl) (fun _ _ _ h => h) (Or.inl ⟨by rfl, fun w' hSw => ?_⟩) (e6) ?_
  · have q0 := keepAt (HX6.out.trans hSw) z2 HYY.out.2.2
    try clear hSw
    go_simp
    all_goals (with_reducible rfl)
  try simp only [Act.put, List.setIfInBounds_toArray, List.set_cons_zero, List.set_cons_succ]
  refine take_at 10 (some 105) (.agg #[.slice A n c]) rfl rfl (by kernel_rfl) (by kernel_rfl) (by kernel_rfl) (fun _ _ _ h => h) (Or.inl ⟨by rfl, fun w' hSw => ?_⟩) (e6) ?_
  · have q0 := keepAt hSw HMW2.out.1 HMW2.out.2
    try clear hSw
    go_simp
    all_goals (with_reducible rfl)
  try simp only [Act.put, List.setIfInBounds_toArray, List.set_cons_zero, List.set_cons_succ]
  refine take_at 11 (some 106) (.int .i64 (e : Nat)) rfl rfl (by kernel_rfl) (by kernel_rfl) (by kernel_rfl) (fun _ _ _ h => h) (Or.inl ⟨by rfl, fun w' hSw => ?_⟩) (e6) ?_
  · skip
    try clear hSw
    go_simp
    all_goals (with_reducible rfl)
  try simp only [Act.put, List.setIfInBounds_toArray, List.set_cons_zero, List.set_cons_succ]
  refine wpAnyH_ready (rs := [12]) (by kernel_rfl) (by simp) ?_
  refine AllReadyH.cons rfl (fun K hK => ?_) AllReadyH.nil
  go_simp
  refine (contractR_any n e f _ _ (HN.out.ext (HB.out.trans (HE3.out.trans (HX6.out.trans e6)))) HMP.out HEE.out).mono ?_
  rintro e v12 ⟨V12, rfl, hil12, hb12⟩
  have e12 : Ext w6 v12 := (e6).trans hb12
  try go_wp2_with fail
  refine hK.out _ _ e12 (fun _ => ?_)
  clear hK K
  try simp only [Act.put, List.setIfInBounds_toArray, List.set_cons_zero, List.set_cons_succ]
  have HIL12 := Lib.hid hil12
  obtain ⟨A12, c12, rfl, -⟩ := hil12
  refine take_at 13 (some 108) (.slice A12 (n - 2) c12) rfl rfl (by kernel_rfl) (by kernel_rfl) (by kernel_rfl) (fun _ _ _ h => h) (Or.inl ⟨by rfl, fun w' hSw => ?_⟩) (e12) ?_
  · skip
    try clear hSw
    go_simp
    all_goals (first | (with_reducible rfl) | (rw [field24]; rfl))
  try simp only [Act.put, List.setIfInBounds_toArray, List.set_cons_zero, List.set_cons_succ]
  refine wpAnyH_ready (rs := [14]) (by kernel_rfl) (by simp) ?_
  refine AllReadyH.cons rfl (fun K hK => ?_) AllReadyH.nil
  go_simp
  refine (equalI_any (n - 2) (cF f (e : Nat)) _ _ _ (HL2.out.ext (HT2.out.trans (HX6.out.trans e12))) HIL12.out (by have := HMP.out.le; omega)).mono ?_
  rintro e v14 ⟨rfl, hb14⟩
  have e14 : Ext w6 v14 := (e12).trans hb14
  try go_wp2_with fail
  refine hK.out _ _ e14 (fun _ => ?_)
  clear hK K
  try simp only [Act.put, List.setIfInBounds_toArray, List.set_cons_zero, List.set_cons_succ]
  refine take_at 15 (some 110) (.bool true) rfl rfl (by kernel_rfl) (by kernel_rfl) (by kernel_rfl) (fun _ _ _ h => h) (Or.inl ⟨by rfl, fun w' hSw => ?_⟩) (e14) ?_
  · skip
    try clear hSw
    go_simp
    all_goals (with_reducible rfl)
  try simp only [Act.put, List.setIfInBounds_toArray, List.set_cons_zero, List.set_cons_succ]
  refine take_at 16 (some 111) (.bool true) rfl rfl (by kernel_rfl) (by kernel_rfl) (by kernel_rfl) (fun _ _ _ h => h) (Or.inl ⟨by rfl, fun w' hSw => ?_⟩) (e14) ?_
  · skip
    try clear hSw
    go_simp
    all_goals (with_reducible rfl)
  try simp only [Act.put, List.setIfInBounds_toArray, List.set_cons_zero, List.set_cons_succ]
  refine take_at 17 (some 112) (.int .i64 0) rfl rfl (by kernel_rfl) (by kernel_rfl) (by kernel_rfl) (fun _ _ _ h => h) (Or.inl ⟨by rfl, fun w' hSw => ?_⟩) (e14) ?_
  · skip
    try clear hSw
    go_simp
    all_goals (with_reducible rfl)
  try simp only [Act.put, List.setIfInBounds_toArray, List.set_cons_zero, List.set_cons_succ]
  refine take_at 18 (some 113) (.bool true) rfl rfl (by kernel_rfl) (by kernel_rfl) (by kernel_rfl) (fun _ _ _ h => h) (Or.inl ⟨by rfl, fun w' hSw => ?_⟩) (e14) ?_
  · skip
    try clear hSw
    go_simp
    all_goals (with_reducible rfl)
  try simp only [Act.put, List.setIfInBounds_toArray, List.set_cons_zero, List.set_cons_succ]
  refine take_at 19 (some 114) (.bool true) rfl rfl (by kernel_rfl) (by kernel_rfl) (by kernel_rfl) (fun _ _ _ h => h) (Or.inl ⟨by rfl, fun w' hSw => ?_⟩) (e14) ?_
  · skip
    try clear hSw
    go_simp
    all_goals (with_reducible rfl)
  try simp only [Act.put, List.setIfInBounds_toArray, List.set_cons_zero, List.set_cons_succ]
  refine take_at 20 (some 115) (.bool true) rfl rfl (by kernel_rfl) (by kernel_rfl) (by kernel_rfl) (fun _ _ _ h => h) (Or.inl ⟨by rfl, fun w' hSw => ?_⟩) (e14) ?_
  · skip
    try clear hSw
    go_simp
    all_goals (with_reducible rfl)
  try simp only [Act.put, List.setIfInBounds_toArray, List.set_cons_zero, List.set_cons_succ]
  refine take_at 21 (some 116) (.int .i64 0) rfl rfl (by kernel_rfl) (by kernel_rfl) (by kernel_rfl) (fun _ _ _ h => h) (Or.inl ⟨by rfl, fun w' hSw => ?_⟩) (e14) ?_
  · skip
    try clear hSw
    go_simp
    all_goals (with_reducible rfl)
  try simp only [Act.put, List.setIfInBounds_toArray, List.set_cons_zero, List.set_cons_succ]
  refine take_at 22 (some 117) (.bool true) rfl rfl (by kernel_rfl) (by kernel_rfl) (by kernel_rfl) (fun _ _ _ h => h) (Or.inl ⟨by rfl, fun w' hSw => ?_⟩) (e14) ?_
  · skip
    try clear hSw
    go_simp
    all_goals (with_reducible rfl)
  try simp only [Act.put, List.setIfInBounds_toArray, List.set_cons_zero, List.set_cons_succ]
  refine take_at 23 (some 118) (.bool true) rfl rfl (by kernel_rfl) (by kernel_rfl) (by kernel_rfl) (fun _ _ _ h => h) (Or.inl ⟨by rfl, fun w' hSw => ?_⟩) (e14) ?_
  · skip
    try clear hSw
    go_simp
    all_goals (with_reducible rfl)
  try simp only [Act.put, List.setIfInBounds_toArray, List.set_cons_zero, List.set_cons_succ]
  refine take_at 24 (some 119) (.bool true) rfl rfl (by kernel_rfl) (by kernel_rfl) (by kernel_rfl) (fun _ _ _ h => h) (Or.inl ⟨by rfl, fun w' hSw => ?_⟩) (e14) ?_
  · skip
    try clear hSw
    go_simp
    all_goals (with_reducible rfl)
  try simp only [Act.put, List.setIfInBounds_toArray, List.set_cons_zero, List.set_cons_succ]
  refine wpAnyH_ready (rs := [25]) (by kernel_rfl) (by simp) ?_
  refine AllReadyH.cons rfl (fun K hK => ?_) AllReadyH.nil
  go_simp
  refine (awake_any _).mono ?_
  rintro e v25 ⟨rfl, hb25⟩
  have e25 : Ext w6 v25 := (e14).trans hb25
  try go_wp2_with fail
  refine hK.out _ _ e25 (fun _ => ?_)
  clear hK K
  try simp only [Act.put, List.setIfInBounds_toArray, List.set_cons_zero, List.set_cons_succ]
  refine take_at 26 (some 121) (.bool true) rfl rfl (by kernel_rfl) (by kernel_rfl) (by kernel_rfl) (fun _ _ _ h => h) (Or.inl ⟨by rfl, fun w' hSw => ?_⟩) (e25) ?_
  · skip
    try clear hSw
    go_simp
    all_goals (with_reducible rfl)
  try simp only [Act.put, List.setIfInBounds_toArray, List.set_cons_zero, List.set_cons_succ]
  refine take_at 27 (some 4) (.bool true) rfl rfl (by kernel_rfl) (by kernel_rfl) (by kernel_rfl) (fun _ _ _ h => h) (Or.inl ⟨by rfl, fun w' hSw => ?_⟩) (e25) ?_
  · skip
    try clear hSw
    go_simp
    all_goals (with_reducible rfl)
  try simp only [Act.put, List.setIfInBounds_toArray, List.set_cons_zero, List.set_cons_succ]
  refine wpAnyH_done (by kernel_rfl) ?_ _
  refine NoPanic.normal ?_
  have HX25 := Lib.hid (HB.out.trans (HE3.out.trans (HX6.out.trans e25)))
  clear e4 e6 e12 e14 e25 hb4 hb6 hb12 hb14 hb25
  go_wp2
  go_ret
  exact ⟨rfl, HX25.out⟩

theorem crackleShapes_walk (n : Nat) (f : Nat → Int) (NV : Value) (x : Int) (W : World) (hN : Il W NV n f) :
    Calls Try.prog 4 #[.agg #[NV], .int .i64 x] W fun e W' => e = .returned (.bool true) ∧ Below W.heap.size W W' := by
  cases hv : vMap n f
  · exact crackleShapes_no n (min n 82) f NV x W hN (Lib.hid (by rw [vMap_cut]; exact hv)) (Lib.hid hv) (Lib.hid (by unfold okE; rw [vMap_cut, hv]; rfl)) (Lib.hid fun X hX => of_any n f NV X hX)
  · have hM := vMap_mp hv
    have hn := hM.le
    have HO : Hid (∀ X, Il X NV n f → Calls Try.prog 8 #[.agg #[NV]] X fun e W' => ∃ U, e = .returned (.agg #[U]) ∧ Il W' U n f ∧ Ext X W') := Lib.hid fun X hX => by
      have h := of_any n f NV X hX
      rw [Nat.min_eq_left (by omega)] at h
      exact h
    cases hg : (decide (0 ≤ x) && decide (x ≤ ((n / 2 : Nat) : Int) - 1))
    · exact crackleShapes_edge n f NV x W hN (Lib.hid hv) (Lib.hid hv) (Lib.hid hM) (Lib.hid (by unfold okE; rw [hg, Bool.and_false])) (Lib.hid hg) HO
    · have hg2 := hg
      simp only [Bool.and_eq_true, decide_eq_true_eq] at hg2
      obtain ⟨e, rfl⟩ : ∃ e : Nat, x = e := ⟨x.toNat, by omega⟩
      exact crackleShapes_yes n e f NV W hN (Lib.hid hv) (Lib.hid hv) (Lib.hid hM) (Lib.hid (by omega)) (Lib.hid (by unfold okE; rw [hg, hv]; rfl)) (Lib.hid hg) HO
end Go.Proofs.Ytijhbmdbnnmogaa.G
