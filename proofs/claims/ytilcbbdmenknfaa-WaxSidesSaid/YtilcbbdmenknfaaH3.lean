/- Walks: the law's cloth. -/
import Derived.Test.YtilcbbdmenknfaaH2
import Derived.RegionTactic
import Derived.ChangeAlike
namespace Go.Proofs.Ytilcbbdmenknfaa
open Go.RowKit

/-- the first 50 of each list -/
def Cl.cut (c : Cl) : Cl := ⟨c.w, c.h, min c.nb 50, c.b, min c.nx 50, c.x, min c.nr 50, c.r, min c.nd 50, c.d⟩
theorem okL_cut {n : Nat} {x : Nat → Int} {l : Int} (hl : l ≤ 36) : okL (min n 50) x l = okL n x l := by
  by_cases h : n ≤ 50
  · rw [show min n 50 = n by omega]
  · rw [okL_no (fun k => by have := k.1; omega), okL_no (fun k => by have := k.1; omega)]

theorem il_sc6 {w : World} {base n k : Nat} {v : Value} {x : Nat → Int} (h : w.ownsRow base 3 1 v n (nl n x)) (hk : k < base) (u0 u1 u2 u3 u4 u5 : Value) :
    Il ((((((w.setCell ⟨k, 0, none⟩ u0).setCell ⟨k, 1, none⟩ u1).setCell ⟨k, 2, none⟩ u2).setCell ⟨k, 3, none⟩ u3).setCell ⟨k, 4, none⟩ u4).setCell ⟨k, 5, none⟩ u5) v n x :=
  ownsRow_il (ownsRow_setCell_below (ownsRow_setCell_below (ownsRow_setCell_below (ownsRow_setCell_below (ownsRow_setCell_below (ownsRow_setCell_below h hk u0) hk u1) hk u2) hk u3) hk u4) hk u5)

set_option maxHeartbeats 4000000 in
set_option maxRecDepth 100000 in
theorem cloth_any (c : Cl) (V : Value) (W : World) (hV : Kl W V c) :
    Calls Try.prog 39 #[V] W fun e W' => ∃ U, e = .returned U ∧ Kl W' U c.cut ∧ Ext W W' := by
  obtain ⟨B, X, R, D, rfl, hB, hX, hR, hD⟩ := hV
  obtain ⟨w, h, nb, b, nx, x, nr, r, nd, d⟩ := c
  dsimp only at hB hX hR hD ⊢
  have HL := Lib.hid (And.intro hB (And.intro hX (And.intro hR hD)))
  go_enter Try.func39, Try.ntmps39
  go_upto_region 1 with fail
  have bb := al2 W (.cells #[.int .i64 w, .int .i64 h, B, X, R, D] 68) (.cells #[.int .i64 0, .int .i64 0, .slice none 0 0, .slice none 0 0, .slice none 0 0, .slice none 0 0] 70)
  have hh0 : ((W.alloc (.cells #[.int .i64 w, .int .i64 h, B, X, R, D] 68)).alloc (.cells #[.int .i64 0, .int .i64 0, .slice none 0 0, .slice none 0 0, .slice none 0 0, .slice none 0 0] 70)).heap[W.heap.size]? = some (.cells #[.int .i64 w, .int .i64 h, B, X, R, D] 68 (0, 0)) := (Below.heap_alloc _ _ _ (by simp)).trans (heap_alloc_new W _)
  have hh1 := heap_alloc_new (W.alloc (.cells #[.int .i64 w, .int .i64 h, B, X, R, D] 68)) (.cells #[.int .i64 0, .int .i64 0, .slice none 0 0, .slice none 0 0, .slice none 0 0, .slice none 0 0] 70)
  simp only [World.size_alloc] at hh1
  have hz : ((W.alloc (.cells #[.int .i64 w, .int .i64 h, B, X, R, D] 68)).alloc (.cells #[.int .i64 0, .int .i64 0, .slice none 0 0, .slice none 0 0, .slice none 0 0, .slice none 0 0] 70)).heap.size = W.heap.size + 1 + 1 := by simp
  generalize (W.alloc (.cells #[.int .i64 w, .int .i64 h, B, X, R, D] 68)).alloc (.cells #[.int .i64 0, .int .i64 0, .slice none 0 0, .slice none 0 0, .slice none 0 0, .slice none 0 0] 70) = W1 at *
  have HB : Hid (Ext W W1) := Lib.hid bb
  have HH := Lib.hid hh1
  obtain ⟨m0, m1, m2, m3, m4, m5, mz, -⟩ := six hh0
  have HM := Lib.hid (And.intro m0 (And.intro m1 (And.intro m2 (And.intro m3 (And.intro m4 m5)))))
  have hz1 : W.heap.size + 1 < W1.heap.size := by omega
  clear bb hh0 hh1 hB hX hR hD m0 m1 m2 m3 m4 m5
  refine wp_region_noPanic ?_
  refine wp_split (S := fun X => Ext W1 X) 17 (by kernel_rfl) (by kernel_rfl) (Ext.drw (Ext.refl _)) ?_
  simp only [List.take_succ_cons, List.take_zero, List.drop_succ_cons, List.drop_zero]
  refine take_at 0 (some 3) (.pointer (some ⟨W.heap.size, 0, none⟩)) rfl rfl (by kernel_rfl) (by kernel_rfl) (by kernel_rfl) (fun _ _ _ h => h) (Or.inl ⟨by rfl, fun w' hSw => ?_⟩) (Ext.drw (Ext.refl _)) ?_
  · skip
    try clear hSw
    go_simp
    all_goals (with_reducible rfl)
  try simp only [Act.put, List.setIfInBounds_toArray, List.set_cons_zero, List.set_cons_succ]
  refine take_at 1 (some 4) (.int .i64 w) rfl rfl (by kernel_rfl) (by kernel_rfl) (by kernel_rfl) (fun _ _ _ h => h) (Or.inl ⟨by rfl, fun w' hSw => ?_⟩) (Ext.drw (Ext.refl _)) ?_
  · have z1 := keepAt hSw mz HM.out.1
    try clear hSw
    go_simp
    all_goals (with_reducible rfl)
  try simp only [Act.put, List.setIfInBounds_toArray, List.set_cons_zero, List.set_cons_succ]
  refine take_at 2 (some 5) (.pointer (some ⟨W.heap.size, 1, none⟩)) rfl rfl (by kernel_rfl) (by kernel_rfl) (by kernel_rfl) (fun _ _ _ h => h) (Or.inl ⟨by rfl, fun w' hSw => ?_⟩) (Ext.drw (Ext.refl _)) ?_
  · skip
    try clear hSw
    go_simp
    all_goals (with_reducible rfl)
  try simp only [Act.put, List.setIfInBounds_toArray, List.set_cons_zero, List.set_cons_succ]
  refine take_at 3 (some 6) (.int .i64 h) rfl rfl (by kernel_rfl) (by kernel_rfl) (by kernel_rfl) (fun _ _ _ h => h) (Or.inl ⟨by rfl, fun w' hSw => ?_⟩) (Ext.drw (Ext.refl _)) ?_
  · have z1 := keepAt hSw mz HM.out.2.1
    try clear hSw
    go_simp
    all_goals (with_reducible rfl)
  try simp only [Act.put, List.setIfInBounds_toArray, List.set_cons_zero, List.set_cons_succ]
  refine take_at 4 (some 7) (.pointer (some ⟨W.heap.size, 2, none⟩)) rfl rfl (by kernel_rfl) (by kernel_rfl) (by kernel_rfl) (fun _ _ _ h => h) (Or.inl ⟨by rfl, fun w' hSw => ?_⟩) (Ext.drw (Ext.refl _)) ?_
  · skip
    try clear hSw
    go_simp
    all_goals (with_reducible rfl)
  try simp only [Act.put, List.setIfInBounds_toArray, List.set_cons_zero, List.set_cons_succ]
  refine take_at 5 (some 8) (B) rfl rfl (by kernel_rfl) (by kernel_rfl) (by kernel_rfl) (fun _ _ _ h => h) (Or.inl ⟨by rfl, fun w' hSw => ?_⟩) (Ext.drw (Ext.refl _)) ?_
  · have z1 := keepAt hSw mz HM.out.2.2.1
    try clear hSw
    go_simp
    all_goals (with_reducible rfl)
  try simp only [Act.put, List.setIfInBounds_toArray, List.set_cons_zero, List.set_cons_succ]
  refine take_at 7 (some 10) (.pointer (some ⟨W.heap.size, 3, none⟩)) rfl rfl (by kernel_rfl) (by kernel_rfl) (by kernel_rfl) (fun _ _ _ h => h) (Or.inl ⟨by rfl, fun w' hSw => ?_⟩) (Ext.drw (Ext.refl _)) ?_
  · skip
    try clear hSw
    go_simp
    all_goals (with_reducible rfl)
  try simp only [Act.put, List.setIfInBounds_toArray, List.set_cons_zero, List.set_cons_succ]
  refine take_at 8 (some 11) (X) rfl rfl (by kernel_rfl) (by kernel_rfl) (by kernel_rfl) (fun _ _ _ h => h) (Or.inl ⟨by rfl, fun w' hSw => ?_⟩) (Ext.drw (Ext.refl _)) ?_
  · have z1 := keepAt hSw mz HM.out.2.2.2.1
    try clear hSw
    go_simp
    all_goals (with_reducible rfl)
  try simp only [Act.put, List.setIfInBounds_toArray, List.set_cons_zero, List.set_cons_succ]
  refine take_at 10 (some 13) (.pointer (some ⟨W.heap.size, 4, none⟩)) rfl rfl (by kernel_rfl) (by kernel_rfl) (by kernel_rfl) (fun _ _ _ h => h) (Or.inl ⟨by rfl, fun w' hSw => ?_⟩) (Ext.drw (Ext.refl _)) ?_
  · skip
    try clear hSw
    go_simp
    all_goals (with_reducible rfl)
  try simp only [Act.put, List.setIfInBounds_toArray, List.set_cons_zero, List.set_cons_succ]
  refine take_at 11 (some 14) (R) rfl rfl (by kernel_rfl) (by kernel_rfl) (by kernel_rfl) (fun _ _ _ h => h) (Or.inl ⟨by rfl, fun w' hSw => ?_⟩) (Ext.drw (Ext.refl _)) ?_
  · have z1 := keepAt hSw mz HM.out.2.2.2.2.1
    try clear hSw
    go_simp
    all_goals (with_reducible rfl)
  try simp only [Act.put, List.setIfInBounds_toArray, List.set_cons_zero, List.set_cons_succ]
  refine take_at 13 (some 16) (.pointer (some ⟨W.heap.size, 5, none⟩)) rfl rfl (by kernel_rfl) (by kernel_rfl) (by kernel_rfl) (fun _ _ _ h => h) (Or.inl ⟨by rfl, fun w' hSw => ?_⟩) (Ext.drw (Ext.refl _)) ?_
  · skip
    try clear hSw
    go_simp
    all_goals (with_reducible rfl)
  try simp only [Act.put, List.setIfInBounds_toArray, List.set_cons_zero, List.set_cons_succ]
  refine take_at 14 (some 17) (D) rfl rfl (by kernel_rfl) (by kernel_rfl) (by kernel_rfl) (fun _ _ _ h => h) (Or.inl ⟨by rfl, fun w' hSw => ?_⟩) (Ext.drw (Ext.refl _)) ?_
  · have z1 := keepAt hSw mz HM.out.2.2.2.2.2
    try clear hSw
    go_simp
    all_goals (with_reducible rfl)
  try simp only [Act.put, List.setIfInBounds_toArray, List.set_cons_zero, List.set_cons_succ]
  refine wpAnyH_ready (rs := [6]) (by kernel_rfl) (by simp) ?_
  refine AllReadyH.cons rfl (fun K hK => ?_) AllReadyH.nil
  go_simp
  refine (few_any nb b B _ (HL.out.1.ext (HB.out.trans (Ext.drw (Ext.refl _))))).mono ?_
  rintro e v6 ⟨U6, rfl, hi6, hb6⟩
  have e6 : Ext W1 v6 := (Ext.drw (Ext.refl _)).trans hb6
  try go_wp2_with fail
  refine hK.out _ _ e6 (fun _ => ?_)
  clear hK K
  try simp only [Act.put, List.setIfInBounds_toArray, List.set_cons_zero, List.set_cons_succ]
  have HI6 := Lib.hid hi6
  obtain ⟨A6, c6, rfl⟩ := shape_own hi6
  clear hi6
  refine wpAnyH_ready (rs := [9]) (by kernel_rfl) (by simp) ?_
  refine AllReadyH.cons rfl (fun K hK => ?_) AllReadyH.nil
  go_simp
  refine (few_any nx x X _ (HL.out.2.1.ext (HB.out.trans e6))).mono ?_
  rintro e v9 ⟨U9, rfl, hi9, hb9⟩
  have e9 : Ext W1 v9 := (e6).trans hb9
  try go_wp2_with fail
  refine hK.out _ _ e9 (fun _ => ?_)
  clear hK K
  try simp only [Act.put, List.setIfInBounds_toArray, List.set_cons_zero, List.set_cons_succ]
  have HI9 := Lib.hid hi9
  obtain ⟨A9, c9, rfl⟩ := shape_own hi9
  clear hi9
  refine wpAnyH_ready (rs := [12]) (by kernel_rfl) (by simp) ?_
  refine AllReadyH.cons rfl (fun K hK => ?_) AllReadyH.nil
  go_simp
  refine (few_any nr r R _ (HL.out.2.2.1.ext (HB.out.trans e9))).mono ?_
  rintro e v12 ⟨U12, rfl, hi12, hb12⟩
  have e12 : Ext W1 v12 := (e9).trans hb12
  try go_wp2_with fail
  refine hK.out _ _ e12 (fun _ => ?_)
  clear hK K
  try simp only [Act.put, List.setIfInBounds_toArray, List.set_cons_zero, List.set_cons_succ]
  have HI12 := Lib.hid hi12
  obtain ⟨A12, c12, rfl⟩ := shape_own hi12
  clear hi12
  refine wpAnyH_ready (rs := [15]) (by kernel_rfl) (by simp) ?_
  refine AllReadyH.cons rfl (fun K hK => ?_) AllReadyH.nil
  go_simp
  refine (few_any nd d D _ (HL.out.2.2.2.ext (HB.out.trans e12))).mono ?_
  rintro e v15 ⟨U15, rfl, hi15, hb15⟩
  have e15 : Ext W1 v15 := (e12).trans hb15
  try go_wp2_with fail
  refine hK.out _ _ e15 (fun _ => ?_)
  clear hK K
  try simp only [Act.put, List.setIfInBounds_toArray, List.set_cons_zero, List.set_cons_succ]
  have HI15 := Lib.hid hi15
  obtain ⟨A15, c15, rfl⟩ := shape_own hi15
  clear hi15
  refine take_at 16 (some 19) (.agg #[.int .i64 w, .int .i64 h, .slice A6 (min nb 50) c6, .slice A9 (min nx 50) c9, .slice A12 (min nr 50) c12, .slice A15 (min nd 50) c15]) rfl rfl (by kernel_rfl) (by kernel_rfl) (by kernel_rfl) (fun _ _ _ h => h) (Or.inl ⟨by rfl, fun w' hSw => ?_⟩) (e15) ?_
  · skip
    try clear hSw
    go_simp
    all_goals (with_reducible rfl)
  try simp only [Act.put, List.setIfInBounds_toArray, List.set_cons_zero, List.set_cons_succ]
  refine wpAnyH_done (by kernel_rfl) ?_ _
  refine cut_normal ?_
  obtain ⟨q0, q1, q2, q3, q4, q5, qz, qf⟩ := six ((Below.block e15 (W.heap.size + 1) hz1).trans HH.out)
  have EX := Lib.hid e15
  clear e15
  go_wp2_with fail
  refine NoPanic.normal ?_
  go_wp2
  refine bodyPost_ret (v := .agg #[.int .i64 w, .int .i64 h, .slice A6 (min nb 50) c6, .slice A9 (min nx 50) c9, .slice A12 (min nr 50) c12, .slice A15 (min nd 50) c15]) (by simp [results, Try.results39, go_sem, q0, q1, q2, q3, q4, q5]) rfl ?_
  have s6 : W.heap.size + 1 < W1.drew.heap.size := by show W.heap.size + 1 < W1.heap.size; omega
  have s9 := Nat.lt_of_lt_of_le s6 hb6.size
  have s12 := Nat.lt_of_lt_of_le s9 hb9.size
  have s15 := Nat.lt_of_lt_of_le s12 hb12.size
  have le : W.heap.size ≤ W.heap.size + 1 := by omega
  refine ⟨_, rfl, ⟨_, _, _, _, rfl, il_sc6 (World.ownsRow.ext HI6.out (hb9.trans (hb12.trans hb15))) s6 _ _ _ _ _ _, il_sc6 (World.ownsRow.ext HI9.out (hb12.trans hb15)) s9 _ _ _ _ _ _, il_sc6 (World.ownsRow.ext HI12.out hb15) s12 _ _ _ _ _ _, il_sc6 HI15.out s15 _ _ _ _ _ _⟩, ?_⟩
  exact (((((((HB.out.trans EX.out).sc le).sc le).sc le).sc le).sc le).sc le)
end Go.Proofs.Ytilcbbdmenknfaa
