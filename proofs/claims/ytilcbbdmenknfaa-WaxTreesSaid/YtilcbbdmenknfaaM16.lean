/- Walks: isCloth. · Walks: the law's cloth. · Walks: the pairs of neighbours. · The energy of a labelling: mathematics. -/
import Derived.Test.YtilcbbdmenknfaaM15
import Derived.RegionTactic
import Derived.ChangeAlike
namespace Go.Proofs.Ytilcbbdmenknfaa
open Go.RowKit

/-- a cloth: its measures, its costs of no wax, of wax, of what lies to the right and below -/
structure Cl where
  w : Int
  h : Int
  nb : Nat
  b : Nat → Int
  nx : Nat
  x : Nat → Int
  nr : Nat
  r : Nat → Int
  nd : Nat
  d : Nat → Int
/-- a cloth's value -/
def Kl (W : World) (v : Value) (c : Cl) : Prop := ∃ B X R D, v = .agg #[.int .i64 c.w, .int .i64 c.h, B, X, R, D] ∧ Il W B c.nb c.b ∧ Il W X c.nx c.x ∧ Il W R c.nr c.r ∧ Il W D c.nd c.d
theorem Kl.ext {W X : World} {v : Value} {c : Cl} (h : Kl W v c) (e : Ext W X) : Kl X v c := by
  obtain ⟨B, Y, R, D, rfl, h1, h2, h3, h4⟩ := h
  exact ⟨B, Y, R, D, rfl, h1.ext e, h2.ext e, h3.ext e, h4.ext e⟩
/-- is it a cloth? -/
def vCl (c : Cl) : Bool := bw c.w 1 6 && (bw c.h 1 6 && (okL c.nb c.b (c.w * c.h) && (okL c.nx c.x (c.w * c.h) && (okL c.nr c.r ((c.w - 1) * c.h) && okL c.nd c.d (c.w * (c.h - 1))))))
theorem side_prod {a b m n : Int} (h1 : 0 ≤ a) (h2 : a ≤ m) (h3 : 0 ≤ b) (h4 : b ≤ n) : 0 ≤ a * b ∧ a * b ≤ m * n := ⟨Int.mul_nonneg h1 h3, Int.mul_le_mul h2 h4 h3 (Int.le_trans h1 h2)⟩
theorem six {w : World} {b : Nat} {t : TypeId} {x0 x1 x2 x3 x4 x5 : Value} (h : w.heap[b]? = some (.cells #[x0, x1, x2, x3, x4, x5] t (0, 0))) : w.cell? ⟨b, 0, none⟩ = some x0 ∧ w.cell? ⟨b, 1, none⟩ = some x1 ∧ w.cell? ⟨b, 2, none⟩ = some x2 ∧ w.cell? ⟨b, 3, none⟩ = some x3 ∧ w.cell? ⟨b, 4, none⟩ = some x4 ∧ w.cell? ⟨b, 5, none⟩ = some x5 ∧ b < w.heap.size ∧ ∀ o, w.frozen? ⟨b, o, none⟩ = false :=
  ⟨cell_of_row w b 0 _ _ (0, 0) h, cell_of_row w b 1 _ _ (0, 0) h, cell_of_row w b 2 _ _ (0, 0) h, cell_of_row w b 3 _ _ (0, 0) h, cell_of_row w b 4 _ _ (0, 0) h, cell_of_row w b 5 _ _ (0, 0) h, (Array.getElem?_eq_some_iff.1 h).1, fun o => by simp [World.frozen?, h]⟩

set_option maxHeartbeats 4000000 in
set_option maxRecDepth 100000 in
theorem isCloth_any (c : Cl) (V : Value) (W : World) (hV : Kl W V c) :
    Calls Try.prog 66 #[V] W fun e W' => e = .returned (.bool (vCl c)) ∧ Ext W W' := by
  obtain ⟨y, hy⟩ : ∃ y, y = vCl c := ⟨_, rfl⟩
  rw [← hy]
  have HY := Lib.hid hy; clear hy
  obtain ⟨B, X, R, D, rfl, hB, hX, hR, hD⟩ := hV
  obtain ⟨w, h, nb, b, nx, x, nr, r, nd, d⟩ := c
  dsimp only at hB hX hR hD ⊢
  have HL := Lib.hid (And.intro hB (And.intro hX (And.intro hR hD)))
  go_enter Try.func66, Try.ntmps66
  go_upto_region 1 with fail
  have bb := al1 W (.cells #[.int .i64 w, .int .i64 h, B, X, R, D] 70)
  obtain ⟨m0, m1, m2, m3, m4, m5, mz, -⟩ := six (heap_alloc_new W (.cells #[.int .i64 w, .int .i64 h, B, X, R, D] 70))
  generalize W.alloc (.cells #[.int .i64 w, .int .i64 h, B, X, R, D] 70) = W1 at *
  have HB : Hid (Ext W W1) := Lib.hid bb
  clear bb hB hX hR hD
  go_wp2_with fail
  refine (isBetween_bw _ _ _ _).mono ?_
  rintro e w0 ⟨rfl, rfl⟩
  cases q1 : bw w 1 6
  · have hy : y = false := by rw [HY.out]; simp only [vCl, q1, Bool.false_and, Bool.true_and]
    have HY2 := Lib.hid hy; clear hy HY
    try clear m0
    try clear m1
    go_wp2
    go_ret
    exact ⟨by rw [HY2.out]; rfl, HB.out⟩
  · obtain ⟨hw1, hw2⟩ := bw_iff.1 q1
    go_wp2_with fail
    refine (isBetween_bw _ _ _ _).mono ?_
    rintro e w0 ⟨rfl, rfl⟩
    cases q2 : bw h 1 6
    · have hy : y = false := by rw [HY.out]; simp only [vCl, q1, q2, Bool.false_and, Bool.true_and]
      have HY2 := Lib.hid hy; clear hy HY
      try clear m0
      try clear m1
      go_wp2
      go_ret
      exact ⟨by rw [HY2.out]; rfl, HB.out⟩
    · obtain ⟨hh1, hh2⟩ := bw_iff.1 q2
      obtain ⟨pa1, pa2⟩ := side_prod (show 0 ≤ w by omega) hw2 (show 0 ≤ h by omega) hh2
      obtain ⟨pb1, pb2⟩ := side_prod (show 0 ≤ w - 1 by omega) (show w - 1 ≤ 5 by omega) (show 0 ≤ h by omega) hh2
      obtain ⟨pc1, pc2⟩ := side_prod (show 0 ≤ w by omega) hw2 (show 0 ≤ h - 1 by omega) (show h - 1 ≤ 5 by omega)
      go_wp2_with fail
      refine (areCosts_any nb b (w * h) B _ (HL.out.1.ext HB.out)).mono ?_
      rintro e w1 ⟨rfl, hx⟩
      replace m0 := keepAt hx mz m0
      replace m1 := keepAt hx mz m1
      replace m2 := keepAt hx mz m2
      replace m3 := keepAt hx mz m3
      replace m4 := keepAt hx mz m4
      replace m5 := keepAt hx mz m5
      replace mz := Nat.lt_of_lt_of_le mz hx.size
      have HX1 : Hid (Ext W w1) := Lib.hid (HB.out.trans hx)
      clear hx
      cases q3 : okL nb b (w * h)
      · have hy : y = false := by rw [HY.out]; simp only [vCl, q1, q2, q3, Bool.false_and, Bool.true_and]
        have HY2 := Lib.hid hy; clear hy HY
        try clear m0
        try clear m1
        go_wp2
        go_ret
        exact ⟨by rw [HY2.out]; rfl, HX1.out⟩
      · have _u := 0
        go_wp2_with fail
        refine (areCosts_any nx x (w * h) X _ (HL.out.2.1.ext HX1.out)).mono ?_
        rintro e w2 ⟨rfl, hx⟩
        replace m0 := keepAt hx mz m0
        replace m1 := keepAt hx mz m1
        replace m2 := keepAt hx mz m2
        replace m3 := keepAt hx mz m3
        replace m4 := keepAt hx mz m4
        replace m5 := keepAt hx mz m5
        replace mz := Nat.lt_of_lt_of_le mz hx.size
        have HX2 : Hid (Ext W w2) := Lib.hid (HX1.out.trans hx)
        clear hx
        cases q4 : okL nx x (w * h)
        · have hy : y = false := by rw [HY.out]; simp only [vCl, q1, q2, q3, q4, Bool.false_and, Bool.true_and]
          have HY2 := Lib.hid hy; clear hy HY
          try clear m0
          try clear m1
          go_wp2
          go_ret
          exact ⟨by rw [HY2.out]; rfl, HX2.out⟩
        · have _u := 0
          go_wp2_with fail
          refine (areCosts_any nr r ((w - 1) * h) R _ (HL.out.2.2.1.ext HX2.out)).mono ?_
          rintro e w3 ⟨rfl, hx⟩
          replace m0 := keepAt hx mz m0
          replace m1 := keepAt hx mz m1
          replace m2 := keepAt hx mz m2
          replace m3 := keepAt hx mz m3
          replace m4 := keepAt hx mz m4
          replace m5 := keepAt hx mz m5
          replace mz := Nat.lt_of_lt_of_le mz hx.size
          have HX3 : Hid (Ext W w3) := Lib.hid (HX2.out.trans hx)
          clear hx
          cases q5 : okL nr r ((w - 1) * h)
          · have hy : y = false := by rw [HY.out]; simp only [vCl, q1, q2, q3, q4, q5, Bool.false_and, Bool.true_and]
            have HY2 := Lib.hid hy; clear hy HY
            try clear m0
            try clear m1
            go_wp2
            go_ret
            exact ⟨by rw [HY2.out]; rfl, HX3.out⟩
          · have _u := 0
            go_wp2_with fail
            refine (areCosts_any nd d (w * (h - 1)) D _ (HL.out.2.2.2.ext HX3.out)).mono ?_
            rintro e w4 ⟨rfl, hx⟩
            replace m0 := keepAt hx mz m0
            replace m1 := keepAt hx mz m1
            replace m2 := keepAt hx mz m2
            replace m3 := keepAt hx mz m3
            replace m4 := keepAt hx mz m4
            replace m5 := keepAt hx mz m5
            replace mz := Nat.lt_of_lt_of_le mz hx.size
            have HX4 : Hid (Ext W w4) := Lib.hid (HX3.out.trans hx)
            clear hx
            cases q6 : okL nd d (w * (h - 1))
            · have hy : y = false := by rw [HY.out]; simp only [vCl, q1, q2, q3, q4, q5, q6, Bool.false_and, Bool.true_and]
              have HY2 := Lib.hid hy; clear hy HY
              try clear m0
              try clear m1
              go_wp2
              go_ret
              exact ⟨by rw [HY2.out]; rfl, HX4.out⟩
            · have hy : y = true := by rw [HY.out]; simp only [vCl, q1, q2, q3, q4, q5, q6, Bool.true_and]
              have HY2 := Lib.hid hy; clear hy HY
              go_wp2
              go_ret
              exact ⟨by rw [HY2.out]; rfl, HX4.out⟩
end Go.Proofs.Ytilcbbdmenknfaa
namespace Go.Proofs.Ytilcbbdmenknfaa
open Go.RowKit

/-- the first 50 of each list -/
def Cl.cut (c : Cl) : Cl := ⟨c.w, c.h, min c.nb 50, c.b, min c.nx 50, c.x, min c.nr 50, c.r, min c.nd 50, c.d⟩
theorem okL_cut {n : Nat} {x : Nat → Int} {l : Int} (hl : l ≤ 36) : okL (min n 50) x l = okL n x l := by
  by_cases h : n ≤ 50
  · rw [show min n 50 = n by omega]
  · rw [okL_no (fun k => by have := k.1; omega), okL_no (fun k => by have := k.1; omega)]

theorem il_sc6 {w : World} {base n k : Nat} {v : Value} {x : Nat → Int} (h : w.ownsRow base 3 1 v n (nl n x)) (hk : k < base) (u0 u1 u2 u3 u4 u5 : Value) :
    Il ((((((w.setCell ⟨k, 0, none⟩ u0).setCell ⟨k, 1, none⟩ u1).setCell ⟨k, 2, none⟩ u2).setCell ⟨k, 3, none⟩ u3).setCell ⟨k, 4, none⟩ u4).setCell ⟨k, 5, none⟩ u5) v n x :=
  ownsRow_il (ownsRow_setCell_below (ownsRow_setCell_below (ownsRow_setCell_below (ownsRow_setCell_below (ownsRow_setCell_below (ownsRow_setCell_below h hk u0) hk u1) hk u2) hk u3) hk u4) hk u5)

set_option maxHeartbeats 4000000 in
set_option maxRecDepth 100000 in
theorem cloth_any (c : Cl) (V : Value) (W : World) (hV : Kl W V c) :
    Calls Try.prog 39 #[V] W fun e W' => ∃ U, e = .returned U ∧ Kl W' U c.cut ∧ Ext W W' := by
  obtain ⟨B, X, R, D, rfl, hB, hX, hR, hD⟩ := hV
  obtain ⟨w, h, nb, b, nx, x, nr, r, nd, d⟩ := c
  dsimp only at hB hX hR hD ⊢
  have HL := Lib.hid (And.intro hB (And.intro hX (And.intro hR hD)))
  go_enter Try.func39, Try.ntmps39
  go_upto_region 1 with fail
  have bb := al2 W (.cells #[.int .i64 w, .int .i64 h, B, X, R, D] 68) (.cells #[.int .i64 0, .int .i64 0, .slice none 0 0, .slice none 0 0, .slice none 0 0, .slice none 0 0] 70)
  have hh0 : ((W.alloc (.cells #[.int .i64 w, .int .i64 h, B, X, R, D] 68)).alloc (.cells #[.int .i64 0, .int .i64 0, .slice none 0 0, .slice none 0 0, .slice none 0 0, .slice none 0 0] 70)).heap[W.heap.size]? = some (.cells #[.int .i64 w, .int .i64 h, B, X, R, D] 68 (0, 0)) := (Below.heap_alloc _ _ _ (by simp)).trans (heap_alloc_new W _)
  have hh1 := heap_alloc_new (W.alloc (.cells #[.int .i64 w, .int .i64 h, B, X, R, D] 68)) (.cells #[.int .i64 0, .int .i64 0, .slice none 0 0, .slice none 0 0, .slice none 0 0, .slice none 0 0] 70)
  simp only [World.size_alloc] at hh1
  have hz : ((W.alloc (.cells #[.int .i64 w, .int .i64 h, B, X, R, D] 68)).alloc (.cells #[.int .i64 0, .int .i64 0, .slice none 0 0, .slice none 0 0, .slice none 0 0, .slice none 0 0] 70)).heap.size = W.heap.size + 1 + 1 := by simp
  generalize (W.alloc (.cells #[.int .i64 w, .int .i64 h, B, X, R, D] 68)).alloc (.cells #[.int .i64 0, .int .i64 0, .slice none 0 0, .slice none 0 0, .slice none 0 0, .slice none 0 0] 70) = W1 at *
  have HB : Hid (Ext W W1) := Lib.hid bb
  have HH := Lib.hid hh1
  obtain ⟨m0, m1, m2, m3, m4, m5, mz, -⟩ := six hh0
  have HM := Lib.hid (And.intro m0 (And.intro m1 (And.intro m2 (And.intro m3 (And.intro m4 m5)))))
  have hz1 : W.heap.size + 1 < W1.heap.size := by omega
  clear bb hh0 hh1 hB hX hR hD m0 m1 m2 m3 m4 m5
  refine wp_region_noPanic ?_
  refine wp_split (S := fun X => Ext W1 X) 17 (by kernel_rfl) (by kernel_rfl) (Ext.drw (Ext.refl _)) ?_
  simp only [List.take_succ_cons, List.take_zero, List.drop_succ_cons, List.drop_zero]
  refine take_at 0 (some 3) (.pointer (some ⟨W.heap.size, 0, none⟩)) rfl rfl (by kernel_rfl) (by kernel_rfl) (by kernel_rfl) (fun _ _ _ h => h) (Or.inl ⟨by rfl, fun w' hSw => ?_⟩) (Ext.drw (Ext.refl _)) ?_
  · skip
    try clear hSw
    go_simp
    all_goals (with_reducible rfl)
  try simp only [Act.put, List.setIfInBounds_toArray, List.set_cons_zero, List.set_cons_succ]
  refine take_at 1 (some 4) (.int .i64 w) rfl rfl (by kernel_rfl) (by kernel_rfl) (by kernel_rfl) (fun _ _ _ h => h) (Or.inl ⟨by rfl, fun w' hSw => ?_⟩) (Ext.drw (Ext.refl _)) ?_
  · have z1 := keepAt hSw mz HM.out.1
    try clear hSw
    go_simp
    all_goals (with_reducible rfl)
  try simp only [Act.put, List.setIfInBounds_toArray, List.set_cons_zero, List.set_cons_succ]
  refine take_at 2 (some 5) (.pointer (some ⟨W.heap.size, 1, none⟩)) rfl rfl (by kernel_rfl) (by kernel_rfl) (by kernel_rfl) (fun _ _ _ h => h) (Or.inl ⟨by rfl, fun w' hSw => ?_⟩) (Ext.drw (Ext.refl _)) ?_
  · skip
    try clear hSw
    go_simp
    all_goals (with_reducible rfl)
  try simp only [Act.put, List.setIfInBounds_toArray, List.set_cons_zero, List.set_cons_succ]
  refine take_at 3 (some 6) (.int .i64 h) rfl rfl (by kernel_rfl) (by kernel_rfl) (by kernel_rfl) (fun _ _ _ h => h) (Or.inl ⟨by rfl, fun w' hSw => ?_⟩) (Ext.drw (Ext.refl _)) ?_
  · have z1 := keepAt hSw mz HM.out.2.1
    try clear hSw
    go_simp
    all_goals (with_reducible rfl)
  try simp only [Act.put, List.setIfInBounds_toArray, List.set_cons_zero, List.set_cons_succ]
  refine take_at 4 (some 7) (.pointer (some ⟨W.heap.size, 2, none⟩)) rfl rfl (by kernel_rfl) (by kernel_rfl) (by kernel_rfl) (fun _ _ _ h => h) (Or.inl ⟨by rfl, fun w' hSw => ?_⟩) (Ext.drw (Ext.refl _)) ?_
  · skip
    try clear hSw
    go_simp
    all_goals (with_reducible rfl)
  try simp only [Act.put, List.setIfInBounds_toArray, List.set_cons_zero, List.set_cons_succ]
  refine take_at 5 (some 8) (B) rfl rfl (by kernel_rfl) (by kernel_rfl) (by kernel_rfl) (fun _ _ _ h => h) (Or.inl ⟨by rfl, fun w' hSw => ?_⟩) (Ext.drw (Ext.refl _)) ?_
  · have z1 := keepAt hSw mz HM.out.2.2.1
    try clear hSw
    go_simp
    all_goals (with_reducible rfl)
  try simp only [Act.put, List.setIfInBounds_toArray, List.set_cons_zero, List.set_cons_succ]
  refine take_at 7 (some 10) (.pointer (some ⟨W.heap.size, 3, none⟩)) rfl rfl (by kernel_rfl) (by kernel_rfl) (by kernel_rfl) (fun _ _ _ h => h) (Or.inl ⟨by rfl, fun w' hSw => ?_⟩) (Ext.drw (Ext.refl _)) ?_
  · skip
    try clear hSw
    go_simp
    all_goals (with_reducible rfl)
  try simp only [Act.put, List.setIfInBounds_toArray, List.set_cons_zero, List.set_cons_succ]
  refine take_at 8 (some 11) (X) rfl rfl (by kernel_rfl) (by kernel_rfl) (by kernel_rfl) (fun _ _ _ h => h) (Or.inl ⟨by rfl, fun w' hSw => ?_⟩) (Ext.drw (Ext.refl _)) ?_
  · have z1 := keepAt hSw mz HM.out.2.2.2.1
    try clear hSw
    go_simp
    all_goals (with_reducible rfl)
  try simp only [Act.put, List.setIfInBounds_toArray, List.set_cons_zero, List.set_cons_succ]
  refine take_at 10 (some 13) (.pointer (some ⟨W.heap.size, 4, none⟩)) rfl rfl (by kernel_rfl) (by kernel_rfl) (by kernel_rfl) (fun _ _ _ h => h) (Or.inl ⟨by rfl, fun w' hSw => ?_⟩) (Ext.drw (Ext.refl _)) ?_
  · skip
    try clear hSw
    go_simp
    all_goals (with_reducible rfl)
  try simp only [Act.put, List.setIfInBounds_toArray, List.set_cons_zero, List.set_cons_succ]
  refine take_at 11 (some 14) (R) rfl rfl (by kernel_rfl) (by kernel_rfl) (by kernel_rfl) (fun _ _ _ h => h) (Or.inl ⟨by rfl, fun w' hSw => ?_⟩) (Ext.drw (Ext.refl _)) ?_
  · have z1 := keepAt hSw mz HM.out.2.2.2.2.1
    try clear hSw
    go_simp
    all_goals (with_reducible rfl)
  try simp only [Act.put, List.setIfInBounds_toArray, List.set_cons_zero, List.set_cons_succ]
  refine take_at 13 (some 16) (.pointer (some ⟨W.heap.size, 5, none⟩)) rfl rfl (by kernel_rfl) (by kernel_rfl) (by kernel_rfl) (fun _ _ _ h => h) (Or.inl ⟨by rfl, fun w' hSw => ?_⟩) (Ext.drw (Ext.refl _)) ?_
  · skip
    try clear hSw
    go_simp
    all_goals (with_reducible rfl)
  try simp only [Act.put, List.setIfInBounds_toArray, List.set_cons_zero, List.set_cons_succ]
  refine take_at 14 (some 17) (D) rfl rfl (by kernel_rfl) (by kernel_rfl) (by kernel_rfl) (fun _ _ _ h => h) (Or.inl ⟨by rfl, fun w' hSw => ?_⟩) (Ext.drw (Ext.refl _)) ?_
  · have z1 := keepAt hSw mz HM.out.2.2.2.2.2
    try clear hSw
    go_simp
    all_goals (with_reducible rfl)
  try simp only [Act.put, List.setIfInBounds_toArray, List.set_cons_zero, List.set_cons_succ]
  refine wpAnyH_ready (rs := [6]) (by kernel_rfl) (by simp) ?_
  refine AllReadyH.cons rfl (fun K hK => ?_) AllReadyH.nil
  go_simp
  refine (few_any nb b B _ (HL.out.1.ext (HB.out.trans (Ext.drw (Ext.refl _))))).mono ?_
  rintro e v6 ⟨U6, rfl, hi6, hb6⟩
  have e6 : Ext W1 v6 := (Ext.drw (Ext.refl _)).trans hb6
  try go_wp2_with fail
  refine hK.out _ _ e6 (fun _ => ?_)
  clear hK K
  try simp only [Act.put, List.setIfInBounds_toArray, List.set_cons_zero, List.set_cons_succ]
  have HI6 := Lib.hid hi6
  obtain ⟨A6, c6, rfl⟩ := shape_own hi6
  clear hi6
  refine wpAnyH_ready (rs := [9]) (by kernel_rfl) (by simp) ?_
  refine AllReadyH.cons rfl (fun K hK => ?_) AllReadyH.nil
  go_simp
  refine (few_any nx x X _ (HL.out.2.1.ext (HB.out.trans e6))).mono ?_
  rintro e v9 ⟨U9, rfl, hi9, hb9⟩
  have e9 : Ext W1 v9 := (e6).trans hb9
  try go_wp2_with fail
  refine hK.out _ _ e9 (fun _ => ?_)
  clear hK K
  try simp only [Act.put, List.setIfInBounds_toArray, List.set_cons_zero, List.set_cons_succ]
  have HI9 := Lib.hid hi9
  obtain ⟨A9, c9, rfl⟩ := shape_own hi9
  clear hi9
  refine wpAnyH_ready (rs := [12]) (by kernel_rfl) (by simp) ?_
  refine AllReadyH.cons rfl (fun K hK => ?_) AllReadyH.nil
  go_simp
  refine (few_any nr r R _ (HL.out.2.2.1.ext (HB.out.trans e9))).mono ?_
  rintro e v12 ⟨U12, rfl, hi12, hb12⟩
  have e12 : Ext W1 v12 := (e9).trans hb12
  try go_wp2_with fail
  refine hK.out _ _ e12 (fun _ => ?_)
  clear hK K
  try simp only [Act.put, List.setIfInBounds_toArray, List.set_cons_zero, List.set_cons_succ]
  have HI12 := Lib.hid hi12
  obtain ⟨A12, c12, rfl⟩ := shape_own hi12
  clear hi12
  refine wpAnyH_ready (rs := [15]) (by kernel_rfl) (by simp) ?_
  refine AllReadyH.cons rfl (fun K hK => ?_) AllReadyH.nil
  go_simp
  refine (few_any nd d D _ (HL.out.2.2.2.ext (HB.out.trans e12))).mono ?_
  rintro e v15 ⟨U15, rfl, hi15, hb15⟩
  have e15 : Ext W1 v15 := (e12).trans hb15
  try go_wp2_with fail
  refine hK.out _ _ e15 (fun _ => ?_)
  clear hK K
  try simp only [Act.put, List.setIfInBounds_toArray, List.set_cons_zero, List.set_cons_succ]
  have HI15 := Lib.hid hi15
  obtain ⟨A15, c15, rfl⟩ := shape_own hi15
  clear hi15
  refine take_at 16 (some 19) (.agg #[.int .i64 w, .int .i64 h, .slice A6 (min nb 50) c6, .slice A9 (min nx 50) c9, .slice A12 (min nr 50) c12, .slice A15 (min nd 50) c15]) rfl rfl (by kernel_rfl) (by kernel_rfl) (by kernel_rfl) (fun _ _ _ h => h) (Or.inl ⟨by rfl, fun w' hSw => ?_⟩) (e15) ?_
  · skip
    try clear hSw
    go_simp
    all_goals (with_reducible rfl)
  try simp only [Act.put, List.setIfInBounds_toArray, List.set_cons_zero, List.set_cons_succ]
  refine wpAnyH_done (by kernel_rfl) ?_ _
  refine cut_normal ?_
  obtain ⟨q0, q1, q2, q3, q4, q5, qz, qf⟩ := six ((Below.block e15 (W.heap.size + 1) hz1).trans HH.out)
  have EX := Lib.hid e15
  clear e15
  go_wp2_with fail
  refine NoPanic.normal ?_
  go_wp2
  refine bodyPost_ret (v := .agg #[.int .i64 w, .int .i64 h, .slice A6 (min nb 50) c6, .slice A9 (min nx 50) c9, .slice A12 (min nr 50) c12, .slice A15 (min nd 50) c15]) (by simp [results, Try.results39, go_sem, q0, q1, q2, q3, q4, q5]) rfl ?_
  have s6 : W.heap.size + 1 < W1.drew.heap.size := by show W.heap.size + 1 < W1.heap.size; omega
  have s9 := Nat.lt_of_lt_of_le s6 hb6.size
  have s12 := Nat.lt_of_lt_of_le s9 hb9.size
  have s15 := Nat.lt_of_lt_of_le s12 hb12.size
  have le : W.heap.size ≤ W.heap.size + 1 := by omega
  refine ⟨_, rfl, ⟨_, _, _, _, rfl, il_sc6 (World.ownsRow.ext HI6.out (hb9.trans (hb12.trans hb15))) s6 _ _ _ _ _ _, il_sc6 (World.ownsRow.ext HI9.out (hb12.trans hb15)) s9 _ _ _ _ _ _, il_sc6 (World.ownsRow.ext HI12.out hb15) s12 _ _ _ _ _ _, il_sc6 HI15.out s15 _ _ _ _ _ _⟩, ?_⟩
  exact (((((((HB.out.trans EX.out).sc le).sc le).sc le).sc le).sc le).sc le)
end Go.Proofs.Ytilcbbdmenknfaa
namespace Go.Proofs.Ytilcbbdmenknfaa
open Go.RowKit

/-- the pairs of neighbours as arcs -/
def Cl.prs (c : Cl) : Ar := ⟨c.nr + c.nd, fun k => if k < c.nr then ((k / (c.w - 1).toNat * c.w.toNat + k % (c.w - 1).toNat : Nat) : Int) else ((k - c.nr : Nat) : Int),
  fun k => if k < c.nr then ((k / (c.w - 1).toNat * c.w.toNat + k % (c.w - 1).toNat + 1 : Nat) : Int) else ((k - c.nr + c.w.toNat : Nat) : Int), fun k => if k < c.nr then c.r k else c.d (k - c.nr)⟩
theorem vCl_ok {c : Cl} (h : vCl c = true) : (1 ≤ c.w ∧ c.w ≤ 6) ∧ (1 ≤ c.h ∧ c.h ≤ 6) ∧ ((c.nb : Int) = c.w * c.h ∧ ∀ k, k < c.nb → 0 ≤ c.b k ∧ c.b k ≤ 1000) ∧ ((c.nx : Int) = c.w * c.h ∧ ∀ k, k < c.nx → 0 ≤ c.x k ∧ c.x k ≤ 1000) ∧ ((c.nr : Int) = (c.w - 1) * c.h ∧ ∀ k, k < c.nr → 0 ≤ c.r k ∧ c.r k ≤ 1000) ∧ ((c.nd : Int) = c.w * (c.h - 1) ∧ ∀ k, k < c.nd → 0 ≤ c.d k ∧ c.d k ≤ 1000) := by
  unfold vCl at h
  simp only [Bool.and_eq_true, bw_iff, okL_iff] at h
  exact h

theorem ext_grow {X w w' : World} {base : Nat} {r : Option Nat} (e : Ext X w) (hg : w.grownBy w' r) (hr : ∀ b, r = some b → base ≤ b) (hb : X.heap.size ≤ base) : Ext X w' :=
  ⟨hg.os.trans e.os, hg.tape.trans e.tape, hg.output.trans e.output, Nat.le_trans e.size hg.size, fun b hb' => (hg.block b (Nat.lt_of_lt_of_le hb' e.size) (fun e2 => by have := hr b e2.symm; omega)).trans (e.block b hb')⟩
set_option maxHeartbeats 4000000 in
set_option maxRecDepth 100000 in
theorem pairs_own (c : Cl) (V : Value) (W : World) (hV : Kl W V c) (hc : vCl c = true) :
    Calls Try.prog 67 #[V] W fun e W' => ∃ U, e = .returned U ∧ W'.ownsRow W.heap.size 65 3 U c.prs.n (acl c.prs c.prs.n) ∧ Ext W W' := by
  obtain ⟨⟨hw1, hw2⟩, ⟨hh1, hh2⟩, -, -, ⟨hnr, hr⟩, ⟨hnd, hd⟩⟩ := vCl_ok hc
  clear hc
  obtain ⟨B, X, R, D, rfl, hB, hX, hR, hD⟩ := hV
  obtain ⟨w, h, nb, b, nx, x, nr, r, nd, d⟩ := c
  dsimp only at hB hX hR hD hw1 hw2 hh1 hh2 hnr hr hnd hd ⊢
  obtain ⟨a, ha⟩ : ∃ a : Ar, a = Cl.prs ⟨w, h, nb, b, nx, x, nr, r, nd, d⟩ := ⟨_, rfl⟩
  rw [← ha]
  have han : a.n = nr + nd := by rw [ha]; rfl
  obtain ⟨Z, hZ⟩ : ∃ Z : Nat, w - 1 = (Z : Int) := ⟨(w - 1).toNat, by omega⟩
  have hwZ : w = (Z : Int) + 1 := by omega
  have hZ5 : Z ≤ 5 := by omega
  have hnr2 : nr ≤ 30 := by have := (side_prod (show 0 ≤ w - 1 by omega) (show w - 1 ≤ 5 by omega) (show 0 ≤ h by omega) hh2).2; omega
  have hnd2 : nd ≤ 30 := by have := (side_prod (show 0 ≤ w by omega) hw2 (show 0 ≤ h - 1 by omega) (show h - 1 ≤ 5 by omega)).2; omega
  have hZp : 0 < nr → 0 < Z := by
    intro h0
    rcases Nat.eq_zero_or_pos Z with e | e
    · rw [hZ, e] at hnr; simp at hnr; omega
    · exact e
  have haf : ∀ k, k < nr → a.f k = ((k / Z * (Z + 1) + k % Z : Nat) : Int) ∧ a.t k = ((k / Z * (Z + 1) + k % Z + 1 : Nat) : Int) ∧ a.c k = r k := by
    intro k hk
    have e1 : (w - 1).toNat = Z := by omega
    have e2 : w.toNat = Z + 1 := by omega
    rw [ha]; unfold Cl.prs; dsimp only
    rw [if_pos hk, if_pos hk, if_pos hk, e1, e2]
    exact ⟨rfl, rfl, rfl⟩
  have hag : ∀ k, a.f (nr + k) = (k : Int) ∧ a.t (nr + k) = (k : Int) + w ∧ a.c (nr + k) = d k := by
    intro k
    have e2 : w.toNat = Z + 1 := by omega
    rw [ha]; unfold Cl.prs; dsimp only
    rw [if_neg (by omega), if_neg (by omega), if_neg (by omega), e2, show nr + k - nr = k by omega]
    exact ⟨rfl, by rw [hwZ, Int.natCast_add]; rfl, rfl⟩
  have HAF := Lib.hid haf; have HAG := Lib.hid hag; have HAN := Lib.hid han
  have HL := Lib.hid (And.intro hR hD)
  have HZ := Lib.hid (And.intro hZ (And.intro hwZ hZp))
  have HRD := Lib.hid (And.intro hr hd)
  clear haf hag han hB hX ha hnr hnd hr hd hZ hwZ hZp hh1 hh2
  obtain ⟨AR, cR, rfl, hcR, hdR, -⟩ := hR
  obtain ⟨AD, cD, rfl, hcD, hdD, -⟩ := hD
  obtain ⟨i0, hi, hz0, hz1, hz2⟩ := info_parts info65
  have HI := Lib.hid (And.intro hi (And.intro hz0 (And.intro hz1 hz2)))
  clear hi hz0 hz1 hz2
  go_enter Try.func67, Try.ntmps67
  go_upto_region 1 with fail
  have bb := al1 W (.cells #[.int .i64 w, .int .i64 h, B, X, .slice AR nr cR, .slice AD nd cD] 70)
  obtain ⟨m0, -, -, -, m4, m5, mz, -⟩ := six (heap_alloc_new W (.cells #[.int .i64 w, .int .i64 h, B, X, .slice AR nr cR, .slice AD nd cD] 70))
  generalize W.alloc (.cells #[.int .i64 w, .int .i64 h, B, X, .slice AR nr cR, .slice AD nd cD] 70) = W1 at *
  have HB : Hid (Ext W W1) := Lib.hid bb
  have HM := Lib.hid (And.intro m0 (And.intro m4 m5))
  clear bb m0 m5
  go_wp2_with fail
  clear m4
  go_loopw [3, 12] (fun q i wr => ∃ (k : Nat), i = .int .i64 k ∧ k ≤ nr ∧ Hid (wr.ownsRow W1.heap.size 65 3 q k (acl a k) ∧ Ext W1 wr)) (fun _ i _ => nr - (intOf i).toNat)
  case atStart => exact ⟨0, rfl, Nat.zero_le _, Lib.hid ⟨World.ownsRow_nil _ _ _ _, Ext.refl _⟩⟩
  case round =>
    obtain ⟨k, rfl, hk, hin⟩ := hrel
    obtain ⟨Av, cv, rfl⟩ := shape_own hin.out.1
    by_cases hlt : k < nr
    · obtain ⟨b1, o1, rfl, -, e1⟩ := Vl.at HL.out.1 (HB.out.trans hin.out.2) hlt
      have m0 := keepAt hin.out.2 mz HM.out.1
      obtain ⟨p, hp⟩ : ∃ p, p = r k := ⟨_, rfl⟩
      rw [← hp] at e1
      go_upto_region 5 with fail
      have hZ0 : 0 < Z := HZ.out.2.2 (by omega)
      obtain ⟨q, hq⟩ : ∃ q, q = k / Z := ⟨_, rfl⟩
      obtain ⟨z, hz⟩ : ∃ z, z = k % Z := ⟨_, rfl⟩
      obtain ⟨P, hP⟩ : ∃ P, P = q * (Z + 1) := ⟨_, rfl⟩
      have hq30 : q ≤ 30 := by have := Nat.div_le_self k Z; omega
      have hz30 : z ≤ 30 := by have := Nat.mod_le k Z; omega
      have hP2 : P ≤ 180 := by rw [hP]; exact Nat.mul_le_mul hq30 (show Z + 1 ≤ 6 by omega)
      have hsub := HZ.out.1
      have hdq : ((k : Int)).tdiv Z = q := by rw [Int.tdiv_eq_ediv_of_nonneg (by omega), ← Int.natCast_ediv, hq]
      have hdq2 : ((k : Int)) / Z = q := by rw [← Int.natCast_ediv, hq]
      have hdm : ((k : Int)).tmod Z = z := by rw [Int.tmod_eq_emod_of_nonneg (by omega), ← Int.natCast_emod, hz]
      have hdm2 : ((k : Int)) % Z = z := by rw [← Int.natCast_emod, hz]
      have hmul : (q : Int) * w = P := by rw [HZ.out.2.1, hP, Int.natCast_mul, Int.natCast_add]; rfl
      have HP3 := Lib.hid (And.intro hp (And.intro hq (And.intro hz hP)))
      have m0d : wr.drew.cell? ⟨W.heap.size, 0, none⟩ = some (.int .i64 w) := m0
      clear hp hq hz hP m0 e1
      go_region
      try clear m0d
      have hown := World.ownsRow.ext hin.out.1 (Ext.alc (Ext.drw (Ext.refl wr)) (.cells #[.int .i64 ((P : Int) + z), .int .i64 ((P : Int) + z + 1), .int .i64 (r k)] 65))
      go_wp2_with (at_builtin; refine wpList_append_own _ rfl _ _ 28 rfl W1.heap.size 65 i0 (.agg #[.int .i64 0, .int .i64 0, .int .i64 0]) 3 24 Try.underlying28 HI.out.1 HI.out.2.1 HI.out.2.2.1 HI.out.2.2.2 rfl (by decide) _ k _ rfl hown ⟨wr.heap.size, 0, none⟩ 1 1 [.int .i64 ((P : Int) + z), .int .i64 ((P : Int) + z + 1), .int .i64 (r k)] rfl rfl ?c1 ?c2 ?c3 ?c4 ?c5 ?_)
      case c1 =>
        intro jj uu hj
        match jj, hj with
        | 0, hj => simp at hj; subst hj; simp [Addr.add]
        | 1, hj => simp at hj; subst hj; simp [Addr.add]
        | 2, hj => simp at hj; subst hj; simp [Addr.add]
        | jj + 3, hj => simp at hj
      case c2 => intro uu hu; simp at hu; rcases hu with rfl | rfl | rfl <;> rfl
      case c3 => unfold maxLen; omega
      case c4 => omega
      case c5 => have := hin.out.2.size; simp; omega
      intro v' w2 hown' hgrow _hnil
      clear _hnil
      have hex : Ext W1 w2 := ext_grow ((hin.out.2.drw).alc _) hgrow (fun b' hb' => (World.ownsRow.lt hown b' hb').1) (Nat.le_refl _)
      have HN := Lib.hid (And.intro hown' hex)
      clear hown' hex hgrow hown
      go_wp2
      go_roundw
      case rel =>
        refine ⟨k + 1, by go_num, by omega, Lib.hid ⟨?_, HN.out.2⟩⟩
        obtain ⟨y1, y2, y3⟩ := HAF.out k hlt
        have s1 : a.f k = (P : Int) + z := by rw [y1, HP3.out.2.2.2, HP3.out.2.1, HP3.out.2.2.1, Int.natCast_add]
        have s2 : a.t k = (P : Int) + z + 1 := by rw [y2, HP3.out.2.2.2, HP3.out.2.1, HP3.out.2.2.1, Int.natCast_add, Int.natCast_add]; rfl
        rw [acl_succ, s1, s2, y3]
        exact HN.out.1
      case measure => simp [intOf]; omega
    · obtain rfl : nr = k := by omega
      have hnl : ¬ (nr : Int) < nr := by omega
      obtain ⟨wo, rfl⟩ : ∃ w, w = wr := ⟨_, rfl⟩
      have m5 := keepAt hin.out.2 mz HM.out.2.2
      have HO := hin
      clear hin
      go_wp2_with fail
      clear m5
      go_loopw [3, 43] (fun q i wr => ∃ (k : Nat), i = .int .i64 k ∧ k ≤ nd ∧ Hid (wr.ownsRow W1.heap.size 65 3 q (nr + k) (acl a (nr + k)) ∧ Ext W1 wr)) (fun _ i _ => nd - (intOf i).toNat)
      case atStart => exact ⟨0, rfl, Nat.zero_le _, HO⟩
      case round =>
        obtain ⟨k, rfl, hk, hin⟩ := hrel
        obtain ⟨Aw, cw, rfl⟩ := shape_own hin.out.1
        by_cases hlt : k < nd
        · obtain ⟨b2, o2, rfl, -, e2⟩ := Vl.at HL.out.2 (HB.out.trans hin.out.2) hlt
          have m0 := keepAt hin.out.2 mz HM.out.1
          have hown := World.ownsRow.ext hin.out.1 (Ext.alc (Ext.refl wr) (.cells #[.int .i64 k, .int .i64 ((k : Int) + w), .int .i64 (d k)] 65))
          go_wp2_with (at_builtin; refine wpList_append_own _ rfl _ _ 28 rfl W1.heap.size 65 i0 (.agg #[.int .i64 0, .int .i64 0, .int .i64 0]) 3 24 Try.underlying28 HI.out.1 HI.out.2.1 HI.out.2.2.1 HI.out.2.2.2 rfl (by decide) _ (nr + k) _ rfl hown ⟨wr.heap.size, 0, none⟩ 1 1 [.int .i64 k, .int .i64 ((k : Int) + w), .int .i64 (d k)] rfl rfl ?c1 ?c2 ?c3 ?c4 ?c5 ?_)
          case c1 =>
            intro jj uu hj
            match jj, hj with
            | 0, hj => simp at hj; subst hj; simp [Addr.add]
            | 1, hj => simp at hj; subst hj; simp [Addr.add]
            | 2, hj => simp at hj; subst hj; simp [Addr.add]
            | jj + 3, hj => simp at hj
          case c2 => intro uu hu; simp at hu; rcases hu with rfl | rfl | rfl <;> rfl
          case c3 => unfold maxLen; omega
          case c4 => omega
          case c5 => have := hin.out.2.size; simp; omega
          intro v' w2 hown' hgrow _hnil
          clear _hnil
          have hex : Ext W1 w2 := ext_grow (hin.out.2.alc _) hgrow (fun b' hb' => (World.ownsRow.lt hown b' hb').1) (Nat.le_refl _)
          have HN := Lib.hid (And.intro hown' hex)
          clear hown' hex hgrow hown
          clear m0 e2
          go_wp2
          go_roundw
          case rel =>
            refine ⟨k + 1, by go_num, by omega, Lib.hid ⟨?_, HN.out.2⟩⟩
            obtain ⟨y1, y2, y3⟩ := HAG.out k
            rw [show nr + (k + 1) = nr + k + 1 by omega, acl_succ, y1, y2, y3]
            exact HN.out.1
          case measure => simp [intOf]; omega
        · obtain rfl : nd = k := by omega
          have hR : wr.ownsRow W.heap.size 65 3 (.slice Aw (nr + nd) cw) a.n (acl a a.n) := own_mono (by rw [HAN.out]; exact hin.out.1) HB.out.size
          have HR := Lib.hid hR
          clear hR
          go_wp2
          go_ret
          exact ⟨_, rfl, HR.out, HB.out.trans hin.out.2⟩
theorem pairs_any (c : Cl) (V : Value) (W : World) (hV : Kl W V c) (hc : vCl c = true) :
    Calls Try.prog 67 #[V] W fun e W' => ∃ U, e = .returned U ∧ Al W' U c.prs ∧ Ext W W' := by
  refine (pairs_own c V W hV hc).mono ?_
  rintro e w ⟨U, rfl, h, hx⟩
  exact ⟨U, rfl, Al.own h, hx⟩
end Go.Proofs.Ytilcbbdmenknfaa
namespace Go.Proofs.Ytilcbbdmenknfaa
open Go.RowKit

theorem prs_in {c : Cl} (hc : vCl c = true) {k : Nat} (hk : k < c.prs.n) : ∃ u v : Nat, c.prs.f k = (u : Int) ∧ c.prs.t k = (v : Int) ∧ u < c.nb ∧ v < c.nb ∧ 0 ≤ c.prs.c k ∧ c.prs.c k ≤ 1000 := by
  obtain ⟨⟨hw1, hw2⟩, ⟨hh1, hh2⟩, ⟨hnb, -⟩, -, ⟨hnr, hr⟩, ⟨hnd, hd⟩⟩ := vCl_ok hc
  obtain ⟨Z, hZ⟩ : ∃ Z : Nat, (c.w - 1).toNat = Z := ⟨_, rfl⟩
  obtain ⟨H, hH⟩ : ∃ H : Nat, c.h = (H : Int) + 1 := ⟨(c.h - 1).toNat, by omega⟩
  have hw : c.w = (Z : Int) + 1 := by omega
  have hw3 : c.w.toNat = Z + 1 := by omega
  have n1 : c.nb = (Z + 1) * (H + 1) := by rw [hw, hH] at hnb; exact_mod_cast hnb
  have n2 : c.nr = Z * (H + 1) := by
    have : c.w - 1 = (Z : Int) := by omega
    rw [this, hH] at hnr; exact_mod_cast hnr
  have n3 : c.nd = (Z + 1) * H := by
    have : c.h - 1 = (H : Int) := by omega
    rw [this, hw] at hnd; exact_mod_cast hnd
  have hk' : k < c.nr + c.nd := hk
  have n4 : (Z + 1) * (H + 1) = (Z + 1) * H + (Z + 1) := by rw [Nat.mul_add, Nat.mul_one]
  unfold Cl.prs
  dsimp only
  rw [hZ, hw3]
  by_cases h : k < c.nr
  · rw [if_pos h, if_pos h, if_pos h]
    have hZ0 : 0 < Z := by
      rcases Nat.eq_zero_or_pos Z with e | e
      · rw [n2, e] at h; simp at h
      · exact e
    have q1 : k / Z < H + 1 := by rw [Nat.div_lt_iff_lt_mul hZ0, Nat.mul_comm, ← n2]; exact h
    have q2 : k % Z < Z := Nat.mod_lt _ hZ0
    have q3 : k / Z * (Z + 1) ≤ H * (Z + 1) := Nat.mul_le_mul_right _ (by omega)
    have q4 : H * (Z + 1) = (Z + 1) * H := Nat.mul_comm _ _
    exact ⟨_, _, rfl, rfl, by omega, by omega, (hr k h).1, (hr k h).2⟩
  · rw [if_neg h, if_neg h, if_neg h]
    exact ⟨_, _, rfl, rfl, by omega, by omega, (hd _ (by omega)).1, (hd _ (by omega)).2⟩

/-- what cell k costs -/
def Cl.dt (c : Cl) (r : Int) (l : Nat → Bool) (k : Nat) : Int := if l k = true then c.x k + r else c.b k
/-- what pair k costs -/
def Cl.pt (c : Cl) (l : Nat → Bool) (k : Nat) : Int := if l (c.prs.f k).toNat = l (c.prs.t k).toNat then 0 else c.prs.c k
/-- the energy -/
def Cl.en (c : Cl) (r : Int) (l : Nat → Bool) : Int := sm c.nb (c.dt r l) + sm c.prs.n (c.pt l)

theorem sm_abs {n : Nat} {f : Nat → Int} (h : ∀ i, i < n → -11000 ≤ f i ∧ f i ≤ 11000) : -(11000 * (n : Int)) ≤ sm n f ∧ sm n f ≤ 11000 * (n : Int) := by
  induction n with
  | zero => simp [sm]
  | succ n ih =>
    have h1 := ih (fun i hi => h i (by omega))
    have h2 := h n (by omega)
    show -(11000 * ((n + 1 : Nat) : Int)) ≤ sm n f + f n ∧ sm n f + f n ≤ 11000 * ((n + 1 : Nat) : Int)
    omega
theorem en_sub {c : Cl} (hc : vCl c = true) (r : Int) (s t : Nat → Bool) : c.en r (fun k => s k && t k) + c.en r (fun k => s k || t k) ≤ c.en r s + c.en r t := by
  have h1 : sm c.nb (c.dt r fun k => s k && t k) + sm c.nb (c.dt r fun k => s k || t k) = sm c.nb (c.dt r s) + sm c.nb (c.dt r t) := by
    rw [← sm_add, ← sm_add]
    refine sm_congr fun k hk => ?_
    unfold Cl.dt
    dsimp only
    have tt : ∀ a b : Bool, (if (a && b) = true then c.x k + r else c.b k) + (if (a || b) = true then c.x k + r else c.b k) = (if a = true then c.x k + r else c.b k) + (if b = true then c.x k + r else c.b k) := by
      intro a b
      cases a <;> cases b <;> simp <;> omega
    exact tt _ _
  have h2 : sm c.prs.n (c.pt fun k => s k && t k) + sm c.prs.n (c.pt fun k => s k || t k) ≤ sm c.prs.n (c.pt s) + sm c.prs.n (c.pt t) := by
    rw [← sm_add, ← sm_add]
    refine sm_le fun k hk => ?_
    obtain ⟨u, v, -, -, -, -, h0, -⟩ := prs_in hc hk
    unfold Cl.pt
    dsimp only
    have tt : ∀ a b e g : Bool, (if (a && e) = (b && g) then 0 else c.prs.c k) + (if (a || e) = (b || g) then 0 else c.prs.c k) ≤ (if a = b then 0 else c.prs.c k) + (if e = g then 0 else c.prs.c k) := by
      intro a b e g
      cases a <;> cases b <;> cases e <;> cases g <;> simp <;> omega
    exact tt _ _ _ _
  unfold Cl.en
  omega
theorem en_congr {c : Cl} (hc : vCl c = true) (r : Int) {s t : Nat → Bool} (h : ∀ k, k < c.nb → s k = t k) : c.en r s = c.en r t := by
  unfold Cl.en
  congr 1
  · exact sm_congr fun k hk => by unfold Cl.dt; rw [h k hk]
  · refine sm_congr fun k hk => ?_
    obtain ⟨u, v, h1, h2, h3, h4, -⟩ := prs_in hc hk
    unfold Cl.pt
    rw [h1, h2, Int.toNat_natCast, Int.toNat_natCast, h u h3, h v h4]
end Go.Proofs.Ytilcbbdmenknfaa
