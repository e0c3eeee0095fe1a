/- Walks: isCloth. -/
import Derived.Test.YtilcbbdmenknfaaH1
namespace Go.Proofs.Ytilcbbdmenknfaa
open Go.RowKit

/-- a cloth: its measures, its costs of no wax, of wax, of what lies to the right and below -/
structure Cl where
  w : Int
  h : Int
  nb : Nat
  b : Nat → Int
  nx : Nat
  x : Nat → Int
  nr : Nat
  r : Nat → Int
  nd : Nat
  d : Nat → Int
/-- a cloth's value -/
def Kl (W : World) (v : Value) (c : Cl) : Prop := ∃ B X R D, v = .agg #[.int .i64 c.w, .int .i64 c.h, B, X, R, D] ∧ Il W B c.nb c.b ∧ Il W X c.nx c.x ∧ Il W R c.nr c.r ∧ Il W D c.nd c.d
theorem Kl.ext {W X : World} {v : Value} {c : Cl} (h : Kl W v c) (e : Ext W X) : Kl X v c := by
  obtain ⟨B, Y, R, D, rfl, h1, h2, h3, h4⟩ := h
  exact ⟨B, Y, R, D, rfl, h1.ext e, h2.ext e, h3.ext e, h4.ext e⟩
/-- is it a cloth? -/
def vCl (c : Cl) : Bool := bw c.w 1 6 && (bw c.h 1 6 && (okL c.nb c.b (c.w * c.h) && (okL c.nx c.x (c.w * c.h) && (okL c.nr c.r ((c.w - 1) * c.h) && okL c.nd c.d (c.w * (c.h - 1))))))
theorem side_prod {a b m n : Int} (h1 : 0 ≤ a) (h2 : a ≤ m) (h3 : 0 ≤ b) (h4 : b ≤ n) : 0 ≤ a * b ∧ a * b ≤ m * n := ⟨Int.mul_nonneg h1 h3, Int.mul_le_mul h2 h4 h3 (Int.le_trans h1 h2)⟩
theorem six {w : World} {b : Nat} {t : TypeId} {x0 x1 x2 x3 x4 x5 : Value} (h : w.heap[b]? = some (.cells #[x0, x1, x2, x3, x4, x5] t (0, 0))) : w.cell? ⟨b, 0, none⟩ = some x0 ∧ w.cell? ⟨b, 1, none⟩ = some x1 ∧ w.cell? ⟨b, 2, none⟩ = some x2 ∧ w.cell? ⟨b, 3, none⟩ = some x3 ∧ w.cell? ⟨b, 4, none⟩ = some x4 ∧ w.cell? ⟨b, 5, none⟩ = some x5 ∧ b < w.heap.size ∧ ∀ o, w.frozen? ⟨b, o, none⟩ = false :=
  ⟨cell_of_row w b 0 _ _ (0, 0) h, cell_of_row w b 1 _ _ (0, 0) h, cell_of_row w b 2 _ _ (0, 0) h, cell_of_row w b 3 _ _ (0, 0) h, cell_of_row w b 4 _ _ (0, 0) h, cell_of_row w b 5 _ _ (0, 0) h, (Array.getElem?_eq_some_iff.1 h).1, fun o => by simp [World.frozen?, h]⟩

set_option maxHeartbeats 4000000 in
set_option maxRecDepth 100000 in
theorem isCloth_any (c : Cl) (V : Value) (W : World) (hV : Kl W V c) :
    Calls Try.prog 66 #[V] W fun e W' => e = .returned (.bool (vCl c)) ∧ Ext W W' := by
  obtain ⟨y, hy⟩ : ∃ y, y = vCl c := ⟨_, rfl⟩
  rw [← hy]
  have HY := Lib.hid hy; clear hy
  obtain ⟨B, X, R, D, rfl, hB, hX, hR, hD⟩ := hV
  obtain ⟨w, h, nb, b, nx, x, nr, r, nd, d⟩ := c
  dsimp only at hB hX hR hD ⊢
  have HL := Lib.hid (And.intro hB (And.intro hX (And.intro hR hD)))
  go_enter Try.func66, Try.ntmps66
  go_upto_region 1 with fail
  have bb := al1 W (.cells #[.int .i64 w, .int .i64 h, B, X, R, D] 70)
  obtain ⟨m0, m1, m2, m3, m4, m5, mz, -⟩ := six (heap_alloc_new W (.cells #[.int .i64 w, .int .i64 h, B, X, R, D] 70))
  generalize W.alloc (.cells #[.int .i64 w, .int .i64 h, B, X, R, D] 70) = W1 at *
  have HB : Hid (Ext W W1) := Lib.hid bb
  clear bb hB hX hR hD
  go_wp2_with fail
  refine (isBetween_bw _ _ _ _).mono ?_
  rintro e w0 ⟨rfl, rfl⟩
  cases q1 : bw w 1 6
  · have hy : y = false := by rw [HY.out]; simp only [vCl, q1, Bool.false_and, Bool.true_and]
    have HY2 := Lib.hid hy; clear hy HY
    try clear m0
    try clear m1
    go_wp2
    go_ret
    exact ⟨by rw [HY2.out]; rfl, HB.out⟩
  · obtain ⟨hw1, hw2⟩ := bw_iff.1 q1
    go_wp2_with fail
    refine (isBetween_bw _ _ _ _).mono ?_
    rintro e w0 ⟨rfl, rfl⟩
    cases q2 : bw h 1 6
    · have hy : y = false := by rw [HY.out]; simp only [vCl, q1, q2, Bool.false_and, Bool.true_and]
      have HY2 := Lib.hid hy; clear hy HY
      try clear m0
      try clear m1
      go_wp2
      go_ret
      exact ⟨by rw [HY2.out]; rfl, HB.out⟩
    · obtain ⟨hh1, hh2⟩ := bw_iff.1 q2
      obtain ⟨pa1, pa2⟩ := side_prod (show 0 ≤ w by omega) hw2 (show 0 ≤ h by omega) hh2
      obtain ⟨pb1, pb2⟩ := side_prod (show 0 ≤ w - 1 by omega) (show w - 1 ≤ 5 by omega) (show 0 ≤ h by omega) hh2
      obtain ⟨pc1, pc2⟩ := side_prod (show 0 ≤ w by omega) hw2 (show 0 ≤ h - 1 by omega) (show h - 1 ≤ 5 by omega)
      go_wp2_with fail
      refine (areCosts_any nb b (w * h) B _ (HL.out.1.ext HB.out)).mono ?_
      rintro e w1 ⟨rfl, hx⟩
      replace m0 := keepAt hx mz m0
      replace m1 := keepAt hx mz m1
      replace m2 := keepAt hx mz m2
      replace m3 := keepAt hx mz m3
      replace m4 := keepAt hx mz m4
      replace m5 := keepAt hx mz m5
      replace mz := Nat.lt_of_lt_of_le mz hx.size
      have HX1 : Hid (Ext W w1) := Lib.hid (HB.out.trans hx)
      clear hx
      cases q3 : okL nb b (w * h)
      · have hy : y = false := by rw [HY.out]; simp only [vCl, q1, q2, q3, Bool.false_and, Bool.true_and]
        have HY2 := Lib.hid hy; clear hy HY
        try clear m0
        try clear m1
        go_wp2
        go_ret
        exact ⟨by rw [HY2.out]; rfl, HX1.out⟩
      · have _u := 0
        go_wp2_with fail
        refine (areCosts_any nx x (w * h) X _ (HL.out.2.1.ext HX1.out)).mono ?_
        rintro e w2 ⟨rfl, hx⟩
        replace m0 := keepAt hx mz m0
        replace m1 := keepAt hx mz m1
        replace m2 := keepAt hx mz m2
        replace m3 := keepAt hx mz m3
        replace m4 := keepAt hx mz m4
        replace m5 := keepAt hx mz m5
        replace mz := Nat.lt_of_lt_of_le mz hx.size
        have HX2 : Hid (Ext W w2) := Lib.hid (HX1.out.trans hx)
        clear hx
        cases q4 : okL nx x (w * h)
        · have hy : y = false := by rw [HY.out]; simp only [vCl, q1, q2, q3, q4, Bool.false_and, Bool.true_and]
          have HY2 := Lib.hid hy; clear hy HY
          try clear m0
          try clear m1
          go_wp2
          go_ret
          exact ⟨by rw [HY2.out]; rfl, HX2.out⟩
        · have _u := 0
          go_wp2_with fail
          refine (areCosts_any nr r ((w - 1) * h) R _ (HL.out.2.2.1.ext HX2.out)).mono ?_
          rintro e w3 ⟨rfl, hx⟩
          replace m0 := keepAt hx mz m0
          replace m1 := keepAt hx mz m1
          replace m2 := keepAt hx mz m2
          replace m3 := keepAt hx mz m3
          replace m4 := keepAt hx mz m4
          replace m5 := keepAt hx mz m5
          replace mz := Nat.lt_of_lt_of_le mz hx.size
          have HX3 : Hid (Ext W w3) := Lib.hid (HX2.out.trans hx)
          clear hx
          cases q5 : okL nr r ((w - 1) * h)
          · have hy : y = false := by rw [HY.out]; simp only [vCl, q1, q2, q3, q4, q5, Bool.false_and, Bool.true_and]
            have HY2 := Lib.hid hy; clear hy HY
            try clear m0
            try clear m1
            go_wp2
            go_ret
            exact ⟨by rw [HY2.out]; rfl, HX3.out⟩
          · have _u := 0
            go_wp2_with fail
            refine (areCosts_any nd d (w * (h - 1)) D _ (HL.out.2.2.2.ext HX3.out)).mono ?_
            rintro e w4 ⟨rfl, hx⟩
            replace m0 := keepAt hx mz m0
            replace m1 := keepAt hx mz m1
            replace m2 := keepAt hx mz m2
            replace m3 := keepAt hx mz m3
            replace m4 := keepAt hx mz m4
            replace m5 := keepAt hx mz m5
            replace mz := Nat.lt_of_lt_of_le mz hx.size
            have HX4 : Hid (Ext W w4) := Lib.hid (HX3.out.trans hx)
            clear hx
            cases q6 : okL nd d (w * (h - 1))
            · have hy : y = false := by rw [HY.out]; simp only [vCl, q1, q2, q3, q4, q5, q6, Bool.false_and, Bool.true_and]
              have HY2 := Lib.hid hy; clear hy HY
              try clear m0
              try clear m1
              go_wp2
              go_ret
              exact ⟨by rw [HY2.out]; rfl, HX4.out⟩
            · have hy : y = true := by rw [HY.out]; simp only [vCl, q1, q2, q3, q4, q5, q6, Bool.true_and]
              have HY2 := Lib.hid hy; clear hy HY
              go_wp2
              go_ret
              exact ⟨by rw [HY2.out]; rfl, HX4.out⟩
end Go.Proofs.Ytilcbbdmenknfaa
