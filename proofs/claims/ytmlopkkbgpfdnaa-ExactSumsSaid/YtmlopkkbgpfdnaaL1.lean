/- Walks: the law ExactSums. -/
import Derived.Test.YtmlopkkbgpfdnaaE4
namespace Go.Proofs.Ytmlopkkbgpfdnaa
open Go.RowKit

/-- the two boxed arguments of a law, still as they were -/
structure Bx (w W : World) (p q : Bool) (A A' : Option Addr) (n c n' c' : Nat) : Prop where
  b : Below w.heap.size w W
  z : w.heap.size + 1 + 1 ≤ W.heap.size
  c10 : W.cell? ⟨w.heap.size, 0, none⟩ = some (.bool p)
  c11 : W.cell? ⟨w.heap.size, 1, none⟩ = some (.slice A n c)
  c20 : W.cell? ⟨w.heap.size + 1, 0, none⟩ = some (.bool q)
  c21 : W.cell? ⟨w.heap.size + 1, 1, none⟩ = some (.slice A' n' c')

section
variable {w W W' : World} {p q : Bool} {A A' : Option Addr} {n c n' c' : Nat}
theorem Bx.init (w : World) (p q : Bool) (A A' : Option Addr) (n c n' c' : Nat) (t t' : TypeId) : Bx w ((w.alloc (.cells #[.bool p, .slice A n c] t)).alloc (.cells #[.bool q, .slice A' n' c'] t')) p q A A' n c n' c' :=
  ⟨below2 _ _ _, by simp, two1 0, two1 1, two2 0, two2 1⟩
theorem Bx.next (h : Bx w W p q A A' n c n' c') (hb : Below W.heap.size W W') : Bx w W' p q A A' n c n' c' :=
  ⟨h.b.trans (hb.mono h.b.size), Nat.le_trans h.z hb.size, keepAt hb (by have := h.z; omega) h.c10, keepAt hb (by have := h.z; omega) h.c11, keepAt hb (by have := h.z; omega) h.c20, keepAt hb (by have := h.z; omega) h.c21⟩
theorem Bx.alloc (h : Bx w W p q A A' n c n' c') (o : Obj) : Bx w (W.alloc o) p q A A' n c n' c' := h.next (below1 _ _)
theorem Bx.set2 (h : Bx w W p q A A' n c n' c') {g : Nat} (hg : w.heap.size + 1 + 1 ≤ g) (u v : Value) : Bx w ((W.setCell ⟨g, 0, none⟩ u).setCell ⟨g, 1, none⟩ v) p q A A' n c n' c' :=
  ⟨below_set2 h.b (by omega) _ _, by simpa [World.setCell] using h.z, (far2 (by omega)).trans h.c10, (far2 (by omega)).trans h.c11, (far2 (by omega)).trans h.c20, (far2 (by omega)).trans h.c21⟩
end

set_option maxHeartbeats 2000000 in
set_option maxRecDepth 100000 in
theorem exactSums_walk (p q : Bool) (A A' : Option Addr) (n c n' c' : Nat) (l l' : List Nat) (w : World) (hx : Wd w (.slice A n c) l) (hy : Wd w (.slice A' n' c') l') :
    Calls Try.prog 4 #[.agg #[.bool p, .slice A n c], .agg #[.bool q, .slice A' n' c']] w fun e w' => e = .returned (.bool true) ∧ Below w.heap.size w w' := by
  have Hx := Lib.hid hx; clear hx
  have Hy := Lib.hid hy; clear hy
  obtain ⟨ca, hca⟩ : ∃ ca, ca = cmpA p q l l' := ⟨_, rfl⟩
  obtain ⟨ce, hce⟩ : ∃ ce, ce = cmpE p q l l' := ⟨_, rfl⟩
  have Hca := Lib.hid hca; clear hca
  have Hce := Lib.hid hce; clear hce
  go_enter Try.func4, Try.ntmps4
  go_wp2_with fail
  have B0 := Lib.hid (Bx.init w p q A A' n c n' c' 24 24)
  refine (exactCmp_u p q A A' n c n' c' l l' _ (Hx.out.below B0.out.b) (Hy.out.below B0.out.b)).mono ?_
  rintro e w1 ⟨rfl, hb⟩
  rw [← Hca.out, ← Hce.out]
  have B1 := Lib.hid (B0.out.next hb); clear hb B0
  obtain ⟨-, -, c10, c11, c20, c21⟩ := B1.out
  go_wp2_with fail
  refine (refCmp_u p q A A' n c n' c' l l' _ (Hx.out.below B1.out.b) (Hy.out.below B1.out.b)).mono ?_
  rintro e w2 ⟨rfl, hb⟩
  rw [← Hca.out, ← Hce.out]
  have B2 := Lib.hid (B1.out.next hb); clear hb B1 c10 c11 c20 c21
  obtain ⟨-, -, c10, c11, c20, c21⟩ := B2.out
  have ha1 : (ca != ca) = false := by simp
  have ha2 : (ce != ce) = false := by simp
  go_wp2_with fail
  refine (awake_any _).mono ?_
  rintro e w3 ⟨rfl, hb⟩
  have B3 := Lib.hid (B2.out.next hb); clear hb B2 c10 c11 c20 c21 ha1 ha2 Hca Hce
  obtain ⟨-, hz3, c10, c11, c20, c21⟩ := B3.out
  obtain ⟨zaAdd, hza⟩ : ∃ z, z = ansZ p q l l' (numOf p l + numOf q l') := ⟨_, rfl⟩
  obtain ⟨aeAdd, hae⟩ : ∃ z, z = ansE p q l l' (numOf p l + numOf q l') := ⟨_, rfl⟩
  have Hza := Lib.hid hza; clear hza
  have Hae := Lib.hid hae; clear hae
  go_wp2_with fail
  refine (exactAdd_u p q A A' n c n' c' l l' _ (Hx.out.below B3.out.b) (Hy.out.below B3.out.b)).mono ?_
  rintro e w4 ⟨b1, A1, n1, c1, rfl, hr, hb⟩
  rw [← Hae.out]
  rw [← Hza.out] at hr
  have B4 := Lib.hid ((B3.out.next hb).alloc (.cells #[.bool b1, .slice A1 n1 c1] 24))
  have z4 : w.heap.size + 1 + 1 ≤ w4.heap.size := (B3.out.next hb).z
  have r4 := Lib.hid (hr.below (below1 w4 (.cells #[.bool b1, .slice A1 n1 c1] 24)))
  clear hb hr B3 c10 c11 c20 c21
  obtain ⟨-, -, c10, c11, c20, c21⟩ := B4.out
  have R4 := Lib.hid (RB.c1 w4 b1 A1 n1 c1 24)
  have d0 : (w4.alloc (.cells #[.bool b1, .slice A1 n1 c1] 24)).cell? ⟨w4.heap.size, 0, none⟩ = some (.bool b1) := by rw [World.cell?_alloc_new]; rfl
  have d1 : (w4.alloc (.cells #[.bool b1, .slice A1 n1 c1] 24)).cell? ⟨w4.heap.size, 1, none⟩ = some (.slice A1 n1 c1) := by rw [World.cell?_alloc_new]; rfl
  have s4 : (w4.alloc (.cells #[.bool b1, .slice A1 n1 c1] 24)).heap.size = w4.heap.size + 1 := by simp
  have S4 := Lib.hid s4; clear s4
  have D0 := Lib.hid d0; have D1 := Lib.hid d1; clear d0 d1
  obtain ⟨g9, hg9⟩ : ∃ g9, g9 = w4.heap.size := ⟨_, rfl⟩
  go_wp2_with fail
  rw [← hg9]
  rw [← hg9] at R4 D0 D1 S4 z4
  generalize (w4.alloc (.cells #[.bool b1, .slice A1 n1 c1] 24)) = W4 at *
  clear hg9
  refine (refAdd_u p q A A' n c n' c' l l' _ (Hx.out.below B4.out.b) (Hy.out.below B4.out.b)).mono ?_
  rintro e w5 ⟨b2, A2, n2, c2, rfl, hr, hb⟩
  rw [← Hae.out]
  rw [← Hza.out] at hr
  have z5 : g9 + 1 ≤ w5.heap.size := by have := hb.size; rw [S4.out] at this; exact this
  have e0 := (keepAt hb (by rw [S4.out]; omega) D0.out)
  have e1 := (keepAt hb (by rw [S4.out]; omega) D1.out)
  have R5 := Lib.hid (R4.out.below hb (by rw [S4.out]; omega))
  have B5 := Lib.hid (B4.out.next hb)
  have B5a := Lib.hid (B5.out.alloc (.cells #[.bool b2, .slice A2 n2 c2] 24))
  have r5a := Lib.hid ((r4.out.below hb).below (below1 w5 (.cells #[.bool b2, .slice A2 n2 c2] 24)))
  have r5b := Lib.hid (hr.below (below1 w5 (.cells #[.bool b2, .slice A2 n2 c2] 24)))
  clear hb hr B4 R4 D0 D1 S4 r4 c10 c11 c20 c21 B5
  obtain ⟨-, -, c10, c11, c20, c21⟩ := B5a.out
  have R5a := Lib.hid (R5.out.alloc (.cells #[.bool b2, .slice A2 n2 c2] 24))
  have R5b := Lib.hid (RB.c1 w5 b2 A2 n2 c2 24)
  have f0 : (w5.alloc (.cells #[.bool b2, .slice A2 n2 c2] 24)).cell? ⟨g9, 0, none⟩ = some (.bool b1) := by rw [World.cell?_alloc_past _ _ _ (by omega)]; exact e0
  have f1 : (w5.alloc (.cells #[.bool b2, .slice A2 n2 c2] 24)).cell? ⟨g9, 1, none⟩ = some (.slice A1 n1 c1) := by rw [World.cell?_alloc_past _ _ _ (by omega)]; exact e1
  have s5 : (w5.alloc (.cells #[.bool b2, .slice A2 n2 c2] 24)).heap.size = w5.heap.size + 1 := by simp
  have S5 := Lib.hid s5; clear s5 e0 e1 R5
  obtain ⟨g10, hg10⟩ : ∃ g10, g10 = w5.heap.size := ⟨_, rfl⟩
  go_wp2_with fail
  rw [← hg10] at R5b S5 z5
  generalize (w5.alloc (.cells #[.bool b2, .slice A2 n2 c2] 24)) = W5 at *
  try rw [← hg10]
  clear hg10
  refine (sameR_any zaAdd zaAdd _ _ _ r5a.out r5b.out).mono ?_
  rintro e w6 ⟨rfl, hb⟩
  have B6 := Lib.hid (B5a.out.next hb)
  have R6a := Lib.hid (R5a.out.below hb (by rw [S5.out]; omega))
  have R6b := Lib.hid (R5b.out.below hb (by rw [S5.out]; omega))
  have Z6 : g10 + 1 ≤ w6.heap.size := by have := hb.size; rw [S5.out] at this; exact this
  clear hb B5a R5a R5b S5 r5a r5b c10 c11 c20 c21 f0 f1
  obtain ⟨-, -, c10, c11, c20, c21⟩ := B6.out
  have hd : decide (zaAdd = zaAdd) = true := by simp
  rw [hd]
  clear hd
  have ha1 : (aeAdd != aeAdd) = false := by simp
  obtain ⟨zaSub, hza⟩ : ∃ z, z = ansZ p q l l' (numOf p l - numOf q l') := ⟨_, rfl⟩
  obtain ⟨aeSub, hae⟩ : ∃ z, z = ansE p q l l' (numOf p l - numOf q l') := ⟨_, rfl⟩
  have Hza := Lib.hid hza; clear hza
  have Hae := Lib.hid hae; clear hae
  go_wp2_with fail
  clear ha1
  refine (exactSub_u p q A A' n c n' c' l l' _ (Hx.out.below B6.out.b) (Hy.out.below B6.out.b)).mono ?_
  rintro e w7 ⟨b7, A7, n7, cq7, rfl, hr, hb⟩
  rw [← Hae.out]
  rw [← Hza.out] at hr
  have R7a := Lib.hid (R6a.out.below hb R6a.out.lt)
  have R7b := Lib.hid (R6b.out.below hb R6b.out.lt)
  obtain ⟨x0, X0, y0, v0, k10, k11, k20, k21⟩ := R7a.out.facts
  have B7 := Lib.hid ((B6.out.next hb).set2 (g := g9) (by omega) (.bool b7) (.slice A7 n7 cq7))
  have T7a := Lib.hid (R7a.out.set b7 A7 n7 cq7)
  have T7b := Lib.hid (R7b.out.far R7a.out (by omega) (.bool b7) (.slice A7 n7 cq7))
  have r7 := Lib.hid (hr.rb R7a.out (.bool b7) (.slice A7 n7 cq7))
  have D0 := Lib.hid (R7a.out.set0 b7 (.slice A7 n7 cq7))
  have D1 := Lib.hid (R7a.out.set1 b7 (.slice A7 n7 cq7))
  have Z7 := Lib.hid (show g10 + 1 ≤ ((w7.setCell ⟨g9, 0, none⟩ (.bool b7)).setCell ⟨g9, 1, none⟩ (.slice A7 n7 cq7)).heap.size by have := hb.size; simp [World.setCell]; omega)
  have hB := B6.out.next hb
  obtain ⟨-, -, c10', c11', c20', c21'⟩ := hB
  clear hb hr c10 c11 c20 c21 B6 R6a R6b Z6
  obtain ⟨-, -, c10, c11, c20, c21⟩ := B7.out
  go_wp2_with fail
  clear k10 k11 k20 k21 c10' c11' c20' c21'
  generalize ((w7.setCell ⟨g9, 0, none⟩ (.bool b7)).setCell ⟨g9, 1, none⟩ (.slice A7 n7 cq7)) = W7 at *
  refine (refSub_u p q A A' n c n' c' l l' _ (Hx.out.below B7.out.b) (Hy.out.below B7.out.b)).mono ?_
  rintro e w8 ⟨b8, A8, n8, cq8, rfl, hr, hb⟩
  rw [← Hae.out]
  rw [← Hza.out] at hr
  have U8a := Lib.hid (T7a.out.below hb T7a.out.lt)
  have U8b := Lib.hid (T7b.out.below hb T7b.out.lt)
  have e0 := keepAt hb T7a.out.lt D0.out
  have e1 := keepAt hb T7a.out.lt D1.out
  obtain ⟨x0, X0, y0, v0, k10, k11, k20, k21⟩ := U8b.out.facts
  have B8 := Lib.hid ((B7.out.next hb).set2 (g := g10) (by omega) (.bool b8) (.slice A8 n8 cq8))
  have V8b := Lib.hid (U8b.out.set b8 A8 n8 cq8)
  have V8a := Lib.hid (U8a.out.far U8b.out (by omega) (.bool b8) (.slice A8 n8 cq8))
  have q8 := Lib.hid ((r7.out.below hb).rb U8b.out (.bool b8) (.slice A8 n8 cq8))
  have r8 := Lib.hid (hr.rb U8b.out (.bool b8) (.slice A8 n8 cq8))
  have f0 : ((w8.setCell ⟨g10, 0, none⟩ (.bool b8)).setCell ⟨g10, 1, none⟩ (.slice A8 n8 cq8)).cell? ⟨g9, 0, none⟩ = some (.bool b7) := (far2 (by omega)).trans e0
  have f1 : ((w8.setCell ⟨g10, 0, none⟩ (.bool b8)).setCell ⟨g10, 1, none⟩ (.slice A8 n8 cq8)).cell? ⟨g9, 1, none⟩ = some (.slice A7 n7 cq7) := (far2 (by omega)).trans e1
  have f2 := U8b.out.set0 b8 (.slice A8 n8 cq8)
  have f3 := U8b.out.set1 b8 (.slice A8 n8 cq8)
  have Z8 := Lib.hid (show g10 + 1 ≤ ((w8.setCell ⟨g10, 0, none⟩ (.bool b8)).setCell ⟨g10, 1, none⟩ (.slice A8 n8 cq8)).heap.size by have := hb.size; have := Z7.out; simp [World.setCell]; omega)
  clear hb hr c10 c11 c20 c21 B7 T7a T7b D0 D1 e0 e1 r7 Z7 U8a U8b
  obtain ⟨-, -, c10, c11, c20, c21⟩ := B8.out
  go_wp2_with fail
  clear k10 k11 k20 k21
  generalize ((w8.setCell ⟨g10, 0, none⟩ (.bool b8)).setCell ⟨g10, 1, none⟩ (.slice A8 n8 cq8)) = W8 at *
  refine (sameR_any zaSub zaSub _ _ _ q8.out r8.out).mono ?_
  rintro e w9 ⟨rfl, hb⟩
  have B9 := Lib.hid (B8.out.next hb)
  have R9a := Lib.hid (V8a.out.below hb V8a.out.lt)
  have R9b := Lib.hid (V8b.out.below hb V8b.out.lt)
  have Z9 : g10 + 1 ≤ w9.heap.size := Nat.le_trans Z8.out hb.size
  clear hb B8 V8a V8b q8 r8 Z8 c10 c11 c20 c21 f0 f1 f2 f3
  obtain ⟨-, -, c10, c11, c20, c21⟩ := B9.out
  have hd : decide (zaSub = zaSub) = true := by simp
  rw [hd]
  clear hd
  have ha1 : (aeSub != aeSub) = false := by simp
  obtain ⟨zaMul, hza⟩ : ∃ z, z = ansZ p q l l' (numOf p l * numOf q l') := ⟨_, rfl⟩
  obtain ⟨aeMul, hae⟩ : ∃ z, z = ansE p q l l' (numOf p l * numOf q l') := ⟨_, rfl⟩
  have Hza := Lib.hid hza; clear hza
  have Hae := Lib.hid hae; clear hae
  go_wp2_with fail
  clear ha1
  refine (exactMul_u p q A A' n c n' c' l l' _ (Hx.out.below B9.out.b) (Hy.out.below B9.out.b)).mono ?_
  rintro e w10 ⟨b10, A10, n10, cq10, rfl, hr, hb⟩
  rw [← Hae.out]
  rw [← Hza.out] at hr
  have R10a := Lib.hid (R9a.out.below hb R9a.out.lt)
  have R10b := Lib.hid (R9b.out.below hb R9b.out.lt)
  obtain ⟨x0, X0, y0, v0, k10, k11, k20, k21⟩ := R10a.out.facts
  have B10 := Lib.hid ((B9.out.next hb).set2 (g := g9) (by omega) (.bool b10) (.slice A10 n10 cq10))
  have T10a := Lib.hid (R10a.out.set b10 A10 n10 cq10)
  have T10b := Lib.hid (R10b.out.far R10a.out (by omega) (.bool b10) (.slice A10 n10 cq10))
  have r10 := Lib.hid (hr.rb R10a.out (.bool b10) (.slice A10 n10 cq10))
  have D0 := Lib.hid (R10a.out.set0 b10 (.slice A10 n10 cq10))
  have D1 := Lib.hid (R10a.out.set1 b10 (.slice A10 n10 cq10))
  have Z10 := Lib.hid (show g10 + 1 ≤ ((w10.setCell ⟨g9, 0, none⟩ (.bool b10)).setCell ⟨g9, 1, none⟩ (.slice A10 n10 cq10)).heap.size by have := hb.size; simp [World.setCell]; omega)
  have hB := B9.out.next hb
  obtain ⟨-, -, c10', c11', c20', c21'⟩ := hB
  clear hb hr c10 c11 c20 c21 B9 R9a R9b Z9
  obtain ⟨-, -, c10, c11, c20, c21⟩ := B10.out
  go_wp2_with fail
  clear k10 k11 k20 k21 c10' c11' c20' c21'
  generalize ((w10.setCell ⟨g9, 0, none⟩ (.bool b10)).setCell ⟨g9, 1, none⟩ (.slice A10 n10 cq10)) = W10 at *
  refine (refMul_u p q A A' n c n' c' l l' _ (Hx.out.below B10.out.b) (Hy.out.below B10.out.b)).mono ?_
  rintro e w11 ⟨b11, A11, n11, cq11, rfl, hr, hb⟩
  rw [← Hae.out]
  rw [← Hza.out] at hr
  have U11a := Lib.hid (T10a.out.below hb T10a.out.lt)
  have U11b := Lib.hid (T10b.out.below hb T10b.out.lt)
  have e0 := keepAt hb T10a.out.lt D0.out
  have e1 := keepAt hb T10a.out.lt D1.out
  obtain ⟨x0, X0, y0, v0, k10, k11, k20, k21⟩ := U11b.out.facts
  have B11 := Lib.hid ((B10.out.next hb).set2 (g := g10) (by omega) (.bool b11) (.slice A11 n11 cq11))
  have V11b := Lib.hid (U11b.out.set b11 A11 n11 cq11)
  have V11a := Lib.hid (U11a.out.far U11b.out (by omega) (.bool b11) (.slice A11 n11 cq11))
  have q11 := Lib.hid ((r10.out.below hb).rb U11b.out (.bool b11) (.slice A11 n11 cq11))
  have r11 := Lib.hid (hr.rb U11b.out (.bool b11) (.slice A11 n11 cq11))
  have f0 : ((w11.setCell ⟨g10, 0, none⟩ (.bool b11)).setCell ⟨g10, 1, none⟩ (.slice A11 n11 cq11)).cell? ⟨g9, 0, none⟩ = some (.bool b10) := (far2 (by omega)).trans e0
  have f1 : ((w11.setCell ⟨g10, 0, none⟩ (.bool b11)).setCell ⟨g10, 1, none⟩ (.slice A11 n11 cq11)).cell? ⟨g9, 1, none⟩ = some (.slice A10 n10 cq10) := (far2 (by omega)).trans e1
  have f2 := U11b.out.set0 b11 (.slice A11 n11 cq11)
  have f3 := U11b.out.set1 b11 (.slice A11 n11 cq11)
  have Z11 := Lib.hid (show g10 + 1 ≤ ((w11.setCell ⟨g10, 0, none⟩ (.bool b11)).setCell ⟨g10, 1, none⟩ (.slice A11 n11 cq11)).heap.size by have := hb.size; have := Z10.out; simp [World.setCell]; omega)
  clear hb hr c10 c11 c20 c21 B10 T10a T10b D0 D1 e0 e1 r10 Z10 U11a U11b
  obtain ⟨-, -, c10, c11, c20, c21⟩ := B11.out
  go_wp2_with fail
  clear k10 k11 k20 k21
  generalize ((w11.setCell ⟨g10, 0, none⟩ (.bool b11)).setCell ⟨g10, 1, none⟩ (.slice A11 n11 cq11)) = W11 at *
  refine (sameR_any zaMul zaMul _ _ _ q11.out r11.out).mono ?_
  rintro e w12 ⟨rfl, hb⟩
  have B12 := Lib.hid (B11.out.next hb)
  have R12a := Lib.hid (V11a.out.below hb V11a.out.lt)
  have R12b := Lib.hid (V11b.out.below hb V11b.out.lt)
  have Z12 : g10 + 1 ≤ w12.heap.size := Nat.le_trans Z11.out hb.size
  clear hb B11 V11a V11b q11 r11 Z11 c10 c11 c20 c21 f0 f1 f2 f3
  obtain ⟨-, -, c10, c11, c20, c21⟩ := B12.out
  have hd : decide (zaMul = zaMul) = true := by simp
  rw [hd]
  clear hd
  have ha1 : (aeMul == aeMul) = true := by simp
  go_wp2
  go_ret
  exact ⟨rfl, B12.out.b⟩
end Go.Proofs.Ytmlopkkbgpfdnaa
