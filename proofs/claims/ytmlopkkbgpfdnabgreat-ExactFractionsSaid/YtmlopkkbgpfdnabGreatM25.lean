/- Walks: Add, Sub, Mul. · Walks: awake. · Walks: the law ExactFractions. -/
import Derived.Test.YtmlopkkbgpfdnabGreatM2
import Derived.Test.YtmlopkkbgpfdnabGreatM24
import Derived.Test.YtmlopkkbgpfdnabGreatM18
namespace Go.Proofs.YtmlopkkbgpfdnabGreat
open Go.RowKit

set_option maxRecDepth 100000 in
theorem exactMul_yes (x y : Int) (p q : Bool) (A A' : Option Addr) (n c n' c' : Nat) (l l' : List Nat) (w : World) (hx : Wd w (.slice A n c) l) (hy : Wd w (.slice A' n' c') l') (hp : vld p l = true) (hq : vld q l' = true) (ex : x = numOf p l) (ey : y = numOf q l') (hfit : (dig (x * y).natAbs).length ≤ 256) :
    Calls Tryz.prog 48 #[.agg #[.bool p, .slice A n c], .agg #[.bool q, .slice A' n' c']] w fun e w' => ∃ b A n c, e = .returned (.tuple #[.agg #[.bool b, .slice A n c], .int .i64 0]) ∧ ZV w' (.agg #[.bool b, .slice A n c]) (x * y) ∧ Below w.heap.size w w' := by
  have Hxy := Lib.hid (And.intro ex ey)
  clear ex ey
  have Hx := Lib.hid hx; clear hx
  have Hy := Lib.hid hy; clear hy
  go_enter Tryz.func48, Tryz.ntmps48
  go_wp2_with fail
  have hb3 := below3 w (Obj.cells #[.bool p, .slice A n c] 24) (Obj.cells #[.bool q, .slice A' n' c'] 24) (Obj.cells #[.bool false, .slice none 0 0] 24)
  have hR3 := RB.a3 w false none 0 0 24 (Obj.cells #[.bool p, .slice A n c] 24) (Obj.cells #[.bool q, .slice A' n' c'] 24)
  refine (combineMul_yes x y p q A A' n c n' c' l l' _ (Hx.out.below hb3) (Hy.out.below hb3) hp hq Hxy.out.1 Hxy.out.2 hfit).mono ?_
  rintro e w1 ⟨b6, A6, n6, c6, rfl, hr6, hb1⟩
  have hR := hR3.below hb1 (by simp <;> omega)
  obtain ⟨a0, A0, n0, c0, k10, k11, k20, k21⟩ := hR.facts
  have s0 := hR.set0 b6 (.slice A6 n6 c6)
  have s1 := hR.set1 b6 (.slice A6 n6 c6)
  have fin := And.intro (hr6.rb hR (.bool b6) (.slice A6 n6 c6)) (below_set2 (g := w.heap.size + 1 + 1) (i := 0) (j := 1) (hb3.trans (hb1.mono (by simp <;> omega))) (by omega) (.bool b6) (.slice A6 n6 c6))
  have Fin := Lib.hid fin; clear fin hR hb1 hb3 hR3
  go_wp2
  exact bodyPost_ret (v := .tuple #[.agg #[.bool b6, .slice A6 n6 c6], .int .i64 0]) (by simp [results, Tryz.results48, go_sem, s0, s1]) rfl ⟨b6, A6, n6, c6, rfl, Fin.out.1, Fin.out.2⟩

end Go.Proofs.YtmlopkkbgpfdnabGreat
namespace Go.Proofs.YtmlopkkbgpfdnabGreat
open Go.RowKit

theorem aw_ok : Ok [0, 1] := by intro x hx; simp at hx; omega
theorem aw_vld : vld false [0, 1] = true := by decide
theorem aw_ok3 : Ok [0, 0, 1] := by intro x hx; simp at hx; omega
theorem aw_vld3 : vld false [0, 0, 1] = true := by decide
theorem aw_mul : numOf false [0, 1] * numOf false [0, 1] = numOf false [0, 0, 1] := by decide
theorem aw_fit : (dig (numOf false [0, 1] * numOf false [0, 1]).natAbs).length ≤ 256 := by
  rw [aw_mul, vld_dig aw_ok3 aw_vld3]; simp

set_option maxHeartbeats 400000 in
set_option maxRecDepth 100000 in
theorem awake_any (w : World) : Calls Tryz.prog 11 #[] w fun e w' => e = .returned (.bool true) ∧ Below w.heap.size w w' := by
  obtain ⟨x, hx⟩ : ∃ x, x = numOf false [0, 1] := ⟨_, rfl⟩
  have hfit := aw_fit
  have hmul := aw_mul
  rw [← hx] at hfit hmul
  have Hx := Lib.hid hx; clear hx
  have Hm := Lib.hid hmul; clear hmul
  have Hfit := Lib.hid hfit; clear hfit
  go_enter Tryz.func11, Tryz.ntmps11
  go_wp2_with fail
  have hw := (Wd.new w [0, 1] aw_ok #[.int .u32 0, .int .u32 1] 75 2 2 rfl (by omega) (by omega) (by
    intro j hj
    match j, hj with
    | 0, _ => rfl
    | 1, _ => rfl)).below (below1 _ (Obj.cells #[.bool false, .slice (some ⟨w.heap.size, 0, none⟩) 2 2] 24))
  have hb2 := below2 w (Obj.cells #[.int .u32 0, .int .u32 1] 75) (Obj.cells #[.bool false, .slice (some ⟨w.heap.size, 0, none⟩) 2 2] 24)
  refine (exactMul_yes x x false false _ _ 2 2 2 2 [0, 1] [0, 1] _ hw hw aw_vld aw_vld Hx.out Hx.out Hfit.out).mono ?_
  rintro e w1 ⟨b, A, n, c, rfl, hr, hb1⟩
  have hb01 := hb2.trans (hb1.mono (by simp <;> omega))
  have Hb := Lib.hid hb01
  have Hr := Lib.hid hr
  clear hw hb2 hb1 hr hb01
  go_wp2_with fail
  have hr2 := Hr.out.below (below2 w1 (Obj.cells #[.bool b, .slice A n c] 24) (Obj.cells #[.int .u32 0, .int .u32 0, .int .u32 1] 75))
  have hw3 := (Wd.new (w1.alloc (Obj.cells #[.bool b, .slice A n c] 24)) [0, 0, 1] aw_ok3 #[.int .u32 0, .int .u32 0, .int .u32 1] 75 3 3 rfl (by omega) (by omega) (by
    intro j hj
    match j, hj with
    | 0, _ => rfl
    | 1, _ => rfl
    | 2, _ => rfl))
  rw [World.size_alloc] at hw3
  refine (sameR_any (x * x) (x * x) _ _ _ hr2 (by rw [Hm.out]; exact vld_zv hw3 aw_vld3)).mono ?_
  rintro e w2 ⟨rfl, hb2⟩
  have hb := Hb.out.trans (((below2 w1 _ _).trans (hb2.mono (by simp <;> omega))).mono Hb.out.size)
  have Hbf := Lib.hid hb
  have ht : decide (x * x = x * x) = true := by simp
  rw [ht]
  clear ht hb hb2 hr2 hw3
  go_wp2
  go_ret
  exact ⟨rfl, Hbf.out⟩
end Go.Proofs.YtmlopkkbgpfdnabGreat
namespace Go.Proofs.YtmlopkkbgpfdnabGreat
open Go.RowKit

section
variable {W : World} {g h : Nat} {p q : Bool} {A : Option Addr} {n c : Nat} {A' : Option Addr} {n' c' : Nat} {l l' : List Nat}
theorem RW.put4 (r : RW W g p q A n c A' n' c' l l') (f : FB W h) (hne : g ≠ h) (v0 v1 v2 v3 : Value) : RW (Go.Proofs.YtmlopkkbgpfdnabGreat.put4 W h v0 v1 v2 v3) g p q A n c A' n' c' l l' :=
  ⟨r.h.put4 hne, (put4_far _ _ _ _ hne).trans r.k0, (put4_far _ _ _ _ hne).trans r.k1, (put4_far _ _ _ _ hne).trans r.k2, (put4_far _ _ _ _ hne).trans r.k3, r.w1.put4 f _ _ _ _, r.w2.put4 f _ _ _ _⟩
theorem FB.put_self (f : FB W h) (b : Bool) (A : Option Addr) (n c : Nat) (b' : Bool) (A' : Option Addr) (n' c' : Nat) : FB (Go.Proofs.YtmlopkkbgpfdnabGreat.put4 W h (.bool b) (.slice A n c) (.bool b') (.slice A' n' c')) h := by
  obtain ⟨t, e⟩ := put4_heap f (.bool b) (.slice A n c) (.bool b') (.slice A' n' c')
  exact ⟨b, A, n, c, b', A', n', c', t, e⟩
theorem HF.put4 {x y : Int} (H : HF W g x y) (f : FB W h) (hne : g ≠ h) (v0 v1 v2 v3 : Value) : HF (Go.Proofs.YtmlopkkbgpfdnabGreat.put4 W h v0 v1 v2 v3) g x y := by
  obtain ⟨⟨b, A, n, c, h0, h1, h2⟩, ⟨b', A', n', c', k0, k1, k2⟩⟩ := H
  exact ⟨⟨b, A, n, c, (put4_far _ _ _ _ hne).trans h0, (put4_far _ _ _ _ hne).trans h1, h2.put4 f _ _ _ _⟩, ⟨b', A', n', c', (put4_far _ _ _ _ hne).trans k0, (put4_far _ _ _ _ hne).trans k1, k2.put4 f _ _ _ _⟩⟩
end
set_option maxHeartbeats 4000000 in
set_option maxRecDepth 100000 in
theorem exactFractions_walk (p q p2 q2 : Bool) (A A' A2 A2' : Option Addr) (n c n' c' n2 c2 n2' c2' : Nat) (l l' k k' : List Nat) (w : World) (hx : Wd w (.slice A n c) l) (hy : Wd w (.slice A' n' c') l') (hx2 : Wd w (.slice A2 n2 c2) k) (hy2 : Wd w (.slice A2' n2' c2') k') :
    Calls Tryz.prog 3 #[.agg #[.bool p, .slice A n c, .bool q, .slice A' n' c'], .agg #[.bool p2, .slice A2 n2 c2, .bool q2, .slice A2' n2' c2']] w fun e w' => e = .returned (.bool true) ∧ Ext w w' := by
  obtain ⟨W0, hW0⟩ : ∃ W0, W0 = (w.alloc (Obj.cells #[.bool p, .slice A n c, .bool q, .slice A' n' c'] 26)).alloc (Obj.cells #[.bool p2, .slice A2 n2 c2, .bool q2, .slice A2' n2' c2'] 26) := ⟨_, rfl⟩
  have e0 : Ext w W0 := by rw [hW0]; exact ((Ext.refl w).alc _).alc _
  have h1 : RW W0 w.heap.size p q A n c A' n' c' l l' := by rw [hW0]; exact (RW.new 26 hx hy).ext ((Ext.refl _).alc _)
  have h2 : RW W0 (w.heap.size + 1) p2 q2 A2 n2 c2 A2' n2' c2' k k' := by
    have := RW.new (W := w.alloc (Obj.cells #[.bool p, .slice A n c, .bool q, .slice A' n' c'] 26)) (p := p2) (q := q2) 26 (hx2.below (below1 _ _)) (hy2.below (below1 _ _))
    rw [World.size_alloc] at this
    rw [hW0]; exact this
  obtain ⟨cx, ce, hrc⟩ := RC.ex (vldR p q l l' && vldR p2 q2 k k') ((numOf p l * (numOf q2 k') - numOf p2 k * (numOf q l')).sign)
  have CC1 := Lib.hid (show ∀ W : World, Wd W (.slice A n c) l → Wd W (.slice A' n' c') l' → Wd W (.slice A2 n2 c2) k → Wd W (.slice A2' n2' c2') k' → Calls Tryz.prog 9 #[.agg #[.bool p, .slice A n c, .bool q, .slice A' n' c'], .agg #[.bool p2, .slice A2 n2 c2, .bool q2, .slice A2' n2' c2']] W (RetC W cx ce) from fun W a b d e => ratCmp_u p q p2 q2 A A' A2 A2' n c n' c' n2 c2 n2' c2' l l' k k' W a b d e cx ce hrc)
  have CC2 := Lib.hid (show ∀ W : World, Wd W (.slice A n c) l → Wd W (.slice A' n' c') l' → Wd W (.slice A2 n2 c2) k → Wd W (.slice A2' n2' c2') k' → Calls Tryz.prog 10 #[.agg #[.bool p, .slice A n c, .bool q, .slice A' n' c'], .agg #[.bool p2, .slice A2 n2 c2, .bool q2, .slice A2' n2' c2']] W (RetC W cx ce) from fun W a b d e => refRatCmp_u p q p2 q2 A A' A2 A2' n c n' c' n2 c2 n2' c2' l l' k k' W a b d e cx ce hrc)
  have XAdd := Lib.hid (show ∀ W : World, Wd W (.slice A n c) l → Wd W (.slice A' n' c') l' → Wd W (.slice A2 n2 c2) k → Wd W (.slice A2' n2' c2') k' → Calls Tryz.prog 12 #[.agg #[.bool p, .slice A n c, .bool q, .slice A' n' c'], .agg #[.bool p2, .slice A2 n2 c2, .bool q2, .slice A2' n2' c2']] W fun e w' => ∃ x y er, (∀ W' : World, Wd W' (.slice A n c) l → Wd W' (.slice A' n' c') l' → Wd W' (.slice A2 n2 c2) k → Wd W' (.slice A2' n2' c2') k' → Calls Tryz.prog 13 #[.agg #[.bool p, .slice A n c, .bool q, .slice A' n' c'], .agg #[.bool p2, .slice A2 n2 c2, .bool q2, .slice A2' n2' c2']] W' (RetR W' x y er)) ∧ RetR W x y er e w' from fun W ha hb hc hd => (ratAdd_u p q p2 q2 A A' A2 A2' n c n' c' n2 c2 n2' c2' l l' k k' W ha hb hc hd).mono fun e w' ⟨x, y, er, hra, hret⟩ => ⟨x, y, er, fun W' ia ib ic id' => refRatAdd_u p q p2 q2 A A' A2 A2' n c n' c' n2 c2 n2' c2' l l' k k' W' ia ib ic id' x y er hra, hret⟩)
  have XSub := Lib.hid (show ∀ W : World, Wd W (.slice A n c) l → Wd W (.slice A' n' c') l' → Wd W (.slice A2 n2 c2) k → Wd W (.slice A2' n2' c2') k' → Calls Tryz.prog 15 #[.agg #[.bool p, .slice A n c, .bool q, .slice A' n' c'], .agg #[.bool p2, .slice A2 n2 c2, .bool q2, .slice A2' n2' c2']] W fun e w' => ∃ x y er, (∀ W' : World, Wd W' (.slice A n c) l → Wd W' (.slice A' n' c') l' → Wd W' (.slice A2 n2 c2) k → Wd W' (.slice A2' n2' c2') k' → Calls Tryz.prog 16 #[.agg #[.bool p, .slice A n c, .bool q, .slice A' n' c'], .agg #[.bool p2, .slice A2 n2 c2, .bool q2, .slice A2' n2' c2']] W' (RetR W' x y er)) ∧ RetR W x y er e w' from fun W ha hb hc hd => (ratSub_u p q p2 q2 A A' A2 A2' n c n' c' n2 c2 n2' c2' l l' k k' W ha hb hc hd).mono fun e w' ⟨x, y, er, hra, hret⟩ => ⟨x, y, er, fun W' ia ib ic id' => refRatSub_u p q p2 q2 A A' A2 A2' n c n' c' n2 c2 n2' c2' l l' k k' W' ia ib ic id' x y er hra, hret⟩)
  have XMul := Lib.hid (show ∀ W : World, Wd W (.slice A n c) l → Wd W (.slice A' n' c') l' → Wd W (.slice A2 n2 c2) k → Wd W (.slice A2' n2' c2') k' → Calls Tryz.prog 17 #[.agg #[.bool p, .slice A n c, .bool q, .slice A' n' c'], .agg #[.bool p2, .slice A2 n2 c2, .bool q2, .slice A2' n2' c2']] W fun e w' => ∃ x y er, (∀ W' : World, Wd W' (.slice A n c) l → Wd W' (.slice A' n' c') l' → Wd W' (.slice A2 n2 c2) k → Wd W' (.slice A2' n2' c2') k' → Calls Tryz.prog 18 #[.agg #[.bool p, .slice A n c, .bool q, .slice A' n' c'], .agg #[.bool p2, .slice A2 n2 c2, .bool q2, .slice A2' n2' c2']] W' (RetR W' x y er)) ∧ RetR W x y er e w' from fun W ha hb hc hd => (ratMul_u p q p2 q2 A A' A2 A2' n c n' c' n2 c2 n2' c2' l l' k k' W ha hb hc hd).mono fun e w' ⟨x, y, er, hra, hret⟩ => ⟨x, y, er, fun W' ia ib ic id' => refRatMul_u p q p2 q2 A A' A2 A2' n c n' c' n2 c2 n2' c2' l l' k k' W' ia ib ic id' x y er hra, hret⟩)
  have XDiv := Lib.hid (show ∀ W : World, Wd W (.slice A n c) l → Wd W (.slice A' n' c') l' → Wd W (.slice A2 n2 c2) k → Wd W (.slice A2' n2' c2') k' → Calls Tryz.prog 19 #[.agg #[.bool p, .slice A n c, .bool q, .slice A' n' c'], .agg #[.bool p2, .slice A2 n2 c2, .bool q2, .slice A2' n2' c2']] W fun e w' => ∃ x y er, (∀ W' : World, Wd W' (.slice A n c) l → Wd W' (.slice A' n' c') l' → Wd W' (.slice A2 n2 c2) k → Wd W' (.slice A2' n2' c2') k' → Calls Tryz.prog 20 #[.agg #[.bool p, .slice A n c, .bool q, .slice A' n' c'], .agg #[.bool p2, .slice A2 n2 c2, .bool q2, .slice A2' n2' c2']] W' (RetR W' x y er)) ∧ RetR W x y er e w' from fun W ha hb hc hd => (ratDiv_u p q p2 q2 A A' A2 A2' n c n' c' n2 c2 n2' c2' l l' k k' W ha hb hc hd).mono fun e w' ⟨x, y, er, hra, hret⟩ => ⟨x, y, er, fun W' ia ib ic id' => refRatDiv_u p q p2 q2 A A' A2 A2' n c n' c' n2 c2 n2' c2' l l' k k' W' ia ib ic id' x y er hra, hret⟩)
  have H1 := Lib.hid h1; have H2 := Lib.hid h2; have E0 := Lib.hid e0; have HW0 := Lib.hid hW0
  clear h1 h2 e0 hW0 hx hy hx2 hy2 hrc
  go_enter Tryz.func3, Tryz.ntmps3
  go_upto_region 1 with fail
  rw [← HW0.out]
  clear HW0
  have k0 := H1.out.k0; have k1 := H1.out.k1; have k2 := H1.out.k2; have k3 := H1.out.k3
  have j0 := H2.out.k0; have j1 := H2.out.k1; have j2 := H2.out.k2; have j3 := H2.out.k3
  go_wp2_with fail
  refine (CC1.out _ H1.out.w1 H1.out.w2 H2.out.w1 H2.out.w2).mono ?_
  rintro e W1 ⟨rfl, x1⟩
  have G1 := Lib.hid (H1.out.ext x1); have G2 := Lib.hid (H2.out.ext x1); have E1 := Lib.hid (E0.out.trans x1)
  clear x1 k0 k1 k2 k3 j0 j1 j2 j3 H1 H2 E0 CC1
  go_upto_region 2 with fail
  have k0 := G1.out.k0; have k1 := G1.out.k1; have k2 := G1.out.k2; have k3 := G1.out.k3
  have j0 := G2.out.k0; have j1 := G2.out.k1; have j2 := G2.out.k2; have j3 := G2.out.k3
  go_wp2_with fail
  refine (CC2.out _ G1.out.w1 G1.out.w2 G2.out.w1 G2.out.w2).mono ?_
  rintro e W2 ⟨rfl, x2⟩
  have G1 := Lib.hid (G1.out.ext x2); have G2 := Lib.hid (G2.out.ext x2); have E2 := Lib.hid (E1.out.trans x2)
  have ha1 : (cx != cx) = false := by simp
  have ha2 : (ce != ce) = false := by simp
  clear x2 k0 k1 k2 k3 j0 j1 j2 j3 E1 CC2
  go_wp2_with fail
  refine (awake_any _).mono ?_
  rintro e W3 ⟨rfl, x3⟩
  replace x3 : Ext W2 W3 := x3
  have G1 := Lib.hid (G1.out.ext x3); have G2 := Lib.hid (G2.out.ext x3); have EE := Lib.hid (E2.out.trans x3)
  have s2 := G2.out.h.lt
  clear x3 ha1 ha2 E2
  go_upto_region 5 with fail
  have k0 := G1.out.k0; have k1 := G1.out.k1; have k2 := G1.out.k2; have k3 := G1.out.k3
  have j0 := G2.out.k0; have j1 := G2.out.k1; have j2 := G2.out.k2; have j3 := G2.out.k3
  go_wp2_with fail
  refine (XAdd.out _ G1.out.w1 G1.out.w2 G2.out.w1 G2.out.w2).mono ?_
  rintro e Wa ⟨x, y, er, hrf, b1, B1, m1, d1, b2, B2, m2, d2, rfl, y1, y2, xa⟩
  replace xa : Ext W3 Wa := xa
  have HRF := Lib.hid hrf
  clear hrf XAdd k0 k1 k2 k3 j0 j1 j2 j3
  obtain ⟨Wb, hWb⟩ : ∃ Wb, Wb = Wa.alloc (Obj.cells #[.bool b1, .slice B1 m1 d1, .bool b2, .slice B2 m2 d2] 26) := ⟨_, rfl⟩
  have eb : Ext W3 Wb := by rw [hWb]; exact xa.alc _
  have i9 : HF Wb Wa.heap.size x y := by rw [hWb]; exact HF.new Wa b1 B1 m1 d1 b2 B2 m2 d2 26 y1 y2
  have r9 : FB Wb Wa.heap.size := by rw [hWb]; exact FB.new Wa b1 B1 m1 d1 b2 B2 m2 d2 26
  have HWb := Lib.hid hWb
  obtain ⟨g9, hg9⟩ : ∃ k, k = Wa.heap.size := ⟨_, rfl⟩
  have lg9 : w.heap.size + 1 < g9 := by rw [hg9]; exact Nat.lt_of_lt_of_le s2 xa.size
  rw [← hg9] at i9 r9
  have G1 := Lib.hid (G1.out.ext eb); have G2 := Lib.hid (G2.out.ext eb); have EE := Lib.hid (EE.out.trans eb); have I9 := Lib.hid i9; have R9 := Lib.hid r9
  have HG9 := Lib.hid hg9
  clear eb i9 r9 hWb xa y1 y2 hg9
  go_upto_region 6 with fail
  rw [← HWb.out, ← HG9.out]
  clear HWb HG9
  have lt9 := I9.out.lt
  have k0 := G1.out.k0; have k1 := G1.out.k1; have k2 := G1.out.k2; have k3 := G1.out.k3
  have j0 := G2.out.k0; have j1 := G2.out.k1; have j2 := G2.out.k2; have j3 := G2.out.k3
  go_wp2_with fail
  refine (HRF.out _ G1.out.w1 G1.out.w2 G2.out.w1 G2.out.w2).mono ?_
  rintro e Wc ⟨b3, B3, m3, d3, b4, B4, m4, d4, rfl, y1, y2, xc⟩
  replace xc : Ext Wb Wc := xc
  clear HRF k0 k1 k2 k3 j0 j1 j2 j3
  obtain ⟨Wd_, hWd⟩ : ∃ Wd_, Wd_ = Wc.alloc (Obj.cells #[.bool b3, .slice B3 m3 d3, .bool b4, .slice B4 m4 d4] 26) := ⟨_, rfl⟩
  have ed : Ext Wb Wd_ := by rw [hWd]; exact xc.alc _
  have i10 : HF Wd_ Wc.heap.size x y := by rw [hWd]; exact HF.new Wc b3 B3 m3 d3 b4 B4 m4 d4 26 y1 y2
  have r10 : FB Wd_ Wc.heap.size := by rw [hWd]; exact FB.new Wc b3 B3 m3 d3 b4 B4 m4 d4 26
  have HWd := Lib.hid hWd
  obtain ⟨g10, hg10⟩ : ∃ k, k = Wc.heap.size := ⟨_, rfl⟩
  have lg10 : g9 < g10 := by rw [hg10]; exact Nat.lt_of_lt_of_le lt9 xc.size
  rw [← hg10] at i10 r10
  have G1 := Lib.hid (G1.out.ext ed); have G2 := Lib.hid (G2.out.ext ed); have EE := Lib.hid (EE.out.trans ed); have I9 := Lib.hid (I9.out.ext ed); have R9 := Lib.hid (R9.out.ext ed); have I10 := Lib.hid i10; have R10 := Lib.hid r10
  have HG10 := Lib.hid hg10
  clear ed i10 r10 hWd xc y1 y2 hg10
  go_upto_region 7 with fail
  rw [← HWd.out, ← HG10.out]
  clear HWd HG10
  obtain ⟨⟨ba, Ba, na, ca, k0, k1, kz⟩, ⟨bb, Bb, nb, cb, k2, k3, ky⟩⟩ := I9.out
  obtain ⟨⟨bc, Bc, nc, cc, j0, j1, jz⟩, ⟨bd, Bd, nd, cd, j2, j3, jy⟩⟩ := I10.out
  have SR := Lib.hid (sameRat_true _ _ _ _ Wd_ (fv_mk kz ky) (fv_mk jz jy))
  clear kz ky jz jy
  have ht : (er != er) = false := by simp
  go_wp2_with fail
  refine SR.out.mono ?_
  rintro e W4 ⟨rfl, xe⟩
  replace xe : Ext Wd_ W4 := xe
  have G1 := Lib.hid (G1.out.ext xe); have G2 := Lib.hid (G2.out.ext xe); have EE := Lib.hid (EE.out.trans xe); have R9 := Lib.hid (R9.out.ext xe); have R10 := Lib.hid (R10.out.ext xe)
  go_upto_region 9 with fail
  clear xe SR k0 k1 k2 k3 j0 j1 j2 j3 ht I9 I10 lt9
  have k0 := G1.out.k0; have k1 := G1.out.k1; have k2 := G1.out.k2; have k3 := G1.out.k3
  have j0 := G2.out.k0; have j1 := G2.out.k1; have j2 := G2.out.k2; have j3 := G2.out.k3
  go_wp2_with fail
  refine (XSub.out _ G1.out.w1 G1.out.w2 G2.out.w1 G2.out.w2).mono ?_
  rintro e Wa ⟨x, y, er, hrf, b1, B1, m1, d1, b2, B2, m2, d2, rfl, y1, y2, xa⟩
  replace xa : Ext W4 Wa := xa
  have HRF := Lib.hid hrf
  clear hrf XSub k0 k1 k2 k3 j0 j1 j2 j3
  have q9 := R9.out.ext xa
  obtain ⟨_, _, _, _, k40, k41, k42, k43, k44, k45, k46, k47⟩ := put4_walk q9 (.bool b1) (.slice B1 m1 d1) (.bool b2)
  obtain ⟨Wb, hWb⟩ : ∃ Wb, Wb = put4 Wa g9 (.bool b1) (.slice B1 m1 d1) (.bool b2) (.slice B2 m2 d2) := ⟨_, rfl⟩
  have G1 := Lib.hid (show RW Wb _ _ _ _ _ _ _ _ _ _ _ by rw [hWb]; exact (G1.out.ext xa).put4 q9 (by omega) _ _ _ _); have G2 := Lib.hid (show RW Wb _ _ _ _ _ _ _ _ _ _ _ by rw [hWb]; exact (G2.out.ext xa).put4 q9 (by omega) _ _ _ _)
  have I9 := Lib.hid (show HF Wb g9 x y by rw [hWb]; exact HF.put q9 y1 y2)
  have R9 := Lib.hid (show FB Wb g9 by rw [hWb]; exact q9.put_self _ _ _ _ _ _ _ _)
  have R10 := Lib.hid (show FB Wb g10 by rw [hWb]; exact (R10.out.ext xa).put4 (by omega))
  have EE := Lib.hid (show Ext w Wb by rw [hWb]; exact put4_below (Ext.below (EE.out.trans xa)) (by omega) _ _ _ _)
  unfold put4 at hWb
  have HWb := Lib.hid hWb
  clear hWb xa y1 y2 q9
  go_upto_region 10 with fail
  rw [← HWb.out]
  clear k40 k41 k42 k43 k44 k45 k46 k47 HWb
  have lt9 := I9.out.lt
  have k0 := G1.out.k0; have k1 := G1.out.k1; have k2 := G1.out.k2; have k3 := G1.out.k3
  have j0 := G2.out.k0; have j1 := G2.out.k1; have j2 := G2.out.k2; have j3 := G2.out.k3
  go_wp2_with fail
  refine (HRF.out _ G1.out.w1 G1.out.w2 G2.out.w1 G2.out.w2).mono ?_
  rintro e Wc ⟨b3, B3, m3, d3, b4, B4, m4, d4, rfl, y1, y2, xc⟩
  replace xc : Ext Wb Wc := xc
  clear HRF k0 k1 k2 k3 j0 j1 j2 j3
  have q10 := R10.out.ext xc
  obtain ⟨_, _, _, _, k40, k41, k42, k43, k44, k45, k46, k47⟩ := put4_walk q10 (.bool b3) (.slice B3 m3 d3) (.bool b4)
  obtain ⟨Wd_, hWd⟩ : ∃ Wd_, Wd_ = put4 Wc g10 (.bool b3) (.slice B3 m3 d3) (.bool b4) (.slice B4 m4 d4) := ⟨_, rfl⟩
  have G1 := Lib.hid (show RW Wd_ _ _ _ _ _ _ _ _ _ _ _ by rw [hWd]; exact (G1.out.ext xc).put4 q10 (by omega) _ _ _ _); have G2 := Lib.hid (show RW Wd_ _ _ _ _ _ _ _ _ _ _ _ by rw [hWd]; exact (G2.out.ext xc).put4 q10 (by omega) _ _ _ _)
  have I10 := Lib.hid (show HF Wd_ g10 x y by rw [hWd]; exact HF.put q10 y1 y2)
  have R10 := Lib.hid (show FB Wd_ g10 by rw [hWd]; exact q10.put_self _ _ _ _ _ _ _ _)
  have R9 := Lib.hid (show FB Wd_ g9 by rw [hWd]; exact (R9.out.ext xc).put4 (by omega))
  have I9 := Lib.hid (show HF Wd_ g9 x y by rw [hWd]; exact (I9.out.ext xc).put4 q10 (by omega) _ _ _ _)
  have EE := Lib.hid (show Ext w Wd_ by rw [hWd]; exact put4_below (Ext.below (EE.out.trans xc)) (by omega) _ _ _ _)
  unfold put4 at hWd
  have HWd := Lib.hid hWd
  clear hWd xc y1 y2 q10
  go_upto_region 11 with fail
  rw [← HWd.out]
  clear k40 k41 k42 k43 k44 k45 k46 k47 HWd
  obtain ⟨⟨ba, Ba, na, ca, k0, k1, kz⟩, ⟨bb, Bb, nb, cb, k2, k3, ky⟩⟩ := I9.out
  obtain ⟨⟨bc, Bc, nc, cc, j0, j1, jz⟩, ⟨bd, Bd, nd, cd, j2, j3, jy⟩⟩ := I10.out
  have SR := Lib.hid (sameRat_true _ _ _ _ Wd_ (fv_mk kz ky) (fv_mk jz jy))
  clear kz ky jz jy
  have ht : (er != er) = false := by simp
  go_wp2_with fail
  refine SR.out.mono ?_
  rintro e W5 ⟨rfl, xe⟩
  replace xe : Ext Wd_ W5 := xe
  have G1 := Lib.hid (G1.out.ext xe); have G2 := Lib.hid (G2.out.ext xe); have EE := Lib.hid (EE.out.trans xe); have R9 := Lib.hid (R9.out.ext xe); have R10 := Lib.hid (R10.out.ext xe)
  go_upto_region 13 with fail
  clear xe SR k0 k1 k2 k3 j0 j1 j2 j3 ht I9 I10 lt9
  have k0 := G1.out.k0; have k1 := G1.out.k1; have k2 := G1.out.k2; have k3 := G1.out.k3
  have j0 := G2.out.k0; have j1 := G2.out.k1; have j2 := G2.out.k2; have j3 := G2.out.k3
  go_wp2_with fail
  refine (XMul.out _ G1.out.w1 G1.out.w2 G2.out.w1 G2.out.w2).mono ?_
  rintro e Wa ⟨x, y, er, hrf, b1, B1, m1, d1, b2, B2, m2, d2, rfl, y1, y2, xa⟩
  replace xa : Ext W5 Wa := xa
  have HRF := Lib.hid hrf
  clear hrf XMul k0 k1 k2 k3 j0 j1 j2 j3
  have q9 := R9.out.ext xa
  obtain ⟨_, _, _, _, k40, k41, k42, k43, k44, k45, k46, k47⟩ := put4_walk q9 (.bool b1) (.slice B1 m1 d1) (.bool b2)
  obtain ⟨Wb, hWb⟩ : ∃ Wb, Wb = put4 Wa g9 (.bool b1) (.slice B1 m1 d1) (.bool b2) (.slice B2 m2 d2) := ⟨_, rfl⟩
  have G1 := Lib.hid (show RW Wb _ _ _ _ _ _ _ _ _ _ _ by rw [hWb]; exact (G1.out.ext xa).put4 q9 (by omega) _ _ _ _); have G2 := Lib.hid (show RW Wb _ _ _ _ _ _ _ _ _ _ _ by rw [hWb]; exact (G2.out.ext xa).put4 q9 (by omega) _ _ _ _)
  have I9 := Lib.hid (show HF Wb g9 x y by rw [hWb]; exact HF.put q9 y1 y2)
  have R9 := Lib.hid (show FB Wb g9 by rw [hWb]; exact q9.put_self _ _ _ _ _ _ _ _)
  have R10 := Lib.hid (show FB Wb g10 by rw [hWb]; exact (R10.out.ext xa).put4 (by omega))
  have EE := Lib.hid (show Ext w Wb by rw [hWb]; exact put4_below (Ext.below (EE.out.trans xa)) (by omega) _ _ _ _)
  unfold put4 at hWb
  have HWb := Lib.hid hWb
  clear hWb xa y1 y2 q9
  go_upto_region 14 with fail
  rw [← HWb.out]
  clear k40 k41 k42 k43 k44 k45 k46 k47 HWb
  have lt9 := I9.out.lt
  have k0 := G1.out.k0; have k1 := G1.out.k1; have k2 := G1.out.k2; have k3 := G1.out.k3
  have j0 := G2.out.k0; have j1 := G2.out.k1; have j2 := G2.out.k2; have j3 := G2.out.k3
  go_wp2_with fail
  refine (HRF.out _ G1.out.w1 G1.out.w2 G2.out.w1 G2.out.w2).mono ?_
  rintro e Wc ⟨b3, B3, m3, d3, b4, B4, m4, d4, rfl, y1, y2, xc⟩
  replace xc : Ext Wb Wc := xc
  clear HRF k0 k1 k2 k3 j0 j1 j2 j3
  have q10 := R10.out.ext xc
  obtain ⟨_, _, _, _, k40, k41, k42, k43, k44, k45, k46, k47⟩ := put4_walk q10 (.bool b3) (.slice B3 m3 d3) (.bool b4)
  obtain ⟨Wd_, hWd⟩ : ∃ Wd_, Wd_ = put4 Wc g10 (.bool b3) (.slice B3 m3 d3) (.bool b4) (.slice B4 m4 d4) := ⟨_, rfl⟩
  have G1 := Lib.hid (show RW Wd_ _ _ _ _ _ _ _ _ _ _ _ by rw [hWd]; exact (G1.out.ext xc).put4 q10 (by omega) _ _ _ _); have G2 := Lib.hid (show RW Wd_ _ _ _ _ _ _ _ _ _ _ _ by rw [hWd]; exact (G2.out.ext xc).put4 q10 (by omega) _ _ _ _)
  have I10 := Lib.hid (show HF Wd_ g10 x y by rw [hWd]; exact HF.put q10 y1 y2)
  have R10 := Lib.hid (show FB Wd_ g10 by rw [hWd]; exact q10.put_self _ _ _ _ _ _ _ _)
  have R9 := Lib.hid (show FB Wd_ g9 by rw [hWd]; exact (R9.out.ext xc).put4 (by omega))
  have I9 := Lib.hid (show HF Wd_ g9 x y by rw [hWd]; exact (I9.out.ext xc).put4 q10 (by omega) _ _ _ _)
  have EE := Lib.hid (show Ext w Wd_ by rw [hWd]; exact put4_below (Ext.below (EE.out.trans xc)) (by omega) _ _ _ _)
  unfold put4 at hWd
  have HWd := Lib.hid hWd
  clear hWd xc y1 y2 q10
  go_upto_region 15 with fail
  rw [← HWd.out]
  clear k40 k41 k42 k43 k44 k45 k46 k47 HWd
  obtain ⟨⟨ba, Ba, na, ca, k0, k1, kz⟩, ⟨bb, Bb, nb, cb, k2, k3, ky⟩⟩ := I9.out
  obtain ⟨⟨bc, Bc, nc, cc, j0, j1, jz⟩, ⟨bd, Bd, nd, cd, j2, j3, jy⟩⟩ := I10.out
  have SR := Lib.hid (sameRat_true _ _ _ _ Wd_ (fv_mk kz ky) (fv_mk jz jy))
  clear kz ky jz jy
  have ht : (er != er) = false := by simp
  go_wp2_with fail
  refine SR.out.mono ?_
  rintro e W6 ⟨rfl, xe⟩
  replace xe : Ext Wd_ W6 := xe
  have G1 := Lib.hid (G1.out.ext xe); have G2 := Lib.hid (G2.out.ext xe); have EE := Lib.hid (EE.out.trans xe); have R9 := Lib.hid (R9.out.ext xe); have R10 := Lib.hid (R10.out.ext xe)
  go_upto_region 17 with fail
  clear xe SR k0 k1 k2 k3 j0 j1 j2 j3 ht I9 I10 lt9
  have k0 := G1.out.k0; have k1 := G1.out.k1; have k2 := G1.out.k2; have k3 := G1.out.k3
  have j0 := G2.out.k0; have j1 := G2.out.k1; have j2 := G2.out.k2; have j3 := G2.out.k3
  go_wp2_with fail
  refine (XDiv.out _ G1.out.w1 G1.out.w2 G2.out.w1 G2.out.w2).mono ?_
  rintro e Wa ⟨x, y, er, hrf, b1, B1, m1, d1, b2, B2, m2, d2, rfl, y1, y2, xa⟩
  replace xa : Ext W6 Wa := xa
  have HRF := Lib.hid hrf
  clear hrf XDiv k0 k1 k2 k3 j0 j1 j2 j3
  have q9 := R9.out.ext xa
  obtain ⟨_, _, _, _, k40, k41, k42, k43, k44, k45, k46, k47⟩ := put4_walk q9 (.bool b1) (.slice B1 m1 d1) (.bool b2)
  obtain ⟨Wb, hWb⟩ : ∃ Wb, Wb = put4 Wa g9 (.bool b1) (.slice B1 m1 d1) (.bool b2) (.slice B2 m2 d2) := ⟨_, rfl⟩
  have G1 := Lib.hid (show RW Wb _ _ _ _ _ _ _ _ _ _ _ by rw [hWb]; exact (G1.out.ext xa).put4 q9 (by omega) _ _ _ _); have G2 := Lib.hid (show RW Wb _ _ _ _ _ _ _ _ _ _ _ by rw [hWb]; exact (G2.out.ext xa).put4 q9 (by omega) _ _ _ _)
  have I9 := Lib.hid (show HF Wb g9 x y by rw [hWb]; exact HF.put q9 y1 y2)
  have R9 := Lib.hid (show FB Wb g9 by rw [hWb]; exact q9.put_self _ _ _ _ _ _ _ _)
  have R10 := Lib.hid (show FB Wb g10 by rw [hWb]; exact (R10.out.ext xa).put4 (by omega))
  have EE := Lib.hid (show Ext w Wb by rw [hWb]; exact put4_below (Ext.below (EE.out.trans xa)) (by omega) _ _ _ _)
  unfold put4 at hWb
  have HWb := Lib.hid hWb
  clear hWb xa y1 y2 q9
  go_upto_region 18 with fail
  rw [← HWb.out]
  clear k40 k41 k42 k43 k44 k45 k46 k47 HWb
  have lt9 := I9.out.lt
  have k0 := G1.out.k0; have k1 := G1.out.k1; have k2 := G1.out.k2; have k3 := G1.out.k3
  have j0 := G2.out.k0; have j1 := G2.out.k1; have j2 := G2.out.k2; have j3 := G2.out.k3
  go_wp2_with fail
  refine (HRF.out _ G1.out.w1 G1.out.w2 G2.out.w1 G2.out.w2).mono ?_
  rintro e Wc ⟨b3, B3, m3, d3, b4, B4, m4, d4, rfl, y1, y2, xc⟩
  replace xc : Ext Wb Wc := xc
  clear HRF k0 k1 k2 k3 j0 j1 j2 j3
  have q10 := R10.out.ext xc
  obtain ⟨_, _, _, _, k40, k41, k42, k43, k44, k45, k46, k47⟩ := put4_walk q10 (.bool b3) (.slice B3 m3 d3) (.bool b4)
  obtain ⟨Wd_, hWd⟩ : ∃ Wd_, Wd_ = put4 Wc g10 (.bool b3) (.slice B3 m3 d3) (.bool b4) (.slice B4 m4 d4) := ⟨_, rfl⟩
  have G1 := Lib.hid (show RW Wd_ _ _ _ _ _ _ _ _ _ _ _ by rw [hWd]; exact (G1.out.ext xc).put4 q10 (by omega) _ _ _ _); have G2 := Lib.hid (show RW Wd_ _ _ _ _ _ _ _ _ _ _ _ by rw [hWd]; exact (G2.out.ext xc).put4 q10 (by omega) _ _ _ _)
  have I10 := Lib.hid (show HF Wd_ g10 x y by rw [hWd]; exact HF.put q10 y1 y2)
  have R10 := Lib.hid (show FB Wd_ g10 by rw [hWd]; exact q10.put_self _ _ _ _ _ _ _ _)
  have R9 := Lib.hid (show FB Wd_ g9 by rw [hWd]; exact (R9.out.ext xc).put4 (by omega))
  have I9 := Lib.hid (show HF Wd_ g9 x y by rw [hWd]; exact (I9.out.ext xc).put4 q10 (by omega) _ _ _ _)
  have EE := Lib.hid (show Ext w Wd_ by rw [hWd]; exact put4_below (Ext.below (EE.out.trans xc)) (by omega) _ _ _ _)
  unfold put4 at hWd
  have HWd := Lib.hid hWd
  clear hWd xc y1 y2 q10
  go_upto_region 19 with fail
  rw [← HWd.out]
  clear k40 k41 k42 k43 k44 k45 k46 k47 HWd
  obtain ⟨⟨ba, Ba, na, ca, k0, k1, kz⟩, ⟨bb, Bb, nb, cb, k2, k3, ky⟩⟩ := I9.out
  obtain ⟨⟨bc, Bc, nc, cc, j0, j1, jz⟩, ⟨bd, Bd, nd, cd, j2, j3, jy⟩⟩ := I10.out
  have SR := Lib.hid (sameRat_true _ _ _ _ Wd_ (fv_mk kz ky) (fv_mk jz jy))
  clear kz ky jz jy
  have ht : (er == er) = true := by simp
  go_wp2_with fail
  refine SR.out.mono ?_
  rintro e W7 ⟨rfl, xe⟩
  have FX := Lib.hid (EE.out.trans xe)
  clear xe SR k0 k1 k2 k3 j0 j1 j2 j3
  go_wp2
  go_ret
  exact ⟨rfl, FX.out⟩
end Go.Proofs.YtmlopkkbgpfdnabGreat
