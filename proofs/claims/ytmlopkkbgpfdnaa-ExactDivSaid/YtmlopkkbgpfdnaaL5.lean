/- Walks: the law ExactDiv. -/
import Derived.Test.YtmlopkkbgpfdnaaX12
import Derived.Test.YtmlopkkbgpfdnaaE3
namespace Go.Proofs.Ytmlopkkbgpfdnaa
open Go.RowKit

theorem sameR_true (z : Int) (a b : Value) (W : World) (ha : ZV W a z) (hb : ZV W b z) : Calls Try.prog 16 #[a, b] W fun e w' => e = .returned (.bool true) ∧ Ext W w' := by
  have := sameR_any z z a b W ha hb
  rwa [show decide (z = z) = true from by simp] at this

/-- two new blocks with structs -/
theorem two_new (X : World) (b1 : Bool) (A1 : Option Addr) (n1 c1 : Nat) (b2 : Bool) (A2 : Option Addr) (n2 c2 : Nat) (t : TypeId) (l1 l2 : List Nat) (h1 : Wd X (.slice A1 n1 c1) l1) (h2 : Wd X (.slice A2 n2 c2) l2) :
    HW ((X.alloc (.cells #[.bool b1, .slice A1 n1 c1] t)).alloc (.cells #[.bool b2, .slice A2 n2 c2] t)) X.heap.size b1 A1 n1 c1 l1 ∧ HW ((X.alloc (.cells #[.bool b1, .slice A1 n1 c1] t)).alloc (.cells #[.bool b2, .slice A2 n2 c2] t)) (X.heap.size + 1) b2 A2 n2 c2 l2 := by
  refine ⟨(HW.new X b1 A1 n1 c1 l1 t h1).alloc _, ?_⟩
  have := HW.new (X.alloc (.cells #[.bool b1, .slice A1 n1 c1] t)) b2 A2 n2 c2 l2 t (h2.below (below1 _ _))
  simpa using this

theorem HW.zv {W : World} {g : Nat} {b : Bool} {A : Option Addr} {n c : Nat} {z : Int} (H : HW W g b A n c (dig z.natAbs)) (hb : b = decide (z < 0)) : ZV W (.agg #[.bool b, .slice A n c]) z := ZV.mk hb H.w

set_option maxHeartbeats 2000000 in
set_option maxRecDepth 100000 in
theorem exactDiv_walk (p q : Bool) (A A' : Option Addr) (n c n' c' : Nat) (l l' : List Nat) (w : World) (hx : Wd w (.slice A n c) l) (hy : Wd w (.slice A' n' c') l') :
    Calls Try.prog 6 #[.agg #[.bool p, .slice A n c], .agg #[.bool q, .slice A' n' c']] w fun e w' => e = .returned (.bool true) ∧ Below w.heap.size w w' := by
  obtain ⟨h1, h2⟩ := two_new w p A n c q A' n' c' 24 l l' hx hy
  have hb := below2 w (Obj.cells #[.bool p, .slice A n c] 24) (Obj.cells #[.bool q, .slice A' n' c'] 24)
  have H1 := Lib.hid h1; clear h1
  have H2 := Lib.hid h2; clear h2
  have Hb := Lib.hid hb; clear hb hx hy
  obtain ⟨zq, hzq⟩ : ∃ z, z = divQ p q l l' := ⟨_, rfl⟩
  obtain ⟨zr, hzr⟩ : ∃ z, z = divR p q l l' := ⟨_, rfl⟩
  obtain ⟨er, her⟩ : ∃ z, z = divE p q l l' := ⟨_, rfl⟩
  have d1 : ∀ W : World, Wd W (.slice A n c) l → Wd W (.slice A' n' c') l' → Calls Try.prog 28 #[.agg #[.bool p, .slice A n c], .agg #[.bool q, .slice A' n' c']] W (RetDiv W zq zr er) := fun W a b => by rw [hzq, hzr, her]; exact exactDiv_u p q A A' n c n' c' l l' W a b
  have d2 : ∀ W : World, Wd W (.slice A n c) l → Wd W (.slice A' n' c') l' → Calls Try.prog 29 #[.agg #[.bool p, .slice A n c], .agg #[.bool q, .slice A' n' c']] W (RetDiv W zq zr er) := fun W a b => by rw [hzq, hzr, her]; exact refDiv_u p q A A' n c n' c' l l' W a b
  have D1 := Lib.hid d1; clear d1
  have D2 := Lib.hid d2; clear d2
  clear hzq hzr her
  have ht : (er == er) = true := by simp
  go_enter Try.func6, Try.ntmps6
  go_wp2_with fail
  refine (D1.out _ H1.out.w H2.out.w).mono ?_
  rintro e w2 ⟨b1, A1, n1, c1, b2, A2, n2, c2, rfl, hz1, hz2, hb2⟩
  have hx2 : Ext _ w2 := hb2
  have s2 : w.heap.size + 2 ≤ w2.heap.size := by have := hx2.size; simpa using this
  obtain ⟨e1, w1⟩ := hz1.words
  obtain ⟨e2, w2'⟩ := hz2.words
  obtain ⟨k1, k2⟩ := two_new w2 b1 A1 n1 c1 b2 A2 n2 c2 24 _ _ w1 w2'
  have x3 : Ext w2 ((w2.alloc (Obj.cells #[.bool b1, .slice A1 n1 c1] 24)).alloc (Obj.cells #[.bool b2, .slice A2 n2 c2] 24)) := ((Ext.refl w2).alc _).alc _
  have m1 := (H1.out.ext hx2).ext x3
  have m2 := (H2.out.ext hx2).ext x3
  have hbb := (Hb.out.trans (Below.mono hx2 Hb.out.size))
  have hb3 := hbb.trans (Below.mono x3 hbb.size)
  have c10 := m1.c0
  have c11 := m1.c1
  have c20 := m2.c0
  have c21 := m2.c1
  have HF := Lib.hid (And.intro k1 (And.intro k2 (And.intro m1 (And.intro m2 (And.intro hb3 (And.intro e1 (And.intro e2 x3.size)))))))
  clear k1 k2 m1 m2 hb3 hbb x3 w1 w2' hz1 hz2 hb2 hx2 H1 H2 Hb e1 e2
  go_wp2_with fail
  obtain ⟨k1, k2, m1, m2, hb3, e1, e2, s3⟩ := HF.out
  clear HF c10 c11 c20 c21
  generalize ((w2.alloc (Obj.cells #[.bool b1, .slice A1 n1 c1] 24)).alloc (Obj.cells #[.bool b2, .slice A2 n2 c2] 24)) = W3 at *
  refine (D2.out _ m1.w m2.w).mono ?_
  rintro e w4 ⟨b3, A3, n3, c3, b4, A4, n4, c4, rfl, hz3, hz4, hb4⟩
  have hx4 : Ext W3 w4 := hb4
  obtain ⟨e3, w3⟩ := hz3.words
  obtain ⟨e4, w4'⟩ := hz4.words
  obtain ⟨k3, k4⟩ := two_new w4 b3 A3 n3 c3 b4 A4 n4 c4 24 _ _ w3 w4'
  have x5 : Ext w4 ((w4.alloc (Obj.cells #[.bool b3, .slice A3 n3 c3] 24)).alloc (Obj.cells #[.bool b4, .slice A4 n4 c4] 24)) := ((Ext.refl w4).alc _).alc _
  have j1 := (k1.ext hx4).ext x5
  have j2 := (k2.ext hx4).ext x5
  have hbb := (hb3.trans (Below.mono hx4 hb3.size))
  have hb5 := hbb.trans (Below.mono x5 hbb.size)
  have c10 := j1.c0
  have c11 := j1.c1
  have c20 := j2.c0
  have c21 := j2.c1
  have c30 := k3.c0
  have c31 := k3.c1
  have c40 := k4.c0
  have c41 := k4.c1
  have HF := Lib.hid (And.intro j1 (And.intro j2 (And.intro k3 (And.intro k4 (And.intro hb5 (And.intro e1 (And.intro e2 (And.intro e3 e4))))))))
  clear k1 k2 m1 m2 hb3 hbb x5 w3 w4' hz3 hz4 hb4 hx4 e1 e2 e3 e4 j1 j2 k3 k4 s3
  obtain ⟨g1, hg1⟩ : ∃ g, g = w2.heap.size := ⟨_, rfl⟩
  rw [← hg1] at c10 c11 c20 c21 HF s2 ⊢
  clear hg1
  go_wp2_with fail
  obtain ⟨j1, j2, k3, k4, hb5, e1, e2, e3, e4⟩ := HF.out
  clear HF c10 c11 c20 c21 c30 c31 c40 c41
  generalize ((w4.alloc (Obj.cells #[.bool b3, .slice A3 n3 c3] 24)).alloc (Obj.cells #[.bool b4, .slice A4 n4 c4] 24)) = W5 at *
  obtain ⟨g2, hg2⟩ : ∃ g, g = w4.heap.size := ⟨_, rfl⟩
  rw [← hg2] at k3 k4
  try rw [← hg2]
  clear hg2
  refine (sameR_true zq _ _ _ (j1.zv e1) (k3.zv e3)).mono ?_
  rintro e w6 ⟨rfl, hx6⟩
  have j2' := j2.ext hx6
  have k4' := k4.ext hx6
  have hb6 := hb5.trans (Below.mono hx6 hb5.size)
  have c20 := j2'.c0
  have c21 := j2'.c1
  have c40 := k4'.c0
  have c41 := k4'.c1
  have za := j2'.zv e2
  have zb := k4'.zv e4
  have HF := Lib.hid (And.intro za (And.intro zb hb6))
  clear za zb hb6 j2' k4' j1 j2 k3 k4 hb5 e1 e2 e3 e4 hx6
  go_wp2_with fail
  obtain ⟨za, zb, hb6⟩ := HF.out
  clear HF
  refine (sameR_true zr _ _ _ za zb).mono ?_
  rintro e w7 ⟨rfl, hx7⟩
  have HF := Lib.hid (hb6.trans (Below.mono hx7 hb6.size))
  clear za zb hb6 hx7 c20 c21 c40 c41
  go_wp2_with fail
  refine (awake_any _).mono ?_
  rintro e w8 ⟨rfl, hb8⟩
  have hb7 := HF.out
  have HF2 := Lib.hid (hb7.trans (hb8.mono hb7.size))
  clear HF hb7 hb8
  go_wp2
  go_ret
  exact ⟨rfl, HF2.out⟩
end Go.Proofs.Ytmlopkkbgpfdnaa
