/- Walks: the law ExactPowers. -/
import Derived.Test.YtmlopkkbgpfdnaaP5
import Derived.Test.YtmlopkkbgpfdnaaE3
namespace Go.Proofs.Ytmlopkkbgpfdnaa
open Go.RowKit

/-- Pow of both -/
theorem pow_u (p : Bool) (l : List Nat) (k : Int) :
    ∃ z er : Int, (∀ (A : Option Addr) (n c : Nat) (w : World), Wd w (.slice A n c) l → Calls Try.prog 42 #[.agg #[.bool p, .slice A n c], .int .i64 k] w (RetE w z er)) ∧
      (∀ (A : Option Addr) (n c : Nat) (w : World), Wd w (.slice A n c) l → Calls Try.prog 43 #[.agg #[.bool p, .slice A n c], .int .i64 k] w (RetE w z er)) := by
  cases h : powOk p l k with
  | false =>
    exact ⟨0, 2, fun A n c w hx => (exactPow_no p A n c l k w hx h).mono fun e w' => no_ret,
      fun A n c w hx => (refPow_no p A n c l k w hx h).mono fun e w' => no_ret⟩
  | true =>
    unfold powOk at h
    simp only [Bool.and_eq_true, decide_eq_true_eq] at h
    obtain ⟨hv, hk1, hk2⟩ := h
    obtain ⟨m, rfl⟩ : ∃ m : Nat, k = (m : Int) := ⟨k.toNat, by omega⟩
    exact ⟨powA p (val l) m, powX (val l) m, fun A n c w hx => exactPow_yes p A n c l m w hx hv (by omega),
      fun A n c w hx => refPow_yes p A n c l m w hx hv (by omega)⟩

theorem sameR_yes (z : Int) (a b : Value) (W : World) (ha : ZV W a z) (hb : ZV W b z) : Calls Try.prog 16 #[a, b] W fun e w' => e = .returned (.bool true) ∧ Ext W w' := by
  have := sameR_any z z a b W ha hb
  rwa [show decide (z = z) = true from by simp] at this
theorem HW.zv7 {W : World} {g : Nat} {b : Bool} {A : Option Addr} {n c : Nat} {z : Int} (H : HW W g b A n c (dig z.natAbs)) (hb : b = decide (z < 0)) : ZV W (.agg #[.bool b, .slice A n c]) z := ZV.mk hb H.w

set_option maxHeartbeats 2000000 in
set_option maxRecDepth 100000 in
theorem exactPowers_walk (p : Bool) (A : Option Addr) (n c : Nat) (l : List Nat) (w : World) (hx : Wd w (.slice A n c) l) (k q : Int) (h1 : -9223372036854775808 ≤ q) (h2 : q ≤ 9223372036854775807) :
    Calls Try.prog 9 #[.agg #[.bool p, .slice A n c], .int .i64 k, .int .i64 q] w fun e w' => e = .returned (.bool true) ∧ Below w.heap.size w w' := by
  obtain ⟨zp, ep, hp1, hp2⟩ := pow_u p l k
  obtain ⟨zr, er, hr1, hr2⟩ := root_u p l q h1 h2
  have D := Lib.hid (And.intro (hp1 A n c) (And.intro (hp2 A n c) (And.intro (hr1 A n c) (hr2 A n c))))
  clear hp1 hp2 hr1 hr2
  have hH := HW.new w p A n c l 24 hx
  have hb := below1 w (Obj.cells #[.bool p, .slice A n c] 24)
  have H1 := Lib.hid (And.intro hH hb)
  clear hH hb hx
  obtain ⟨bv, hbv⟩ : ∃ v : Int, v = (bitsV p l : Nat) := ⟨_, rfl⟩
  obtain ⟨bx, hbx⟩ : ∃ v : Int, v = (bitsX p l : Nat) := ⟨_, rfl⟩
  have b1 : ∀ W : World, Wd W (.slice A n c) l → Calls Try.prog 46 #[.agg #[.bool p, .slice A n c]] W fun e w' => e = .returned (.tuple #[.int .i64 bv, .int .i64 bx]) ∧ Ext W w' := fun W h => by rw [hbv, hbx]; exact exactBits_u p A n c l W h
  have b2 : ∀ W : World, Wd W (.slice A n c) l → Calls Try.prog 47 #[.agg #[.bool p, .slice A n c]] W fun e w' => e = .returned (.tuple #[.int .i64 bv, .int .i64 bx]) ∧ Ext W w' := fun W h => by rw [hbv, hbx]; exact refBits_u p A n c l W h
  have B := Lib.hid (And.intro b1 b2)
  clear b1 b2 hbv hbx
  have t1 : (ep == ep) = true := by simp
  have t2 : (er == er) = true := by simp
  have t3 : (bv == bv) = true := by simp
  have t4 : (bx == bx) = true := by simp
  go_enter Try.func9, Try.ntmps9
  go_wp2_with fail
  refine (D.out.1 _ H1.out.1.w).mono ?_
  rintro e w2 ⟨b1, A1, n1, c1, rfl, hz1, hb2⟩
  have hx2 : Ext _ w2 := hb2
  obtain ⟨e1, w1⟩ := hz1.words
  have x3 : Ext w2 (w2.alloc (Obj.cells #[.bool b1, .slice A1 n1 c1] 24)) := (Ext.refl w2).alc _
  have ma := (H1.out.1.ext hx2).ext x3
  have m7 := HW.new w2 b1 A1 n1 c1 _ 24 w1
  have hbb := H1.out.2.trans (Below.mono hx2 H1.out.2.size)
  have hb3 := hbb.trans (Below.mono x3 hbb.size)
  have l7 : w.heap.size + 1 ≤ w2.heap.size := by have := hx2.size; simpa using this
  have c0 := ma.c0
  have c1' := ma.c1
  have M := Lib.hid (And.intro ma (And.intro m7 (And.intro hb3 e1)))
  clear ma m7 hbb hb3 e1 x3 w1 hz1 hb2 hx2 H1
  go_wp2_with fail
  obtain ⟨g7, hg7⟩ : ∃ g, g = w2.heap.size := ⟨_, rfl⟩
  rw [← hg7] at M l7
  try rw [← hg7]
  clear hg7
  generalize (w2.alloc (Obj.cells #[.bool b1, .slice A1 n1 c1] 24)) = W3 at *
  refine (D.out.2.1 _ M.out.1.w).mono ?_
  rintro e w4 ⟨b2, A2, n2, c2, rfl, hz2, hb4⟩
  have hx4 : Ext W3 w4 := hb4
  obtain ⟨e2, w2'⟩ := hz2.words
  have x5 : Ext w4 (w4.alloc (Obj.cells #[.bool b2, .slice A2 n2 c2] 24)) := (Ext.refl w4).alc _
  have ma := (M.out.1.ext hx4).ext x5
  have m7 := (M.out.2.1.ext hx4).ext x5
  have m9 := HW.new w4 b2 A2 n2 c2 _ 24 w2'
  have hbb := M.out.2.2.1.trans (Below.mono hx4 M.out.2.2.1.size)
  have hb5 := hbb.trans (Below.mono x5 hbb.size)
  have l9 : g7 < w4.heap.size := (M.out.2.1.ext hx4).r.lt
  have c20 := m7.c0
  have c21 := m7.c1
  have c30 := m9.c0
  have c31 := m9.c1
  have N := Lib.hid (And.intro ma (And.intro m7 (And.intro m9 (And.intro hb5 (And.intro M.out.2.2.2 e2)))))
  clear ma m7 m9 hbb hb5 e2 x5 w2' hz2 hb4 hx4 M c0 c1'
  obtain ⟨g9, hg9⟩ : ∃ g, g = w4.heap.size := ⟨_, rfl⟩
  rw [← hg9] at N l9 c30 c31
  try rw [← hg9]
  go_wp2_with fail
  try rw [← hg9]
  clear hg9
  generalize (w4.alloc (Obj.cells #[.bool b2, .slice A2 n2 c2] 24)) = W5 at *
  refine (sameR_yes zp _ _ _ (N.out.2.1.zv7 N.out.2.2.2.2.1) (N.out.2.2.1.zv7 N.out.2.2.2.2.2)).mono ?_
  rintro e w6 ⟨rfl, hx6⟩
  clear c20 c21 c30 c31
  go_wp2_with fail
  refine (awake_any _).mono ?_
  rintro e w7 ⟨rfl, hb7⟩
  have hx7 : Ext W5 w7 := hx6.trans hb7
  have ma := N.out.1.ext hx7
  have c0 := ma.c0
  have c1' := ma.c1
  have N2 := Lib.hid (And.intro ma (And.intro (N.out.2.1.ext hx7).r (And.intro (N.out.2.2.1.ext hx7).r (N.out.2.2.2.1.trans (Below.mono hx7 N.out.2.2.2.1.size)))))
  clear ma hx6 hx7 hb7 N
  go_wp2_with fail
  refine (D.out.2.2.1 _ N2.out.1.w).mono ?_
  rintro e w8 ⟨b3, A3, n3, c3, rfl, hz3, hb8⟩
  have hx8 : Ext w7 w8 := hb8
  obtain ⟨e3, w3⟩ := hz3.words
  have r7 := N2.out.2.1.ext hx8
  have r9 := (N2.out.2.2.1.ext hx8).far r7 (by omega) (.bool b3) (.slice A3 n3 c3)
  have ma := (N2.out.1.ext hx8).far r7 (by omega) (.bool b3) (.slice A3 n3 c3)
  have m7 := HW.set r7 b3 A3 n3 c3 _ w3
  have hbb := N2.out.2.2.2.trans (Below.mono hx8 N2.out.2.2.2.size)
  have hb9 := below_set2 (g := g7) (i := 0) (j := 1) hbb (by omega) (.bool b3) (.slice A3 n3 c3)
  obtain ⟨_, _, _, _, f0, f1, f2, f3⟩ := r7.facts
  have c0 := ma.c0
  have c1' := ma.c1
  have N3 := Lib.hid (And.intro ma (And.intro m7 (And.intro r9 (And.intro hb9 e3))))
  clear ma m7 r9 hbb hb9 e3 w3 hz3 hb8 hx8 r7 N2
  go_wp2_with fail
  generalize ((w8.setCell ⟨g7, 0, none⟩ (.bool b3)).setCell ⟨g7, 1, none⟩ (.slice A3 n3 c3)) = W9 at *
  clear f0 f1 f2 f3
  refine (D.out.2.2.2 _ N3.out.1.w).mono ?_
  rintro e w10 ⟨b4, A4, n4, c4, rfl, hz4, hb10⟩
  have hx10 : Ext W9 w10 := hb10
  obtain ⟨e4, w4'⟩ := hz4.words
  have r9 := N3.out.2.2.1.ext hx10
  have ma := (N3.out.1.ext hx10).far r9 (by omega) (.bool b4) (.slice A4 n4 c4)
  have m7 := (N3.out.2.1.ext hx10).far r9 (by omega) (.bool b4) (.slice A4 n4 c4)
  have m9 := HW.set r9 b4 A4 n4 c4 _ w4'
  have hbb := N3.out.2.2.2.1.trans (Below.mono hx10 N3.out.2.2.2.1.size)
  have hb11 := below_set2 (g := g9) (i := 0) (j := 1) hbb (by omega) (.bool b4) (.slice A4 n4 c4)
  obtain ⟨_, _, _, _, f0, f1, f2, f3⟩ := r9.facts
  have c0 := ma.c0
  have c1' := ma.c1
  have N4 := Lib.hid (And.intro ma (And.intro m7 (And.intro m9 (And.intro hb11 (And.intro N3.out.2.2.2.2 e4)))))
  clear ma m7 m9 hbb hb11 e4 w4' hz4 hb10 hx10 r9 N3
  go_wp2_with fail
  generalize ((w10.setCell ⟨g9, 0, none⟩ (.bool b4)).setCell ⟨g9, 1, none⟩ (.slice A4 n4 c4)) = W11 at *
  clear f0 f1 f2 f3
  refine (B.out.1 _ N4.out.1.w).mono ?_
  rintro e w12 ⟨rfl, hx12⟩
  have ma := N4.out.1.ext hx12
  have c0 := ma.c0
  have c1' := ma.c1
  have MA := Lib.hid ma
  clear ma
  go_wp2_with fail
  refine (B.out.2 _ MA.out.w).mono ?_
  rintro e w13 ⟨rfl, hx13⟩
  have hx14 : Ext W11 w13 := hx12.trans hx13
  have m7 := N4.out.2.1.ext hx14
  have m9 := N4.out.2.2.1.ext hx14
  have c20 := m7.c0
  have c21 := m7.c1
  have c30 := m9.c0
  have c31 := m9.c1
  have N5 := Lib.hid (And.intro (m7.zv7 N4.out.2.2.2.2.1) (And.intro (m9.zv7 N4.out.2.2.2.2.2) (N4.out.2.2.2.1.trans (Below.mono hx14 N4.out.2.2.2.1.size))))
  clear m7 m9 hx12 hx13 hx14 MA N4 c0 c1'
  go_wp2_with fail
  refine (sameR_yes zr _ _ _ N5.out.1 N5.out.2.1).mono ?_
  rintro e w15 ⟨rfl, hx15⟩
  have HF := Lib.hid (N5.out.2.2.trans (Below.mono hx15 N5.out.2.2.size))
  clear hx15 N5 c20 c21 c30 c31
  go_wp2
  go_ret
  exact ⟨rfl, HF.out⟩
end Go.Proofs.Ytmlopkkbgpfdnaa
