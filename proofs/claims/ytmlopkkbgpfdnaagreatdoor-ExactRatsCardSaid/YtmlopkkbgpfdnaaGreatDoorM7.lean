/- Walks: a step's matrix is applied to a pair. · Lehmer's step of Euclid's algorithm, as mathematics. · Walks: a block of a step's matrix; top. -/
import Derived.Test.YtmlopkkbgpfdnaaGreatDoorM3
import Derived.Test.YtmlopkkbgpfdnaaGreatDoorM6
namespace Go.Proofs.YtmlopkkbgpfdnaaGreatDoor
open Go.RowKit

/-- block g holds from cell i on a struct that stands for z -/
def HZo (W : World) (g i j : Nat) (z : Int) : Prop := ∃ b A n c, W.cell? ⟨g, i, none⟩ = some (.bool b) ∧ W.cell? ⟨g, j, none⟩ = some (.slice A n c) ∧ ZV W (.agg #[.bool b, .slice A n c]) z
theorem HZo.ext {X Y : World} {g i j : Nat} {z : Int} (h : HZo X g i j z) (hg : g < X.heap.size) (e : Ext X Y) : HZo Y g i j z := by
  obtain ⟨b, A, n, c, h0, h1, h2⟩ := h
  exact ⟨b, A, n, c, keepAt e hg h0, keepAt e hg h1, h2.ext e⟩
/-- a struct of four whole numbers stands for a matrix -/
def STV (w : World) (v : Value) (α β γ δ : Int) : Prop := ∃ (b1 : Bool) (A1 : Option Addr) (n1 c1 : Nat) (b2 : Bool) (A2 : Option Addr) (n2 c2 : Nat) (b3 : Bool) (A3 : Option Addr) (n3 c3 : Nat) (b4 : Bool) (A4 : Option Addr) (n4 c4 : Nat), v = .agg #[.bool b1, .slice A1 n1 c1, .bool b2, .slice A2 n2 c2, .bool b3, .slice A3 n3 c3, .bool b4, .slice A4 n4 c4] ∧ ZV w (.agg #[.bool b1, .slice A1 n1 c1]) α ∧ ZV w (.agg #[.bool b2, .slice A2 n2 c2]) β ∧ ZV w (.agg #[.bool b3, .slice A3 n3 c3]) γ ∧ ZV w (.agg #[.bool b4, .slice A4 n4 c4]) δ
theorem STV.ext {X Y : World} {v : Value} {α β γ δ : Int} (h : STV X v α β γ δ) (e : Ext X Y) : STV Y v α β γ δ := by
  obtain ⟨b1, A1, n1, c1, b2, A2, n2, c2, b3, A3, n3, c3, b4, A4, n4, c4, h0, h1, h2, h3, h4⟩ := h
  exact ⟨b1, A1, n1, c1, b2, A2, n2, c2, b3, A3, n3, c3, b4, A4, n4, c4, h0, h1.ext e, h2.ext e, h3.ext e, h4.ext e⟩
theorem len_mulG {x y k l : Nat} (hx : (dig x).length ≤ k) (hy : (dig y).length ≤ l) : (dig (x * y)).length ≤ k + l := by
  apply dig_len_le
  rw [Nat.pow_add]
  exact Nat.mul_lt_mul'' (lt_of_dig_len hx) (lt_of_dig_len hy)
theorem len_times {x y : Int} {a b : Nat} (hx : (dig x.natAbs).length ≤ a) (hy : (dig y.natAbs).length ≤ b) : (dig (x * y).natAbs).length ≤ a + b := by
  rw [Int.natAbs_mul]; exact len_mulG hx hy

set_option maxHeartbeats 8000000 in
set_option maxRecDepth 100000 in
theorem apply_any (α β γ δ r t : Int) (v u u' : Value) (W : World) (hs : STV W v α β γ δ) (hx : ZV W u r) (hy : ZV W u' t)
    (la : (dig α.natAbs).length ≤ 400000) (lb : (dig β.natAbs).length ≤ 400000) (lc : (dig γ.natAbs).length ≤ 400000) (ld : (dig δ.natAbs).length ≤ 400000) (lx : (dig r.natAbs).length ≤ 400000) (ly : (dig t.natAbs).length ≤ 400000) :
    Calls Tryz.prog 80 #[v, u, u'] W (RetZZ W (α * r + β * t) (γ * r + δ * t)) := by
  obtain ⟨b1, A1, n1, c1, b2, A2, n2, c2, b3, A3, n3, c3, b4, A4, n4, c4, rfl, s1, s2, s3, s4⟩ := hs
  obtain ⟨Ax, nx, cx, rfl, -, -, -⟩ := hx.open_
  obtain ⟨Ay, ny, cy, rfl, -, -, -⟩ := hy.open_
  obtain ⟨bx, hbx⟩ : ∃ b, b = decide (r < 0) := ⟨_, rfl⟩
  obtain ⟨bY, hby⟩ : ∃ b, b = decide (t < 0) := ⟨_, rfl⟩
  rw [← hbx] at hx ⊢
  rw [← hby] at hy ⊢
  have l1 := len_times la lx; have l2 := len_times lb ly; have l3 := len_times lc lx; have l4 := len_times ld ly
  obtain ⟨W2, hW2⟩ : ∃ W2, W2 = W.alloc (.cells #[.bool b1, .slice A1 n1 c1, .bool b2, .slice A2 n2 c2, .bool b3, .slice A3 n3 c3, .bool b4, .slice A4 n4 c4] 111) := ⟨_, rfl⟩
  have q1 : HZo W2 W.heap.size 0 1 α := ⟨b1, A1, n1, c1, by rw [hW2, World.cell?_alloc_new]; rfl, by rw [hW2, World.cell?_alloc_new]; rfl, by rw [hW2]; exact s1.below (below1 _ _)⟩
  have q2 : HZo W2 W.heap.size 2 3 β := ⟨b2, A2, n2, c2, by rw [hW2, World.cell?_alloc_new]; rfl, by rw [hW2, World.cell?_alloc_new]; rfl, by rw [hW2]; exact s2.below (below1 _ _)⟩
  have q3 : HZo W2 W.heap.size 4 5 γ := ⟨b3, A3, n3, c3, by rw [hW2, World.cell?_alloc_new]; rfl, by rw [hW2, World.cell?_alloc_new]; rfl, by rw [hW2]; exact s3.below (below1 _ _)⟩
  have q4 : HZo W2 W.heap.size 6 7 δ := ⟨b4, A4, n4, c4, by rw [hW2, World.cell?_alloc_new]; rfl, by rw [hW2, World.cell?_alloc_new]; rfl, by rw [hW2]; exact s4.below (below1 _ _)⟩
  have z2 : W2.heap.size = W.heap.size + 1 := by rw [hW2]; simp
  have e2 : Ext W W2 := by rw [hW2]; exact (Ext.refl W).alc _
  have p1 : HZ (W2.alloc (.cells #[.bool bx, .slice Ax nx cx] 44)) (W.heap.size + 1) r := by rw [← z2]; exact HZ.lit W2 bx Ax nx cx 44 (hx.ext e2)
  have p2 : HZ ((W2.alloc (.cells #[.bool bx, .slice Ax nx cx] 44)).alloc (.cells #[.bool bY, .slice Ay ny cy] 44)) (W.heap.size + 1 + 1) t := by
    have := HZ.lit (W2.alloc (.cells #[.bool bx, .slice Ax nx cx] 44)) bY Ay ny cy 44 (hy.ext (e2.trans ((Ext.refl _).alc _)))
    rwa [World.size_alloc, z2] at this
  obtain ⟨W1, hW1⟩ : ∃ W1, W1 = (((W2.alloc (.cells #[.bool bx, .slice Ax nx cx] 44)).alloc (.cells #[.bool bY, .slice Ay ny cy] 44)).alloc (.cells #[.bool false, .slice none 0 0] 44)).alloc (.cells #[.bool false, .slice none 0 0] 44) := ⟨_, rfl⟩
  have E1 : Ext W2 W1 := by rw [hW1]; exact ((((Ext.refl W2).alc _).alc _).alc _).alc _
  have Q1 := Lib.hid (q1.ext (by omega) E1); have Q2 := Lib.hid (q2.ext (by omega) E1); have Q3 := Lib.hid (q3.ext (by omega) E1); have Q4 := Lib.hid (q4.ext (by omega) E1)
  have PX : Hid (HZ W1 (W.heap.size + 1) r) := Lib.hid (by rw [hW1]; exact p1.ext p1.lt ((((Ext.refl _).alc _).alc _).alc _))
  have PY : Hid (HZ W1 (W.heap.size + 1 + 1) t) := Lib.hid (by rw [hW1]; exact p2.ext p2.lt (((Ext.refl _).alc _).alc _))
  have R6 : Hid (RB W1 (W.heap.size + 1 + 1 + 1)) := Lib.hid (by
    have := RB.c1 ((W2.alloc (.cells #[.bool bx, .slice Ax nx cx] 44)).alloc (.cells #[.bool bY, .slice Ay ny cy] 44)) false none 0 0 44
    rw [World.size_alloc, World.size_alloc, z2] at this
    rw [hW1]; exact this.ext ((Ext.refl _).alc _))
  have R7 : Hid (RB W1 (W.heap.size + 1 + 1 + 1 + 1)) := Lib.hid (by
    have := RB.c1 (((W2.alloc (.cells #[.bool bx, .slice Ax nx cx] 44)).alloc (.cells #[.bool bY, .slice Ay ny cy] 44)).alloc (.cells #[.bool false, .slice none 0 0] 44)) false none 0 0 44
    rw [World.size_alloc, World.size_alloc, World.size_alloc, z2] at this
    rw [hW1]; exact this)
  have EW := Lib.hid (e2.trans E1)
  have ZL : W1.heap.size = W.heap.size + 1 + 1 + 1 + 1 + 1 := by rw [hW1]; simp [z2]
  have zl : W.heap.size + 5 ≤ W1.heap.size := by omega
  rw [hW2] at hW1
  have HW1 := Lib.hid hW1
  clear hW1 hW2 ZL z2 q1 q2 q3 q4 e2 p1 p2 E1 hx hy hbx hby s1 s2 s3 s4
  go_enter Tryz.func80, Tryz.ntmps80
  go_upto_region 1 with fail
  rw [← HW1.out]
  clear HW1
  refine wp_region_noPanic ?_
  refine wp_pool 18 [some 8, some 9, some 10, some 11, some 12, some 13, some 14, some 15, some 16, some 17, some 18, some 19, some 20, some 21, some 22, some 23, some 24, some 25] [] [] [(fun (v : Value) (_ : World) => v = .pointer (some ⟨W.heap.size, 0, none⟩)), (fun (v : Value) (X : World) => ∃ b A n c, v = .agg #[.bool b, .slice A n c] ∧ ZV X (.agg #[.bool b, .slice A n c]) (α)), (fun (v : Value) (X : World) => ∃ b A n c, v = .agg #[.bool b, .slice A n c] ∧ ZV X (.agg #[.bool b, .slice A n c]) (r)), (fun (v : Value) (X : World) => ∃ b A n c, v = .agg #[.bool b, .slice A n c] ∧ ZV X (.agg #[.bool b, .slice A n c]) (α * r)), (fun (v : Value) (_ : World) => v = .pointer (some ⟨W.heap.size, 2, none⟩)), (fun (v : Value) (X : World) => ∃ b A n c, v = .agg #[.bool b, .slice A n c] ∧ ZV X (.agg #[.bool b, .slice A n c]) (β)), (fun (v : Value) (X : World) => ∃ b A n c, v = .agg #[.bool b, .slice A n c] ∧ ZV X (.agg #[.bool b, .slice A n c]) (t)), (fun (v : Value) (X : World) => ∃ b A n c, v = .agg #[.bool b, .slice A n c] ∧ ZV X (.agg #[.bool b, .slice A n c]) (β * t)), (fun (v : Value) (X : World) => ∃ b A n c, v = .agg #[.bool b, .slice A n c] ∧ ZV X (.agg #[.bool b, .slice A n c]) (α * r + β * t)), (fun (v : Value) (_ : World) => v = .pointer (some ⟨W.heap.size, 4, none⟩)), (fun (v : Value) (X : World) => ∃ b A n c, v = .agg #[.bool b, .slice A n c] ∧ ZV X (.agg #[.bool b, .slice A n c]) (γ)), (fun (v : Value) (X : World) => ∃ b A n c, v = .agg #[.bool b, .slice A n c] ∧ ZV X (.agg #[.bool b, .slice A n c]) (r)), (fun (v : Value) (X : World) => ∃ b A n c, v = .agg #[.bool b, .slice A n c] ∧ ZV X (.agg #[.bool b, .slice A n c]) (γ * r)), (fun (v : Value) (_ : World) => v = .pointer (some ⟨W.heap.size, 6, none⟩)), (fun (v : Value) (X : World) => ∃ b A n c, v = .agg #[.bool b, .slice A n c] ∧ ZV X (.agg #[.bool b, .slice A n c]) (δ)), (fun (v : Value) (X : World) => ∃ b A n c, v = .agg #[.bool b, .slice A n c] ∧ ZV X (.agg #[.bool b, .slice A n c]) (t)), (fun (v : Value) (X : World) => ∃ b A n c, v = .agg #[.bool b, .slice A n c] ∧ ZV X (.agg #[.bool b, .slice A n c]) (δ * t)), (fun (v : Value) (X : World) => ∃ b A n c, v = .agg #[.bool b, .slice A n c] ∧ ZV X (.agg #[.bool b, .slice A n c]) (γ * r + δ * t))] [noF, noF, noF, noF, noF, noF, noF, noF, noF, noF, noF, noF, noF, noF, noF, noF, noF, noF] (by kernel_rfl) (by kernel_rfl) (by kernel_rfl) (by kernel_rfl) (by kernel_rfl) (by kernel_rfl) (by kernel_rfl) (by kernel_rfl) (fun _ _ _ _ h => h) ⟨Stays.pure _, (fun _ _ _ e ⟨b, A, n, c, h1, h2⟩ => ⟨b, A, n, c, h1, h2.ext e⟩), (fun _ _ _ e ⟨b, A, n, c, h1, h2⟩ => ⟨b, A, n, c, h1, h2.ext e⟩), (fun _ _ _ e ⟨b, A, n, c, h1, h2⟩ => ⟨b, A, n, c, h1, h2.ext e⟩), Stays.pure _, (fun _ _ _ e ⟨b, A, n, c, h1, h2⟩ => ⟨b, A, n, c, h1, h2.ext e⟩), (fun _ _ _ e ⟨b, A, n, c, h1, h2⟩ => ⟨b, A, n, c, h1, h2.ext e⟩), (fun _ _ _ e ⟨b, A, n, c, h1, h2⟩ => ⟨b, A, n, c, h1, h2.ext e⟩), (fun _ _ _ e ⟨b, A, n, c, h1, h2⟩ => ⟨b, A, n, c, h1, h2.ext e⟩), Stays.pure _, (fun _ _ _ e ⟨b, A, n, c, h1, h2⟩ => ⟨b, A, n, c, h1, h2.ext e⟩), (fun _ _ _ e ⟨b, A, n, c, h1, h2⟩ => ⟨b, A, n, c, h1, h2.ext e⟩), (fun _ _ _ e ⟨b, A, n, c, h1, h2⟩ => ⟨b, A, n, c, h1, h2.ext e⟩), Stays.pure _, (fun _ _ _ e ⟨b, A, n, c, h1, h2⟩ => ⟨b, A, n, c, h1, h2.ext e⟩), (fun _ _ _ e ⟨b, A, n, c, h1, h2⟩ => ⟨b, A, n, c, h1, h2.ext e⟩), (fun _ _ _ e ⟨b, A, n, c, h1, h2⟩ => ⟨b, A, n, c, h1, h2.ext e⟩), (fun _ _ _ e ⟨b, A, n, c, h1, h2⟩ => ⟨b, A, n, c, h1, h2.ext e⟩), True.intro⟩ ?steps ?done
  case steps =>
    simp only [List.take_succ_cons, List.take_zero]
    refine Steps.cons (fun (v : Value) (_ : World) => v = .pointer (some ⟨W.heap.size, 0, none⟩)) [] rfl (by kernel_rfl) rfl (by kernel_rfl) (fun y X ex0 hf K hK => ?_) ?_
    · clear hf
      have ex := (Ext.drw (Ext.refl _)).trans ex0
      refine Box.mk ?_
      simp only [fill, Act.put, Nat.reduceAdd, List.setIfInBounds_toArray, List.set_cons_zero, List.set_cons_succ] at hK ⊢
      go_simp
      exact hK.out _ _ rfl (Ext.refl _) (fun b hb => by cases hb)
    refine Steps.cons (fun (v : Value) (X : World) => ∃ b A n c, v = .agg #[.bool b, .slice A n c] ∧ ZV X (.agg #[.bool b, .slice A n c]) (α)) [0] rfl (by kernel_rfl) rfl (by kernel_rfl) (fun y X ex0 hf K hK => ?_) ?_
    · have h0 : ((fun (v : Value) (_ : World) => v = .pointer (some ⟨W.heap.size, 0, none⟩))) (y 0) X := hf.1
      clear hf
      have ex := (Ext.drw (Ext.refl _)).trans ex0
      refine Box.mk ?_
      simp only [fill, Act.put, Nat.reduceAdd, List.setIfInBounds_toArray, List.set_cons_zero, List.set_cons_succ, h0] at hK ⊢
      obtain ⟨bl, Al, nl, cl, k0, k1, kz⟩ := (Q1.out.ext (by omega) ex)
      go_simp
      exact hK.out _ _ ⟨_, _, _, _, rfl, kz⟩ (Ext.refl _) (fun b hb => by cases hb)
    refine Steps.cons (fun (v : Value) (X : World) => ∃ b A n c, v = .agg #[.bool b, .slice A n c] ∧ ZV X (.agg #[.bool b, .slice A n c]) (r)) [] rfl (by kernel_rfl) rfl (by kernel_rfl) (fun y X ex0 hf K hK => ?_) ?_
    · clear hf
      have ex := (Ext.drw (Ext.refl _)).trans ex0
      refine Box.mk ?_
      simp only [fill, Act.put, Nat.reduceAdd, List.setIfInBounds_toArray, List.set_cons_zero, List.set_cons_succ] at hK ⊢
      obtain ⟨bl, Al, nl, cl, k0, k1, kz⟩ := (PX.out.ext (by omega) ex)
      go_simp
      exact hK.out _ _ ⟨_, _, _, _, rfl, kz⟩ (Ext.refl _) (fun b hb => by cases hb)
    refine Steps.cons (fun (v : Value) (X : World) => ∃ b A n c, v = .agg #[.bool b, .slice A n c] ∧ ZV X (.agg #[.bool b, .slice A n c]) (α * r)) [1, 2] rfl (by kernel_rfl) rfl (by kernel_rfl) (fun y X ex0 hf K hK => ?_) ?_
    · have hh1 : ((fun (v : Value) (X : World) => ∃ b A n c, v = .agg #[.bool b, .slice A n c] ∧ ZV X (.agg #[.bool b, .slice A n c]) (α))) (y 1) X := hf.1
      refine Exists.elim hh1 (fun b1 hx1_0 => ?_)
      refine Exists.elim hx1_0 (fun A1 hx1_1 => ?_)
      refine Exists.elim hx1_1 (fun n1 hx1_2 => ?_)
      refine Exists.elim hx1_2 (fun c1 hx1_3 => ?_)
      have h1 := hx1_3.1
      have z1 := hx1_3.2
      clear hh1 hx1_0 hx1_1 hx1_2 hx1_3
      have hh2 : ((fun (v : Value) (X : World) => ∃ b A n c, v = .agg #[.bool b, .slice A n c] ∧ ZV X (.agg #[.bool b, .slice A n c]) (r))) (y 2) X := hf.2.1
      refine Exists.elim hh2 (fun b2 hx2_0 => ?_)
      refine Exists.elim hx2_0 (fun A2 hx2_1 => ?_)
      refine Exists.elim hx2_1 (fun n2 hx2_2 => ?_)
      refine Exists.elim hx2_2 (fun c2 hx2_3 => ?_)
      have h2 := hx2_3.1
      have z2 := hx2_3.2
      clear hh2 hx2_0 hx2_1 hx2_2 hx2_3
      clear hf
      have ex := (Ext.drw (Ext.refl _)).trans ex0
      refine Box.mk ?_
      simp only [fill, Act.put, Nat.reduceAdd, List.setIfInBounds_toArray, List.set_cons_zero, List.set_cons_succ, h1, h2] at hK ⊢
      go_simp
      refine (asAgg (timesZ_any _ _ _ _ _ z1 z2 (by omega) (by omega))).mono ?_
      rintro e V ⟨b9, A9, n9, c9, rfl, hz, hb⟩
      try go_wp2_with fail
      exact hK.out _ _ ⟨_, _, _, _, rfl, hz⟩ hb (fun b hb => by cases hb)
    refine Steps.cons (fun (v : Value) (_ : World) => v = .pointer (some ⟨W.heap.size, 2, none⟩)) [] rfl (by kernel_rfl) rfl (by kernel_rfl) (fun y X ex0 hf K hK => ?_) ?_
    · clear hf
      have ex := (Ext.drw (Ext.refl _)).trans ex0
      refine Box.mk ?_
      simp only [fill, Act.put, Nat.reduceAdd, List.setIfInBounds_toArray, List.set_cons_zero, List.set_cons_succ] at hK ⊢
      go_simp
      exact hK.out _ _ rfl (Ext.refl _) (fun b hb => by cases hb)
    refine Steps.cons (fun (v : Value) (X : World) => ∃ b A n c, v = .agg #[.bool b, .slice A n c] ∧ ZV X (.agg #[.bool b, .slice A n c]) (β)) [4] rfl (by kernel_rfl) rfl (by kernel_rfl) (fun y X ex0 hf K hK => ?_) ?_
    · have h4 : ((fun (v : Value) (_ : World) => v = .pointer (some ⟨W.heap.size, 2, none⟩))) (y 4) X := hf.1
      clear hf
      have ex := (Ext.drw (Ext.refl _)).trans ex0
      refine Box.mk ?_
      simp only [fill, Act.put, Nat.reduceAdd, List.setIfInBounds_toArray, List.set_cons_zero, List.set_cons_succ, h4] at hK ⊢
      obtain ⟨bl, Al, nl, cl, k0, k1, kz⟩ := (Q2.out.ext (by omega) ex)
      go_simp
      exact hK.out _ _ ⟨_, _, _, _, rfl, kz⟩ (Ext.refl _) (fun b hb => by cases hb)
    refine Steps.cons (fun (v : Value) (X : World) => ∃ b A n c, v = .agg #[.bool b, .slice A n c] ∧ ZV X (.agg #[.bool b, .slice A n c]) (t)) [] rfl (by kernel_rfl) rfl (by kernel_rfl) (fun y X ex0 hf K hK => ?_) ?_
    · clear hf
      have ex := (Ext.drw (Ext.refl _)).trans ex0
      refine Box.mk ?_
      simp only [fill, Act.put, Nat.reduceAdd, List.setIfInBounds_toArray, List.set_cons_zero, List.set_cons_succ] at hK ⊢
      obtain ⟨bl, Al, nl, cl, k0, k1, kz⟩ := (PY.out.ext (by omega) ex)
      go_simp
      exact hK.out _ _ ⟨_, _, _, _, rfl, kz⟩ (Ext.refl _) (fun b hb => by cases hb)
    refine Steps.cons (fun (v : Value) (X : World) => ∃ b A n c, v = .agg #[.bool b, .slice A n c] ∧ ZV X (.agg #[.bool b, .slice A n c]) (β * t)) [5, 6, 3] rfl (by kernel_rfl) rfl (by kernel_rfl) (fun y X ex0 hf K hK => ?_) ?_
    · have hh5 : ((fun (v : Value) (X : World) => ∃ b A n c, v = .agg #[.bool b, .slice A n c] ∧ ZV X (.agg #[.bool b, .slice A n c]) (β))) (y 5) X := hf.1
      refine Exists.elim hh5 (fun b5 hx5_0 => ?_)
      refine Exists.elim hx5_0 (fun A5 hx5_1 => ?_)
      refine Exists.elim hx5_1 (fun n5 hx5_2 => ?_)
      refine Exists.elim hx5_2 (fun c5 hx5_3 => ?_)
      have h5 := hx5_3.1
      have z5 := hx5_3.2
      clear hh5 hx5_0 hx5_1 hx5_2 hx5_3
      have hh6 : ((fun (v : Value) (X : World) => ∃ b A n c, v = .agg #[.bool b, .slice A n c] ∧ ZV X (.agg #[.bool b, .slice A n c]) (t))) (y 6) X := hf.2.1
      refine Exists.elim hh6 (fun b6 hx6_0 => ?_)
      refine Exists.elim hx6_0 (fun A6 hx6_1 => ?_)
      refine Exists.elim hx6_1 (fun n6 hx6_2 => ?_)
      refine Exists.elim hx6_2 (fun c6 hx6_3 => ?_)
      have h6 := hx6_3.1
      have z6 := hx6_3.2
      clear hh6 hx6_0 hx6_1 hx6_2 hx6_3
      have hh3 : ((fun (v : Value) (X : World) => ∃ b A n c, v = .agg #[.bool b, .slice A n c] ∧ ZV X (.agg #[.bool b, .slice A n c]) (α * r))) (y 3) X := hf.2.2.1
      refine Exists.elim hh3 (fun b3 hx3_0 => ?_)
      refine Exists.elim hx3_0 (fun A3 hx3_1 => ?_)
      refine Exists.elim hx3_1 (fun n3 hx3_2 => ?_)
      refine Exists.elim hx3_2 (fun c3 hx3_3 => ?_)
      have h3 := hx3_3.1
      have z3 := hx3_3.2
      clear hh3 hx3_0 hx3_1 hx3_2 hx3_3
      clear hf
      have ex := (Ext.drw (Ext.refl _)).trans ex0
      refine Box.mk ?_
      simp only [fill, Act.put, Nat.reduceAdd, List.setIfInBounds_toArray, List.set_cons_zero, List.set_cons_succ, h5, h6, h3] at hK ⊢
      go_simp
      refine (asAgg (timesZ_any _ _ _ _ _ z5 z6 (by omega) (by omega))).mono ?_
      rintro e V ⟨b9, A9, n9, c9, rfl, hz, hb⟩
      try go_wp2_with fail
      exact hK.out _ _ ⟨_, _, _, _, rfl, hz⟩ hb (fun b hb => by cases hb)
    refine Steps.cons (fun (v : Value) (X : World) => ∃ b A n c, v = .agg #[.bool b, .slice A n c] ∧ ZV X (.agg #[.bool b, .slice A n c]) (α * r + β * t)) [3, 7] rfl (by kernel_rfl) rfl (by kernel_rfl) (fun y X ex0 hf K hK => ?_) ?_
    · have hh3 : ((fun (v : Value) (X : World) => ∃ b A n c, v = .agg #[.bool b, .slice A n c] ∧ ZV X (.agg #[.bool b, .slice A n c]) (α * r))) (y 3) X := hf.1
      refine Exists.elim hh3 (fun b3 hx3_0 => ?_)
      refine Exists.elim hx3_0 (fun A3 hx3_1 => ?_)
      refine Exists.elim hx3_1 (fun n3 hx3_2 => ?_)
      refine Exists.elim hx3_2 (fun c3 hx3_3 => ?_)
      have h3 := hx3_3.1
      have z3 := hx3_3.2
      clear hh3 hx3_0 hx3_1 hx3_2 hx3_3
      have hh7 : ((fun (v : Value) (X : World) => ∃ b A n c, v = .agg #[.bool b, .slice A n c] ∧ ZV X (.agg #[.bool b, .slice A n c]) (β * t))) (y 7) X := hf.2.1
      refine Exists.elim hh7 (fun b7 hx7_0 => ?_)
      refine Exists.elim hx7_0 (fun A7 hx7_1 => ?_)
      refine Exists.elim hx7_1 (fun n7 hx7_2 => ?_)
      refine Exists.elim hx7_2 (fun c7 hx7_3 => ?_)
      have h7 := hx7_3.1
      have z7 := hx7_3.2
      clear hh7 hx7_0 hx7_1 hx7_2 hx7_3
      clear hf
      have ex := (Ext.drw (Ext.refl _)).trans ex0
      refine Box.mk ?_
      simp only [fill, Act.put, Nat.reduceAdd, List.setIfInBounds_toArray, List.set_cons_zero, List.set_cons_succ, h3, h7] at hK ⊢
      go_simp
      refine (asAgg (plusZ_any _ _ _ _ _ z3 z7 (by omega) (by omega))).mono ?_
      rintro e V ⟨b9, A9, n9, c9, rfl, hz, hb⟩
      try go_wp2_with fail
      exact hK.out _ _ ⟨_, _, _, _, rfl, hz⟩ hb (fun b hb => by cases hb)
    refine Steps.cons (fun (v : Value) (_ : World) => v = .pointer (some ⟨W.heap.size, 4, none⟩)) [] rfl (by kernel_rfl) rfl (by kernel_rfl) (fun y X ex0 hf K hK => ?_) ?_
    · clear hf
      have ex := (Ext.drw (Ext.refl _)).trans ex0
      refine Box.mk ?_
      simp only [fill, Act.put, Nat.reduceAdd, List.setIfInBounds_toArray, List.set_cons_zero, List.set_cons_succ] at hK ⊢
      go_simp
      exact hK.out _ _ rfl (Ext.refl _) (fun b hb => by cases hb)
    refine Steps.cons (fun (v : Value) (X : World) => ∃ b A n c, v = .agg #[.bool b, .slice A n c] ∧ ZV X (.agg #[.bool b, .slice A n c]) (γ)) [9] rfl (by kernel_rfl) rfl (by kernel_rfl) (fun y X ex0 hf K hK => ?_) ?_
    · have h9 : ((fun (v : Value) (_ : World) => v = .pointer (some ⟨W.heap.size, 4, none⟩))) (y 9) X := hf.1
      clear hf
      have ex := (Ext.drw (Ext.refl _)).trans ex0
      refine Box.mk ?_
      simp only [fill, Act.put, Nat.reduceAdd, List.setIfInBounds_toArray, List.set_cons_zero, List.set_cons_succ, h9] at hK ⊢
      obtain ⟨bl, Al, nl, cl, k0, k1, kz⟩ := (Q3.out.ext (by omega) ex)
      go_simp
      exact hK.out _ _ ⟨_, _, _, _, rfl, kz⟩ (Ext.refl _) (fun b hb => by cases hb)
    refine Steps.cons (fun (v : Value) (X : World) => ∃ b A n c, v = .agg #[.bool b, .slice A n c] ∧ ZV X (.agg #[.bool b, .slice A n c]) (r)) [] rfl (by kernel_rfl) rfl (by kernel_rfl) (fun y X ex0 hf K hK => ?_) ?_
    · clear hf
      have ex := (Ext.drw (Ext.refl _)).trans ex0
      refine Box.mk ?_
      simp only [fill, Act.put, Nat.reduceAdd, List.setIfInBounds_toArray, List.set_cons_zero, List.set_cons_succ] at hK ⊢
      obtain ⟨bl, Al, nl, cl, k0, k1, kz⟩ := (PX.out.ext (by omega) ex)
      go_simp
      exact hK.out _ _ ⟨_, _, _, _, rfl, kz⟩ (Ext.refl _) (fun b hb => by cases hb)
    refine Steps.cons (fun (v : Value) (X : World) => ∃ b A n c, v = .agg #[.bool b, .slice A n c] ∧ ZV X (.agg #[.bool b, .slice A n c]) (γ * r)) [10, 11, 8] rfl (by kernel_rfl) rfl (by kernel_rfl) (fun y X ex0 hf K hK => ?_) ?_
    · have hh10 : ((fun (v : Value) (X : World) => ∃ b A n c, v = .agg #[.bool b, .slice A n c] ∧ ZV X (.agg #[.bool b, .slice A n c]) (γ))) (y 10) X := hf.1
      refine Exists.elim hh10 (fun b10 hx10_0 => ?_)
      refine Exists.elim hx10_0 (fun A10 hx10_1 => ?_)
      refine Exists.elim hx10_1 (fun n10 hx10_2 => ?_)
      refine Exists.elim hx10_2 (fun c10 hx10_3 => ?_)
      have h10 := hx10_3.1
      have z10 := hx10_3.2
      clear hh10 hx10_0 hx10_1 hx10_2 hx10_3
      have hh11 : ((fun (v : Value) (X : World) => ∃ b A n c, v = .agg #[.bool b, .slice A n c] ∧ ZV X (.agg #[.bool b, .slice A n c]) (r))) (y 11) X := hf.2.1
      refine Exists.elim hh11 (fun b11 hx11_0 => ?_)
      refine Exists.elim hx11_0 (fun A11 hx11_1 => ?_)
      refine Exists.elim hx11_1 (fun n11 hx11_2 => ?_)
      refine Exists.elim hx11_2 (fun c11 hx11_3 => ?_)
      have h11 := hx11_3.1
      have z11 := hx11_3.2
      clear hh11 hx11_0 hx11_1 hx11_2 hx11_3
      have hh8 : ((fun (v : Value) (X : World) => ∃ b A n c, v = .agg #[.bool b, .slice A n c] ∧ ZV X (.agg #[.bool b, .slice A n c]) (α * r + β * t))) (y 8) X := hf.2.2.1
      refine Exists.elim hh8 (fun b8 hx8_0 => ?_)
      refine Exists.elim hx8_0 (fun A8 hx8_1 => ?_)
      refine Exists.elim hx8_1 (fun n8 hx8_2 => ?_)
      refine Exists.elim hx8_2 (fun c8 hx8_3 => ?_)
      have h8 := hx8_3.1
      have z8 := hx8_3.2
      clear hh8 hx8_0 hx8_1 hx8_2 hx8_3
      clear hf
      have ex := (Ext.drw (Ext.refl _)).trans ex0
      refine Box.mk ?_
      simp only [fill, Act.put, Nat.reduceAdd, List.setIfInBounds_toArray, List.set_cons_zero, List.set_cons_succ, h10, h11, h8] at hK ⊢
      go_simp
      refine (asAgg (timesZ_any _ _ _ _ _ z10 z11 (by omega) (by omega))).mono ?_
      rintro e V ⟨b9, A9, n9, c9, rfl, hz, hb⟩
      try go_wp2_with fail
      exact hK.out _ _ ⟨_, _, _, _, rfl, hz⟩ hb (fun b hb => by cases hb)
    refine Steps.cons (fun (v : Value) (_ : World) => v = .pointer (some ⟨W.heap.size, 6, none⟩)) [] rfl (by kernel_rfl) rfl (by kernel_rfl) (fun y X ex0 hf K hK => ?_) ?_
    · clear hf
      have ex := (Ext.drw (Ext.refl _)).trans ex0
      refine Box.mk ?_
      simp only [fill, Act.put, Nat.reduceAdd, List.setIfInBounds_toArray, List.set_cons_zero, List.set_cons_succ] at hK ⊢
      go_simp
      exact hK.out _ _ rfl (Ext.refl _) (fun b hb => by cases hb)
    refine Steps.cons (fun (v : Value) (X : World) => ∃ b A n c, v = .agg #[.bool b, .slice A n c] ∧ ZV X (.agg #[.bool b, .slice A n c]) (δ)) [13] rfl (by kernel_rfl) rfl (by kernel_rfl) (fun y X ex0 hf K hK => ?_) ?_
    · have h13 : ((fun (v : Value) (_ : World) => v = .pointer (some ⟨W.heap.size, 6, none⟩))) (y 13) X := hf.1
      clear hf
      have ex := (Ext.drw (Ext.refl _)).trans ex0
      refine Box.mk ?_
      simp only [fill, Act.put, Nat.reduceAdd, List.setIfInBounds_toArray, List.set_cons_zero, List.set_cons_succ, h13] at hK ⊢
      obtain ⟨bl, Al, nl, cl, k0, k1, kz⟩ := (Q4.out.ext (by omega) ex)
      go_simp
      exact hK.out _ _ ⟨_, _, _, _, rfl, kz⟩ (Ext.refl _) (fun b hb => by cases hb)
    refine Steps.cons (fun (v : Value) (X : World) => ∃ b A n c, v = .agg #[.bool b, .slice A n c] ∧ ZV X (.agg #[.bool b, .slice A n c]) (t)) [] rfl (by kernel_rfl) rfl (by kernel_rfl) (fun y X ex0 hf K hK => ?_) ?_
    · clear hf
      have ex := (Ext.drw (Ext.refl _)).trans ex0
      refine Box.mk ?_
      simp only [fill, Act.put, Nat.reduceAdd, List.setIfInBounds_toArray, List.set_cons_zero, List.set_cons_succ] at hK ⊢
      obtain ⟨bl, Al, nl, cl, k0, k1, kz⟩ := (PY.out.ext (by omega) ex)
      go_simp
      exact hK.out _ _ ⟨_, _, _, _, rfl, kz⟩ (Ext.refl _) (fun b hb => by cases hb)
    refine Steps.cons (fun (v : Value) (X : World) => ∃ b A n c, v = .agg #[.bool b, .slice A n c] ∧ ZV X (.agg #[.bool b, .slice A n c]) (δ * t)) [14, 15, 12] rfl (by kernel_rfl) rfl (by kernel_rfl) (fun y X ex0 hf K hK => ?_) ?_
    · have hh14 : ((fun (v : Value) (X : World) => ∃ b A n c, v = .agg #[.bool b, .slice A n c] ∧ ZV X (.agg #[.bool b, .slice A n c]) (δ))) (y 14) X := hf.1
      refine Exists.elim hh14 (fun b14 hx14_0 => ?_)
      refine Exists.elim hx14_0 (fun A14 hx14_1 => ?_)
      refine Exists.elim hx14_1 (fun n14 hx14_2 => ?_)
      refine Exists.elim hx14_2 (fun c14 hx14_3 => ?_)
      have h14 := hx14_3.1
      have z14 := hx14_3.2
      clear hh14 hx14_0 hx14_1 hx14_2 hx14_3
      have hh15 : ((fun (v : Value) (X : World) => ∃ b A n c, v = .agg #[.bool b, .slice A n c] ∧ ZV X (.agg #[.bool b, .slice A n c]) (t))) (y 15) X := hf.2.1
      refine Exists.elim hh15 (fun b15 hx15_0 => ?_)
      refine Exists.elim hx15_0 (fun A15 hx15_1 => ?_)
      refine Exists.elim hx15_1 (fun n15 hx15_2 => ?_)
      refine Exists.elim hx15_2 (fun c15 hx15_3 => ?_)
      have h15 := hx15_3.1
      have z15 := hx15_3.2
      clear hh15 hx15_0 hx15_1 hx15_2 hx15_3
      have hh12 : ((fun (v : Value) (X : World) => ∃ b A n c, v = .agg #[.bool b, .slice A n c] ∧ ZV X (.agg #[.bool b, .slice A n c]) (γ * r))) (y 12) X := hf.2.2.1
      refine Exists.elim hh12 (fun b12 hx12_0 => ?_)
      refine Exists.elim hx12_0 (fun A12 hx12_1 => ?_)
      refine Exists.elim hx12_1 (fun n12 hx12_2 => ?_)
      refine Exists.elim hx12_2 (fun c12 hx12_3 => ?_)
      have h12 := hx12_3.1
      have z12 := hx12_3.2
      clear hh12 hx12_0 hx12_1 hx12_2 hx12_3
      clear hf
      have ex := (Ext.drw (Ext.refl _)).trans ex0
      refine Box.mk ?_
      simp only [fill, Act.put, Nat.reduceAdd, List.setIfInBounds_toArray, List.set_cons_zero, List.set_cons_succ, h14, h15, h12] at hK ⊢
      go_simp
      refine (asAgg (timesZ_any _ _ _ _ _ z14 z15 (by omega) (by omega))).mono ?_
      rintro e V ⟨b9, A9, n9, c9, rfl, hz, hb⟩
      try go_wp2_with fail
      exact hK.out _ _ ⟨_, _, _, _, rfl, hz⟩ hb (fun b hb => by cases hb)
    refine Steps.cons (fun (v : Value) (X : World) => ∃ b A n c, v = .agg #[.bool b, .slice A n c] ∧ ZV X (.agg #[.bool b, .slice A n c]) (γ * r + δ * t)) [12, 16] rfl (by kernel_rfl) rfl (by kernel_rfl) (fun y X ex0 hf K hK => ?_) ?_
    · have hh12 : ((fun (v : Value) (X : World) => ∃ b A n c, v = .agg #[.bool b, .slice A n c] ∧ ZV X (.agg #[.bool b, .slice A n c]) (γ * r))) (y 12) X := hf.1
      refine Exists.elim hh12 (fun b12 hx12_0 => ?_)
      refine Exists.elim hx12_0 (fun A12 hx12_1 => ?_)
      refine Exists.elim hx12_1 (fun n12 hx12_2 => ?_)
      refine Exists.elim hx12_2 (fun c12 hx12_3 => ?_)
      have h12 := hx12_3.1
      have z12 := hx12_3.2
      clear hh12 hx12_0 hx12_1 hx12_2 hx12_3
      have hh16 : ((fun (v : Value) (X : World) => ∃ b A n c, v = .agg #[.bool b, .slice A n c] ∧ ZV X (.agg #[.bool b, .slice A n c]) (δ * t))) (y 16) X := hf.2.1
      refine Exists.elim hh16 (fun b16 hx16_0 => ?_)
      refine Exists.elim hx16_0 (fun A16 hx16_1 => ?_)
      refine Exists.elim hx16_1 (fun n16 hx16_2 => ?_)
      refine Exists.elim hx16_2 (fun c16 hx16_3 => ?_)
      have h16 := hx16_3.1
      have z16 := hx16_3.2
      clear hh16 hx16_0 hx16_1 hx16_2 hx16_3
      clear hf
      have ex := (Ext.drw (Ext.refl _)).trans ex0
      refine Box.mk ?_
      simp only [fill, Act.put, Nat.reduceAdd, List.setIfInBounds_toArray, List.set_cons_zero, List.set_cons_succ, h12, h16] at hK ⊢
      go_simp
      refine (asAgg (plusZ_any _ _ _ _ _ z12 z16 (by omega) (by omega))).mono ?_
      rintro e V ⟨b9, A9, n9, c9, rfl, hz, hb⟩
      try go_wp2_with fail
      exact hK.out _ _ ⟨_, _, _, _, rfl, hz⟩ hb (fun b hb => by cases hb)
    exact Steps.nil
  case done =>
    intro y X ex hf hlt hsep
    have h0 : ((fun (v : Value) (_ : World) => v = .pointer (some ⟨W.heap.size, 0, none⟩))) (y 0) X := hf.1
    have hh1 : ((fun (v : Value) (X : World) => ∃ b A n c, v = .agg #[.bool b, .slice A n c] ∧ ZV X (.agg #[.bool b, .slice A n c]) (α))) (y 1) X := hf.2.1
    refine Exists.elim hh1 (fun b1 hx1_0 => ?_)
    refine Exists.elim hx1_0 (fun A1 hx1_1 => ?_)
    refine Exists.elim hx1_1 (fun n1 hx1_2 => ?_)
    refine Exists.elim hx1_2 (fun c1 hx1_3 => ?_)
    have h1 := hx1_3.1
    have z1 := hx1_3.2
    clear hh1 hx1_0 hx1_1 hx1_2 hx1_3
    have hh2 : ((fun (v : Value) (X : World) => ∃ b A n c, v = .agg #[.bool b, .slice A n c] ∧ ZV X (.agg #[.bool b, .slice A n c]) (r))) (y 2) X := hf.2.2.1
    refine Exists.elim hh2 (fun b2 hx2_0 => ?_)
    refine Exists.elim hx2_0 (fun A2 hx2_1 => ?_)
    refine Exists.elim hx2_1 (fun n2 hx2_2 => ?_)
    refine Exists.elim hx2_2 (fun c2 hx2_3 => ?_)
    have h2 := hx2_3.1
    have z2 := hx2_3.2
    clear hh2 hx2_0 hx2_1 hx2_2 hx2_3
    have hh3 : ((fun (v : Value) (X : World) => ∃ b A n c, v = .agg #[.bool b, .slice A n c] ∧ ZV X (.agg #[.bool b, .slice A n c]) (α * r))) (y 3) X := hf.2.2.2.1
    refine Exists.elim hh3 (fun b3 hx3_0 => ?_)
    refine Exists.elim hx3_0 (fun A3 hx3_1 => ?_)
    refine Exists.elim hx3_1 (fun n3 hx3_2 => ?_)
    refine Exists.elim hx3_2 (fun c3 hx3_3 => ?_)
    have h3 := hx3_3.1
    have z3 := hx3_3.2
    clear hh3 hx3_0 hx3_1 hx3_2 hx3_3
    have h4 : ((fun (v : Value) (_ : World) => v = .pointer (some ⟨W.heap.size, 2, none⟩))) (y 4) X := hf.2.2.2.2.1
    have hh5 : ((fun (v : Value) (X : World) => ∃ b A n c, v = .agg #[.bool b, .slice A n c] ∧ ZV X (.agg #[.bool b, .slice A n c]) (β))) (y 5) X := hf.2.2.2.2.2.1
    refine Exists.elim hh5 (fun b5 hx5_0 => ?_)
    refine Exists.elim hx5_0 (fun A5 hx5_1 => ?_)
    refine Exists.elim hx5_1 (fun n5 hx5_2 => ?_)
    refine Exists.elim hx5_2 (fun c5 hx5_3 => ?_)
    have h5 := hx5_3.1
    have z5 := hx5_3.2
    clear hh5 hx5_0 hx5_1 hx5_2 hx5_3
    have hh6 : ((fun (v : Value) (X : World) => ∃ b A n c, v = .agg #[.bool b, .slice A n c] ∧ ZV X (.agg #[.bool b, .slice A n c]) (t))) (y 6) X := hf.2.2.2.2.2.2.1
    refine Exists.elim hh6 (fun b6 hx6_0 => ?_)
    refine Exists.elim hx6_0 (fun A6 hx6_1 => ?_)
    refine Exists.elim hx6_1 (fun n6 hx6_2 => ?_)
    refine Exists.elim hx6_2 (fun c6 hx6_3 => ?_)
    have h6 := hx6_3.1
    have z6 := hx6_3.2
    clear hh6 hx6_0 hx6_1 hx6_2 hx6_3
    have hh7 : ((fun (v : Value) (X : World) => ∃ b A n c, v = .agg #[.bool b, .slice A n c] ∧ ZV X (.agg #[.bool b, .slice A n c]) (β * t))) (y 7) X := hf.2.2.2.2.2.2.2.1
    refine Exists.elim hh7 (fun b7 hx7_0 => ?_)
    refine Exists.elim hx7_0 (fun A7 hx7_1 => ?_)
    refine Exists.elim hx7_1 (fun n7 hx7_2 => ?_)
    refine Exists.elim hx7_2 (fun c7 hx7_3 => ?_)
    have h7 := hx7_3.1
    have z7 := hx7_3.2
    clear hh7 hx7_0 hx7_1 hx7_2 hx7_3
    have hh8 : ((fun (v : Value) (X : World) => ∃ b A n c, v = .agg #[.bool b, .slice A n c] ∧ ZV X (.agg #[.bool b, .slice A n c]) (α * r + β * t))) (y 8) X := hf.2.2.2.2.2.2.2.2.1
    refine Exists.elim hh8 (fun b8 hx8_0 => ?_)
    refine Exists.elim hx8_0 (fun A8 hx8_1 => ?_)
    refine Exists.elim hx8_1 (fun n8 hx8_2 => ?_)
    refine Exists.elim hx8_2 (fun c8 hx8_3 => ?_)
    have h8 := hx8_3.1
    have z8 := hx8_3.2
    clear hh8 hx8_0 hx8_1 hx8_2 hx8_3
    have h9 : ((fun (v : Value) (_ : World) => v = .pointer (some ⟨W.heap.size, 4, none⟩))) (y 9) X := hf.2.2.2.2.2.2.2.2.2.1
    have hh10 : ((fun (v : Value) (X : World) => ∃ b A n c, v = .agg #[.bool b, .slice A n c] ∧ ZV X (.agg #[.bool b, .slice A n c]) (γ))) (y 10) X := hf.2.2.2.2.2.2.2.2.2.2.1
    refine Exists.elim hh10 (fun b10 hx10_0 => ?_)
    refine Exists.elim hx10_0 (fun A10 hx10_1 => ?_)
    refine Exists.elim hx10_1 (fun n10 hx10_2 => ?_)
    refine Exists.elim hx10_2 (fun c10 hx10_3 => ?_)
    have h10 := hx10_3.1
    have z10 := hx10_3.2
    clear hh10 hx10_0 hx10_1 hx10_2 hx10_3
    have hh11 : ((fun (v : Value) (X : World) => ∃ b A n c, v = .agg #[.bool b, .slice A n c] ∧ ZV X (.agg #[.bool b, .slice A n c]) (r))) (y 11) X := hf.2.2.2.2.2.2.2.2.2.2.2.1
    refine Exists.elim hh11 (fun b11 hx11_0 => ?_)
    refine Exists.elim hx11_0 (fun A11 hx11_1 => ?_)
    refine Exists.elim hx11_1 (fun n11 hx11_2 => ?_)
    refine Exists.elim hx11_2 (fun c11 hx11_3 => ?_)
    have h11 := hx11_3.1
    have z11 := hx11_3.2
    clear hh11 hx11_0 hx11_1 hx11_2 hx11_3
    have hh12 : ((fun (v : Value) (X : World) => ∃ b A n c, v = .agg #[.bool b, .slice A n c] ∧ ZV X (.agg #[.bool b, .slice A n c]) (γ * r))) (y 12) X := hf.2.2.2.2.2.2.2.2.2.2.2.2.1
    refine Exists.elim hh12 (fun b12 hx12_0 => ?_)
    refine Exists.elim hx12_0 (fun A12 hx12_1 => ?_)
    refine Exists.elim hx12_1 (fun n12 hx12_2 => ?_)
    refine Exists.elim hx12_2 (fun c12 hx12_3 => ?_)
    have h12 := hx12_3.1
    have z12 := hx12_3.2
    clear hh12 hx12_0 hx12_1 hx12_2 hx12_3
    have h13 : ((fun (v : Value) (_ : World) => v = .pointer (some ⟨W.heap.size, 6, none⟩))) (y 13) X := hf.2.2.2.2.2.2.2.2.2.2.2.2.2.1
    have hh14 : ((fun (v : Value) (X : World) => ∃ b A n c, v = .agg #[.bool b, .slice A n c] ∧ ZV X (.agg #[.bool b, .slice A n c]) (δ))) (y 14) X := hf.2.2.2.2.2.2.2.2.2.2.2.2.2.2.1
    refine Exists.elim hh14 (fun b14 hx14_0 => ?_)
    refine Exists.elim hx14_0 (fun A14 hx14_1 => ?_)
    refine Exists.elim hx14_1 (fun n14 hx14_2 => ?_)
    refine Exists.elim hx14_2 (fun c14 hx14_3 => ?_)
    have h14 := hx14_3.1
    have z14 := hx14_3.2
    clear hh14 hx14_0 hx14_1 hx14_2 hx14_3
    have hh15 : ((fun (v : Value) (X : World) => ∃ b A n c, v = .agg #[.bool b, .slice A n c] ∧ ZV X (.agg #[.bool b, .slice A n c]) (t))) (y 15) X := hf.2.2.2.2.2.2.2.2.2.2.2.2.2.2.2.1
    refine Exists.elim hh15 (fun b15 hx15_0 => ?_)
    refine Exists.elim hx15_0 (fun A15 hx15_1 => ?_)
    refine Exists.elim hx15_1 (fun n15 hx15_2 => ?_)
    refine Exists.elim hx15_2 (fun c15 hx15_3 => ?_)
    have h15 := hx15_3.1
    have z15 := hx15_3.2
    clear hh15 hx15_0 hx15_1 hx15_2 hx15_3
    have hh16 : ((fun (v : Value) (X : World) => ∃ b A n c, v = .agg #[.bool b, .slice A n c] ∧ ZV X (.agg #[.bool b, .slice A n c]) (δ * t))) (y 16) X := hf.2.2.2.2.2.2.2.2.2.2.2.2.2.2.2.2.1
    refine Exists.elim hh16 (fun b16 hx16_0 => ?_)
    refine Exists.elim hx16_0 (fun A16 hx16_1 => ?_)
    refine Exists.elim hx16_1 (fun n16 hx16_2 => ?_)
    refine Exists.elim hx16_2 (fun c16 hx16_3 => ?_)
    have h16 := hx16_3.1
    have z16 := hx16_3.2
    clear hh16 hx16_0 hx16_1 hx16_2 hx16_3
    have hh17 : ((fun (v : Value) (X : World) => ∃ b A n c, v = .agg #[.bool b, .slice A n c] ∧ ZV X (.agg #[.bool b, .slice A n c]) (γ * r + δ * t))) (y 17) X := hf.2.2.2.2.2.2.2.2.2.2.2.2.2.2.2.2.2.1
    refine Exists.elim hh17 (fun b17 hx17_0 => ?_)
    refine Exists.elim hx17_0 (fun A17 hx17_1 => ?_)
    refine Exists.elim hx17_1 (fun n17 hx17_2 => ?_)
    refine Exists.elim hx17_2 (fun c17 hx17_3 => ?_)
    have h17 := hx17_3.1
    have z17 := hx17_3.2
    clear hh17 hx17_0 hx17_1 hx17_2 hx17_3
    clear hf
    clear hsep hlt
    refine Box.mk ?_
    simp only [List.drop_succ_cons, List.drop_zero, fill, Act.put, Nat.reduceAdd, List.setIfInBounds_toArray, List.set_cons_zero, List.set_cons_succ, h0, h1, h2, h3, h4, h5, h6, h7, h8, h9, h10, h11, h12, h13, h14, h15, h16, h17]
    clear h0 h1 h2 h3 h4 h5 h6 h7 h8 h9 h10 h11 h12 h13 h14 h15 h16 h17
    have R3 := R6.out.ext ex
    have R4 := R7.out.ext ex
    obtain ⟨_, _, _, _, g30, g31, g32, g33⟩ := R3.facts
    obtain ⟨_, _, _, _, g40, g41, g42, g43⟩ := R4.facts
    obtain ⟨W', hW', f1, f2, f3, f4, hz1', hz2', hbf⟩ := two_res R3 R4 (by omega) b8 A8 n8 c8 b17 A17 n17 c17 z8 z17 ((EW.out.trans ex).below) (by omega) (by omega)
    have T := R4.far R3 (by omega) (.bool b8) (.slice A8 n8 c8)
    obtain ⟨_, _, _, _, g50, g51, g52, g53⟩ := T.facts
    have HF := Lib.hid (And.intro hz1' (And.intro hz2' (And.intro hbf (And.intro f1 (And.intro f2 (And.intro f3 f4))))))
    have HW' := Lib.hid hW'
    clear hz1' hz2' hbf f1 f2 f3 f4 hW' T R3 R4 ex z1 z2 z3 z5 z6 z7 z8 z10 z11 z12 z14 z15 z16 z17
    go_wp2_with fail
    refine NoPanic.normal ?_
    go_wp2
    rw [← HW'.out]
    obtain ⟨hz1, hz2, hbf, f1, f2, f3, f4⟩ := HF.out
    exact bodyPost_ret (v := .tuple #[.agg #[.bool b8, .slice A8 n8 c8], .agg #[.bool b17, .slice A17 n17 c17]]) (by simp [results, Tryz.results80, go_sem, f1, f2, f3, f4]) rfl ⟨_, _, _, _, _, _, _, _, rfl, hz1, hz2, hbf⟩
end Go.Proofs.YtmlopkkbgpfdnaaGreatDoor
namespace Go.Proofs.YtmlopkkbgpfdnaaGreatDoor

/-- the sign of a round -/
def sg (fl : Bool) : Int := if fl then 1 else -1
theorem sg_or (fl : Bool) : (fl = true ∧ sg fl = 1) ∨ (fl = false ∧ sg fl = -1) := by cases fl <;> simp [sg]
theorem sg_not (fl : Bool) : sg (!fl) = - sg fl := by cases fl <;> rfl

/-- the state of the loop: (p, q) are remainders of the tops (P, Q) of x and y; a, b are two rounds behind, c, d one -/
structure Leh (x y P Q p q a b c d e f : Int) (fl : Bool) : Prop where
  p1 : sg fl * (c * P - d * Q) = p
  q1 : sg fl * (f * Q - e * P) = q
  det : c * f - d * e = sg fl
  sum : p * f + q * d = P
  sum2 : p * e + q * c = Q
  pq : q ≤ p
  pp : 1 ≤ p
  q0 : 0 ≤ q
  a0 : 0 ≤ a
  b0 : 0 ≤ b
  c0 : 0 ≤ c
  d0 : 0 ≤ d
  e0 : 0 ≤ e
  f1 : 1 ≤ f
  df : d ≤ f
  ef : e ≤ f
  xc : 0 ≤ sg fl * (c * x - d * y)
  start : b = 0 ∨ (1 ≤ b ∧ b * c - a * d = sg fl ∧ a ≤ c ∧ b ≤ d ∧ sg fl * (c * x - d * y) < sg fl * (b * y - a * x) ∧ sg fl * (b * y - a * x) ≤ y)
  one : (d = 0 ∧ c = 1 ∧ e = 0 ∧ f = 1 ∧ fl = true) ∨ (c ≤ d ∧ 1 ≤ d ∧ c ≤ e)
  first : d = 0 ∨ sg fl * (c * x - d * y) ≤ y
  ab : a ≤ P ∧ b ≤ P

theorem Leh.init {x y P Q : Int} (hP : 1 ≤ P) (hQ0 : 0 ≤ Q) (hQ : Q ≤ P) (hx : 0 ≤ x) : Leh x y P Q P Q 0 0 1 0 0 1 true where
  p1 := by simp [sg]
  q1 := by simp [sg]
  det := by simp [sg]
  sum := by simp
  sum2 := by simp
  pq := hQ
  pp := hP
  q0 := hQ0
  a0 := by omega
  b0 := by omega
  c0 := by omega
  d0 := by omega
  e0 := by omega
  f1 := by omega
  df := by omega
  ef := by omega
  xc := by simp [sg]; exact hx
  start := .inl rfl
  one := .inl ⟨rfl, rfl, rfl, rfl, rfl⟩
  first := .inl rfl
  ab := by omega

section
variable {x y P Q p q a b c d e f : Int} {fl : Bool}
theorem Leh.f_le (h : Leh x y P Q p q a b c d e f fl) : f ≤ P := by
  have h1 := h.sum; have h2 := h.pp; have h3 := h.f1; have h4 := h.q0; have h5 := h.d0
  have k1 : 1 * f ≤ p * f := Int.mul_le_mul_of_nonneg_right h2 (by omega)
  have k2 : 0 ≤ q * d := Int.mul_nonneg h4 h5
  omega
theorem Leh.df_le (h : Leh x y P Q p q a b c d e f fl) (hq : 1 ≤ q) : d + f ≤ P := by
  have h1 := h.sum; have h2 := h.pp; have h3 := h.f1; have h5 := h.d0
  have k1 : 1 * f ≤ p * f := Int.mul_le_mul_of_nonneg_right h2 (by omega)
  have k2 : 1 * d ≤ q * d := Int.mul_le_mul_of_nonneg_right hq h5
  omega
/-- the rest of the round that is looked at is certain -/
theorem Leh.next_pos {B r t : Int} (h : Leh x y P Q p q a b c d e f fl) (hx : x = P * B + r) (hy : y = Q * B + t) (hr : 0 ≤ r) (hr2 : r < B) (ht : 0 ≤ t) (ht2 : t < B) (h1 : f ≤ q) : 0 ≤ sg fl * (f * y - e * x) := by
  have e0 := h.e0; have ef := h.ef; have f1 := h.f1; have q1 := h.q1
  have k1 : e * r ≤ e * B := Int.mul_le_mul_of_nonneg_left (by omega) e0
  have k2 : 0 ≤ f * t := Int.mul_nonneg (by omega) ht
  have k3 : B * e ≤ B * q := Int.mul_le_mul_of_nonneg_left (by omega) (by omega)
  have k4 : f * t ≤ f * B := Int.mul_le_mul_of_nonneg_left (by omega) (by omega)
  have k5 : 0 ≤ e * r := Int.mul_nonneg e0 hr
  have k6 : B * f ≤ B * q := Int.mul_le_mul_of_nonneg_left (by omega) (by omega)
  rcases sg_or fl with ⟨-, hs⟩ | ⟨-, hs⟩ <;> rw [hs] at q1 ⊢ <;> subst hx hy
  · have : 1 * (f * (Q * B + t) - e * (P * B + r)) = B * q + (f * t - e * r) := by grind
    rw [this]; have := Int.mul_comm B e; omega
  · have : -1 * (f * (Q * B + t) - e * (P * B + r)) = B * q + (e * r - f * t) := by grind
    rw [this]; have := Int.mul_comm B f; omega
theorem Leh.next_lt {B r t : Int} (h : Leh x y P Q p q a b c d e f fl) (hx : x = P * B + r) (hy : y = Q * B + t) (hr : 0 ≤ r) (hr2 : r < B) (ht : 0 ≤ t) (ht2 : t < B) (h2 : d + f ≤ p - q) : sg fl * (f * y - e * x) < sg fl * (c * x - d * y) := by
  have e0 := h.e0; have ef := h.ef; have f1 := h.f1; have q1 := h.q1; have p1 := h.p1; have c0 := h.c0; have d0 := h.d0; have one := h.one
  have k3 : B * (d + f) ≤ B * (p - q) := Int.mul_le_mul_of_nonneg_left h2 (by omega)
  rcases sg_or fl with ⟨hf, hs⟩ | ⟨hf, hs⟩ <;> rw [hs] at q1 p1 ⊢ <;> subst hx hy
  · have k1 : 0 ≤ (c + e) * r := Int.mul_nonneg (by omega) hr
    have k2 : (d + f) * t ≤ (d + f) * (B - 1) := Int.mul_le_mul_of_nonneg_left (by omega) (by omega)
    have k4 : (d + f) * (B - 1) = B * (d + f) - (d + f) := by grind
    have : 1 * (c * (P * B + r) - d * (Q * B + t)) - 1 * (f * (Q * B + t) - e * (P * B + r)) = B * (p - q) + ((c + e) * r - (d + f) * t) := by grind
    omega
  · have hcd : c ≤ d := by
      rcases one with ⟨_, _, _, _, h5⟩ | ⟨h5, _⟩
      · rw [hf] at h5; cases h5
      · exact h5
    have k1 : 0 ≤ (d + f) * t := Int.mul_nonneg (by omega) ht
    have k2 : (c + e) * r ≤ (d + f) * r := Int.mul_le_mul_of_nonneg_right (by omega) hr
    have k5 : (d + f) * r ≤ (d + f) * (B - 1) := Int.mul_le_mul_of_nonneg_left (by omega) (by omega)
    have k4 : (d + f) * (B - 1) = B * (d + f) - (d + f) := by grind
    have : -1 * (c * (P * B + r) - d * (Q * B + t)) - -1 * (f * (Q * B + t) - e * (P * B + r)) = B * (p - q) + ((d + f) * t - (c + e) * r) := by grind
    omega
theorem Leh.step {B r t K : Int} (h : Leh x y P Q p q a b c d e f fl) (hx : x = P * B + r) (hy : y = Q * B + t) (hr : 0 ≤ r) (hr2 : r < B) (ht : 0 ≤ t) (ht2 : t < B) (h1 : f ≤ q) (h2 : d + f ≤ p - q)
    (hK : 1 ≤ K) (hm0 : 0 ≤ p - K * q) (hm1 : p - K * q < q) : Leh x y P Q q (p - K * q) c d e f (c + K * e) (d + K * f) (!fl) := by
  have hpos := h.next_pos hx hy hr hr2 ht ht2 h1
  have hlt := h.next_lt hx hy hr hr2 ht ht2 h2
  have hfP := h.f_le
  obtain ⟨p1, q1, det, sum, sum2, pq, pp, q0, a0, b0, c0, d0, e0, f1, df, ef, xc, start, one, first, ab⟩ := h
  have kf : 1 * f ≤ K * f := Int.mul_le_mul_of_nonneg_right hK (by omega)
  have ke : 1 * e ≤ K * e := Int.mul_le_mul_of_nonneg_right hK e0
  have kef : K * e ≤ K * f := Int.mul_le_mul_of_nonneg_left ef (by omega)
  have xx : sg (!fl) * (e * x - f * y) = sg fl * (f * y - e * x) := by rw [sg_not]; grind
  have xa : sg (!fl) * (d * y - c * x) = sg fl * (c * x - d * y) := by rw [sg_not]; grind
  refine ⟨?_, ?_, ?_, ?_, ?_, by omega, by omega, by omega, c0, d0, e0, by omega, by omega, by omega, by omega, ?_, by rw [xx]; exact hpos, ?_, ?_, ?_, ?_⟩
  · rw [sg_not]; grind
  · rw [sg_not]; grind
  · rw [sg_not]; grind
  · grind
  · grind
  · rcases one with ⟨o1, o2, o3, o4, o5⟩ | ⟨o1, o2, o3⟩
    · subst o1 o2 o3 o4; omega
    · omega
  · rcases Int.lt_or_le 0 d with hd | hd
    · right
      refine ⟨by omega, by rw [sg_not]; grind, ?_, df, by rw [xx, xa]; exact hlt, ?_⟩
      · rcases one with ⟨o1, _⟩ | ⟨_, _, o3⟩
        · omega
        · exact o3
      · rw [xa]
        rcases first with o | o
        · omega
        · exact o
    · left; omega
  · right
    exact ⟨ef, f1, by omega⟩
  · right
    rw [xx]
    rcases first with o | o
    · rcases one with ⟨o1, o2, o3, o4, o5⟩ | ⟨_, o2, _⟩
      · subst o3 o4 o5; simp [sg]
      · omega
    · omega
  · refine ⟨?_, by omega⟩
    rcases one with ⟨o1, o2, o3, o4, o5⟩ | ⟨o1, o2, o3⟩
    · omega
    · omega
/-- what the step does -/
theorem Leh.done (h : Leh x y P Q p q a b c d e f fl) (hb : b ≠ 0) : 0 ≤ sg fl * (c * x - d * y) ∧ sg fl * (c * x - d * y) < sg fl * (b * y - a * x) ∧ sg fl * (b * y - a * x) ≤ y ∧ b * c - a * d = sg fl ∧ a ≤ c ∧ b ≤ d := by
  rcases h.start with h1 | ⟨-, h2, h3, h4, h5, h6⟩
  · exact absurd h1 hb
  · exact ⟨h.xc, h5, h6, h2, h3, h4⟩
end
end Go.Proofs.YtmlopkkbgpfdnaaGreatDoor
namespace Go.Proofs.YtmlopkkbgpfdnaaGreatDoor
open Go.RowKit

/-- block g holds a step's matrix, and may be written -/
def SB (W : World) (g : Nat) : Prop := ∃ (b1 : Bool) (A1 : Option Addr) (n1 c1 : Nat) (b2 : Bool) (A2 : Option Addr) (n2 c2 : Nat) (b3 : Bool) (A3 : Option Addr) (n3 c3 : Nat) (b4 : Bool) (A4 : Option Addr) (n4 c4 : Nat) (t : TypeId), W.heap[g]? = some (.cells #[.bool b1, .slice A1 n1 c1, .bool b2, .slice A2 n2 c2, .bool b3, .slice A3 n3 c3, .bool b4, .slice A4 n4 c4] t (0, 0))
def put8 (W : World) (g : Nat) (v0 v1 v2 v3 v4 v5 v6 v7 : Value) : World := ((((((((W.setCell ⟨g, 0, none⟩ v0).setCell ⟨g, 1, none⟩ v1).setCell ⟨g, 2, none⟩ v2).setCell ⟨g, 3, none⟩ v3).setCell ⟨g, 4, none⟩ v4).setCell ⟨g, 5, none⟩ v5).setCell ⟨g, 6, none⟩ v6).setCell ⟨g, 7, none⟩ v7)
section
variable {W X Y : World} {g : Nat}
theorem SB.lt (h : SB W g) : g < W.heap.size := by
  obtain ⟨b1, A1, n1, c1, b2, A2, n2, c2, b3, A3, n3, c3, b4, A4, n4, c4, t, h⟩ := h
  exact (Array.getElem?_eq_some_iff.1 h).1
theorem SB.ext (h : SB X g) (e : Ext X Y) : SB Y g := by
  have hl := h.lt
  obtain ⟨b1, A1, n1, c1, b2, A2, n2, c2, b3, A3, n3, c3, b4, A4, n4, c4, t, h⟩ := h
  exact ⟨b1, A1, n1, c1, b2, A2, n2, c2, b3, A3, n3, c3, b4, A4, n4, c4, t, (Below.block e g hl).trans h⟩
theorem SB.facts (h : SB W g) : (∃ a0 a1 a2 a3 a4 a5 a6 a7, W.cell? ⟨g, 0, none⟩ = some a0 ∧ W.cell? ⟨g, 1, none⟩ = some a1 ∧ W.cell? ⟨g, 2, none⟩ = some a2 ∧ W.cell? ⟨g, 3, none⟩ = some a3 ∧ W.cell? ⟨g, 4, none⟩ = some a4 ∧ W.cell? ⟨g, 5, none⟩ = some a5 ∧ W.cell? ⟨g, 6, none⟩ = some a6 ∧ W.cell? ⟨g, 7, none⟩ = some a7) ∧ ∀ o, W.frozen? ⟨g, o, none⟩ = false := by
  obtain ⟨b1, A1, n1, c1, b2, A2, n2, c2, b3, A3, n3, c3, b4, A4, n4, c4, t, h⟩ := h
  exact ⟨⟨_, _, _, _, _, _, _, _, cell_of_row W g 0 _ t (0, 0) h, cell_of_row W g 1 _ t (0, 0) h, cell_of_row W g 2 _ t (0, 0) h, cell_of_row W g 3 _ t (0, 0) h, cell_of_row W g 4 _ t (0, 0) h, cell_of_row W g 5 _ t (0, 0) h, cell_of_row W g 6 _ t (0, 0) h, cell_of_row W g 7 _ t (0, 0) h⟩, fun o => by simp [World.frozen?, h]⟩
theorem put8_heap (h : SB W g) (v0 v1 v2 v3 v4 v5 v6 v7 : Value) : ∃ t, (put8 W g v0 v1 v2 v3 v4 v5 v6 v7).heap[g]? = some (.cells #[v0, v1, v2, v3, v4, v5, v6, v7] t (0, 0)) := by
  obtain ⟨b1, A1, n1, c1, b2, A2, n2, c2, b3, A3, n3, c3, b4, A4, n4, c4, t, h⟩ := h
  exact ⟨t, by simp [put8, World.setCell, Array.getElem?_modify, h]⟩
theorem put8_cells (h : SB W g) (v0 v1 v2 v3 v4 v5 v6 v7 : Value) : (put8 W g v0 v1 v2 v3 v4 v5 v6 v7).cell? ⟨g, 0, none⟩ = some v0 ∧ (put8 W g v0 v1 v2 v3 v4 v5 v6 v7).cell? ⟨g, 1, none⟩ = some v1 ∧ (put8 W g v0 v1 v2 v3 v4 v5 v6 v7).cell? ⟨g, 2, none⟩ = some v2 ∧ (put8 W g v0 v1 v2 v3 v4 v5 v6 v7).cell? ⟨g, 3, none⟩ = some v3 ∧ (put8 W g v0 v1 v2 v3 v4 v5 v6 v7).cell? ⟨g, 4, none⟩ = some v4 ∧ (put8 W g v0 v1 v2 v3 v4 v5 v6 v7).cell? ⟨g, 5, none⟩ = some v5 ∧ (put8 W g v0 v1 v2 v3 v4 v5 v6 v7).cell? ⟨g, 6, none⟩ = some v6 ∧ (put8 W g v0 v1 v2 v3 v4 v5 v6 v7).cell? ⟨g, 7, none⟩ = some v7 := by
  obtain ⟨t, e⟩ := put8_heap h v0 v1 v2 v3 v4 v5 v6 v7
  exact ⟨cell_of_row _ g 0 _ t (0, 0) e, cell_of_row _ g 1 _ t (0, 0) e, cell_of_row _ g 2 _ t (0, 0) e, cell_of_row _ g 3 _ t (0, 0) e, cell_of_row _ g 4 _ t (0, 0) e, cell_of_row _ g 5 _ t (0, 0) e, cell_of_row _ g 6 _ t (0, 0) e, cell_of_row _ g 7 _ t (0, 0) e⟩
theorem put8_far (v0 v1 v2 v3 v4 v5 v6 v7 : Value) {k i : Nat} (hne : k ≠ g) : (put8 W g v0 v1 v2 v3 v4 v5 v6 v7).cell? ⟨k, i, none⟩ = W.cell? ⟨k, i, none⟩ := by
  have e : ∀ {Z : World} {j : Nat} {v : Value}, (Z.setCell ⟨g, j, none⟩ v).cell? ⟨k, i, none⟩ = Z.cell? ⟨k, i, none⟩ := fun {Z j v} => World.cell?_setCell_other _ _ _ _ (by intro e; injection e with e1; exact hne e1.symm)
  unfold put8
  rw [e, e, e, e, e, e, e, e]
theorem put8_below {B : Nat} (h : Below B W X) (hg : B ≤ g) (v0 v1 v2 v3 v4 v5 v6 v7 : Value) : Below B W (put8 X g v0 v1 v2 v3 v4 v5 v6 v7) :=
  ((((((((h.setCell (p := ⟨g, 0, none⟩) hg _).setCell (p := ⟨g, 1, none⟩) hg _).setCell (p := ⟨g, 2, none⟩) hg _).setCell (p := ⟨g, 3, none⟩) hg _).setCell (p := ⟨g, 4, none⟩) hg _).setCell (p := ⟨g, 5, none⟩) hg _).setCell (p := ⟨g, 6, none⟩) hg _).setCell (p := ⟨g, 7, none⟩) hg _)
theorem Wd.put8 {v : Value} {l : List Nat} (h : Wd W v l) (hs : SB W g) (v0 v1 v2 v3 v4 v5 v6 v7 : Value) : Wd (put8 W g v0 v1 v2 v3 v4 v5 v6 v7) v l := by
  obtain ⟨A, c, rfl, h1, h2, h3, h4⟩ := h
  refine ⟨A, c, rfl, h1, h2, h3, fun hp => ?_⟩
  obtain ⟨b, off, rfl, hb, hc⟩ := h4 hp
  refine ⟨b, off, rfl, by simpa [Go.Proofs.YtmlopkkbgpfdnaaGreatDoor.put8, World.setCell] using hb, fun j hj => ?_⟩
  have hne : b ≠ g := by
    rintro rfl
    have h0 := hc j hj
    obtain ⟨b1, A1, n1, c1, b2, A2, n2, c2, b3, A3, n3, c3, b4, A4, n4, c4, t, hg⟩ := hs
    rw [cell_of_row W b (off + j) _ t (0, 0) hg] at h0
    match hk : off + j with
    | 0 => rw [hk] at h0; simp at h0
    | 1 => rw [hk] at h0; simp at h0
    | 2 => rw [hk] at h0; simp at h0
    | 3 => rw [hk] at h0; simp at h0
    | 4 => rw [hk] at h0; simp at h0
    | 5 => rw [hk] at h0; simp at h0
    | 6 => rw [hk] at h0; simp at h0
    | 7 => rw [hk] at h0; simp at h0
    | k + 8 => rw [hk] at h0; simp at h0
  rw [put8_far _ _ _ _ _ _ _ _ hne]
  exact hc j hj
theorem ZV.put8 {v : Value} {z : Int} (h : ZV W v z) (hs : SB W g) (v0 v1 v2 v3 v4 v5 v6 v7 : Value) : ZV (Go.Proofs.YtmlopkkbgpfdnaaGreatDoor.put8 W g v0 v1 v2 v3 v4 v5 v6 v7) v z := by
  obtain ⟨s, rfl, h⟩ := h
  exact ⟨s, rfl, h.put8 hs v0 v1 v2 v3 v4 v5 v6 v7⟩
theorem SB.new (W : World) (t : TypeId) : SB (W.alloc (.cells #[.bool false, .slice none 0 0, .bool false, .slice none 0 0, .bool false, .slice none 0 0, .bool false, .slice none 0 0] t)) W.heap.size :=
  ⟨false, none, 0, 0, false, none, 0, 0, false, none, 0, 0, false, none, 0, 0, t, heap_alloc_new _ _⟩
end

theorem or_wordsG {p q : Nat} (hp : p < 4294967296) (hq : q < 4294967296) : bits BinOp.or IntKind.u64 ((p : Nat) * 4294967296 : Int) (q : Nat) = ((p * 4294967296 + q : Nat) : Int) := by
  have e : ((p : Nat) * 4294967296 : Int) = ((p * 4294967296 : Nat) : Int) := by omega
  rw [e, u64_or_nat _ _ (by omega) (by omega), nat_join 32 _ _ (by omega) (by omega)]
theorem or_top {h q s : Nat} (hq : q < 4294967296) (hs : s ≤ 31) (hh : h * 2 ^ s < 18446744073709551616) : bits BinOp.or IntKind.u64 ((h * 2 ^ s : Nat) : Int) ((q : Int) / 2 ^ (32 - s)) = ((h * 2 ^ s + q / 2 ^ (32 - s) : Nat) : Int) := by
  have h' := two_parts hs
  have h3 : q / 2 ^ (32 - s) < 2 ^ s := by rw [Nat.div_lt_iff_lt_mul (Nat.pow_pos (by omega)), h']; exact hq
  rw [cast_shr, u64_or_nat _ _ hh (by have := Nat.div_le_self q (2 ^ (32 - s)); omega), nat_join s _ _ (Nat.mul_mod_left _ _) h3]
set_option maxHeartbeats 2000000 in
set_option maxRecDepth 100000 in
theorem top_any (x m s : Nat) (v : Value) (w : World) (hv : Wd w v (dig x)) (hm : m ≤ 1000000) (hs : s ≤ 31) (hlt : x * 2 ^ s < 4294967296 ^ (m + 3)) :
    Calls Tryz.prog 128 #[v, .int .i64 ((m + 3 : Nat) : Int), .int .i64 (s : Int)] w fun e w' => e = .returned (.int .u64 (x / (4294967296 ^ m * 2 ^ (32 - s)) : Nat)) ∧ Below w.heap.size w w' := by
  have h0 := dg_lt x m
  have h1 := dg_lt x (m + 1)
  have h2 := dg_lt x (m + 2)
  have hx0 : x < 4294967296 ^ (m + 3) := Nat.lt_of_le_of_lt (Nat.le_mul_of_pos_right x (Nat.pow_pos (by omega))) hlt
  have hval := top_val hs hx0
  have hT := top_lt hs hlt
  have ho1 : bits BinOp.or IntKind.u64 (IntKind.u64.wrap (IntKind.u64.wrap ((dg x (m + 2) : Nat) : Int) * 4294967296)) (IntKind.u64.wrap ((dg x (m + 1) : Nat) : Int)) = ((dg x (m + 2) * 4294967296 + dg x (m + 1) : Nat) : Int) := by
    rw [IntWalk.u64_in ((dg x (m + 2) : Nat) : Int) (by omega), IntWalk.u64_in ((dg x (m + 1) : Nat) : Int) (by omega), IntWalk.u64_in _ (by omega)]
    exact or_wordsG h2 h1
  obtain ⟨H, hH⟩ : ∃ H, H = dg x (m + 2) * 4294967296 + dg x (m + 1) := ⟨_, rfl⟩
  rw [← hH] at hval ho1
  have hHs : H * 2 ^ s < 18446744073709551616 := Nat.lt_of_le_of_lt (Nat.le_add_right _ _) (by rw [← hval] at hT; exact hT)
  have ho2 := or_top h0 hs hHs
  rw [hval] at ho2
  obtain ⟨w0, hw0⟩ : ∃ w0, w0 = dg x m := ⟨_, rfl⟩
  obtain ⟨T, hTT⟩ : ∃ T, T = x / (4294967296 ^ m * 2 ^ (32 - s)) := ⟨_, rfl⟩
  rw [← hw0, ← hTT] at ho2
  rw [← hTT]
  have u1 : IntKind.u64.wrap ((H : Int) * 2 ^ s) = ((H * 2 ^ s : Nat) : Int) := by
    have e : (H : Int) * 2 ^ s = ((H * 2 ^ s : Nat) : Int) := by rw [Int.natCast_mul, Int.natCast_pow]; rfl
    rw [e]; exact IntWalk.u64_in _ (by omega)
  obtain ⟨H2, hH2⟩ : ∃ H2, H2 = H * 2 ^ s := ⟨_, rfl⟩
  rw [← hH2] at u1 ho2
  have w0u : IntKind.u64.wrap (w0 : Int) = (w0 : Int) := IntWalk.u64_in _ (by omega)
  have W0U := Lib.hid w0u; clear w0u
  have O1 := Lib.hid ho1; have O2 := Lib.hid ho2; have U1 := Lib.hid u1; have HW0 := Lib.hid hw0
  clear h0 h1 h2 hx0 hval hT ho1 hH hHs ho2 hw0 hTT u1 hH2 hlt
  have wj : ∀ (j : Int) (i : Nat) (w : World), j = (i : Int) → Wd w v (dig x) → Calls Tryz.prog 104 #[v, .int .i64 j] w fun e w' => e = .returned (.int .u32 (dg x i : Nat)) ∧ w = w' := fun j i w hj h => by subst hj; exact word_dig v x i w h
  have HWJ := Lib.hid wj; have HV := Lib.hid hv
  clear wj hv
  go_enter Tryz.func128, Tryz.ntmps128
  go_wp2_with fail
  refine (HWJ.out _ (m + 2) _ (by omega) HV.out).mono ?_
  rintro e w1 ⟨rfl, rfl⟩
  go_wp2_with fail
  refine (HWJ.out _ (m + 1) _ (by omega) HV.out).mono ?_
  rintro e w1 ⟨rfl, rfl⟩
  go_wp2_with fail
  simp only [O1.out]
  have i1 : IntKind.i64.wrap (m : Int) = (m : Int) := IntWalk.i64_in _ (by omega)
  have i2 : IntKind.i64.wrap (32 - (s : Int)) = 32 - (s : Int) := IntWalk.i64_in _ (by omega)
  have i3 : (32 - (s : Int)).toNat = 32 - s := by omega
  have i4 : 0 ≤ 32 - (s : Int) := by omega
  have u1 := U1.out
  go_region_with ((go_at_call 104; refine (HWJ.out _ m _ (by omega) (by exact HV.out)).mono ?_; rintro e w' ⟨rfl, rfl⟩))
  all_goals clear i1 i2 i3 i4 u1
  all_goals go_wp2
  all_goals rw [← HW0.out, W0U.out, O2.out]
  all_goals go_ret
  all_goals exact ⟨rfl, (Below.refl _ _).drew⟩
end Go.Proofs.YtmlopkkbgpfdnaaGreatDoor
