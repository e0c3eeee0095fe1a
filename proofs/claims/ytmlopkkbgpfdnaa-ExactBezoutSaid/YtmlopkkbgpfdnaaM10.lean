/- Walks: extended. -/
import Derived.Test.YtmlopkkbgpfdnaaM9
import Derived.RegionTactic
import Derived.ChangeAlike
namespace Go.Proofs.Ytmlopkkbgpfdnaa
open Go.RowKit

def BK (X : World) (g : Nat) (cs : Array Value) : Prop := X.heap[g]? = some (.cells cs 96 (0, 0))
theorem BK.ext {X Y : World} {g : Nat} {cs : Array Value} (h : BK X g cs) (hg : g < X.heap.size) (e : Ext X Y) : BK Y g cs := (Below.block e g hg).trans h
theorem BK.far {X : World} {g k i : Nat} {v : Value} {cs : Array Value} (h : BK X g cs) (hne : g ≠ k) : BK (X.setCell ⟨k, i, none⟩ v) g cs := by
  unfold BK
  rw [Below.heap_setCell _ _ _ _ hne]; exact h
theorem BK.cell {X : World} {g i : Nat} {v : Value} {cs : Array Value} (h : BK X g cs) (hv : cs[i]? = some v) : X.cell? ⟨g, i, none⟩ = some v := by
  rw [cell_of_row X g i cs 96 (0, 0) h, hv]
theorem two_putH {W : World} {g h : Nat} (R1 : RB W g) (R2 : RB W h) (hne : h ≠ g) (b1 : Bool) (A1 : Option Addr) (n1 c1 : Nat) (b2 : Bool) (A2 : Option Addr) (n2 c2 : Nat) {z1 z2 : Int}
    (h1 : ZV W (.agg #[.bool b1, .slice A1 n1 c1]) z1) (h2 : ZV W (.agg #[.bool b2, .slice A2 n2 c2]) z2) {B : Nat} {w : World} (hb : Below B w W) (hg : B ≤ g) (hh : B ≤ h) :
    ∃ W', W' = (((W.setCell ⟨g, 0, none⟩ (.bool b1)).setCell ⟨g, 1, none⟩ (.slice A1 n1 c1)).setCell ⟨h, 0, none⟩ (.bool b2)).setCell ⟨h, 1, none⟩ (.slice A2 n2 c2) ∧
    HZ W' g z1 ∧ HZ W' h z2 ∧ RB W' g ∧ RB W' h ∧ Below B w W' ∧ (∀ k, RB W k → k ≠ g → k ≠ h → RB W' k) ∧ (∀ k z, HZ W k z → k ≠ g → k ≠ h → HZ W' k z) ∧ (∀ k cs, BK W k cs → k ≠ g → k ≠ h → BK W' k cs) ∧ (∀ v z, ZV W v z → ZV W' v z) := by
  have T := R2.far R1 hne (.bool b1) (.slice A1 n1 c1)
  refine ⟨_, rfl, (HZ.put R1 h1).far T (by omega) _ _, HZ.put T (h2.rb R1 _ _), (R1.set _ _ _ _).far T (by omega) _ _, T.set _ _ _ _, below_set2 (below_set2 hb hg _ _) hh _ _, fun k hk n1 n2 => (hk.far R1 n1 _ _).far T n2 _ _, fun k z hk n1 n2 => (hk.far R1 n1 _ _).far T n2 _ _, fun k cs hk n1 n2 => ((((hk.far n1).far n1).far n2).far n2), fun v z hv => (hv.rb R1 _ _).rb T _ _⟩
/-- between the rounds of extended -/
structure XI (W2 wr : World) (g4 g5 g6 g7 g8 : Nat) (vA vB : Int) (L : Nat) (g r u v : Int) : Prop where
  ex : Ex vA vB g r u v
  hg : HZ wr g4 g
  hr : HZ wr g6 r
  hu : HZ wr g7 u
  hv : HZ wr g8 v
  rg : RB wr g4
  r5 : RB wr g5
  rr : RB wr g6
  ru : RB wr g7
  rv : RB wr g8
  lg : (dig g.natAbs).length ≤ L
  lr : (dig r.natAbs).length ≤ L
  gr : Ext W2 wr
set_option maxHeartbeats 800000 in
set_option maxRecDepth 100000 in
theorem extended_any (r t : Int) (u u' : Value) (W : World) (L : Nat) (hx : ZV W u r) (hy : ZV W u' t) (ht : t ≠ 0) (lx : (dig r.natAbs).length ≤ L) (ly : (dig t.natAbs).length ≤ L) (hL : 2 ≤ L) (hL2 : L ≤ 300000) :
    Calls Try.prog 67 #[u, u'] W fun e w' => ∃ g x y : Int, IsExt r t g x y ∧ RetZZ W g x e w' := by
  obtain ⟨Ax, nx, cx, rfl, -, -, -⟩ := hx.open_
  obtain ⟨Ay, ny, cy, rfl, -, -, -⟩ := hy.open_
  obtain ⟨bx, hbx⟩ : ∃ b, b = decide (r < 0) := ⟨_, rfl⟩
  obtain ⟨bY, hby⟩ : ∃ b, b = decide (t < 0) := ⟨_, rfl⟩
  rw [← hbx] at hx ⊢
  rw [← hby] at hy ⊢
  clear hby
  obtain ⟨W2, hW2⟩ : ∃ W2, W2 = (W.alloc (.cells #[.bool bx, .slice Ax nx cx] 60)).alloc (.cells #[.bool bY, .slice Ay ny cy] 60) := ⟨_, rfl⟩
  have z2 : W2.heap.size = W.heap.size + 1 + 1 := by rw [hW2]; simp
  obtain ⟨W1, hW1⟩ : ∃ W1, W1 = (W2.alloc (.cells #[.bool false, .slice none 0 0] 60)).alloc (.cells #[.bool false, .slice none 0 0] 60) := ⟨_, rfl⟩
  have p1 : HZ (W.alloc (.cells #[.bool bx, .slice Ax nx cx] 60)) W.heap.size r := HZ.lit W bx Ax nx cx 60 hx
  have p2 : HZ W2 (W.heap.size + 1) t := by
    have := HZ.lit (W.alloc (.cells #[.bool bx, .slice Ax nx cx] 60)) bY Ay ny cy 60 (hy.ext ((Ext.refl _).alc _))
    rw [World.size_alloc] at this
    rw [hW2]; exact this
  have e2 : Ext W W2 := by rw [hW2]; exact ((Ext.refl W).alc _).alc _
  have PX : Hid (HZ W2 W.heap.size r) := Lib.hid (by rw [hW2]; exact p1.ext p1.lt ((Ext.refl _).alc _))
  have PY : Hid (HZ W2 (W.heap.size + 1) t) := Lib.hid p2
  have R4 : Hid (RB W1 (W.heap.size + 1 + 1)) := Lib.hid (by
    have := RB.c1 W2 false none 0 0 60
    rw [z2] at this
    rw [hW1]; exact this.ext ((Ext.refl _).alc _))
  have R5 : Hid (RB W1 (W.heap.size + 1 + 1 + 1)) := Lib.hid (by
    have := RB.c1 (W2.alloc (.cells #[.bool false, .slice none 0 0] 60)) false none 0 0 60
    rw [World.size_alloc, z2] at this
    rw [hW1]; exact this)
  have E1 : Hid (Ext W2 W1) := Lib.hid (by rw [hW1]; exact ((Ext.refl W2).alc _).alc _)
  have EW := Lib.hid e2
  have Z2 := Lib.hid z2
  have zl : W.heap.size + 1 + 1 + 1 < W1.heap.size := R5.out.lt
  have zl1 : W.heap.size + 1 + 1 < W1.heap.size := by omega
  have zl2 : W.heap.size + 1 < W2.heap.size := by omega
  have zl3 : W.heap.size < W2.heap.size := by omega
  rw [hW2] at hW1
  have HW1 := Lib.hid hW1
  have HLL := Lib.hid (And.intro lx ly)
  have HBX := Lib.hid hbx
  clear p1 p2 hW1 hW2 hx hy e2 lx ly z2 hbx
  go_enter Try.func67, Try.ntmps67
  go_upto_region 1 with fail
  rw [← HW1.out]
  clear HW1
  refine wp_region_noPanic ?_
  refine wp_pool 5 [some 10, some 11, some 12, some 13, some 6] [] [4] [(fun (v : Value) (X : World) => ∃ b A n c, v = .agg #[.bool b, .slice A n c] ∧ ZV X (.agg #[.bool b, .slice A n c]) (r)), (fun (v : Value) (X : World) => ∃ b A n c, v = .agg #[.bool b, .slice A n c] ∧ ZV X (.agg #[.bool b, .slice A n c]) ((r.natAbs : Int))), (fun (v : Value) (X : World) => ∃ b A n c, v = .agg #[.bool b, .slice A n c] ∧ ZV X (.agg #[.bool b, .slice A n c]) (t)), (fun (v : Value) (X : World) => ∃ b A n c, v = .agg #[.bool b, .slice A n c] ∧ ZV X (.agg #[.bool b, .slice A n c]) ((t.natAbs : Int))), (fun (v : Value) (X : World) => ∃ g, v = .pointer (some ⟨g, 0, none⟩) ∧ W1.heap.size ≤ g ∧ RB X g)] [noF, noF, noF, noF, ptrF] (by kernel_rfl) (by kernel_rfl) (by kernel_rfl) (by kernel_rfl) (by kernel_rfl) (by kernel_rfl) (by kernel_rfl) (by kernel_rfl) (fun _ _ _ _ h => h) ⟨(fun _ _ _ e ⟨b, A, n, c, h1, h2⟩ => ⟨b, A, n, c, h1, h2.ext e⟩), (fun _ _ _ e ⟨b, A, n, c, h1, h2⟩ => ⟨b, A, n, c, h1, h2.ext e⟩), (fun _ _ _ e ⟨b, A, n, c, h1, h2⟩ => ⟨b, A, n, c, h1, h2.ext e⟩), (fun _ _ _ e ⟨b, A, n, c, h1, h2⟩ => ⟨b, A, n, c, h1, h2.ext e⟩), (fun _ _ _ e ⟨g, h1, h2, h3⟩ => ⟨g, h1, h2, h3.ext e⟩), True.intro⟩ ?steps ?done
  case steps =>
    simp only [List.take_succ_cons, List.take_zero]
    refine Steps.cons (fun (v : Value) (X : World) => ∃ b A n c, v = .agg #[.bool b, .slice A n c] ∧ ZV X (.agg #[.bool b, .slice A n c]) (r)) [] rfl (by kernel_rfl) rfl (by kernel_rfl) (fun y X ex0 hf K hK => ?_) ?_
    · clear hf
      have ex := (Ext.drw (Ext.refl _)).trans ex0
      refine Box.mk ?_
      simp only [fill, Act.put, Nat.reduceAdd, List.setIfInBounds_toArray, List.set_cons_zero, List.set_cons_succ] at hK ⊢
      obtain ⟨bl, Al, nl, cl, k0, k1, kz⟩ := (PX.out.ext (by omega) (E1.out.trans ex))
      go_simp
      exact hK.out _ _ ⟨_, _, _, _, rfl, kz⟩ (Ext.refl _) (fun b hb => by cases hb)
    refine Steps.cons (fun (v : Value) (X : World) => ∃ b A n c, v = .agg #[.bool b, .slice A n c] ∧ ZV X (.agg #[.bool b, .slice A n c]) ((r.natAbs : Int))) [0] rfl (by kernel_rfl) rfl (by kernel_rfl) (fun y X ex0 hf K hK => ?_) ?_
    · have hh0 : ((fun (v : Value) (X : World) => ∃ b A n c, v = .agg #[.bool b, .slice A n c] ∧ ZV X (.agg #[.bool b, .slice A n c]) (r))) (y 0) X := hf.1
      refine Exists.elim hh0 (fun b0 hx0_0 => ?_)
      refine Exists.elim hx0_0 (fun A0 hx0_1 => ?_)
      refine Exists.elim hx0_1 (fun n0 hx0_2 => ?_)
      refine Exists.elim hx0_2 (fun c0 hx0_3 => ?_)
      have h0 := hx0_3.1
      have z0 := hx0_3.2
      clear hh0 hx0_0 hx0_1 hx0_2 hx0_3
      clear hf
      have ex := (Ext.drw (Ext.refl _)).trans ex0
      refine Box.mk ?_
      simp only [fill, Act.put, Nat.reduceAdd, List.setIfInBounds_toArray, List.set_cons_zero, List.set_cons_succ, h0] at hK ⊢
      go_simp
      refine (asAgg (absoluteZ_any _ _ _ z0)).mono ?_
      rintro e V ⟨b9, A9, n9, c9, rfl, hz, hb⟩
      try go_wp2_with fail
      exact hK.out _ _ ⟨_, _, _, _, rfl, hz⟩ hb (fun b hb => by cases hb)
    refine Steps.cons (fun (v : Value) (X : World) => ∃ b A n c, v = .agg #[.bool b, .slice A n c] ∧ ZV X (.agg #[.bool b, .slice A n c]) (t)) [] rfl (by kernel_rfl) rfl (by kernel_rfl) (fun y X ex0 hf K hK => ?_) ?_
    · clear hf
      have ex := (Ext.drw (Ext.refl _)).trans ex0
      refine Box.mk ?_
      simp only [fill, Act.put, Nat.reduceAdd, List.setIfInBounds_toArray, List.set_cons_zero, List.set_cons_succ] at hK ⊢
      obtain ⟨bl, Al, nl, cl, k0, k1, kz⟩ := (PY.out.ext (by omega) (E1.out.trans ex))
      go_simp
      exact hK.out _ _ ⟨_, _, _, _, rfl, kz⟩ (Ext.refl _) (fun b hb => by cases hb)
    refine Steps.cons (fun (v : Value) (X : World) => ∃ b A n c, v = .agg #[.bool b, .slice A n c] ∧ ZV X (.agg #[.bool b, .slice A n c]) ((t.natAbs : Int))) [2, 1] rfl (by kernel_rfl) rfl (by kernel_rfl) (fun y X ex0 hf K hK => ?_) ?_
    · have hh2 : ((fun (v : Value) (X : World) => ∃ b A n c, v = .agg #[.bool b, .slice A n c] ∧ ZV X (.agg #[.bool b, .slice A n c]) (t))) (y 2) X := hf.1
      refine Exists.elim hh2 (fun b2 hx2_0 => ?_)
      refine Exists.elim hx2_0 (fun A2 hx2_1 => ?_)
      refine Exists.elim hx2_1 (fun n2 hx2_2 => ?_)
      refine Exists.elim hx2_2 (fun c2 hx2_3 => ?_)
      have h2 := hx2_3.1
      have z2 := hx2_3.2
      clear hh2 hx2_0 hx2_1 hx2_2 hx2_3
      have hh1 : ((fun (v : Value) (X : World) => ∃ b A n c, v = .agg #[.bool b, .slice A n c] ∧ ZV X (.agg #[.bool b, .slice A n c]) ((r.natAbs : Int)))) (y 1) X := hf.2.1
      refine Exists.elim hh1 (fun b1 hx1_0 => ?_)
      refine Exists.elim hx1_0 (fun A1 hx1_1 => ?_)
      refine Exists.elim hx1_1 (fun n1 hx1_2 => ?_)
      refine Exists.elim hx1_2 (fun c1 hx1_3 => ?_)
      have h1 := hx1_3.1
      have z1 := hx1_3.2
      clear hh1 hx1_0 hx1_1 hx1_2 hx1_3
      clear hf
      have ex := (Ext.drw (Ext.refl _)).trans ex0
      refine Box.mk ?_
      simp only [fill, Act.put, Nat.reduceAdd, List.setIfInBounds_toArray, List.set_cons_zero, List.set_cons_succ, h2, h1] at hK ⊢
      go_simp
      refine (asAgg (absoluteZ_any _ _ _ z2)).mono ?_
      rintro e V ⟨b9, A9, n9, c9, rfl, hz, hb⟩
      try go_wp2_with fail
      exact hK.out _ _ ⟨_, _, _, _, rfl, hz⟩ hb (fun b hb => by cases hb)
    refine Steps.cons (fun (v : Value) (X : World) => ∃ g, v = .pointer (some ⟨g, 0, none⟩) ∧ W1.heap.size ≤ g ∧ RB X g) [] rfl (by kernel_rfl) rfl (by kernel_rfl) (fun y X ex0 hf K hK => ?_) ?_
    · clear hf
      have ex := (Ext.drw (Ext.refl _)).trans ex0
      refine Box.mk ?_
      simp only [fill, Act.put, Nat.reduceAdd, List.setIfInBounds_toArray, List.set_cons_zero, List.set_cons_succ] at hK ⊢
      go_simp
      exact hK.out _ _ ⟨X.heap.size, rfl, ex.size, RB.c1 X false none 0 0 60⟩ (Ext.alc (Ext.refl X) (.cells #[.bool false, .slice none 0 0] 60)) (New.ptr (Nat.le_refl _) (by simp))
    exact Steps.nil
  case done =>
    intro y X ex hf hlt hsep
    have hh0 : ((fun (v : Value) (X : World) => ∃ b A n c, v = .agg #[.bool b, .slice A n c] ∧ ZV X (.agg #[.bool b, .slice A n c]) (r))) (y 0) X := hf.1
    refine Exists.elim hh0 (fun b0 hx0_0 => ?_)
    refine Exists.elim hx0_0 (fun A0 hx0_1 => ?_)
    refine Exists.elim hx0_1 (fun n0 hx0_2 => ?_)
    refine Exists.elim hx0_2 (fun c0 hx0_3 => ?_)
    have h0 := hx0_3.1
    have z0 := hx0_3.2
    clear hh0 hx0_0 hx0_1 hx0_2 hx0_3
    have hh1 : ((fun (v : Value) (X : World) => ∃ b A n c, v = .agg #[.bool b, .slice A n c] ∧ ZV X (.agg #[.bool b, .slice A n c]) ((r.natAbs : Int)))) (y 1) X := hf.2.1
    refine Exists.elim hh1 (fun b1 hx1_0 => ?_)
    refine Exists.elim hx1_0 (fun A1 hx1_1 => ?_)
    refine Exists.elim hx1_1 (fun n1 hx1_2 => ?_)
    refine Exists.elim hx1_2 (fun c1 hx1_3 => ?_)
    have h1 := hx1_3.1
    have z1 := hx1_3.2
    clear hh1 hx1_0 hx1_1 hx1_2 hx1_3
    have hh2 : ((fun (v : Value) (X : World) => ∃ b A n c, v = .agg #[.bool b, .slice A n c] ∧ ZV X (.agg #[.bool b, .slice A n c]) (t))) (y 2) X := hf.2.2.1
    refine Exists.elim hh2 (fun b2 hx2_0 => ?_)
    refine Exists.elim hx2_0 (fun A2 hx2_1 => ?_)
    refine Exists.elim hx2_1 (fun n2 hx2_2 => ?_)
    refine Exists.elim hx2_2 (fun c2 hx2_3 => ?_)
    have h2 := hx2_3.1
    have z2 := hx2_3.2
    clear hh2 hx2_0 hx2_1 hx2_2 hx2_3
    have hh3 : ((fun (v : Value) (X : World) => ∃ b A n c, v = .agg #[.bool b, .slice A n c] ∧ ZV X (.agg #[.bool b, .slice A n c]) ((t.natAbs : Int)))) (y 3) X := hf.2.2.2.1
    refine Exists.elim hh3 (fun b3 hx3_0 => ?_)
    refine Exists.elim hx3_0 (fun A3 hx3_1 => ?_)
    refine Exists.elim hx3_1 (fun n3 hx3_2 => ?_)
    refine Exists.elim hx3_2 (fun c3 hx3_3 => ?_)
    have h3 := hx3_3.1
    have z3 := hx3_3.2
    clear hh3 hx3_0 hx3_1 hx3_2 hx3_3
    have hh4 : ((fun (v : Value) (X : World) => ∃ g, v = .pointer (some ⟨g, 0, none⟩) ∧ W1.heap.size ≤ g ∧ RB X g)) (y 4) X := hf.2.2.2.2.1
    refine Exists.elim hh4 (fun g4 hx4_0 => ?_)
    have h4 := hx4_0.1
    have z4 := hx4_0.2.1
    have q4 := hx4_0.2.2
    clear hh4 hx4_0
    clear hf
    clear hsep hlt
    refine Box.mk ?_
    simp only [List.drop_succ_cons, List.drop_zero, fill, Act.put, Nat.reduceAdd, List.setIfInBounds_toArray, List.set_cons_zero, List.set_cons_succ, h0, h1, h2, h3, h4]
    clear h0 h1 h2 h3 h4
    have y4 := R4.out.ext ex
    have y5 := R5.out.ext ex
    have z2 := Z2.out
    obtain ⟨W', hW', m1, m2, m3, m4, m5, m6, -, -, -⟩ := two_putH y4 q4 (by omega) b1 A1 n1 c1 b3 A3 n3 c3 z1 z3 (Ext.below (E1.out.trans ex)) (by omega) (by omega)
    have m7 := m6 _ y5 (by omega) (by omega)
    obtain ⟨_, _, _, _, g30, g31, g32, g33⟩ := y4.facts
    have T := q4.far y4 (by omega) (.bool b1) (.slice A1 n1 c1)
    obtain ⟨_, _, _, _, g50, g51, g52, g53⟩ := T.facts
    have HM := Lib.hid (And.intro m1 (And.intro m2 (And.intro m3 (And.intro m4 (And.intro m7 m5)))))
    have HW' := Lib.hid hW'
    clear hW' m1 m2 m3 m4 m5 m6 m7 T y4 y5 ex z0 z1 z3 z2 R4 R5 q4
    go_wp2_with fail
    refine NoPanic.normal ?_
    go_wp2_with fail
    rw [← HW'.out]
    clear g30 g31 g32 g33 g50 g51 g52 g53
    refine (asAgg (smallE_any 1 _ (by omega) (by omega))).mono ?_
    rintro e w1 ⟨b5, A5, n5, c5, rfl, hz1, x1⟩
    have X1 := Lib.hid x1; have Y1 := Lib.hid hz1; clear x1 hz1
    go_wp2_with fail
    refine (asAgg (smallE_any 0 _ (by omega) (by omega))).mono ?_
    rintro e w2 ⟨b6, A6, n6, c6, rfl, hz2, x2⟩
    have X2 := Lib.hid x2; have Y2 := Lib.hid hz2; clear x2 hz2
    go_wp2_with fail
    obtain ⟨W3, hW3⟩ : ∃ W3, W3 = (w2.alloc (Obj.cells #[.bool b5, .slice A5 n5 c5] 60)).alloc (Obj.cells #[.bool b6, .slice A6 n6 c6] 60) := ⟨_, rfl⟩
    have e3 : Ext W' W3 := by rw [hW3]; exact ((Ext.trans X1.out X2.out).alc _).alc _
    obtain ⟨i7, i8⟩ := hz_new w2 b5 A5 n5 c5 b6 A6 n6 c6 60 (Y1.out.ext X2.out) Y2.out
    have r7 : RB W3 w2.heap.size := by rw [hW3]; exact (RB.c1 w2 b5 A5 n5 c5 60).ext ((Ext.refl _).alc _)
    have r8 : RB W3 (w2.heap.size + 1) := by
      have := RB.c1 (w2.alloc (Obj.cells #[.bool b5, .slice A5 n5 c5] 60)) b6 A6 n6 c6 60
      rw [World.size_alloc] at this
      rw [hW3]; exact this
    rw [← hW3] at i7 i8 ⊢
    obtain ⟨m1, m2, m3, m4, m5, m6⟩ := HM.out
    obtain ⟨g7, hg7⟩ : ∃ k, k = w2.heap.size := ⟨_, rfl⟩
    have hlt7 : g4 < g7 := by rw [hg7]; exact Nat.lt_of_lt_of_le m4.lt (Nat.le_trans (Ext.size X1.out) (Ext.size X2.out))
    rw [← hg7] at i7 i8 r7 r8 ⊢
    have HI : Hid (XI W2 W3 (W.heap.size + 1 + 1) (W.heap.size + 1 + 1 + 1) g4 g7 (g7 + 1) (r.natAbs : Int) (t.natAbs : Int) L (r.natAbs : Int) (t.natAbs : Int) 1 0) := Lib.hid ⟨Ex.init (by omega) (by omega), m1.ext m3.lt e3, m2.ext m4.lt e3, i7, i8, m3.ext e3, m5.ext e3, m4.ext e3, r7, r8, by rw [Int.natAbs_natCast]; exact HLL.out.1, by rw [Int.natAbs_natCast]; exact HLL.out.2, Ext.trans m6 e3⟩
    clear m1 m2 m3 m4 m5 m6 i7 i8 r7 r8 e3 hW3 hg7 HM X1 X2 Y1 Y2
    go_loopw [] (fun wr => ∃ g r' u v : Int, Hid (XI W2 wr (W.heap.size + 1 + 1) (W.heap.size + 1 + 1 + 1) g4 g7 (g7 + 1) (r.natAbs : Int) (t.natAbs : Int) L g r' u v)) (fun wr => hzNum wr g4)
    case atStart => exact ⟨_, _, _, _, HI⟩
    case round =>
      clear HI
      obtain ⟨g, r', u, v, hXI⟩ := hrel
      obtain ⟨hex, hg, hr, hu, hv, rg, r5, rr, ru, rv, lg, lr, gr⟩ := hXI.out
      have l4 := hg.lt; have l6 := hr.lt; have l7 := hu.lt; have l8 := hv.lt
      have zl4 := Z2.out
      have bd := hex.bounds (by omega)
      have HIS := Lib.hid (And.intro hg (And.intro hr (And.intro hu hv)))
      have HRS := Lib.hid (And.intro rg (And.intro r5 (And.intro rr (And.intro ru rv))))
      have HLS := Lib.hid (And.intro lg lr); have HGR := Lib.hid gr; have HEX := Lib.hid hex
      obtain ⟨q1, B1, m1, d1, k0, k1, kz⟩ := hg
      obtain ⟨q2, B2, m2, d2, j0, j1, jz⟩ := hr
      have SG := Lib.hid (signZ_any r' _ wr jz)
      have KZ := Lib.hid kz; have JZ := Lib.hid jz; have BD := Lib.hid bd
      have hr0 : 0 ≤ r' := hex.r0
      have hg0 : 0 ≤ g := hex.g0
      clear kz jz hu hv rg r5 rr ru rv lg lr gr hex bd
      go_wp2_with fail
      refine SG.out.mono ?_
      rintro e w3 ⟨rfl, x3⟩
      replace x3 : Ext wr w3 := x3
      obtain ⟨sv, hsv⟩ : ∃ sv, sv = r'.sign := ⟨_, rfl⟩
      rw [← hsv]
      have k0' := keepAt x3 l4 k0; have k1' := keepAt x3 l4 k1; have j0' := keepAt x3 l6 j0; have j1' := keepAt x3 l6 j1
      by_cases hb : r' = 0
      · subst hb
        have hs0 : sv = 0 := by rw [hsv]; rfl
        subst hs0
        have e23 := HGR.out.trans x3
        have HX3 := PX.out.ext zl3 e23
        have hT := PY.out.ext zl2 e23
        have hG := HIS.out.1.ext l4 x3
        have hU := HIS.out.2.2.1.ext l7 x3
        have x4 := HRS.out.1.ext x3; have x5 := HRS.out.2.1.ext x3; have x7 := HRS.out.2.2.2.1.ext x3
        obtain ⟨qx, Bx, mx, dx, i0, i1, iz⟩ := HX3
        have hq := iz.words.1
        obtain ⟨wv, hwv⟩ : ∃ wv, wv = if r < 0 then -u else u := ⟨_, rfl⟩
        have hE := ext_end ht HEX.out wv hwv
        have hgg : g = (Int.gcd r t : Int) := hE.is
        have hgd : g ∣ t := by rw [hgg]; exact Int.gcd_dvd_right ..
        have hg0n : g ≠ 0 := by
          rw [hgg]; have := Int.gcd_pos_of_ne_zero_right r ht; omega
        have htg : t / g ≠ 0 := fun h => by
          have := Int.ediv_mul_cancel hgd
          rw [h] at this
          omega
        have lwv : wv.natAbs ≤ t.natAbs := by
          have := BD.out.1
          rw [hwv]; split <;> omega
        have ltg : (t / g).natAbs ≤ t.natAbs := by rw [Int.natAbs_ediv_of_dvd hgd]; exact Nat.div_le_self _ _
        have LW := Lib.hid (show ((dig wv.natAbs).length ≤ 999999 ∧ (dig t.natAbs).length ≤ 999999 ∧ (dig g.natAbs).length ≤ 1000000 ∧ (dig (t / g).natAbs).length ≤ 1000000) from
          ⟨Nat.le_trans (len_mono lwv) (Nat.le_trans HLL.out.2 (by omega)), Nat.le_trans HLL.out.2 (by omega), Nat.le_trans HLS.out.1 (by omega), Nat.le_trans (len_mono ltg) (Nat.le_trans HLL.out.2 (by omega))⟩)
        have HE := Lib.hid hE
        clear hE hgg hgd lwv ltg hsv SG k0 k1 j0 j1 k0' k1' j0' j1' iz
        have HT := Lib.hid hT; have HG := Lib.hid hG; have HU := Lib.hid hU; have E23 := Lib.hid e23
        have R34 := Lib.hid x4; have R35 := Lib.hid x5; have R37 := Lib.hid x7; have HWV := Lib.hid hwv
        clear hT hG hU e23 x4 x5 x7 x3 hwv
        by_cases hn : r < 0
        · have hq1 : qx = true := by rw [hq]; exact decide_eq_true hn
          subst hq1
          clear hq
          obtain ⟨q7, B7, m7, d7, k0, k1, kz⟩ := HU.out
          have OP := Lib.hid (asAgg (oppositeZ_any u _ w3 kz))
          clear kz
          go_wp2_with fail
          refine OP.out.mono ?_
          rintro e w4 ⟨b5', A5', n5', c5', rfl, y7, x4⟩
          replace x4 : Ext w3 w4 := x4
          have t7 := R37.out.ext x4
          obtain ⟨_, _, _, _, g30, g31, g32, g33⟩ := t7.facts
          obtain ⟨W5, hW5⟩ : ∃ W5, W5 = (w4.setCell ⟨g7, 0, none⟩ (.bool b5')).setCell ⟨g7, 1, none⟩ (.slice A5' n5' c5') := ⟨_, rfl⟩
          have hwv : wv = -u := by rw [HWV.out, if_pos hn]
          have HW5 : Hid (HZ W5 g7 wv) := Lib.hid (by rw [hW5, hwv]; exact HZ.put t7 y7)
          have HT5 : Hid (HZ W5 (W.heap.size + 1) t) := Lib.hid (by rw [hW5]; exact (HT.out.ext HT.out.lt x4).far t7 (by omega) _ _)
          have HG5 : Hid (HZ W5 (W.heap.size + 1 + 1) g) := Lib.hid (by rw [hW5]; exact (HG.out.ext HG.out.lt x4).far t7 (by omega) _ _)
          have R54 : Hid (RB W5 (W.heap.size + 1 + 1)) := Lib.hid (by rw [hW5]; exact (R34.out.ext x4).far t7 (by omega) _ _)
          have R55 : Hid (RB W5 (W.heap.size + 1 + 1 + 1)) := Lib.hid (by rw [hW5]; exact (R35.out.ext x4).far t7 (by omega) _ _)
          have E5 : Hid (Ext W2 W5) := Lib.hid (by rw [hW5]; exact below_set2 (Ext.below (E23.out.trans x4)) (by omega) _ _)
          have HWW := Lib.hid hW5
          clear hW5 t7 y7 x4 k0 k1 OP i0 i1 hwv
          go_upto_region 9 with fail
          rw [← HWW.out]
          clear HWW g30 g31 g32 g33
          have y1 := HT5.out.lt
          have y2 := HG5.out.lt
          have y3 := HW5.out.lt
          have lw := LW.out
          refine wp_region_noPanic ?_
          refine wp_pool 8 [some 41, some 42, some 43, some 44, some 45, some 40, some 46, some 47] [] [] [(fun (v : Value) (X : World) => ∃ b A n c, v = .agg #[.bool b, .slice A n c] ∧ ZV X (.agg #[.bool b, .slice A n c]) (wv)), (fun (v : Value) (X : World) => ∃ b A n c, v = .agg #[.bool b, .slice A n c] ∧ ZV X (.agg #[.bool b, .slice A n c]) (t)), (fun (v : Value) (X : World) => ∃ b A n c, v = .agg #[.bool b, .slice A n c] ∧ ZV X (.agg #[.bool b, .slice A n c]) (g)), (fun (v : Value) (X : World) => ∃ b A n c, v = .agg #[.bool b, .slice A n c] ∧ ZV X (.agg #[.bool b, .slice A n c]) (t / g)), (fun (v : Value) (X : World) => ∃ b A n c b' A' n' c', v = .tuple #[.agg #[.bool b, .slice A n c], .agg #[.bool b', .slice A' n' c']] ∧ ZV X (.agg #[.bool b, .slice A n c]) (wv / (t / g)) ∧ ZV X (.agg #[.bool b', .slice A' n' c']) (wv % (t / g))), (fun (v : Value) (X : World) => ∃ b A n c b' A' n' c', v = .tuple #[.agg #[.bool b, .slice A n c], .agg #[.bool b', .slice A' n' c']] ∧ ZV X (.agg #[.bool b, .slice A n c]) (wv / (t / g)) ∧ ZV X (.agg #[.bool b', .slice A' n' c']) (wv % (t / g))), (fun (v : Value) (X : World) => ∃ b A n c, v = .agg #[.bool b, .slice A n c] ∧ ZV X (.agg #[.bool b, .slice A n c]) (wv / (t / g))), (fun (v : Value) (X : World) => ∃ b A n c, v = .agg #[.bool b, .slice A n c] ∧ ZV X (.agg #[.bool b, .slice A n c]) (wv % (t / g)))] [noF, noF, noF, noF, noF, noF, noF, noF] (by kernel_rfl) (by kernel_rfl) (by kernel_rfl) (by kernel_rfl) (by kernel_rfl) (by kernel_rfl) (by kernel_rfl) (by kernel_rfl) (fun _ _ _ _ h => h) ⟨(fun _ _ _ e ⟨b, A, n, c, h1, h2⟩ => ⟨b, A, n, c, h1, h2.ext e⟩), (fun _ _ _ e ⟨b, A, n, c, h1, h2⟩ => ⟨b, A, n, c, h1, h2.ext e⟩), (fun _ _ _ e ⟨b, A, n, c, h1, h2⟩ => ⟨b, A, n, c, h1, h2.ext e⟩), (fun _ _ _ e ⟨b, A, n, c, h1, h2⟩ => ⟨b, A, n, c, h1, h2.ext e⟩), (fun _ _ _ e ⟨b, A, n, c, b', A', n', c', h1, h2, h3⟩ => ⟨b, A, n, c, b', A', n', c', h1, h2.ext e, h3.ext e⟩), (fun _ _ _ e ⟨b, A, n, c, b', A', n', c', h1, h2, h3⟩ => ⟨b, A, n, c, b', A', n', c', h1, h2.ext e, h3.ext e⟩), (fun _ _ _ e ⟨b, A, n, c, h1, h2⟩ => ⟨b, A, n, c, h1, h2.ext e⟩), (fun _ _ _ e ⟨b, A, n, c, h1, h2⟩ => ⟨b, A, n, c, h1, h2.ext e⟩), True.intro⟩ ?steps ?done
          case steps =>
            simp only [List.take_succ_cons, List.take_zero]
            refine Steps.cons (fun (v : Value) (X : World) => ∃ b A n c, v = .agg #[.bool b, .slice A n c] ∧ ZV X (.agg #[.bool b, .slice A n c]) (wv)) [] rfl (by kernel_rfl) rfl (by kernel_rfl) (fun y X ex0 hf K hK => ?_) ?_
            · clear hf
              have ex := (Ext.drw (Ext.refl _)).trans ex0
              refine Box.mk ?_
              simp only [fill, Act.put, Nat.reduceAdd, List.setIfInBounds_toArray, List.set_cons_zero, List.set_cons_succ] at hK ⊢
              obtain ⟨bl, Al, nl, cl, k0, k1, kz⟩ := (HW5.out.ext (by omega) ex)
              go_simp
              exact hK.out _ _ ⟨_, _, _, _, rfl, kz⟩ (Ext.refl _) (fun b hb => by cases hb)
            refine Steps.cons (fun (v : Value) (X : World) => ∃ b A n c, v = .agg #[.bool b, .slice A n c] ∧ ZV X (.agg #[.bool b, .slice A n c]) (t)) [] rfl (by kernel_rfl) rfl (by kernel_rfl) (fun y X ex0 hf K hK => ?_) ?_
            · clear hf
              have ex := (Ext.drw (Ext.refl _)).trans ex0
              refine Box.mk ?_
              simp only [fill, Act.put, Nat.reduceAdd, List.setIfInBounds_toArray, List.set_cons_zero, List.set_cons_succ] at hK ⊢
              obtain ⟨bl, Al, nl, cl, k0, k1, kz⟩ := (HT5.out.ext (by omega) ex)
              go_simp
              exact hK.out _ _ ⟨_, _, _, _, rfl, kz⟩ (Ext.refl _) (fun b hb => by cases hb)
            refine Steps.cons (fun (v : Value) (X : World) => ∃ b A n c, v = .agg #[.bool b, .slice A n c] ∧ ZV X (.agg #[.bool b, .slice A n c]) (g)) [] rfl (by kernel_rfl) rfl (by kernel_rfl) (fun y X ex0 hf K hK => ?_) ?_
            · clear hf
              have ex := (Ext.drw (Ext.refl _)).trans ex0
              refine Box.mk ?_
              simp only [fill, Act.put, Nat.reduceAdd, List.setIfInBounds_toArray, List.set_cons_zero, List.set_cons_succ] at hK ⊢
              obtain ⟨bl, Al, nl, cl, k0, k1, kz⟩ := (HG5.out.ext (by omega) ex)
              go_simp
              exact hK.out _ _ ⟨_, _, _, _, rfl, kz⟩ (Ext.refl _) (fun b hb => by cases hb)
            refine Steps.cons (fun (v : Value) (X : World) => ∃ b A n c, v = .agg #[.bool b, .slice A n c] ∧ ZV X (.agg #[.bool b, .slice A n c]) (t / g)) [1, 2] rfl (by kernel_rfl) rfl (by kernel_rfl) (fun y X ex0 hf K hK => ?_) ?_
            · have hh1 : ((fun (v : Value) (X : World) => ∃ b A n c, v = .agg #[.bool b, .slice A n c] ∧ ZV X (.agg #[.bool b, .slice A n c]) (t))) (y 1) X := hf.1
              refine Exists.elim hh1 (fun b1 hx1_0 => ?_)
              refine Exists.elim hx1_0 (fun A1 hx1_1 => ?_)
              refine Exists.elim hx1_1 (fun n1 hx1_2 => ?_)
              refine Exists.elim hx1_2 (fun c1 hx1_3 => ?_)
              have h1 := hx1_3.1
              have z1 := hx1_3.2
              clear hh1 hx1_0 hx1_1 hx1_2 hx1_3
              have hh2 : ((fun (v : Value) (X : World) => ∃ b A n c, v = .agg #[.bool b, .slice A n c] ∧ ZV X (.agg #[.bool b, .slice A n c]) (g))) (y 2) X := hf.2.1
              refine Exists.elim hh2 (fun b2 hx2_0 => ?_)
              refine Exists.elim hx2_0 (fun A2 hx2_1 => ?_)
              refine Exists.elim hx2_1 (fun n2 hx2_2 => ?_)
              refine Exists.elim hx2_2 (fun c2 hx2_3 => ?_)
              have h2 := hx2_3.1
              have z2 := hx2_3.2
              clear hh2 hx2_0 hx2_1 hx2_2 hx2_3
              clear hf
              have ex := (Ext.drw (Ext.refl _)).trans ex0
              refine Box.mk ?_
              simp only [fill, Act.put, Nat.reduceAdd, List.setIfInBounds_toArray, List.set_cons_zero, List.set_cons_succ, h1, h2] at hK ⊢
              go_simp
              refine (asAgg (overZ_any _ _ _ _ _ z1 z2 (by omega) (by omega) hg0n)).mono ?_
              rintro e V ⟨b9, A9, n9, c9, rfl, hz, hb⟩
              try go_wp2_with fail
              exact hK.out _ _ ⟨_, _, _, _, rfl, hz⟩ hb (fun b hb => by cases hb)
            refine Steps.cons (fun (v : Value) (X : World) => ∃ b A n c b' A' n' c', v = .tuple #[.agg #[.bool b, .slice A n c], .agg #[.bool b', .slice A' n' c']] ∧ ZV X (.agg #[.bool b, .slice A n c]) (wv / (t / g)) ∧ ZV X (.agg #[.bool b', .slice A' n' c']) (wv % (t / g))) [0, 3] rfl (by kernel_rfl) rfl (by kernel_rfl) (fun y X ex0 hf K hK => ?_) ?_
            · have hh0 : ((fun (v : Value) (X : World) => ∃ b A n c, v = .agg #[.bool b, .slice A n c] ∧ ZV X (.agg #[.bool b, .slice A n c]) (wv))) (y 0) X := hf.1
              refine Exists.elim hh0 (fun b0 hx0_0 => ?_)
              refine Exists.elim hx0_0 (fun A0 hx0_1 => ?_)
              refine Exists.elim hx0_1 (fun n0 hx0_2 => ?_)
              refine Exists.elim hx0_2 (fun c0 hx0_3 => ?_)
              have h0 := hx0_3.1
              have z0 := hx0_3.2
              clear hh0 hx0_0 hx0_1 hx0_2 hx0_3
              have hh3 : ((fun (v : Value) (X : World) => ∃ b A n c, v = .agg #[.bool b, .slice A n c] ∧ ZV X (.agg #[.bool b, .slice A n c]) (t / g))) (y 3) X := hf.2.1
              refine Exists.elim hh3 (fun b3 hx3_0 => ?_)
              refine Exists.elim hx3_0 (fun A3 hx3_1 => ?_)
              refine Exists.elim hx3_1 (fun n3 hx3_2 => ?_)
              refine Exists.elim hx3_2 (fun c3 hx3_3 => ?_)
              have h3 := hx3_3.1
              have z3 := hx3_3.2
              clear hh3 hx3_0 hx3_1 hx3_2 hx3_3
              clear hf
              have ex := (Ext.drw (Ext.refl _)).trans ex0
              refine Box.mk ?_
              simp only [fill, Act.put, Nat.reduceAdd, List.setIfInBounds_toArray, List.set_cons_zero, List.set_cons_succ, h0, h3] at hK ⊢
              go_simp
              refine (divideZ_any _ _ _ _ _ z0 z3 (by omega) (by omega) htg).mono ?_
              rintro e V ⟨b9, A9, n9, c9, b8, A8, n8, c8, rfl, hz, hy, hb⟩
              try go_wp2_with fail
              exact hK.out _ _ ⟨_, _, _, _, _, _, _, _, rfl, hz, hy⟩ hb (fun b hb => by cases hb)
            refine Steps.cons (fun (v : Value) (X : World) => ∃ b A n c b' A' n' c', v = .tuple #[.agg #[.bool b, .slice A n c], .agg #[.bool b', .slice A' n' c']] ∧ ZV X (.agg #[.bool b, .slice A n c]) (wv / (t / g)) ∧ ZV X (.agg #[.bool b', .slice A' n' c']) (wv % (t / g))) [4] rfl (by kernel_rfl) rfl (by kernel_rfl) (fun y X ex0 hf K hK => ?_) ?_
            · have hh4 : ((fun (v : Value) (X : World) => ∃ b A n c b' A' n' c', v = .tuple #[.agg #[.bool b, .slice A n c], .agg #[.bool b', .slice A' n' c']] ∧ ZV X (.agg #[.bool b, .slice A n c]) (wv / (t / g)) ∧ ZV X (.agg #[.bool b', .slice A' n' c']) (wv % (t / g)))) (y 4) X := hf.1
              refine Exists.elim hh4 (fun b4 hx4_0 => ?_)
              refine Exists.elim hx4_0 (fun A4 hx4_1 => ?_)
              refine Exists.elim hx4_1 (fun n4 hx4_2 => ?_)
              refine Exists.elim hx4_2 (fun c4 hx4_3 => ?_)
              refine Exists.elim hx4_3 (fun bb4 hx4_4 => ?_)
              refine Exists.elim hx4_4 (fun AA4 hx4_5 => ?_)
              refine Exists.elim hx4_5 (fun nn4 hx4_6 => ?_)
              refine Exists.elim hx4_6 (fun cc4 hx4_7 => ?_)
              have h4 := hx4_7.1
              have z4 := hx4_7.2.1
              have y4 := hx4_7.2.2
              clear hh4 hx4_0 hx4_1 hx4_2 hx4_3 hx4_4 hx4_5 hx4_6 hx4_7
              clear hf
              have ex := (Ext.drw (Ext.refl _)).trans ex0
              refine Box.mk ?_
              simp only [fill, Act.put, Nat.reduceAdd, List.setIfInBounds_toArray, List.set_cons_zero, List.set_cons_succ, h4] at hK ⊢
              go_simp
              exact hK.out _ _ ⟨_, _, _, _, _, _, _, _, rfl, z4, y4⟩ (Ext.refl _) (fun b hb => by cases hb)
            refine Steps.cons (fun (v : Value) (X : World) => ∃ b A n c, v = .agg #[.bool b, .slice A n c] ∧ ZV X (.agg #[.bool b, .slice A n c]) (wv / (t / g))) [5] rfl (by kernel_rfl) rfl (by kernel_rfl) (fun y X ex0 hf K hK => ?_) ?_
            · have hh5 : ((fun (v : Value) (X : World) => ∃ b A n c b' A' n' c', v = .tuple #[.agg #[.bool b, .slice A n c], .agg #[.bool b', .slice A' n' c']] ∧ ZV X (.agg #[.bool b, .slice A n c]) (wv / (t / g)) ∧ ZV X (.agg #[.bool b', .slice A' n' c']) (wv % (t / g)))) (y 5) X := hf.1
              refine Exists.elim hh5 (fun b5 hx5_0 => ?_)
              refine Exists.elim hx5_0 (fun A5 hx5_1 => ?_)
              refine Exists.elim hx5_1 (fun n5 hx5_2 => ?_)
              refine Exists.elim hx5_2 (fun c5 hx5_3 => ?_)
              refine Exists.elim hx5_3 (fun bb5 hx5_4 => ?_)
              refine Exists.elim hx5_4 (fun AA5 hx5_5 => ?_)
              refine Exists.elim hx5_5 (fun nn5 hx5_6 => ?_)
              refine Exists.elim hx5_6 (fun cc5 hx5_7 => ?_)
              have h5 := hx5_7.1
              have z5 := hx5_7.2.1
              have y5 := hx5_7.2.2
              clear hh5 hx5_0 hx5_1 hx5_2 hx5_3 hx5_4 hx5_5 hx5_6 hx5_7
              clear hf
              have ex := (Ext.drw (Ext.refl _)).trans ex0
              refine Box.mk ?_
              simp only [fill, Act.put, Nat.reduceAdd, List.setIfInBounds_toArray, List.set_cons_zero, List.set_cons_succ, h5] at hK ⊢
              go_simp
              exact hK.out _ _ ⟨_, _, _, _, rfl, z5⟩ (Ext.refl _) (fun b hb => by cases hb)
            refine Steps.cons (fun (v : Value) (X : World) => ∃ b A n c, v = .agg #[.bool b, .slice A n c] ∧ ZV X (.agg #[.bool b, .slice A n c]) (wv % (t / g))) [5] rfl (by kernel_rfl) rfl (by kernel_rfl) (fun y X ex0 hf K hK => ?_) ?_
            · have hh5 : ((fun (v : Value) (X : World) => ∃ b A n c b' A' n' c', v = .tuple #[.agg #[.bool b, .slice A n c], .agg #[.bool b', .slice A' n' c']] ∧ ZV X (.agg #[.bool b, .slice A n c]) (wv / (t / g)) ∧ ZV X (.agg #[.bool b', .slice A' n' c']) (wv % (t / g)))) (y 5) X := hf.1
              refine Exists.elim hh5 (fun b5 hx5_0 => ?_)
              refine Exists.elim hx5_0 (fun A5 hx5_1 => ?_)
              refine Exists.elim hx5_1 (fun n5 hx5_2 => ?_)
              refine Exists.elim hx5_2 (fun c5 hx5_3 => ?_)
              refine Exists.elim hx5_3 (fun bb5 hx5_4 => ?_)
              refine Exists.elim hx5_4 (fun AA5 hx5_5 => ?_)
              refine Exists.elim hx5_5 (fun nn5 hx5_6 => ?_)
              refine Exists.elim hx5_6 (fun cc5 hx5_7 => ?_)
              have h5 := hx5_7.1
              have z5 := hx5_7.2.1
              have y5 := hx5_7.2.2
              clear hh5 hx5_0 hx5_1 hx5_2 hx5_3 hx5_4 hx5_5 hx5_6 hx5_7
              clear hf
              have ex := (Ext.drw (Ext.refl _)).trans ex0
              refine Box.mk ?_
              simp only [fill, Act.put, Nat.reduceAdd, List.setIfInBounds_toArray, List.set_cons_zero, List.set_cons_succ, h5] at hK ⊢
              go_simp
              exact hK.out _ _ ⟨_, _, _, _, rfl, y5⟩ (Ext.refl _) (fun b hb => by cases hb)
            exact Steps.nil
          case done =>
            intro y X ex hf hlt hsep
            have hh0 : ((fun (v : Value) (X : World) => ∃ b A n c, v = .agg #[.bool b, .slice A n c] ∧ ZV X (.agg #[.bool b, .slice A n c]) (wv))) (y 0) X := hf.1
            refine Exists.elim hh0 (fun b0 hx0_0 => ?_)
            refine Exists.elim hx0_0 (fun A0 hx0_1 => ?_)
            refine Exists.elim hx0_1 (fun n0 hx0_2 => ?_)
            refine Exists.elim hx0_2 (fun c0 hx0_3 => ?_)
            have h0 := hx0_3.1
            have z0 := hx0_3.2
            clear hh0 hx0_0 hx0_1 hx0_2 hx0_3
            have hh1 : ((fun (v : Value) (X : World) => ∃ b A n c, v = .agg #[.bool b, .slice A n c] ∧ ZV X (.agg #[.bool b, .slice A n c]) (t))) (y 1) X := hf.2.1
            refine Exists.elim hh1 (fun b1 hx1_0 => ?_)
            refine Exists.elim hx1_0 (fun A1 hx1_1 => ?_)
            refine Exists.elim hx1_1 (fun n1 hx1_2 => ?_)
            refine Exists.elim hx1_2 (fun c1 hx1_3 => ?_)
            have h1 := hx1_3.1
            have z1 := hx1_3.2
            clear hh1 hx1_0 hx1_1 hx1_2 hx1_3
            have hh2 : ((fun (v : Value) (X : World) => ∃ b A n c, v = .agg #[.bool b, .slice A n c] ∧ ZV X (.agg #[.bool b, .slice A n c]) (g))) (y 2) X := hf.2.2.1
            refine Exists.elim hh2 (fun b2 hx2_0 => ?_)
            refine Exists.elim hx2_0 (fun A2 hx2_1 => ?_)
            refine Exists.elim hx2_1 (fun n2 hx2_2 => ?_)
            refine Exists.elim hx2_2 (fun c2 hx2_3 => ?_)
            have h2 := hx2_3.1
            have z2 := hx2_3.2
            clear hh2 hx2_0 hx2_1 hx2_2 hx2_3
            have hh3 : ((fun (v : Value) (X : World) => ∃ b A n c, v = .agg #[.bool b, .slice A n c] ∧ ZV X (.agg #[.bool b, .slice A n c]) (t / g))) (y 3) X := hf.2.2.2.1
            refine Exists.elim hh3 (fun b3 hx3_0 => ?_)
            refine Exists.elim hx3_0 (fun A3 hx3_1 => ?_)
            refine Exists.elim hx3_1 (fun n3 hx3_2 => ?_)
            refine Exists.elim hx3_2 (fun c3 hx3_3 => ?_)
            have h3 := hx3_3.1
            have z3 := hx3_3.2
            clear hh3 hx3_0 hx3_1 hx3_2 hx3_3
            have hh4 : ((fun (v : Value) (X : World) => ∃ b A n c b' A' n' c', v = .tuple #[.agg #[.bool b, .slice A n c], .agg #[.bool b', .slice A' n' c']] ∧ ZV X (.agg #[.bool b, .slice A n c]) (wv / (t / g)) ∧ ZV X (.agg #[.bool b', .slice A' n' c']) (wv % (t / g)))) (y 4) X := hf.2.2.2.2.1
            refine Exists.elim hh4 (fun b4 hx4_0 => ?_)
            refine Exists.elim hx4_0 (fun A4 hx4_1 => ?_)
            refine Exists.elim hx4_1 (fun n4 hx4_2 => ?_)
            refine Exists.elim hx4_2 (fun c4 hx4_3 => ?_)
            refine Exists.elim hx4_3 (fun bb4 hx4_4 => ?_)
            refine Exists.elim hx4_4 (fun AA4 hx4_5 => ?_)
            refine Exists.elim hx4_5 (fun nn4 hx4_6 => ?_)
            refine Exists.elim hx4_6 (fun cc4 hx4_7 => ?_)
            have h4 := hx4_7.1
            have z4 := hx4_7.2.1
            have y4 := hx4_7.2.2
            clear hh4 hx4_0 hx4_1 hx4_2 hx4_3 hx4_4 hx4_5 hx4_6 hx4_7
            have hh5 : ((fun (v : Value) (X : World) => ∃ b A n c b' A' n' c', v = .tuple #[.agg #[.bool b, .slice A n c], .agg #[.bool b', .slice A' n' c']] ∧ ZV X (.agg #[.bool b, .slice A n c]) (wv / (t / g)) ∧ ZV X (.agg #[.bool b', .slice A' n' c']) (wv % (t / g)))) (y 5) X := hf.2.2.2.2.2.1
            refine Exists.elim hh5 (fun b5 hx5_0 => ?_)
            refine Exists.elim hx5_0 (fun A5 hx5_1 => ?_)
            refine Exists.elim hx5_1 (fun n5 hx5_2 => ?_)
            refine Exists.elim hx5_2 (fun c5 hx5_3 => ?_)
            refine Exists.elim hx5_3 (fun bb5 hx5_4 => ?_)
            refine Exists.elim hx5_4 (fun AA5 hx5_5 => ?_)
            refine Exists.elim hx5_5 (fun nn5 hx5_6 => ?_)
            refine Exists.elim hx5_6 (fun cc5 hx5_7 => ?_)
            have h5 := hx5_7.1
            have z5 := hx5_7.2.1
            have y5 := hx5_7.2.2
            clear hh5 hx5_0 hx5_1 hx5_2 hx5_3 hx5_4 hx5_5 hx5_6 hx5_7
            have hh6 : ((fun (v : Value) (X : World) => ∃ b A n c, v = .agg #[.bool b, .slice A n c] ∧ ZV X (.agg #[.bool b, .slice A n c]) (wv / (t / g)))) (y 6) X := hf.2.2.2.2.2.2.1
            refine Exists.elim hh6 (fun b6 hx6_0 => ?_)
            refine Exists.elim hx6_0 (fun A6 hx6_1 => ?_)
            refine Exists.elim hx6_1 (fun n6 hx6_2 => ?_)
            refine Exists.elim hx6_2 (fun c6 hx6_3 => ?_)
            have h6 := hx6_3.1
            have z6 := hx6_3.2
            clear hh6 hx6_0 hx6_1 hx6_2 hx6_3
            have hh7 : ((fun (v : Value) (X : World) => ∃ b A n c, v = .agg #[.bool b, .slice A n c] ∧ ZV X (.agg #[.bool b, .slice A n c]) (wv % (t / g)))) (y 7) X := hf.2.2.2.2.2.2.2.1
            refine Exists.elim hh7 (fun b7 hx7_0 => ?_)
            refine Exists.elim hx7_0 (fun A7 hx7_1 => ?_)
            refine Exists.elim hx7_1 (fun n7 hx7_2 => ?_)
            refine Exists.elim hx7_2 (fun c7 hx7_3 => ?_)
            have h7 := hx7_3.1
            have z7 := hx7_3.2
            clear hh7 hx7_0 hx7_1 hx7_2 hx7_3
            clear hf
            clear hsep hlt
            refine Box.mk ?_
            simp only [List.drop_succ_cons, List.drop_zero, fill, Act.put, Nat.reduceAdd, List.setIfInBounds_toArray, List.set_cons_zero, List.set_cons_succ, h0, h1, h2, h3, h4, h5, h6, h7]
            clear h0 h1 h2 h3 h4 h5 h6 h7
            have yB := R55.out.ext ex
            have yA := R54.out.ext ex
            have i4 := HG5.out.ext (by omega) ex
            obtain ⟨_, _, _, _, g30, g31, g32, g33⟩ := yB.facts
            obtain ⟨W9, hW9⟩ : ∃ W9, W9 = (X.setCell ⟨W.heap.size + 1 + 1 + 1, 0, none⟩ (.bool b7)).setCell ⟨W.heap.size + 1 + 1 + 1, 1, none⟩ (.slice A7 n7 c7) := ⟨_, rfl⟩
            have k5 : HZ W9 (W.heap.size + 1 + 1 + 1) (wv % (t / g)) := by rw [hW9]; exact HZ.put yB z7
            have k4 : HZ W9 (W.heap.size + 1 + 1) g := by rw [hW9]; exact i4.far yB (by omega) _ _
            have r4 : RB W9 (W.heap.size + 1 + 1) := by rw [hW9]; exact yA.far yB (by omega) _ _
            have r5 : RB W9 (W.heap.size + 1 + 1 + 1) := by rw [hW9]; exact yB.set _ _ _ _
            have e9 : Below W2.heap.size W2 W9 := by rw [hW9]; exact below_set2 (Ext.below (E5.out.trans ex)) (by omega) _ _
            have HK := Lib.hid (And.intro k4 (And.intro k5 (And.intro r4 (And.intro r5 e9))))
            have HW9 := Lib.hid hW9
            clear hW9 k4 k5 r4 r5 e9 i4 yA yB ex z0 z1 z2 z3 z4 z5 z6 z7 y4 y5
            go_wp2_with fail
            refine NoPanic.normal ?_
            go_upto_region 10 with fail
            rw [← HW9.out]
            clear g30 g31 g32 g33 HW9
            obtain ⟨q4', B4', m4', d4', k0, k1, kz⟩ := HK.out.1
            obtain ⟨q5', B5', m5', d5', j0, j1, jz⟩ := HK.out.2.1
            obtain ⟨_, _, _, _, -, -, g32, g33⟩ := HK.out.2.2.1.facts
            obtain ⟨_, _, _, _, -, -, g52, g53⟩ := HK.out.2.2.2.1.facts
            have KZ9 := Lib.hid kz; have JZ9 := Lib.hid jz
            clear kz jz
            go_region
            all_goals go_wp2
            have lz := Z2.out
            obtain ⟨W', hW', f1, f2, f3, f4, hz1, hz2, hbf⟩ := two_res HK.out.2.2.1 HK.out.2.2.2.1 (show W.heap.size + 1 + 1 + 1 ≠ W.heap.size + 1 + 1 by omega) q4' B4' m4' d4' q5' B5' m5' d5' KZ9.out JZ9.out HK.out.2.2.2.2 (by omega) (by omega)
            rw [← hW']
            replace f1 : W'.drew.cell? ⟨W.heap.size + 1 + 1, 0, none⟩ = some (.bool q4') := f1
            replace f2 : W'.drew.cell? ⟨W.heap.size + 1 + 1, 1, none⟩ = some (.slice B4' m4' d4') := f2
            replace f3 : W'.drew.cell? ⟨W.heap.size + 1 + 1 + 1, 0, none⟩ = some (.bool q5') := f3
            replace f4 : W'.drew.cell? ⟨W.heap.size + 1 + 1 + 1, 1, none⟩ = some (.slice B5' m5' d5') := f4
            exact bodyPost_ret (v := .tuple #[.agg #[.bool q4', .slice B4' m4' d4'], .agg #[.bool q5', .slice B5' m5' d5']]) (by simp [results, Try.results67, go_sem, f1, f2, f3, f4]) rfl
              ⟨g, wv % (t / g), _, HE.out, _, _, _, _, _, _, _, _, rfl, hz1.ext (Ext.drew _), hz2.ext (Ext.drew _), (Ext.trans EW.out hbf).drw⟩
        · have hq1 : qx = false := by rw [hq]; exact decide_eq_false hn
          subst hq1
          clear hq
          have hwv : wv = u := by rw [HWV.out, if_neg hn]
          obtain ⟨W5, hW5⟩ : ∃ W5, W5 = w3 := ⟨_, rfl⟩
          have HW5 : Hid (HZ W5 g7 wv) := Lib.hid (by rw [hW5, hwv]; exact HU.out)
          have HT5 : Hid (HZ W5 (W.heap.size + 1) t) := Lib.hid (by rw [hW5]; exact HT.out)
          have HG5 : Hid (HZ W5 (W.heap.size + 1 + 1) g) := Lib.hid (by rw [hW5]; exact HG.out)
          have R54 : Hid (RB W5 (W.heap.size + 1 + 1)) := Lib.hid (by rw [hW5]; exact R34.out)
          have R55 : Hid (RB W5 (W.heap.size + 1 + 1 + 1)) := Lib.hid (by rw [hW5]; exact R35.out)
          have E5 : Hid (Ext W2 W5) := Lib.hid (by rw [hW5]; exact E23.out)
          go_upto_region 9 with fail
          rw [← hW5]
          clear hW5 i0 i1 hwv
          have y1 := HT5.out.lt
          have y2 := HG5.out.lt
          have y3 := HW5.out.lt
          have lw := LW.out
          refine wp_region_noPanic ?_
          refine wp_pool 8 [some 41, some 42, some 43, some 44, some 45, some 40, some 46, some 47] [] [] [(fun (v : Value) (X : World) => ∃ b A n c, v = .agg #[.bool b, .slice A n c] ∧ ZV X (.agg #[.bool b, .slice A n c]) (wv)), (fun (v : Value) (X : World) => ∃ b A n c, v = .agg #[.bool b, .slice A n c] ∧ ZV X (.agg #[.bool b, .slice A n c]) (t)), (fun (v : Value) (X : World) => ∃ b A n c, v = .agg #[.bool b, .slice A n c] ∧ ZV X (.agg #[.bool b, .slice A n c]) (g)), (fun (v : Value) (X : World) => ∃ b A n c, v = .agg #[.bool b, .slice A n c] ∧ ZV X (.agg #[.bool b, .slice A n c]) (t / g)), (fun (v : Value) (X : World) => ∃ b A n c b' A' n' c', v = .tuple #[.agg #[.bool b, .slice A n c], .agg #[.bool b', .slice A' n' c']] ∧ ZV X (.agg #[.bool b, .slice A n c]) (wv / (t / g)) ∧ ZV X (.agg #[.bool b', .slice A' n' c']) (wv % (t / g))), (fun (v : Value) (X : World) => ∃ b A n c b' A' n' c', v = .tuple #[.agg #[.bool b, .slice A n c], .agg #[.bool b', .slice A' n' c']] ∧ ZV X (.agg #[.bool b, .slice A n c]) (wv / (t / g)) ∧ ZV X (.agg #[.bool b', .slice A' n' c']) (wv % (t / g))), (fun (v : Value) (X : World) => ∃ b A n c, v = .agg #[.bool b, .slice A n c] ∧ ZV X (.agg #[.bool b, .slice A n c]) (wv / (t / g))), (fun (v : Value) (X : World) => ∃ b A n c, v = .agg #[.bool b, .slice A n c] ∧ ZV X (.agg #[.bool b, .slice A n c]) (wv % (t / g)))] [noF, noF, noF, noF, noF, noF, noF, noF] (by kernel_rfl) (by kernel_rfl) (by kernel_rfl) (by kernel_rfl) (by kernel_rfl) (by kernel_rfl) (by kernel_rfl) (by kernel_rfl) (fun _ _ _ _ h => h) ⟨(fun _ _ _ e ⟨b, A, n, c, h1, h2⟩ => ⟨b, A, n, c, h1, h2.ext e⟩), (fun _ _ _ e ⟨b, A, n, c, h1, h2⟩ => ⟨b, A, n, c, h1, h2.ext e⟩), (fun _ _ _ e ⟨b, A, n, c, h1, h2⟩ => ⟨b, A, n, c, h1, h2.ext e⟩), (fun _ _ _ e ⟨b, A, n, c, h1, h2⟩ => ⟨b, A, n, c, h1, h2.ext e⟩), (fun _ _ _ e ⟨b, A, n, c, b', A', n', c', h1, h2, h3⟩ => ⟨b, A, n, c, b', A', n', c', h1, h2.ext e, h3.ext e⟩), (fun _ _ _ e ⟨b, A, n, c, b', A', n', c', h1, h2, h3⟩ => ⟨b, A, n, c, b', A', n', c', h1, h2.ext e, h3.ext e⟩), (fun _ _ _ e ⟨b, A, n, c, h1, h2⟩ => ⟨b, A, n, c, h1, h2.ext e⟩), (fun _ _ _ e ⟨b, A, n, c, h1, h2⟩ => ⟨b, A, n, c, h1, h2.ext e⟩), True.intro⟩ ?steps ?done
          case steps =>
            simp only [List.take_succ_cons, List.take_zero]
            refine Steps.cons (fun (v : Value) (X : World) => ∃ b A n c, v = .agg #[.bool b, .slice A n c] ∧ ZV X (.agg #[.bool b, .slice A n c]) (wv)) [] rfl (by kernel_rfl) rfl (by kernel_rfl) (fun y X ex0 hf K hK => ?_) ?_
            · clear hf
              have ex := (Ext.drw (Ext.refl _)).trans ex0
              refine Box.mk ?_
              simp only [fill, Act.put, Nat.reduceAdd, List.setIfInBounds_toArray, List.set_cons_zero, List.set_cons_succ] at hK ⊢
              obtain ⟨bl, Al, nl, cl, k0, k1, kz⟩ := (HW5.out.ext (by omega) ex)
              go_simp
              exact hK.out _ _ ⟨_, _, _, _, rfl, kz⟩ (Ext.refl _) (fun b hb => by cases hb)
            refine Steps.cons (fun (v : Value) (X : World) => ∃ b A n c, v = .agg #[.bool b, .slice A n c] ∧ ZV X (.agg #[.bool b, .slice A n c]) (t)) [] rfl (by kernel_rfl) rfl (by kernel_rfl) (fun y X ex0 hf K hK => ?_) ?_
            · clear hf
              have ex := (Ext.drw (Ext.refl _)).trans ex0
              refine Box.mk ?_
              simp only [fill, Act.put, Nat.reduceAdd, List.setIfInBounds_toArray, List.set_cons_zero, List.set_cons_succ] at hK ⊢
              obtain ⟨bl, Al, nl, cl, k0, k1, kz⟩ := (HT5.out.ext (by omega) ex)
              go_simp
              exact hK.out _ _ ⟨_, _, _, _, rfl, kz⟩ (Ext.refl _) (fun b hb => by cases hb)
            refine Steps.cons (fun (v : Value) (X : World) => ∃ b A n c, v = .agg #[.bool b, .slice A n c] ∧ ZV X (.agg #[.bool b, .slice A n c]) (g)) [] rfl (by kernel_rfl) rfl (by kernel_rfl) (fun y X ex0 hf K hK => ?_) ?_
            · clear hf
              have ex := (Ext.drw (Ext.refl _)).trans ex0
              refine Box.mk ?_
              simp only [fill, Act.put, Nat.reduceAdd, List.setIfInBounds_toArray, List.set_cons_zero, List.set_cons_succ] at hK ⊢
              obtain ⟨bl, Al, nl, cl, k0, k1, kz⟩ := (HG5.out.ext (by omega) ex)
              go_simp
              exact hK.out _ _ ⟨_, _, _, _, rfl, kz⟩ (Ext.refl _) (fun b hb => by cases hb)
            refine Steps.cons (fun (v : Value) (X : World) => ∃ b A n c, v = .agg #[.bool b, .slice A n c] ∧ ZV X (.agg #[.bool b, .slice A n c]) (t / g)) [1, 2] rfl (by kernel_rfl) rfl (by kernel_rfl) (fun y X ex0 hf K hK => ?_) ?_
            · have hh1 : ((fun (v : Value) (X : World) => ∃ b A n c, v = .agg #[.bool b, .slice A n c] ∧ ZV X (.agg #[.bool b, .slice A n c]) (t))) (y 1) X := hf.1
              refine Exists.elim hh1 (fun b1 hx1_0 => ?_)
              refine Exists.elim hx1_0 (fun A1 hx1_1 => ?_)
              refine Exists.elim hx1_1 (fun n1 hx1_2 => ?_)
              refine Exists.elim hx1_2 (fun c1 hx1_3 => ?_)
              have h1 := hx1_3.1
              have z1 := hx1_3.2
              clear hh1 hx1_0 hx1_1 hx1_2 hx1_3
              have hh2 : ((fun (v : Value) (X : World) => ∃ b A n c, v = .agg #[.bool b, .slice A n c] ∧ ZV X (.agg #[.bool b, .slice A n c]) (g))) (y 2) X := hf.2.1
              refine Exists.elim hh2 (fun b2 hx2_0 => ?_)
              refine Exists.elim hx2_0 (fun A2 hx2_1 => ?_)
              refine Exists.elim hx2_1 (fun n2 hx2_2 => ?_)
              refine Exists.elim hx2_2 (fun c2 hx2_3 => ?_)
              have h2 := hx2_3.1
              have z2 := hx2_3.2
              clear hh2 hx2_0 hx2_1 hx2_2 hx2_3
              clear hf
              have ex := (Ext.drw (Ext.refl _)).trans ex0
              refine Box.mk ?_
              simp only [fill, Act.put, Nat.reduceAdd, List.setIfInBounds_toArray, List.set_cons_zero, List.set_cons_succ, h1, h2] at hK ⊢
              go_simp
              refine (asAgg (overZ_any _ _ _ _ _ z1 z2 (by omega) (by omega) hg0n)).mono ?_
              rintro e V ⟨b9, A9, n9, c9, rfl, hz, hb⟩
              try go_wp2_with fail
              exact hK.out _ _ ⟨_, _, _, _, rfl, hz⟩ hb (fun b hb => by cases hb)
            refine Steps.cons (fun (v : Value) (X : World) => ∃ b A n c b' A' n' c', v = .tuple #[.agg #[.bool b, .slice A n c], .agg #[.bool b', .slice A' n' c']] ∧ ZV X (.agg #[.bool b, .slice A n c]) (wv / (t / g)) ∧ ZV X (.agg #[.bool b', .slice A' n' c']) (wv % (t / g))) [0, 3] rfl (by kernel_rfl) rfl (by kernel_rfl) (fun y X ex0 hf K hK => ?_) ?_
            · have hh0 : ((fun (v : Value) (X : World) => ∃ b A n c, v = .agg #[.bool b, .slice A n c] ∧ ZV X (.agg #[.bool b, .slice A n c]) (wv))) (y 0) X := hf.1
              refine Exists.elim hh0 (fun b0 hx0_0 => ?_)
              refine Exists.elim hx0_0 (fun A0 hx0_1 => ?_)
              refine Exists.elim hx0_1 (fun n0 hx0_2 => ?_)
              refine Exists.elim hx0_2 (fun c0 hx0_3 => ?_)
              have h0 := hx0_3.1
              have z0 := hx0_3.2
              clear hh0 hx0_0 hx0_1 hx0_2 hx0_3
              have hh3 : ((fun (v : Value) (X : World) => ∃ b A n c, v = .agg #[.bool b, .slice A n c] ∧ ZV X (.agg #[.bool b, .slice A n c]) (t / g))) (y 3) X := hf.2.1
              refine Exists.elim hh3 (fun b3 hx3_0 => ?_)
              refine Exists.elim hx3_0 (fun A3 hx3_1 => ?_)
              refine Exists.elim hx3_1 (fun n3 hx3_2 => ?_)
              refine Exists.elim hx3_2 (fun c3 hx3_3 => ?_)
              have h3 := hx3_3.1
              have z3 := hx3_3.2
              clear hh3 hx3_0 hx3_1 hx3_2 hx3_3
              clear hf
              have ex := (Ext.drw (Ext.refl _)).trans ex0
              refine Box.mk ?_
              simp only [fill, Act.put, Nat.reduceAdd, List.setIfInBounds_toArray, List.set_cons_zero, List.set_cons_succ, h0, h3] at hK ⊢
              go_simp
              refine (divideZ_any _ _ _ _ _ z0 z3 (by omega) (by omega) htg).mono ?_
              rintro e V ⟨b9, A9, n9, c9, b8, A8, n8, c8, rfl, hz, hy, hb⟩
              try go_wp2_with fail
              exact hK.out _ _ ⟨_, _, _, _, _, _, _, _, rfl, hz, hy⟩ hb (fun b hb => by cases hb)
            refine Steps.cons (fun (v : Value) (X : World) => ∃ b A n c b' A' n' c', v = .tuple #[.agg #[.bool b, .slice A n c], .agg #[.bool b', .slice A' n' c']] ∧ ZV X (.agg #[.bool b, .slice A n c]) (wv / (t / g)) ∧ ZV X (.agg #[.bool b', .slice A' n' c']) (wv % (t / g))) [4] rfl (by kernel_rfl) rfl (by kernel_rfl) (fun y X ex0 hf K hK => ?_) ?_
            · have hh4 : ((fun (v : Value) (X : World) => ∃ b A n c b' A' n' c', v = .tuple #[.agg #[.bool b, .slice A n c], .agg #[.bool b', .slice A' n' c']] ∧ ZV X (.agg #[.bool b, .slice A n c]) (wv / (t / g)) ∧ ZV X (.agg #[.bool b', .slice A' n' c']) (wv % (t / g)))) (y 4) X := hf.1
              refine Exists.elim hh4 (fun b4 hx4_0 => ?_)
              refine Exists.elim hx4_0 (fun A4 hx4_1 => ?_)
              refine Exists.elim hx4_1 (fun n4 hx4_2 => ?_)
              refine Exists.elim hx4_2 (fun c4 hx4_3 => ?_)
              refine Exists.elim hx4_3 (fun bb4 hx4_4 => ?_)
              refine Exists.elim hx4_4 (fun AA4 hx4_5 => ?_)
              refine Exists.elim hx4_5 (fun nn4 hx4_6 => ?_)
              refine Exists.elim hx4_6 (fun cc4 hx4_7 => ?_)
              have h4 := hx4_7.1
              have z4 := hx4_7.2.1
              have y4 := hx4_7.2.2
              clear hh4 hx4_0 hx4_1 hx4_2 hx4_3 hx4_4 hx4_5 hx4_6 hx4_7
              clear hf
              have ex := (Ext.drw (Ext.refl _)).trans ex0
              refine Box.mk ?_
              simp only [fill, Act.put, Nat.reduceAdd, List.setIfInBounds_toArray, List.set_cons_zero, List.set_cons_succ, h4] at hK ⊢
              go_simp
              exact hK.out _ _ ⟨_, _, _, _, _, _, _, _, rfl, z4, y4⟩ (Ext.refl _) (fun b hb => by cases hb)
            refine Steps.cons (fun (v : Value) (X : World) => ∃ b A n c, v = .agg #[.bool b, .slice A n c] ∧ ZV X (.agg #[.bool b, .slice A n c]) (wv / (t / g))) [5] rfl (by kernel_rfl) rfl (by kernel_rfl) (fun y X ex0 hf K hK => ?_) ?_
            · have hh5 : ((fun (v : Value) (X : World) => ∃ b A n c b' A' n' c', v = .tuple #[.agg #[.bool b, .slice A n c], .agg #[.bool b', .slice A' n' c']] ∧ ZV X (.agg #[.bool b, .slice A n c]) (wv / (t / g)) ∧ ZV X (.agg #[.bool b', .slice A' n' c']) (wv % (t / g)))) (y 5) X := hf.1
              refine Exists.elim hh5 (fun b5 hx5_0 => ?_)
              refine Exists.elim hx5_0 (fun A5 hx5_1 => ?_)
              refine Exists.elim hx5_1 (fun n5 hx5_2 => ?_)
              refine Exists.elim hx5_2 (fun c5 hx5_3 => ?_)
              refine Exists.elim hx5_3 (fun bb5 hx5_4 => ?_)
              refine Exists.elim hx5_4 (fun AA5 hx5_5 => ?_)
              refine Exists.elim hx5_5 (fun nn5 hx5_6 => ?_)
              refine Exists.elim hx5_6 (fun cc5 hx5_7 => ?_)
              have h5 := hx5_7.1
              have z5 := hx5_7.2.1
              have y5 := hx5_7.2.2
              clear hh5 hx5_0 hx5_1 hx5_2 hx5_3 hx5_4 hx5_5 hx5_6 hx5_7
              clear hf
              have ex := (Ext.drw (Ext.refl _)).trans ex0
              refine Box.mk ?_
              simp only [fill, Act.put, Nat.reduceAdd, List.setIfInBounds_toArray, List.set_cons_zero, List.set_cons_succ, h5] at hK ⊢
              go_simp
              exact hK.out _ _ ⟨_, _, _, _, rfl, z5⟩ (Ext.refl _) (fun b hb => by cases hb)
            refine Steps.cons (fun (v : Value) (X : World) => ∃ b A n c, v = .agg #[.bool b, .slice A n c] ∧ ZV X (.agg #[.bool b, .slice A n c]) (wv % (t / g))) [5] rfl (by kernel_rfl) rfl (by kernel_rfl) (fun y X ex0 hf K hK => ?_) ?_
            · have hh5 : ((fun (v : Value) (X : World) => ∃ b A n c b' A' n' c', v = .tuple #[.agg #[.bool b, .slice A n c], .agg #[.bool b', .slice A' n' c']] ∧ ZV X (.agg #[.bool b, .slice A n c]) (wv / (t / g)) ∧ ZV X (.agg #[.bool b', .slice A' n' c']) (wv % (t / g)))) (y 5) X := hf.1
              refine Exists.elim hh5 (fun b5 hx5_0 => ?_)
              refine Exists.elim hx5_0 (fun A5 hx5_1 => ?_)
              refine Exists.elim hx5_1 (fun n5 hx5_2 => ?_)
              refine Exists.elim hx5_2 (fun c5 hx5_3 => ?_)
              refine Exists.elim hx5_3 (fun bb5 hx5_4 => ?_)
              refine Exists.elim hx5_4 (fun AA5 hx5_5 => ?_)
              refine Exists.elim hx5_5 (fun nn5 hx5_6 => ?_)
              refine Exists.elim hx5_6 (fun cc5 hx5_7 => ?_)
              have h5 := hx5_7.1
              have z5 := hx5_7.2.1
              have y5 := hx5_7.2.2
              clear hh5 hx5_0 hx5_1 hx5_2 hx5_3 hx5_4 hx5_5 hx5_6 hx5_7
              clear hf
              have ex := (Ext.drw (Ext.refl _)).trans ex0
              refine Box.mk ?_
              simp only [fill, Act.put, Nat.reduceAdd, List.setIfInBounds_toArray, List.set_cons_zero, List.set_cons_succ, h5] at hK ⊢
              go_simp
              exact hK.out _ _ ⟨_, _, _, _, rfl, y5⟩ (Ext.refl _) (fun b hb => by cases hb)
            exact Steps.nil
          case done =>
            intro y X ex hf hlt hsep
            have hh0 : ((fun (v : Value) (X : World) => ∃ b A n c, v = .agg #[.bool b, .slice A n c] ∧ ZV X (.agg #[.bool b, .slice A n c]) (wv))) (y 0) X := hf.1
            refine Exists.elim hh0 (fun b0 hx0_0 => ?_)
            refine Exists.elim hx0_0 (fun A0 hx0_1 => ?_)
            refine Exists.elim hx0_1 (fun n0 hx0_2 => ?_)
            refine Exists.elim hx0_2 (fun c0 hx0_3 => ?_)
            have h0 := hx0_3.1
            have z0 := hx0_3.2
            clear hh0 hx0_0 hx0_1 hx0_2 hx0_3
            have hh1 : ((fun (v : Value) (X : World) => ∃ b A n c, v = .agg #[.bool b, .slice A n c] ∧ ZV X (.agg #[.bool b, .slice A n c]) (t))) (y 1) X := hf.2.1
            refine Exists.elim hh1 (fun b1 hx1_0 => ?_)
            refine Exists.elim hx1_0 (fun A1 hx1_1 => ?_)
            refine Exists.elim hx1_1 (fun n1 hx1_2 => ?_)
            refine Exists.elim hx1_2 (fun c1 hx1_3 => ?_)
            have h1 := hx1_3.1
            have z1 := hx1_3.2
            clear hh1 hx1_0 hx1_1 hx1_2 hx1_3
            have hh2 : ((fun (v : Value) (X : World) => ∃ b A n c, v = .agg #[.bool b, .slice A n c] ∧ ZV X (.agg #[.bool b, .slice A n c]) (g))) (y 2) X := hf.2.2.1
            refine Exists.elim hh2 (fun b2 hx2_0 => ?_)
            refine Exists.elim hx2_0 (fun A2 hx2_1 => ?_)
            refine Exists.elim hx2_1 (fun n2 hx2_2 => ?_)
            refine Exists.elim hx2_2 (fun c2 hx2_3 => ?_)
            have h2 := hx2_3.1
            have z2 := hx2_3.2
            clear hh2 hx2_0 hx2_1 hx2_2 hx2_3
            have hh3 : ((fun (v : Value) (X : World) => ∃ b A n c, v = .agg #[.bool b, .slice A n c] ∧ ZV X (.agg #[.bool b, .slice A n c]) (t / g))) (y 3) X := hf.2.2.2.1
            refine Exists.elim hh3 (fun b3 hx3_0 => ?_)
            refine Exists.elim hx3_0 (fun A3 hx3_1 => ?_)
            refine Exists.elim hx3_1 (fun n3 hx3_2 => ?_)
            refine Exists.elim hx3_2 (fun c3 hx3_3 => ?_)
            have h3 := hx3_3.1
            have z3 := hx3_3.2
            clear hh3 hx3_0 hx3_1 hx3_2 hx3_3
            have hh4 : ((fun (v : Value) (X : World) => ∃ b A n c b' A' n' c', v = .tuple #[.agg #[.bool b, .slice A n c], .agg #[.bool b', .slice A' n' c']] ∧ ZV X (.agg #[.bool b, .slice A n c]) (wv / (t / g)) ∧ ZV X (.agg #[.bool b', .slice A' n' c']) (wv % (t / g)))) (y 4) X := hf.2.2.2.2.1
            refine Exists.elim hh4 (fun b4 hx4_0 => ?_)
            refine Exists.elim hx4_0 (fun A4 hx4_1 => ?_)
            refine Exists.elim hx4_1 (fun n4 hx4_2 => ?_)
            refine Exists.elim hx4_2 (fun c4 hx4_3 => ?_)
            refine Exists.elim hx4_3 (fun bb4 hx4_4 => ?_)
            refine Exists.elim hx4_4 (fun AA4 hx4_5 => ?_)
            refine Exists.elim hx4_5 (fun nn4 hx4_6 => ?_)
            refine Exists.elim hx4_6 (fun cc4 hx4_7 => ?_)
            have h4 := hx4_7.1
            have z4 := hx4_7.2.1
            have y4 := hx4_7.2.2
            clear hh4 hx4_0 hx4_1 hx4_2 hx4_3 hx4_4 hx4_5 hx4_6 hx4_7
            have hh5 : ((fun (v : Value) (X : World) => ∃ b A n c b' A' n' c', v = .tuple #[.agg #[.bool b, .slice A n c], .agg #[.bool b', .slice A' n' c']] ∧ ZV X (.agg #[.bool b, .slice A n c]) (wv / (t / g)) ∧ ZV X (.agg #[.bool b', .slice A' n' c']) (wv % (t / g)))) (y 5) X := hf.2.2.2.2.2.1
            refine Exists.elim hh5 (fun b5 hx5_0 => ?_)
            refine Exists.elim hx5_0 (fun A5 hx5_1 => ?_)
            refine Exists.elim hx5_1 (fun n5 hx5_2 => ?_)
            refine Exists.elim hx5_2 (fun c5 hx5_3 => ?_)
            refine Exists.elim hx5_3 (fun bb5 hx5_4 => ?_)
            refine Exists.elim hx5_4 (fun AA5 hx5_5 => ?_)
            refine Exists.elim hx5_5 (fun nn5 hx5_6 => ?_)
            refine Exists.elim hx5_6 (fun cc5 hx5_7 => ?_)
            have h5 := hx5_7.1
            have z5 := hx5_7.2.1
            have y5 := hx5_7.2.2
            clear hh5 hx5_0 hx5_1 hx5_2 hx5_3 hx5_4 hx5_5 hx5_6 hx5_7
            have hh6 : ((fun (v : Value) (X : World) => ∃ b A n c, v = .agg #[.bool b, .slice A n c] ∧ ZV X (.agg #[.bool b, .slice A n c]) (wv / (t / g)))) (y 6) X := hf.2.2.2.2.2.2.1
            refine Exists.elim hh6 (fun b6 hx6_0 => ?_)
            refine Exists.elim hx6_0 (fun A6 hx6_1 => ?_)
            refine Exists.elim hx6_1 (fun n6 hx6_2 => ?_)
            refine Exists.elim hx6_2 (fun c6 hx6_3 => ?_)
            have h6 := hx6_3.1
            have z6 := hx6_3.2
            clear hh6 hx6_0 hx6_1 hx6_2 hx6_3
            have hh7 : ((fun (v : Value) (X : World) => ∃ b A n c, v = .agg #[.bool b, .slice A n c] ∧ ZV X (.agg #[.bool b, .slice A n c]) (wv % (t / g)))) (y 7) X := hf.2.2.2.2.2.2.2.1
            refine Exists.elim hh7 (fun b7 hx7_0 => ?_)
            refine Exists.elim hx7_0 (fun A7 hx7_1 => ?_)
            refine Exists.elim hx7_1 (fun n7 hx7_2 => ?_)
            refine Exists.elim hx7_2 (fun c7 hx7_3 => ?_)
            have h7 := hx7_3.1
            have z7 := hx7_3.2
            clear hh7 hx7_0 hx7_1 hx7_2 hx7_3
            clear hf
            clear hsep hlt
            refine Box.mk ?_
            simp only [List.drop_succ_cons, List.drop_zero, fill, Act.put, Nat.reduceAdd, List.setIfInBounds_toArray, List.set_cons_zero, List.set_cons_succ, h0, h1, h2, h3, h4, h5, h6, h7]
            clear h0 h1 h2 h3 h4 h5 h6 h7
            have yB := R55.out.ext ex
            have yA := R54.out.ext ex
            have i4 := HG5.out.ext (by omega) ex
            obtain ⟨_, _, _, _, g30, g31, g32, g33⟩ := yB.facts
            obtain ⟨W9, hW9⟩ : ∃ W9, W9 = (X.setCell ⟨W.heap.size + 1 + 1 + 1, 0, none⟩ (.bool b7)).setCell ⟨W.heap.size + 1 + 1 + 1, 1, none⟩ (.slice A7 n7 c7) := ⟨_, rfl⟩
            have k5 : HZ W9 (W.heap.size + 1 + 1 + 1) (wv % (t / g)) := by rw [hW9]; exact HZ.put yB z7
            have k4 : HZ W9 (W.heap.size + 1 + 1) g := by rw [hW9]; exact i4.far yB (by omega) _ _
            have r4 : RB W9 (W.heap.size + 1 + 1) := by rw [hW9]; exact yA.far yB (by omega) _ _
            have r5 : RB W9 (W.heap.size + 1 + 1 + 1) := by rw [hW9]; exact yB.set _ _ _ _
            have e9 : Below W2.heap.size W2 W9 := by rw [hW9]; exact below_set2 (Ext.below (E5.out.trans ex)) (by omega) _ _
            have HK := Lib.hid (And.intro k4 (And.intro k5 (And.intro r4 (And.intro r5 e9))))
            have HW9 := Lib.hid hW9
            clear hW9 k4 k5 r4 r5 e9 i4 yA yB ex z0 z1 z2 z3 z4 z5 z6 z7 y4 y5
            go_wp2_with fail
            refine NoPanic.normal ?_
            go_upto_region 10 with fail
            rw [← HW9.out]
            clear g30 g31 g32 g33 HW9
            obtain ⟨q4', B4', m4', d4', k0, k1, kz⟩ := HK.out.1
            obtain ⟨q5', B5', m5', d5', j0, j1, jz⟩ := HK.out.2.1
            obtain ⟨_, _, _, _, -, -, g32, g33⟩ := HK.out.2.2.1.facts
            obtain ⟨_, _, _, _, -, -, g52, g53⟩ := HK.out.2.2.2.1.facts
            have KZ9 := Lib.hid kz; have JZ9 := Lib.hid jz
            clear kz jz
            go_region
            all_goals go_wp2
            have lz := Z2.out
            obtain ⟨W', hW', f1, f2, f3, f4, hz1, hz2, hbf⟩ := two_res HK.out.2.2.1 HK.out.2.2.2.1 (show W.heap.size + 1 + 1 + 1 ≠ W.heap.size + 1 + 1 by omega) q4' B4' m4' d4' q5' B5' m5' d5' KZ9.out JZ9.out HK.out.2.2.2.2 (by omega) (by omega)
            rw [← hW']
            replace f1 : W'.drew.cell? ⟨W.heap.size + 1 + 1, 0, none⟩ = some (.bool q4') := f1
            replace f2 : W'.drew.cell? ⟨W.heap.size + 1 + 1, 1, none⟩ = some (.slice B4' m4' d4') := f2
            replace f3 : W'.drew.cell? ⟨W.heap.size + 1 + 1 + 1, 0, none⟩ = some (.bool q5') := f3
            replace f4 : W'.drew.cell? ⟨W.heap.size + 1 + 1 + 1, 1, none⟩ = some (.slice B5' m5' d5') := f4
            exact bodyPost_ret (v := .tuple #[.agg #[.bool q4', .slice B4' m4' d4'], .agg #[.bool q5', .slice B5' m5' d5']]) (by simp [results, Try.results67, go_sem, f1, f2, f3, f4]) rfl
              ⟨g, wv % (t / g), _, HE.out, _, _, _, _, _, _, _, _, rfl, hz1.ext (Ext.drew _), hz2.ext (Ext.drew _), (Ext.trans EW.out hbf).drw⟩
      · have hs1 : sv = 1 := by rw [hsv]; exact Int.sign_eq_one_of_pos (by omega)
        subst hs1
        have hbp : 0 < r' := by omega
        clear hsv SG k0 k1 j0 j1
        obtain ⟨α, β, γ, δ, hso, hsl, hcall⟩ := shorten_fix g r' L hg0 hbp HLS.out.1 HLS.out.2 hL (by omega)
        have hnx := SO.next hso hr0
        have hstep := Ex.step HEX.out hso
        have HC := Lib.hid hcall; have HNX := Lib.hid hnx; have HST := Lib.hid hstep; have HSL := Lib.hid hsl
        clear hcall hnx hstep hsl hso
        go_wp2_with fail
        refine (HC.out _ _ _ (KZ.out.ext x3) (JZ.out.ext x3)).mono ?_
        rintro e w4 ⟨sv, rfl, ⟨b1x, A1x, n1x, c1x, b2x, A2x, n2x, c2x, b3x, A3x, n3x, c3x, b4x, A4x, n4x, c4x, rfl, s1, s2, s3, s4⟩, x4⟩
        replace x4 : Ext w3 w4 := x4
        clear k0' k1' j0' j1' HC
        have HSS := Lib.hid (And.intro s1 (And.intro s2 (And.intro s3 s4)))
        clear s1 s2 s3 s4
        go_upto_region 5 with fail
        obtain ⟨W4, hW4⟩ : ∃ W4, W4 = w4.alloc (.cells #[.bool b1x, .slice A1x n1x c1x, .bool b2x, .slice A2x n2x c2x, .bool b3x, .slice A3x n3x c3x, .bool b4x, .slice A4x n4x c4x] 96) := ⟨_, rfl⟩
        have e4 : Ext w4 W4 := by rw [hW4]; exact (Ext.refl _).alc _
        have bk : BK W4 w4.heap.size #[.bool b1x, .slice A1x n1x c1x, .bool b2x, .slice A2x n2x c2x, .bool b3x, .slice A3x n3x c3x, .bool b4x, .slice A4x n4x c4x] := by rw [hW4]; exact heap_alloc_new _ _
        have e34 : Ext wr W4 := (x3.trans x4).trans e4
        have l9 : w4.heap.size < W4.heap.size := by rw [hW4]; simp
        rw [← hW4]
        have l49 : g7 + 1 < w4.heap.size := Nat.lt_of_lt_of_le l8 (x3.trans x4).size
        obtain ⟨g9, hg9⟩ : ∃ k, k = w4.heap.size := ⟨_, rfl⟩
        rw [← hg9] at bk l9 l49 ⊢
        have st : STV W4 (.agg #[.bool b1x, .slice A1x n1x c1x, .bool b2x, .slice A2x n2x c2x, .bool b3x, .slice A3x n3x c3x, .bool b4x, .slice A4x n4x c4x]) α β γ δ := ⟨b1x, A1x, n1x, c1x, b2x, A2x, n2x, c2x, b3x, A3x, n3x, c3x, b4x, A4x, n4x, c4x, rfl, HSS.out.1.ext e4, HSS.out.2.1.ext e4, HSS.out.2.2.1.ext e4, HSS.out.2.2.2.ext e4⟩
        have hI4 := HIS.out.1.ext l4 e34
        have hR4 := HIS.out.2.1.ext l6 e34
        obtain ⟨q1, B1, m1, d1, k0, k1, kz⟩ := hI4
        obtain ⟨q2, B2, m2, d2, j0, j1, jz⟩ := hR4
        have f0 := bk.cell (i := 0) (v := .bool b1x) rfl
        have f1 := bk.cell (i := 1) (v := .slice A1x n1x c1x) rfl
        have f2 := bk.cell (i := 2) (v := .bool b2x) rfl
        have f3 := bk.cell (i := 3) (v := .slice A2x n2x c2x) rfl
        have f4 := bk.cell (i := 4) (v := .bool b3x) rfl
        have f5 := bk.cell (i := 5) (v := .slice A3x n3x c3x) rfl
        have f6 := bk.cell (i := 6) (v := .bool b4x) rfl
        have f7 := bk.cell (i := 7) (v := .slice A4x n4x c4x) rfl
        have HST4 := Lib.hid st; have KZ4 := Lib.hid kz; have JZ4 := Lib.hid jz; have BK4 := Lib.hid bk; have E34 := Lib.hid e34
        clear st kz jz bk e34 x3 x4 e4 hW4 hg9
        go_wp2_with fail
        refine (apply_any α β γ δ g r' _ _ _ _ HST4.out KZ4.out JZ4.out (Nat.le_trans HSL.out.1 (by omega)) (Nat.le_trans HSL.out.2.1 (by omega)) (Nat.le_trans HSL.out.2.2.1 (by omega)) (Nat.le_trans HSL.out.2.2.2 (by omega)) (Nat.le_trans HLS.out.1 (by omega)) (Nat.le_trans HLS.out.2 (by omega))).mono ?_
        rintro e w5 h
        obtain ⟨b5', A5', n5', c5', b6', A6', n6', c6', rfl, y1, y2, x5⟩ := zz_shape h
        replace x5 : Ext W4 w5 := x5
        clear h k0 k1 j0 j1 f0 f1 f2 f3 f4 f5 f6 f7
        have e5 := E34.out.trans x5
        have y4 := HRS.out.1.ext e5; have y6 := HRS.out.2.2.1.ext e5
        obtain ⟨W6, hW6, m1, m2, m3, m4, m5, m6, m7, m8, m9⟩ := two_putH y4 y6 (show g4 ≠ W.heap.size + 1 + 1 by omega) b5' A5' n5' c5' b6' A6' n6' c6' y1 y2 (Ext.below (HGR.out.trans e5)) (by omega) (by omega)
        obtain ⟨_, _, _, _, g30, g31, g32, g33⟩ := y4.facts
        have T := y6.far y4 (show g4 ≠ W.heap.size + 1 + 1 by omega) (.bool b5') (.slice A5' n5' c5')
        obtain ⟨_, _, _, _, g50, g51, g52, g53⟩ := T.facts
        have hu6 := m7 _ _ (HIS.out.2.2.1.ext l7 e5) (by omega) (by omega)
        have hv6 := m7 _ _ (HIS.out.2.2.2.ext l8 e5) (by omega) (by omega)
        have bk6 := m8 _ _ (BK4.out.ext l9 x5) (by omega) (by omega)
        have st6 : ZV W6 (.agg #[.bool b1x, .slice A1x n1x c1x]) α ∧ ZV W6 (.agg #[.bool b2x, .slice A2x n2x c2x]) β ∧ ZV W6 (.agg #[.bool b3x, .slice A3x n3x c3x]) γ ∧ ZV W6 (.agg #[.bool b4x, .slice A4x n4x c4x]) δ := by
          obtain ⟨_, _, _, _, _, _, _, _, _, _, _, _, _, _, _, _, he, h1, h2, h3, h4⟩ := HST4.out
          injection he with he
          simp only [Array.mk.injEq, List.cons.injEq, Value.bool.injEq, Value.slice.injEq, and_true] at he
          obtain ⟨rfl, ⟨rfl, rfl, rfl⟩, rfl, ⟨rfl, rfl, rfl⟩, rfl, ⟨rfl, rfl, rfl⟩, rfl, rfl, rfl, rfl⟩ := he
          exact ⟨m9 _ _ (h1.ext x5), m9 _ _ (h2.ext x5), m9 _ _ (h3.ext x5), m9 _ _ (h4.ext x5)⟩
        have HS6 : Hid (STV W6 (.agg #[.bool b1x, .slice A1x n1x c1x, .bool b2x, .slice A2x n2x c2x, .bool b3x, .slice A3x n3x c3x, .bool b4x, .slice A4x n4x c4x]) α β γ δ) := Lib.hid ⟨b1x, A1x, n1x, c1x, b2x, A2x, n2x, c2x, b3x, A3x, n3x, c3x, b4x, A4x, n4x, c4x, rfl, st6.1, st6.2.1, st6.2.2.1, st6.2.2.2⟩
        have r5' := m6 _ (HRS.out.2.1.ext e5) (by omega) (by omega)
        have r7' := m6 _ (HRS.out.2.2.2.1.ext e5) (by omega) (by omega)
        have r8' := m6 _ (HRS.out.2.2.2.2.ext e5) (by omega) (by omega)
        have HM6 := Lib.hid (And.intro m1 (And.intro m2 (And.intro m3 (And.intro m4 (And.intro m5 (And.intro r5' (And.intro r7' r8')))))))
        have HU6 := Lib.hid (And.intro hu6 hv6); have BK6 := Lib.hid bk6; have HW6 := Lib.hid hW6
        clear hW6 m1 m2 m3 m4 m5 m6 m7 m8 m9 T y4 y6 y1 y2 e5 x5 hu6 hv6 bk6 st6 r5' r7' r8'
        go_upto_region 6 with fail
        rw [← HW6.out]
        clear g30 g31 g32 g33 g50 g51 g52 g53 HW6
        obtain ⟨q1', B1', m1', d1', k0, k1, kz⟩ := HU6.out.1
        obtain ⟨q2', B2', m2', d2', j0, j1, jz⟩ := HU6.out.2
        have bk6 := BK6.out
        have f0 := bk6.cell (i := 0) (v := .bool b1x) rfl
        have f1 := bk6.cell (i := 1) (v := .slice A1x n1x c1x) rfl
        have f2 := bk6.cell (i := 2) (v := .bool b2x) rfl
        have f3 := bk6.cell (i := 3) (v := .slice A2x n2x c2x) rfl
        have f4 := bk6.cell (i := 4) (v := .bool b3x) rfl
        have f5 := bk6.cell (i := 5) (v := .slice A3x n3x c3x) rfl
        have f6 := bk6.cell (i := 6) (v := .bool b4x) rfl
        have f7 := bk6.cell (i := 7) (v := .slice A4x n4x c4x) rfl
        have KZ6 := Lib.hid kz; have JZ6 := Lib.hid jz
        clear kz jz bk6
        go_wp2_with fail
        refine (apply_any α β γ δ u v _ _ _ _ HS6.out KZ6.out JZ6.out (Nat.le_trans HSL.out.1 (by omega)) (Nat.le_trans HSL.out.2.1 (by omega)) (Nat.le_trans HSL.out.2.2.1 (by omega)) (Nat.le_trans HSL.out.2.2.2 (by omega)) (Nat.le_trans (len_mono (show u.natAbs ≤ t.natAbs by have := BD.out.1; omega)) (Nat.le_trans HLL.out.2 (by omega))) (Nat.le_trans (len_mono (show v.natAbs ≤ t.natAbs by have := BD.out.2; omega)) (Nat.le_trans HLL.out.2 (by omega)))).mono ?_
        rintro e w7 h
        obtain ⟨b7', A7', n7', c7', b8', A8', n8', c8', rfl, y1, y2, x7⟩ := zz_shape h
        replace x7 : Ext W6 w7 := x7
        clear h k0 k1 j0 j1 f0 f1 f2 f3 f4 f5 f6 f7
        obtain ⟨m1, m2, m3, m4, m5, r5', r7', r8'⟩ := HM6.out
        have y4 := r7'.ext x7; have y6 := r8'.ext x7
        have l16 := m1.lt; have l26 := m2.lt
        obtain ⟨W8, hW8, i1, i2, i3, i4, i5, i6, i7, -, -⟩ := two_putH y4 y6 (show g7 + 1 ≠ g7 by omega) b7' A7' n7' c7' b8' A8' n8' c8' y1 y2 (Below.trans m5 (Below.mono x7 (Below.size m5))) (by omega) (by omega)
        obtain ⟨_, _, _, _, g30, g31, g32, g33⟩ := y4.facts
        have T := y6.far y4 (show g7 + 1 ≠ g7 by omega) (.bool b7') (.slice A7' n7' c7')
        obtain ⟨_, _, _, _, g50, g51, g52, g53⟩ := T.facts
        have gg := i7 _ _ (m1.ext l16 x7) (by omega) (by omega)
        have gr' := i7 _ _ (m2.ext l26 x7) (by omega) (by omega)
        have hnx := HNX.out
        have HI8 : Hid (XI W2 W8 (W.heap.size + 1 + 1) (W.heap.size + 1 + 1 + 1) g4 g7 (g7 + 1) (r.natAbs : Int) (t.natAbs : Int) L (α * g + β * r') (γ * g + δ * r') (α * u + β * v) (γ * u + δ * v)) :=
          Lib.hid ⟨HST.out, gg, gr', i1, i2, i6 _ (m3.ext x7) (by omega) (by omega), i6 _ (r5'.ext x7) (by omega) (by omega), i6 _ (m4.ext x7) (by omega) (by omega), i3, i4, Nat.le_trans (len_mono (by omega)) HLS.out.2, Nat.le_trans (len_mono (by omega)) HLS.out.2, i5⟩
        have HMM := Lib.hid (And.intro (hzNum_eq gr') (hzNum_eq HIS.out.2.1))
        have HW8 := Lib.hid hW8
        clear hW8 i1 i2 i3 i4 i5 i6 i7 T y4 y6 y1 y2 x7 m1 m2 m3 m4 m5 r5' r7' r8' gg gr' hnx
        go_wp2
        rw [← HW8.out]
        go_roundw
        case rel => exact ⟨_, _, _, _, HI8⟩
        case measure => rw [HMM.out.1, HMM.out.2]; have := HNX.out; omega
end Go.Proofs.Ytmlopkkbgpfdnaa
