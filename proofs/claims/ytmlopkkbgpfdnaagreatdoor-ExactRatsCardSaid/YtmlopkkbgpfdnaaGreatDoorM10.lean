/- Walks: gcd. -/
import Derived.Test.YtmlopkkbgpfdnaaGreatDoorM9
namespace Go.Proofs.YtmlopkkbgpfdnaaGreatDoor
open Go.RowKit

theorem Wd.uniq {w : World} {A : Option Addr} {n c : Nat} {l l' : List Nat} (h : Wd w (.slice A n c) l) (h' : Wd w (.slice A n c) l') : l = l' := by
  obtain ⟨A1, c1, e1, -, -, -, k1⟩ := h
  obtain ⟨A2, c2, e2, -, -, -, k2⟩ := h'
  injection e1 with a1 b1 d1
  injection e2 with a2 b2 d2
  have hl : l.length = l'.length := by omega
  refine List.ext_getElem hl fun j hj hj' => ?_
  obtain ⟨b, off, ha, -, hc⟩ := k1 (by omega)
  obtain ⟨b', off', ha', -, hc'⟩ := k2 (by omega)
  rw [← a1, a2, ha'] at ha
  injection ha with ha
  injection ha with hb hoff
  subst hb hoff
  have e := (hc j hj).symm.trans (hc' j hj')
  simp only [Option.some.injEq, Value.int.injEq, true_and] at e
  rw [List.getD_eq_getElem?_getD, List.getD_eq_getElem?_getD, List.getElem?_eq_getElem hj, List.getElem?_eq_getElem hj'] at e
  simp only [Option.getD_some] at e
  omega
theorem HZ.uniq {W : World} {g : Nat} {z z' : Int} (h : HZ W g z) (h' : HZ W g z') : z.natAbs = z'.natAbs := by
  obtain ⟨b, A, n, c, h0, h1, h2⟩ := h
  obtain ⟨b', A', n', c', h0', h1', h2'⟩ := h'
  rw [h1] at h1'
  injection h1' with e
  injection e with e1 e2 e3
  subst e1 e2 e3
  exact dig_inj (h2.words.2.uniq h2'.words.2)
open Classical in
noncomputable def hzNum (W : World) (g : Nat) : Nat := if h : ∃ z, HZ W g z then h.choose.natAbs else 0
theorem hzNum_eq {W : World} {g : Nat} {z : Int} (h : HZ W g z) : hzNum W g = z.natAbs := by
  unfold hzNum
  rw [dif_pos ⟨z, h⟩]
  exact (Classical.choose_spec (p := fun z => HZ W g z) ⟨z, h⟩).uniq h
theorem two_put {W : World} {g h : Nat} (R1 : RB W g) (R2 : RB W h) (hne : h ≠ g) (b1 : Bool) (A1 : Option Addr) (n1 c1 : Nat) (b2 : Bool) (A2 : Option Addr) (n2 c2 : Nat) {z1 z2 : Int}
    (h1 : ZV W (.agg #[.bool b1, .slice A1 n1 c1]) z1) (h2 : ZV W (.agg #[.bool b2, .slice A2 n2 c2]) z2) {B : Nat} {w : World} (hb : Below B w W) (hg : B ≤ g) (hh : B ≤ h) :
    ∃ W', W' = (((W.setCell ⟨g, 0, none⟩ (.bool b1)).setCell ⟨g, 1, none⟩ (.slice A1 n1 c1)).setCell ⟨h, 0, none⟩ (.bool b2)).setCell ⟨h, 1, none⟩ (.slice A2 n2 c2) ∧
    HZ W' g z1 ∧ HZ W' h z2 ∧ RB W' g ∧ RB W' h ∧ Below B w W' ∧ ∀ k, RB W k → k ≠ g → k ≠ h → RB W' k := by
  have T := R2.far R1 hne (.bool b1) (.slice A1 n1 c1)
  refine ⟨_, rfl, (HZ.put R1 h1).far T (by omega) _ _, HZ.put T (h2.rb R1 _ _), (R1.set _ _ _ _).far T (by omega) _ _, T.set _ _ _ _, below_set2 (below_set2 hb hg _ _) hh _ _, fun k hk n1 n2 => (hk.far R1 n1 _ _).far T n2 _ _⟩
/-- what one round does to the pair -/
theorem SO.next {a b α β γ δ : Int} (h : SO a b α β γ δ) (hb : 0 ≤ b) : 0 ≤ α * a + β * b ∧ α * a + β * b ≤ b ∧ 0 ≤ γ * a + δ * b ∧ γ * a + δ * b < b ∧ Int.gcd (α * a + β * b) (γ * a + δ * b) = Int.gcd a b := by
  have h1 := h.y0; have h2 := h.yl; have h3 := h.yx; have h4 := h.xy
  exact ⟨by omega, h4, h1, h2, h.gcd⟩
theorem len_mono {a b : Nat} (h : a ≤ b) : (dig a).length ≤ (dig b).length := dig_len_le (Nat.lt_of_le_of_lt h (lt_of_dig_len (Nat.le_refl _)))
/-- between the rounds of gcd -/
def GI (W wr : World) (g4 g5 g2 : Nat) (G L : Nat) (a b : Int) : Prop :=
  0 ≤ a ∧ 0 ≤ b ∧ HZ wr g4 a ∧ HZ wr g5 b ∧ RB wr g4 ∧ RB wr g5 ∧ RB wr g2 ∧ Int.gcd a b = G ∧ (dig a.natAbs).length ≤ L ∧ (dig b.natAbs).length ≤ L ∧ Ext W wr
theorem two_len {n : Nat} (h : (dig n).length ≤ 2) : n < 18446744073709551616 := by
  have := lt_of_dig_len h
  omega
theorem lowS_any (x : Nat) (v : Value) (w : World) (hx : x < 18446744073709551616) (hv : Wd w v (dig x)) : Calls Tryz.prog 78 #[v] w fun e w' => e = .returned (.int .u64 (x : Nat)) ∧ Ext w w' := by
  refine (low_any x v w hv).mono ?_
  rintro e w' ⟨rfl, rfl⟩
  rw [Nat.mod_eq_of_lt hx]
  exact ⟨rfl, Ext.refl _⟩
theorem natS_any (n : Nat) (w : World) (hn : n < 18446744073709551616) : Calls Tryz.prog 69 #[.int .u64 n] w fun e w' => ∃ A k c, e = .returned (.slice A k c) ∧ Wd w' (.slice A k c) (dig n) ∧ Below w.heap.size w w' := by
  refine (naturalOf_any n hn w).mono ?_
  rintro e w' ⟨u, rfl, h, hb⟩
  obtain ⟨A, k, c, rfl⟩ := h.slice_
  exact ⟨A, k, c, rfl, h, hb⟩
set_option maxHeartbeats 800000 in
set_option maxRecDepth 100000 in
theorem gcdZ_any (r t : Int) (u u' : Value) (W : World) (L : Nat) (hx : ZV W u r) (hy : ZV W u' t) (lx : (dig r.natAbs).length ≤ L) (ly : (dig t.natAbs).length ≤ L) (hL : 2 ≤ L) (hL2 : L ≤ 400000) :
    Calls Tryz.prog 49 #[u, u'] W (RetZ W (Int.gcd r t : Nat)) := by
  obtain ⟨Ax, nx, cx, rfl, -, -, -⟩ := hx.open_
  obtain ⟨Ay, ny, cy, rfl, -, -, -⟩ := hy.open_
  obtain ⟨bx, hbx⟩ : ∃ b, b = decide (r < 0) := ⟨_, rfl⟩
  obtain ⟨bY, hby⟩ : ∃ b, b = decide (t < 0) := ⟨_, rfl⟩
  rw [← hbx] at hx ⊢
  rw [← hby] at hy ⊢
  clear hbx hby
  obtain ⟨W1, hW1⟩ : ∃ W1, W1 = ((W.alloc (.cells #[.bool bx, .slice Ax nx cx] 44)).alloc (.cells #[.bool bY, .slice Ay ny cy] 44)).alloc (.cells #[.bool false, .slice none 0 0] 44) := ⟨_, rfl⟩
  have p1 : HZ (W.alloc (.cells #[.bool bx, .slice Ax nx cx] 44)) W.heap.size r := HZ.lit W bx Ax nx cx 44 hx
  have p2 : HZ ((W.alloc (.cells #[.bool bx, .slice Ax nx cx] 44)).alloc (.cells #[.bool bY, .slice Ay ny cy] 44)) (W.heap.size + 1) t := by
    have := HZ.lit (W.alloc (.cells #[.bool bx, .slice Ax nx cx] 44)) bY Ay ny cy 44 (hy.ext ((Ext.refl _).alc _))
    rwa [World.size_alloc] at this
  have p3 : RB W1 (W.heap.size + 1 + 1) := by
    have := RB.c1 ((W.alloc (.cells #[.bool bx, .slice Ax nx cx] 44)).alloc (.cells #[.bool bY, .slice Ay ny cy] 44)) false none 0 0 44
    rw [World.size_alloc, World.size_alloc] at this
    rw [hW1]; exact this
  have E1 : Ext W W1 := by rw [hW1]; exact (((Ext.refl W).alc _).alc _).alc _
  have PX : Hid (HZ W1 W.heap.size r) := Lib.hid (by rw [hW1]; exact p1.ext p1.lt (((Ext.refl _).alc _).alc _))
  have PY : Hid (HZ W1 (W.heap.size + 1) t) := Lib.hid (by rw [hW1]; exact p2.ext p2.lt ((Ext.refl _).alc _))
  have P3 := Lib.hid p3
  have EW := Lib.hid E1
  have zl : W.heap.size + 1 + 1 < W1.heap.size := p3.lt
  have zl2 : W.heap.size + 1 < W1.heap.size := by omega
  have zl3 : W.heap.size < W1.heap.size := by omega
  have HW1 := Lib.hid hW1
  have HLL := Lib.hid (And.intro lx ly)
  obtain ⟨gN, hgN⟩ : ∃ gN, gN = Int.gcd r t := ⟨_, rfl⟩
  rw [← hgN]
  have HGN := Lib.hid hgN
  clear p1 p2 p3 hW1 hx hy E1 lx ly hgN
  go_enter Tryz.func49, Tryz.ntmps49
  go_upto_region 1 with fail
  rw [← HW1.out]
  clear HW1
  refine wp_region_noPanic ?_
  refine wp_pool 6 [some 7, some 8, some 9, some 10, some 5, some 6] [] [4, 5] [(fun (v : Value) (X : World) => ∃ b A n c, v = .agg #[.bool b, .slice A n c] ∧ ZV X (.agg #[.bool b, .slice A n c]) (r)), (fun (v : Value) (X : World) => ∃ b A n c, v = .agg #[.bool b, .slice A n c] ∧ ZV X (.agg #[.bool b, .slice A n c]) ((r.natAbs : Int))), (fun (v : Value) (X : World) => ∃ b A n c, v = .agg #[.bool b, .slice A n c] ∧ ZV X (.agg #[.bool b, .slice A n c]) (t)), (fun (v : Value) (X : World) => ∃ b A n c, v = .agg #[.bool b, .slice A n c] ∧ ZV X (.agg #[.bool b, .slice A n c]) ((t.natAbs : Int))), (fun (v : Value) (X : World) => ∃ g, v = .pointer (some ⟨g, 0, none⟩) ∧ W1.heap.size ≤ g ∧ RB X g), (fun (v : Value) (X : World) => ∃ g, v = .pointer (some ⟨g, 0, none⟩) ∧ W1.heap.size ≤ g ∧ RB X g)] [noF, noF, noF, noF, ptrF, ptrF] (by kernel_rfl) (by kernel_rfl) (by kernel_rfl) (by kernel_rfl) (by kernel_rfl) (by kernel_rfl) (by kernel_rfl) (by kernel_rfl) (fun _ _ _ _ h => h) ⟨(fun _ _ _ e ⟨b, A, n, c, h1, h2⟩ => ⟨b, A, n, c, h1, h2.ext e⟩), (fun _ _ _ e ⟨b, A, n, c, h1, h2⟩ => ⟨b, A, n, c, h1, h2.ext e⟩), (fun _ _ _ e ⟨b, A, n, c, h1, h2⟩ => ⟨b, A, n, c, h1, h2.ext e⟩), (fun _ _ _ e ⟨b, A, n, c, h1, h2⟩ => ⟨b, A, n, c, h1, h2.ext e⟩), (fun _ _ _ e ⟨g, h1, h2, h3⟩ => ⟨g, h1, h2, h3.ext e⟩), (fun _ _ _ e ⟨g, h1, h2, h3⟩ => ⟨g, h1, h2, h3.ext e⟩), True.intro⟩ ?steps ?done
  case steps =>
    simp only [List.take_succ_cons, List.take_zero]
    refine Steps.cons (fun (v : Value) (X : World) => ∃ b A n c, v = .agg #[.bool b, .slice A n c] ∧ ZV X (.agg #[.bool b, .slice A n c]) (r)) [] rfl (by kernel_rfl) rfl (by kernel_rfl) (fun y X ex0 hf K hK => ?_) ?_
    · clear hf
      have ex := (Ext.drw (Ext.refl _)).trans ex0
      refine Box.mk ?_
      simp only [fill, Act.put, Nat.reduceAdd, List.setIfInBounds_toArray, List.set_cons_zero, List.set_cons_succ] at hK ⊢
      obtain ⟨bl, Al, nl, cl, k0, k1, kz⟩ := (PX.out.ext (by omega) ex)
      go_simp
      exact hK.out _ _ ⟨_, _, _, _, rfl, kz⟩ (Ext.refl _) (fun b hb => by cases hb)
    refine Steps.cons (fun (v : Value) (X : World) => ∃ b A n c, v = .agg #[.bool b, .slice A n c] ∧ ZV X (.agg #[.bool b, .slice A n c]) ((r.natAbs : Int))) [0] rfl (by kernel_rfl) rfl (by kernel_rfl) (fun y X ex0 hf K hK => ?_) ?_
    · have hh0 : ((fun (v : Value) (X : World) => ∃ b A n c, v = .agg #[.bool b, .slice A n c] ∧ ZV X (.agg #[.bool b, .slice A n c]) (r))) (y 0) X := hf.1
      refine Exists.elim hh0 (fun b0 hx0_0 => ?_)
      refine Exists.elim hx0_0 (fun A0 hx0_1 => ?_)
      refine Exists.elim hx0_1 (fun n0 hx0_2 => ?_)
      refine Exists.elim hx0_2 (fun c0 hx0_3 => ?_)
      have h0 := hx0_3.1
      have z0 := hx0_3.2
      clear hh0 hx0_0 hx0_1 hx0_2 hx0_3
      clear hf
      have ex := (Ext.drw (Ext.refl _)).trans ex0
      refine Box.mk ?_
      simp only [fill, Act.put, Nat.reduceAdd, List.setIfInBounds_toArray, List.set_cons_zero, List.set_cons_succ, h0] at hK ⊢
      go_simp
      refine (asAgg (absoluteZ_any _ _ _ z0)).mono ?_
      rintro e V ⟨b9, A9, n9, c9, rfl, hz, hb⟩
      try go_wp2_with fail
      exact hK.out _ _ ⟨_, _, _, _, rfl, hz⟩ hb (fun b hb => by cases hb)
    refine Steps.cons (fun (v : Value) (X : World) => ∃ b A n c, v = .agg #[.bool b, .slice A n c] ∧ ZV X (.agg #[.bool b, .slice A n c]) (t)) [] rfl (by kernel_rfl) rfl (by kernel_rfl) (fun y X ex0 hf K hK => ?_) ?_
    · clear hf
      have ex := (Ext.drw (Ext.refl _)).trans ex0
      refine Box.mk ?_
      simp only [fill, Act.put, Nat.reduceAdd, List.setIfInBounds_toArray, List.set_cons_zero, List.set_cons_succ] at hK ⊢
      obtain ⟨bl, Al, nl, cl, k0, k1, kz⟩ := (PY.out.ext (by omega) ex)
      go_simp
      exact hK.out _ _ ⟨_, _, _, _, rfl, kz⟩ (Ext.refl _) (fun b hb => by cases hb)
    refine Steps.cons (fun (v : Value) (X : World) => ∃ b A n c, v = .agg #[.bool b, .slice A n c] ∧ ZV X (.agg #[.bool b, .slice A n c]) ((t.natAbs : Int))) [2, 1] rfl (by kernel_rfl) rfl (by kernel_rfl) (fun y X ex0 hf K hK => ?_) ?_
    · have hh2 : ((fun (v : Value) (X : World) => ∃ b A n c, v = .agg #[.bool b, .slice A n c] ∧ ZV X (.agg #[.bool b, .slice A n c]) (t))) (y 2) X := hf.1
      refine Exists.elim hh2 (fun b2 hx2_0 => ?_)
      refine Exists.elim hx2_0 (fun A2 hx2_1 => ?_)
      refine Exists.elim hx2_1 (fun n2 hx2_2 => ?_)
      refine Exists.elim hx2_2 (fun c2 hx2_3 => ?_)
      have h2 := hx2_3.1
      have z2 := hx2_3.2
      clear hh2 hx2_0 hx2_1 hx2_2 hx2_3
      have hh1 : ((fun (v : Value) (X : World) => ∃ b A n c, v = .agg #[.bool b, .slice A n c] ∧ ZV X (.agg #[.bool b, .slice A n c]) ((r.natAbs : Int)))) (y 1) X := hf.2.1
      refine Exists.elim hh1 (fun b1 hx1_0 => ?_)
      refine Exists.elim hx1_0 (fun A1 hx1_1 => ?_)
      refine Exists.elim hx1_1 (fun n1 hx1_2 => ?_)
      refine Exists.elim hx1_2 (fun c1 hx1_3 => ?_)
      have h1 := hx1_3.1
      have z1 := hx1_3.2
      clear hh1 hx1_0 hx1_1 hx1_2 hx1_3
      clear hf
      have ex := (Ext.drw (Ext.refl _)).trans ex0
      refine Box.mk ?_
      simp only [fill, Act.put, Nat.reduceAdd, List.setIfInBounds_toArray, List.set_cons_zero, List.set_cons_succ, h2, h1] at hK ⊢
      go_simp
      refine (asAgg (absoluteZ_any _ _ _ z2)).mono ?_
      rintro e V ⟨b9, A9, n9, c9, rfl, hz, hb⟩
      try go_wp2_with fail
      exact hK.out _ _ ⟨_, _, _, _, rfl, hz⟩ hb (fun b hb => by cases hb)
    refine Steps.cons (fun (v : Value) (X : World) => ∃ g, v = .pointer (some ⟨g, 0, none⟩) ∧ W1.heap.size ≤ g ∧ RB X g) [] rfl (by kernel_rfl) rfl (by kernel_rfl) (fun y X ex0 hf K hK => ?_) ?_
    · clear hf
      have ex := (Ext.drw (Ext.refl _)).trans ex0
      refine Box.mk ?_
      simp only [fill, Act.put, Nat.reduceAdd, List.setIfInBounds_toArray, List.set_cons_zero, List.set_cons_succ] at hK ⊢
      go_simp
      exact hK.out _ _ ⟨X.heap.size, rfl, ex.size, RB.c1 X false none 0 0 44⟩ (Ext.alc (Ext.refl X) (.cells #[.bool false, .slice none 0 0] 44)) (New.ptr (Nat.le_refl _) (by simp))
    refine Steps.cons (fun (v : Value) (X : World) => ∃ g, v = .pointer (some ⟨g, 0, none⟩) ∧ W1.heap.size ≤ g ∧ RB X g) [] rfl (by kernel_rfl) rfl (by kernel_rfl) (fun y X ex0 hf K hK => ?_) ?_
    · clear hf
      have ex := (Ext.drw (Ext.refl _)).trans ex0
      refine Box.mk ?_
      simp only [fill, Act.put, Nat.reduceAdd, List.setIfInBounds_toArray, List.set_cons_zero, List.set_cons_succ] at hK ⊢
      go_simp
      exact hK.out _ _ ⟨X.heap.size, rfl, ex.size, RB.c1 X false none 0 0 44⟩ (Ext.alc (Ext.refl X) (.cells #[.bool false, .slice none 0 0] 44)) (New.ptr (Nat.le_refl _) (by simp))
    exact Steps.nil
  case done =>
    intro y X ex hf hlt hsep
    have hh0 : ((fun (v : Value) (X : World) => ∃ b A n c, v = .agg #[.bool b, .slice A n c] ∧ ZV X (.agg #[.bool b, .slice A n c]) (r))) (y 0) X := hf.1
    refine Exists.elim hh0 (fun b0 hx0_0 => ?_)
    refine Exists.elim hx0_0 (fun A0 hx0_1 => ?_)
    refine Exists.elim hx0_1 (fun n0 hx0_2 => ?_)
    refine Exists.elim hx0_2 (fun c0 hx0_3 => ?_)
    have h0 := hx0_3.1
    have z0 := hx0_3.2
    clear hh0 hx0_0 hx0_1 hx0_2 hx0_3
    have hh1 : ((fun (v : Value) (X : World) => ∃ b A n c, v = .agg #[.bool b, .slice A n c] ∧ ZV X (.agg #[.bool b, .slice A n c]) ((r.natAbs : Int)))) (y 1) X := hf.2.1
    refine Exists.elim hh1 (fun b1 hx1_0 => ?_)
    refine Exists.elim hx1_0 (fun A1 hx1_1 => ?_)
    refine Exists.elim hx1_1 (fun n1 hx1_2 => ?_)
    refine Exists.elim hx1_2 (fun c1 hx1_3 => ?_)
    have h1 := hx1_3.1
    have z1 := hx1_3.2
    clear hh1 hx1_0 hx1_1 hx1_2 hx1_3
    have hh2 : ((fun (v : Value) (X : World) => ∃ b A n c, v = .agg #[.bool b, .slice A n c] ∧ ZV X (.agg #[.bool b, .slice A n c]) (t))) (y 2) X := hf.2.2.1
    refine Exists.elim hh2 (fun b2 hx2_0 => ?_)
    refine Exists.elim hx2_0 (fun A2 hx2_1 => ?_)
    refine Exists.elim hx2_1 (fun n2 hx2_2 => ?_)
    refine Exists.elim hx2_2 (fun c2 hx2_3 => ?_)
    have h2 := hx2_3.1
    have z2 := hx2_3.2
    clear hh2 hx2_0 hx2_1 hx2_2 hx2_3
    have hh3 : ((fun (v : Value) (X : World) => ∃ b A n c, v = .agg #[.bool b, .slice A n c] ∧ ZV X (.agg #[.bool b, .slice A n c]) ((t.natAbs : Int)))) (y 3) X := hf.2.2.2.1
    refine Exists.elim hh3 (fun b3 hx3_0 => ?_)
    refine Exists.elim hx3_0 (fun A3 hx3_1 => ?_)
    refine Exists.elim hx3_1 (fun n3 hx3_2 => ?_)
    refine Exists.elim hx3_2 (fun c3 hx3_3 => ?_)
    have h3 := hx3_3.1
    have z3 := hx3_3.2
    clear hh3 hx3_0 hx3_1 hx3_2 hx3_3
    have hh4 : ((fun (v : Value) (X : World) => ∃ g, v = .pointer (some ⟨g, 0, none⟩) ∧ W1.heap.size ≤ g ∧ RB X g)) (y 4) X := hf.2.2.2.2.1
    refine Exists.elim hh4 (fun g4 hx4_0 => ?_)
    have h4 := hx4_0.1
    have z4 := hx4_0.2.1
    have q4 := hx4_0.2.2
    clear hh4 hx4_0
    have hh5 : ((fun (v : Value) (X : World) => ∃ g, v = .pointer (some ⟨g, 0, none⟩) ∧ W1.heap.size ≤ g ∧ RB X g)) (y 5) X := hf.2.2.2.2.2.1
    refine Exists.elim hh5 (fun g5 hx5_0 => ?_)
    have h5 := hx5_0.1
    have z5 := hx5_0.2.1
    have q5 := hx5_0.2.2
    clear hh5 hx5_0
    clear hf
    have n4_5 : g4 ≠ g5 := sep_ne (hsep 4 5 (by decide) (by decide) (by decide) (by decide)) h4 h5
    clear hsep hlt
    refine Box.mk ?_
    simp only [List.drop_succ_cons, List.drop_zero, fill, Act.put, Nat.reduceAdd, List.setIfInBounds_toArray, List.set_cons_zero, List.set_cons_succ, h0, h1, h2, h3, h4, h5]
    clear h0 h1 h2 h3 h4 h5
    have y5 := P3.out.ext ex
    have hlt4 : W1.heap.size ≤ g4 := z4
    have hlt5 : W1.heap.size ≤ g5 := z5
    obtain ⟨W', hW', m1, m2, m3, m4, m5, m6⟩ := two_put q4 q5 (Ne.symm n4_5) b1 A1 n1 c1 b3 A3 n3 c3 z1 z3 (Ext.below (EW.out.trans ex)) (by omega) (by omega)
    have m7 := m6 _ y5 (by omega) (by omega)
    obtain ⟨_, _, _, _, g30, g31, g32, g33⟩ := q4.facts
    have T := q5.far q4 (Ne.symm n4_5) (.bool b1) (.slice A1 n1 c1)
    obtain ⟨_, _, _, _, g50, g51, g52, g53⟩ := T.facts
    have HI : Hid (GI W W' g4 g5 (W.heap.size + 1 + 1) gN L (r.natAbs : Int) (t.natAbs : Int)) := Lib.hid ⟨by omega, by omega, m1, m2, m3, m4, m7, by rw [HGN.out]; simp [Int.gcd], by rw [Int.natAbs_natCast]; exact HLL.out.1, by rw [Int.natAbs_natCast]; exact HLL.out.2, m5⟩
    have HW' := Lib.hid hW'
    clear hW' m1 m2 m3 m4 m5 m6 m7 T y5 ex z0 z1 z2 z3
    go_wp2_with fail
    refine NoPanic.normal ?_
    go_wp2_with fail
    rw [← HW'.out]
    clear g30 g31 g32 g33 g50 g51 g52 g53 q4 q5
    go_loopw [] (fun wr => ∃ va vb : Int, Hid (GI W wr g4 g5 (W.heap.size + 1 + 1) gN L va vb)) (fun wr => hzNum wr g5)
    case atStart => exact ⟨_, _, HI⟩
    case round =>
      clear HI PX PY P3 EW HLL HGN
      obtain ⟨va, vb, hGI⟩ := hrel
      obtain ⟨ha0, hb0, hA, hB, rA, rB, rG, hgc, la, lb, hE⟩ := hGI.out
      have lA := hA.lt; have lB := hB.lt; have lG := rG.lt
      obtain ⟨q1, B1, m1, d1, k0, k1, kz⟩ := hA
      obtain ⟨q2, B2, m2, d2, j0, j1, jz⟩ := hB
      have sn := signZ_any vb _ wr jz
      have SG := Lib.hid sn
      have KZ := Lib.hid kz; have JZ := Lib.hid jz; have HH := Lib.hid (And.intro hgc (And.intro la lb)); have HE := Lib.hid hE
      have RA := Lib.hid rA; have RB' := Lib.hid rB; have RG := Lib.hid rG
      clear sn kz jz hgc la lb hE rA rB rG
      go_wp2_with fail
      refine SG.out.mono ?_
      rintro e w1 ⟨rfl, x1⟩
      replace x1 : Ext wr w1 := x1
      obtain ⟨sv, hsv⟩ : ∃ sv, sv = vb.sign := ⟨_, rfl⟩
      rw [← hsv]
      have k0' := keepAt x1 lA k0; have k1' := keepAt x1 lA k1; have j0' := keepAt x1 lB j0; have j1' := keepAt x1 lB j1
      by_cases hb : vb = 0
      · rw [hb] at hsv
        have hs0 : sv = 0 := by rw [hsv]; rfl
        subst hs0
        have R3 := RG.out.ext x1
        have hgn : (gN : Int) = va := by rw [← HH.out.1, hb, Int.gcd_zero_right]; omega
        have s0 := R3.set0 q1 (.slice B1 m1 d1); have s1 := R3.set1 q1 (.slice B1 m1 d1)
        have hz := (KZ.out.ext x1).rb R3 (.bool q1) (.slice B1 m1 d1)
        have hbf := below_set2 (HE.out.trans x1) (i := 0) (j := 1) (show W.heap.size ≤ W.heap.size + 1 + 1 by omega) (.bool q1) (.slice B1 m1 d1)
        obtain ⟨_, _, _, _, g30, g31, g32, g33⟩ := R3.facts
        rw [← hgn] at hz
        have F := Lib.hid (And.intro s0 (And.intro s1 (And.intro hz hbf)))
        clear s0 s1 hz hbf R3 hsv SG hb
        go_wp2
        obtain ⟨s0, s1, hz, hbf⟩ := F.out
        exact bodyPost_ret (v := .agg #[.bool q1, .slice B1 m1 d1]) (by simp [results, Tryz.results49, go_sem, s0, s1]) rfl ⟨_, rfl, hz, hbf⟩
      · have hs1 : sv = 1 := by rw [hsv]; exact Int.sign_eq_one_of_pos (by omega)
        subst hs1
        have hbp : 0 < vb := by omega
        clear hsv SG k0 k1 j0 j1
        have LM := Lib.hid (And.intro KZ.out.words.2.len JZ.out.words.2.len)
        by_cases c1 : m1 ≤ 2
        · have c1i : (m1 : Int) ≤ 2 := by omega
          by_cases c2 : m2 ≤ 2
          · have c2i : (m2 : Int) ≤ 2 := by omega
            go_wp2_with fail
            obtain ⟨pa, hpa0⟩ : ∃ p, p = va.natAbs := ⟨_, rfl⟩
            obtain ⟨pb, hpb0⟩ : ∃ p, p = vb.natAbs := ⟨_, rfl⟩
            have hpa : pa < 18446744073709551616 := by rw [hpa0]; exact two_len (by rw [← LM.out.1]; exact c1)
            have hpb : pb < 18446744073709551616 := by rw [hpb0]; exact two_len (by rw [← LM.out.2]; exact c2)
            have WA : Hid (Wd w1 (.slice B1 m1 d1) (dig pa)) := Lib.hid (by rw [hpa0]; exact Wd.below KZ.out.words.2 x1)
            have WB : Hid (Wd w1 (.slice B2 m2 d2) (dig pb)) := Lib.hid (by rw [hpb0]; exact Wd.below JZ.out.words.2 x1)
            have HPP : Hid (Nat.gcd pa pb = gN) := Lib.hid (by rw [← HH.out.1, hpa0, hpb0]; rfl)
            have hpg : Nat.gcd pa pb < 18446744073709551616 := Nat.lt_of_le_of_lt (Nat.gcd_le_right pa (by rw [hpb0]; omega)) hpb
            have LA := Lib.hid (fun W (h : Wd W (.slice B1 m1 d1) (dig pa)) => lowS_any pa _ W hpa h)
            have LB := Lib.hid (fun W (h : Wd W (.slice B2 m2 d2) (dig pb)) => lowS_any pb _ W hpb h)
            have lA1 := Nat.lt_of_lt_of_le lA x1.size; have lB1 := Nat.lt_of_lt_of_le lB x1.size
            clear hpa0 hpb0 k0' j0'
            refine wp_region_noPanic ?_
            refine wp_pool 9 [some 24, some 25, some 26, some 27, some 28, some 29, some 30, some 31, some 32] [] [] [(fun (v : Value) (_ : World) => v = .pointer (some ⟨g4, 1, none⟩)), (fun (v : Value) (_ : World) => v = .slice B1 m1 d1), (fun (v : Value) (_ : World) => v = .int .u64 (pa : Nat)), (fun (v : Value) (_ : World) => v = .pointer (some ⟨g5, 1, none⟩)), (fun (v : Value) (_ : World) => v = .slice B2 m2 d2), (fun (v : Value) (_ : World) => v = .int .u64 (pb : Nat)), (fun (v : Value) (_ : World) => v = .int .u64 (Nat.gcd pa pb : Nat)), (fun (v : Value) (X : World) => ∃ A n c, v = .slice A n c ∧ Wd X (.slice A n c) (dig (Nat.gcd pa pb))), (fun (v : Value) (X : World) => ∃ b A n c, v = .agg #[.bool b, .slice A n c] ∧ ZV X (.agg #[.bool b, .slice A n c]) ((Nat.gcd pa pb : Nat)))] [noF, noF, noF, noF, noF, noF, noF, noF, noF] (by kernel_rfl) (by kernel_rfl) (by kernel_rfl) (by kernel_rfl) (by kernel_rfl) (by kernel_rfl) (by kernel_rfl) (by kernel_rfl) (fun _ _ _ _ h => h) ⟨Stays.pure _, Stays.pure _, Stays.pure _, Stays.pure _, Stays.pure _, Stays.pure _, Stays.pure _, (fun _ _ _ e ⟨A, n, c, h1, h2⟩ => ⟨A, n, c, h1, Wd.below h2 e⟩), (fun _ _ _ e ⟨b, A, n, c, h1, h2⟩ => ⟨b, A, n, c, h1, h2.ext e⟩), True.intro⟩ ?steps ?done
            case steps =>
              simp only [List.take_succ_cons, List.take_zero]
              refine Steps.cons (fun (v : Value) (_ : World) => v = .pointer (some ⟨g4, 1, none⟩)) [] rfl (by kernel_rfl) rfl (by kernel_rfl) (fun y X ex0 hf K hK => ?_) ?_
              · clear hf
                have ex := (Ext.drw (Ext.refl _)).trans ex0
                refine Box.mk ?_
                simp only [fill, Act.put, Nat.reduceAdd, List.setIfInBounds_toArray, List.set_cons_zero, List.set_cons_succ] at hK ⊢
                go_simp
                exact hK.out _ _ rfl (Ext.refl _) (fun b hb => by cases hb)
              refine Steps.cons (fun (v : Value) (_ : World) => v = .slice B1 m1 d1) [0] rfl (by kernel_rfl) rfl (by kernel_rfl) (fun y X ex0 hf K hK => ?_) ?_
              · have h0 : ((fun (v : Value) (_ : World) => v = .pointer (some ⟨g4, 1, none⟩))) (y 0) X := hf.1
                clear hf
                have ex := (Ext.drw (Ext.refl _)).trans ex0
                refine Box.mk ?_
                simp only [fill, Act.put, Nat.reduceAdd, List.setIfInBounds_toArray, List.set_cons_zero, List.set_cons_succ, h0] at hK ⊢
                have kk := keepAt ex lA1 k1'
                go_simp
                exact hK.out _ _ rfl (Ext.refl _) (fun b hb => by cases hb)
              refine Steps.cons (fun (v : Value) (_ : World) => v = .int .u64 (pa : Nat)) [1] rfl (by kernel_rfl) rfl (by kernel_rfl) (fun y X ex0 hf K hK => ?_) ?_
              · have h1 : ((fun (v : Value) (_ : World) => v = .slice B1 m1 d1)) (y 1) X := hf.1
                clear hf
                have ex := (Ext.drw (Ext.refl _)).trans ex0
                refine Box.mk ?_
                simp only [fill, Act.put, Nat.reduceAdd, List.setIfInBounds_toArray, List.set_cons_zero, List.set_cons_succ, h1] at hK ⊢
                go_simp
                refine (LA.out _ (Wd.below WA.out ex)).mono ?_
                rintro e V ⟨rfl, hb⟩
                try go_wp2_with fail
                exact hK.out _ _ rfl hb (fun b hb => by cases hb)
              refine Steps.cons (fun (v : Value) (_ : World) => v = .pointer (some ⟨g5, 1, none⟩)) [] rfl (by kernel_rfl) rfl (by kernel_rfl) (fun y X ex0 hf K hK => ?_) ?_
              · clear hf
                have ex := (Ext.drw (Ext.refl _)).trans ex0
                refine Box.mk ?_
                simp only [fill, Act.put, Nat.reduceAdd, List.setIfInBounds_toArray, List.set_cons_zero, List.set_cons_succ] at hK ⊢
                go_simp
                exact hK.out _ _ rfl (Ext.refl _) (fun b hb => by cases hb)
              refine Steps.cons (fun (v : Value) (_ : World) => v = .slice B2 m2 d2) [3] rfl (by kernel_rfl) rfl (by kernel_rfl) (fun y X ex0 hf K hK => ?_) ?_
              · have h3 : ((fun (v : Value) (_ : World) => v = .pointer (some ⟨g5, 1, none⟩))) (y 3) X := hf.1
                clear hf
                have ex := (Ext.drw (Ext.refl _)).trans ex0
                refine Box.mk ?_
                simp only [fill, Act.put, Nat.reduceAdd, List.setIfInBounds_toArray, List.set_cons_zero, List.set_cons_succ, h3] at hK ⊢
                have kk := keepAt ex lB1 j1'
                go_simp
                exact hK.out _ _ rfl (Ext.refl _) (fun b hb => by cases hb)
              refine Steps.cons (fun (v : Value) (_ : World) => v = .int .u64 (pb : Nat)) [4, 2] rfl (by kernel_rfl) rfl (by kernel_rfl) (fun y X ex0 hf K hK => ?_) ?_
              · have h4 : ((fun (v : Value) (_ : World) => v = .slice B2 m2 d2)) (y 4) X := hf.1
                have h2 : ((fun (v : Value) (_ : World) => v = .int .u64 (pa : Nat))) (y 2) X := hf.2.1
                clear hf
                have ex := (Ext.drw (Ext.refl _)).trans ex0
                refine Box.mk ?_
                simp only [fill, Act.put, Nat.reduceAdd, List.setIfInBounds_toArray, List.set_cons_zero, List.set_cons_succ, h4, h2] at hK ⊢
                go_simp
                refine (LB.out _ (Wd.below WB.out ex)).mono ?_
                rintro e V ⟨rfl, hb⟩
                try go_wp2_with fail
                exact hK.out _ _ rfl hb (fun b hb => by cases hb)
              refine Steps.cons (fun (v : Value) (_ : World) => v = .int .u64 (Nat.gcd pa pb : Nat)) [2, 5] rfl (by kernel_rfl) rfl (by kernel_rfl) (fun y X ex0 hf K hK => ?_) ?_
              · have h2 : ((fun (v : Value) (_ : World) => v = .int .u64 (pa : Nat))) (y 2) X := hf.1
                have h5 : ((fun (v : Value) (_ : World) => v = .int .u64 (pb : Nat))) (y 5) X := hf.2.1
                clear hf
                have ex := (Ext.drw (Ext.refl _)).trans ex0
                refine Box.mk ?_
                simp only [fill, Act.put, Nat.reduceAdd, List.setIfInBounds_toArray, List.set_cons_zero, List.set_cons_succ, h2, h5] at hK ⊢
                go_simp
                refine (wordGcd_any pa pb _ hpa hpb).mono ?_
                rintro e V ⟨rfl, hb⟩
                try go_wp2_with fail
                exact hK.out _ _ rfl hb (fun b hb => by cases hb)
              refine Steps.cons (fun (v : Value) (X : World) => ∃ A n c, v = .slice A n c ∧ Wd X (.slice A n c) (dig (Nat.gcd pa pb))) [6] rfl (by kernel_rfl) rfl (by kernel_rfl) (fun y X ex0 hf K hK => ?_) ?_
              · have h6 : ((fun (v : Value) (_ : World) => v = .int .u64 (Nat.gcd pa pb : Nat))) (y 6) X := hf.1
                clear hf
                have ex := (Ext.drw (Ext.refl _)).trans ex0
                refine Box.mk ?_
                simp only [fill, Act.put, Nat.reduceAdd, List.setIfInBounds_toArray, List.set_cons_zero, List.set_cons_succ, h6] at hK ⊢
                go_simp
                refine (natS_any (Nat.gcd pa pb) _ hpg).mono ?_
                rintro e V ⟨A9, n9, c9, rfl, hz, hb⟩
                try go_wp2_with fail
                exact hK.out _ _ ⟨_, _, _, rfl, hz⟩ hb (fun b hb => by cases hb)
              refine Steps.cons (fun (v : Value) (X : World) => ∃ b A n c, v = .agg #[.bool b, .slice A n c] ∧ ZV X (.agg #[.bool b, .slice A n c]) ((Nat.gcd pa pb : Nat))) [7] rfl (by kernel_rfl) rfl (by kernel_rfl) (fun y X ex0 hf K hK => ?_) ?_
              · have hh7 : ((fun (v : Value) (X : World) => ∃ A n c, v = .slice A n c ∧ Wd X (.slice A n c) (dig (Nat.gcd pa pb)))) (y 7) X := hf.1
                refine Exists.elim hh7 (fun A7 hx7_0 => ?_)
                refine Exists.elim hx7_0 (fun n7 hx7_1 => ?_)
                refine Exists.elim hx7_1 (fun c7 hx7_2 => ?_)
                have h7 := hx7_2.1
                have z7 := hx7_2.2
                clear hh7 hx7_0 hx7_1 hx7_2
                clear hf
                have ex := (Ext.drw (Ext.refl _)).trans ex0
                refine Box.mk ?_
                simp only [fill, Act.put, Nat.reduceAdd, List.setIfInBounds_toArray, List.set_cons_zero, List.set_cons_succ, h7] at hK ⊢
                go_simp
                exact hK.out _ _ ⟨_, _, _, _, rfl, ZV.mk (by simp) (by rw [Int.natAbs_natCast]; exact z7)⟩ (Ext.refl _) (fun b hb => by cases hb)
              exact Steps.nil
            case done =>
              intro y X ex hf hlt hsep
              have h0 : ((fun (v : Value) (_ : World) => v = .pointer (some ⟨g4, 1, none⟩))) (y 0) X := hf.1
              have h1 : ((fun (v : Value) (_ : World) => v = .slice B1 m1 d1)) (y 1) X := hf.2.1
              have h2 : ((fun (v : Value) (_ : World) => v = .int .u64 (pa : Nat))) (y 2) X := hf.2.2.1
              have h3 : ((fun (v : Value) (_ : World) => v = .pointer (some ⟨g5, 1, none⟩))) (y 3) X := hf.2.2.2.1
              have h4 : ((fun (v : Value) (_ : World) => v = .slice B2 m2 d2)) (y 4) X := hf.2.2.2.2.1
              have h5 : ((fun (v : Value) (_ : World) => v = .int .u64 (pb : Nat))) (y 5) X := hf.2.2.2.2.2.1
              have h6 : ((fun (v : Value) (_ : World) => v = .int .u64 (Nat.gcd pa pb : Nat))) (y 6) X := hf.2.2.2.2.2.2.1
              have hh7 : ((fun (v : Value) (X : World) => ∃ A n c, v = .slice A n c ∧ Wd X (.slice A n c) (dig (Nat.gcd pa pb)))) (y 7) X := hf.2.2.2.2.2.2.2.1
              refine Exists.elim hh7 (fun A7 hx7_0 => ?_)
              refine Exists.elim hx7_0 (fun n7 hx7_1 => ?_)
              refine Exists.elim hx7_1 (fun c7 hx7_2 => ?_)
              have h7 := hx7_2.1
              have z7 := hx7_2.2
              clear hh7 hx7_0 hx7_1 hx7_2
              have hh8 : ((fun (v : Value) (X : World) => ∃ b A n c, v = .agg #[.bool b, .slice A n c] ∧ ZV X (.agg #[.bool b, .slice A n c]) ((Nat.gcd pa pb : Nat)))) (y 8) X := hf.2.2.2.2.2.2.2.2.1
              refine Exists.elim hh8 (fun b8 hx8_0 => ?_)
              refine Exists.elim hx8_0 (fun A8 hx8_1 => ?_)
              refine Exists.elim hx8_1 (fun n8 hx8_2 => ?_)
              refine Exists.elim hx8_2 (fun c8 hx8_3 => ?_)
              have h8 := hx8_3.1
              have z8 := hx8_3.2
              clear hh8 hx8_0 hx8_1 hx8_2 hx8_3
              clear hf
              clear hsep hlt
              refine Box.mk ?_
              simp only [List.drop_succ_cons, List.drop_zero, fill, Act.put, Nat.reduceAdd, List.setIfInBounds_toArray, List.set_cons_zero, List.set_cons_succ, h0, h1, h2, h3, h4, h5, h6, h7, h8]
              clear h0 h1 h2 h3 h4 h5 h6 h7 h8
              have R3 := RG.out.ext (x1.trans ex)
              rw [HPP.out] at z8
              have s0 := R3.set0 b8 (.slice A8 n8 c8); have s1 := R3.set1 b8 (.slice A8 n8 c8)
              have hz := z8.rb R3 (.bool b8) (.slice A8 n8 c8)
              have hbf := below_set2 (HE.out.trans (x1.trans ex)) (i := 0) (j := 1) (show W.heap.size ≤ W.heap.size + 1 + 1 by omega) (.bool b8) (.slice A8 n8 c8)
              obtain ⟨_, _, _, _, g30, g31, g32, g33⟩ := R3.facts
              have F := Lib.hid (And.intro s0 (And.intro s1 (And.intro hz hbf)))
              clear s0 s1 hz hbf R3 ex x1 z7 z8 hpa hpb hpg
              go_wp2_with fail
              refine NoPanic.normal ?_
              go_wp2
              obtain ⟨s0, s1, hz, hbf⟩ := F.out
              exact bodyPost_ret (v := .agg #[.bool b8, .slice A8 n8 c8]) (by simp [results, Tryz.results49, go_sem, s0, s1]) rfl ⟨_, rfl, hz, hbf⟩
          · have c2i : ¬ (m2 : Int) ≤ 2 := by omega
            go_wp2_with fail
            obtain ⟨α, β, γ, δ, hso, hsl, hcall⟩ := shorten_fix va vb L ha0 hbp HH.out.2.1 HH.out.2.2 hL hL2
            have hnx := SO.next hso hb0
            have hla := Nat.le_trans HH.out.2.1 hL2; have hlb := Nat.le_trans HH.out.2.2 hL2
            obtain ⟨hl1, hl2, hl3, hl4⟩ := hsl
            have HC := Lib.hid hcall; clear hcall hso
            have lA1 := Nat.lt_of_lt_of_le lA x1.size; have lB1 := Nat.lt_of_lt_of_le lB x1.size
            have HA5 : Hid (HZ w1 g4 va) := Lib.hid ⟨q1, B1, m1, d1, k0', k1', KZ.out.ext x1⟩
            have HB5 : Hid (HZ w1 g5 vb) := Lib.hid ⟨q2, B2, m2, d2, j0', j1', JZ.out.ext x1⟩
            clear k0' k1' j0' j1'
            refine wp_region_noPanic ?_
            refine wp_pool 9 [some 34, some 35, some 36, some 37, some 38, some 39, some 33, some 40, some 41] [(8, 6)] [] [(fun (v : Value) (X : World) => ∃ b A n c, v = .agg #[.bool b, .slice A n c] ∧ ZV X (.agg #[.bool b, .slice A n c]) (va)), (fun (v : Value) (X : World) => ∃ b A n c, v = .agg #[.bool b, .slice A n c] ∧ ZV X (.agg #[.bool b, .slice A n c]) (vb)), (fun (v : Value) (X : World) => ∃ s, v = s ∧ STV X s α β γ δ), (fun (v : Value) (X : World) => ∃ b A n c, v = .agg #[.bool b, .slice A n c] ∧ ZV X (.agg #[.bool b, .slice A n c]) (va)), (fun (v : Value) (X : World) => ∃ b A n c, v = .agg #[.bool b, .slice A n c] ∧ ZV X (.agg #[.bool b, .slice A n c]) (vb)), (fun (v : Value) (X : World) => ∃ b A n c b' A' n' c', v = .tuple #[.agg #[.bool b, .slice A n c], .agg #[.bool b', .slice A' n' c']] ∧ ZV X (.agg #[.bool b, .slice A n c]) (α * va + β * vb) ∧ ZV X (.agg #[.bool b', .slice A' n' c']) (γ * va + δ * vb)), (fun (v : Value) (X : World) => ∃ b A n c b' A' n' c', v = .tuple #[.agg #[.bool b, .slice A n c], .agg #[.bool b', .slice A' n' c']] ∧ ZV X (.agg #[.bool b, .slice A n c]) (α * va + β * vb) ∧ ZV X (.agg #[.bool b', .slice A' n' c']) (γ * va + δ * vb)), (fun (v : Value) (X : World) => ∃ b A n c, v = .agg #[.bool b, .slice A n c] ∧ ZV X (.agg #[.bool b, .slice A n c]) (α * va + β * vb)), (fun (v : Value) (X : World) => ∃ b A n c, v = .agg #[.bool b, .slice A n c] ∧ ZV X (.agg #[.bool b, .slice A n c]) (γ * va + δ * vb))] [noF, noF, noF, noF, noF, noF, noF, noF, noF] (by kernel_rfl) (by kernel_rfl) (by kernel_rfl) (by kernel_rfl) (by kernel_rfl) (by kernel_rfl) (by kernel_rfl) (by kernel_rfl) (fun _ _ _ _ h => h) ⟨(fun _ _ _ e ⟨b, A, n, c, h1, h2⟩ => ⟨b, A, n, c, h1, h2.ext e⟩), (fun _ _ _ e ⟨b, A, n, c, h1, h2⟩ => ⟨b, A, n, c, h1, h2.ext e⟩), (fun _ _ _ e ⟨s, h1, h2⟩ => ⟨s, h1, h2.ext e⟩), (fun _ _ _ e ⟨b, A, n, c, h1, h2⟩ => ⟨b, A, n, c, h1, h2.ext e⟩), (fun _ _ _ e ⟨b, A, n, c, h1, h2⟩ => ⟨b, A, n, c, h1, h2.ext e⟩), (fun _ _ _ e ⟨b, A, n, c, b', A', n', c', h1, h2, h3⟩ => ⟨b, A, n, c, b', A', n', c', h1, h2.ext e, h3.ext e⟩), (fun _ _ _ e ⟨b, A, n, c, b', A', n', c', h1, h2, h3⟩ => ⟨b, A, n, c, b', A', n', c', h1, h2.ext e, h3.ext e⟩), (fun _ _ _ e ⟨b, A, n, c, h1, h2⟩ => ⟨b, A, n, c, h1, h2.ext e⟩), (fun _ _ _ e ⟨b, A, n, c, h1, h2⟩ => ⟨b, A, n, c, h1, h2.ext e⟩), True.intro⟩ ?steps ?done
            case steps =>
              simp only [List.take_succ_cons, List.take_zero]
              refine Steps.cons (fun (v : Value) (X : World) => ∃ b A n c, v = .agg #[.bool b, .slice A n c] ∧ ZV X (.agg #[.bool b, .slice A n c]) (va)) [] rfl (by kernel_rfl) rfl (by kernel_rfl) (fun y X ex0 hf K hK => ?_) ?_
              · clear hf
                have ex := (Ext.drw (Ext.refl _)).trans ex0
                refine Box.mk ?_
                simp only [fill, Act.put, Nat.reduceAdd, List.setIfInBounds_toArray, List.set_cons_zero, List.set_cons_succ] at hK ⊢
                obtain ⟨bl, Al, nl, cl, k0, k1, kz⟩ := (HA5.out.ext (by omega) ex)
                go_simp
                exact hK.out _ _ ⟨_, _, _, _, rfl, kz⟩ (Ext.refl _) (fun b hb => by cases hb)
              refine Steps.cons (fun (v : Value) (X : World) => ∃ b A n c, v = .agg #[.bool b, .slice A n c] ∧ ZV X (.agg #[.bool b, .slice A n c]) (vb)) [] rfl (by kernel_rfl) rfl (by kernel_rfl) (fun y X ex0 hf K hK => ?_) ?_
              · clear hf
                have ex := (Ext.drw (Ext.refl _)).trans ex0
                refine Box.mk ?_
                simp only [fill, Act.put, Nat.reduceAdd, List.setIfInBounds_toArray, List.set_cons_zero, List.set_cons_succ] at hK ⊢
                obtain ⟨bl, Al, nl, cl, k0, k1, kz⟩ := (HB5.out.ext (by omega) ex)
                go_simp
                exact hK.out _ _ ⟨_, _, _, _, rfl, kz⟩ (Ext.refl _) (fun b hb => by cases hb)
              refine Steps.cons (fun (v : Value) (X : World) => ∃ s, v = s ∧ STV X s α β γ δ) [0, 1] rfl (by kernel_rfl) rfl (by kernel_rfl) (fun y X ex0 hf K hK => ?_) ?_
              · have hh0 : ((fun (v : Value) (X : World) => ∃ b A n c, v = .agg #[.bool b, .slice A n c] ∧ ZV X (.agg #[.bool b, .slice A n c]) (va))) (y 0) X := hf.1
                refine Exists.elim hh0 (fun b0 hx0_0 => ?_)
                refine Exists.elim hx0_0 (fun A0 hx0_1 => ?_)
                refine Exists.elim hx0_1 (fun n0 hx0_2 => ?_)
                refine Exists.elim hx0_2 (fun c0 hx0_3 => ?_)
                have h0 := hx0_3.1
                have z0 := hx0_3.2
                clear hh0 hx0_0 hx0_1 hx0_2 hx0_3
                have hh1 : ((fun (v : Value) (X : World) => ∃ b A n c, v = .agg #[.bool b, .slice A n c] ∧ ZV X (.agg #[.bool b, .slice A n c]) (vb))) (y 1) X := hf.2.1
                refine Exists.elim hh1 (fun b1 hx1_0 => ?_)
                refine Exists.elim hx1_0 (fun A1 hx1_1 => ?_)
                refine Exists.elim hx1_1 (fun n1 hx1_2 => ?_)
                refine Exists.elim hx1_2 (fun c1 hx1_3 => ?_)
                have h1 := hx1_3.1
                have z1 := hx1_3.2
                clear hh1 hx1_0 hx1_1 hx1_2 hx1_3
                clear hf
                have ex := (Ext.drw (Ext.refl _)).trans ex0
                refine Box.mk ?_
                simp only [fill, Act.put, Nat.reduceAdd, List.setIfInBounds_toArray, List.set_cons_zero, List.set_cons_succ, h0, h1] at hK ⊢
                go_simp
                refine (HC.out _ _ _ z0 z1).mono ?_
                rintro e V ⟨sv, rfl, hst, hb⟩
                try go_wp2_with fail
                exact hK.out _ _ ⟨_, rfl, hst⟩ hb (fun b hb => by cases hb)
              refine Steps.cons (fun (v : Value) (X : World) => ∃ b A n c, v = .agg #[.bool b, .slice A n c] ∧ ZV X (.agg #[.bool b, .slice A n c]) (va)) [] rfl (by kernel_rfl) rfl (by kernel_rfl) (fun y X ex0 hf K hK => ?_) ?_
              · clear hf
                have ex := (Ext.drw (Ext.refl _)).trans ex0
                refine Box.mk ?_
                simp only [fill, Act.put, Nat.reduceAdd, List.setIfInBounds_toArray, List.set_cons_zero, List.set_cons_succ] at hK ⊢
                obtain ⟨bl, Al, nl, cl, k0, k1, kz⟩ := (HA5.out.ext (by omega) ex)
                go_simp
                exact hK.out _ _ ⟨_, _, _, _, rfl, kz⟩ (Ext.refl _) (fun b hb => by cases hb)
              refine Steps.cons (fun (v : Value) (X : World) => ∃ b A n c, v = .agg #[.bool b, .slice A n c] ∧ ZV X (.agg #[.bool b, .slice A n c]) (vb)) [] rfl (by kernel_rfl) rfl (by kernel_rfl) (fun y X ex0 hf K hK => ?_) ?_
              · clear hf
                have ex := (Ext.drw (Ext.refl _)).trans ex0
                refine Box.mk ?_
                simp only [fill, Act.put, Nat.reduceAdd, List.setIfInBounds_toArray, List.set_cons_zero, List.set_cons_succ] at hK ⊢
                obtain ⟨bl, Al, nl, cl, k0, k1, kz⟩ := (HB5.out.ext (by omega) ex)
                go_simp
                exact hK.out _ _ ⟨_, _, _, _, rfl, kz⟩ (Ext.refl _) (fun b hb => by cases hb)
              refine Steps.cons (fun (v : Value) (X : World) => ∃ b A n c b' A' n' c', v = .tuple #[.agg #[.bool b, .slice A n c], .agg #[.bool b', .slice A' n' c']] ∧ ZV X (.agg #[.bool b, .slice A n c]) (α * va + β * vb) ∧ ZV X (.agg #[.bool b', .slice A' n' c']) (γ * va + δ * vb)) [2, 3, 4] rfl (by kernel_rfl) rfl (by kernel_rfl) (fun y X ex0 hf K hK => ?_) ?_
              · have hh2 : ((fun (v : Value) (X : World) => ∃ s, v = s ∧ STV X s α β γ δ)) (y 2) X := hf.1
                refine Exists.elim hh2 (fun s2 hx2_0 => ?_)
                have h2 := hx2_0.1
                have z2 := hx2_0.2
                clear hh2 hx2_0
                have hh3 : ((fun (v : Value) (X : World) => ∃ b A n c, v = .agg #[.bool b, .slice A n c] ∧ ZV X (.agg #[.bool b, .slice A n c]) (va))) (y 3) X := hf.2.1
                refine Exists.elim hh3 (fun b3 hx3_0 => ?_)
                refine Exists.elim hx3_0 (fun A3 hx3_1 => ?_)
                refine Exists.elim hx3_1 (fun n3 hx3_2 => ?_)
                refine Exists.elim hx3_2 (fun c3 hx3_3 => ?_)
                have h3 := hx3_3.1
                have z3 := hx3_3.2
                clear hh3 hx3_0 hx3_1 hx3_2 hx3_3
                have hh4 : ((fun (v : Value) (X : World) => ∃ b A n c, v = .agg #[.bool b, .slice A n c] ∧ ZV X (.agg #[.bool b, .slice A n c]) (vb))) (y 4) X := hf.2.2.1
                refine Exists.elim hh4 (fun b4 hx4_0 => ?_)
                refine Exists.elim hx4_0 (fun A4 hx4_1 => ?_)
                refine Exists.elim hx4_1 (fun n4 hx4_2 => ?_)
                refine Exists.elim hx4_2 (fun c4 hx4_3 => ?_)
                have h4 := hx4_3.1
                have z4 := hx4_3.2
                clear hh4 hx4_0 hx4_1 hx4_2 hx4_3
                clear hf
                have ex := (Ext.drw (Ext.refl _)).trans ex0
                refine Box.mk ?_
                simp only [fill, Act.put, Nat.reduceAdd, List.setIfInBounds_toArray, List.set_cons_zero, List.set_cons_succ, h2, h3, h4] at hK ⊢
                go_simp
                refine (apply_any α β γ δ va vb _ _ _ _ z2 z3 z4 (by omega) (by omega) (by omega) (by omega) (by omega) (by omega)).mono ?_
                rintro e V ⟨b9, A9, n9, c9, b8, A8, n8, c8, rfl, hz, hy, hb⟩
                try go_wp2_with fail
                exact hK.out _ _ ⟨_, _, _, _, _, _, _, _, rfl, hz, hy⟩ hb (fun b hb => by cases hb)
              refine Steps.cons (fun (v : Value) (X : World) => ∃ b A n c b' A' n' c', v = .tuple #[.agg #[.bool b, .slice A n c], .agg #[.bool b', .slice A' n' c']] ∧ ZV X (.agg #[.bool b, .slice A n c]) (α * va + β * vb) ∧ ZV X (.agg #[.bool b', .slice A' n' c']) (γ * va + δ * vb)) [5] rfl (by kernel_rfl) rfl (by kernel_rfl) (fun y X ex0 hf K hK => ?_) ?_
              · have hh5 : ((fun (v : Value) (X : World) => ∃ b A n c b' A' n' c', v = .tuple #[.agg #[.bool b, .slice A n c], .agg #[.bool b', .slice A' n' c']] ∧ ZV X (.agg #[.bool b, .slice A n c]) (α * va + β * vb) ∧ ZV X (.agg #[.bool b', .slice A' n' c']) (γ * va + δ * vb))) (y 5) X := hf.1
                refine Exists.elim hh5 (fun b5 hx5_0 => ?_)
                refine Exists.elim hx5_0 (fun A5 hx5_1 => ?_)
                refine Exists.elim hx5_1 (fun n5 hx5_2 => ?_)
                refine Exists.elim hx5_2 (fun c5 hx5_3 => ?_)
                refine Exists.elim hx5_3 (fun bb5 hx5_4 => ?_)
                refine Exists.elim hx5_4 (fun AA5 hx5_5 => ?_)
                refine Exists.elim hx5_5 (fun nn5 hx5_6 => ?_)
                refine Exists.elim hx5_6 (fun cc5 hx5_7 => ?_)
                have h5 := hx5_7.1
                have z5 := hx5_7.2.1
                have y5 := hx5_7.2.2
                clear hh5 hx5_0 hx5_1 hx5_2 hx5_3 hx5_4 hx5_5 hx5_6 hx5_7
                clear hf
                have ex := (Ext.drw (Ext.refl _)).trans ex0
                refine Box.mk ?_
                simp only [fill, Act.put, Nat.reduceAdd, List.setIfInBounds_toArray, List.set_cons_zero, List.set_cons_succ, h5] at hK ⊢
                go_simp
                exact hK.out _ _ ⟨_, _, _, _, _, _, _, _, rfl, z5, y5⟩ (Ext.refl _) (fun b hb => by cases hb)
              refine Steps.cons (fun (v : Value) (X : World) => ∃ b A n c, v = .agg #[.bool b, .slice A n c] ∧ ZV X (.agg #[.bool b, .slice A n c]) (α * va + β * vb)) [6] rfl (by kernel_rfl) rfl (by kernel_rfl) (fun y X ex0 hf K hK => ?_) ?_
              · have hh6 : ((fun (v : Value) (X : World) => ∃ b A n c b' A' n' c', v = .tuple #[.agg #[.bool b, .slice A n c], .agg #[.bool b', .slice A' n' c']] ∧ ZV X (.agg #[.bool b, .slice A n c]) (α * va + β * vb) ∧ ZV X (.agg #[.bool b', .slice A' n' c']) (γ * va + δ * vb))) (y 6) X := hf.1
                refine Exists.elim hh6 (fun b6 hx6_0 => ?_)
                refine Exists.elim hx6_0 (fun A6 hx6_1 => ?_)
                refine Exists.elim hx6_1 (fun n6 hx6_2 => ?_)
                refine Exists.elim hx6_2 (fun c6 hx6_3 => ?_)
                refine Exists.elim hx6_3 (fun bb6 hx6_4 => ?_)
                refine Exists.elim hx6_4 (fun AA6 hx6_5 => ?_)
                refine Exists.elim hx6_5 (fun nn6 hx6_6 => ?_)
                refine Exists.elim hx6_6 (fun cc6 hx6_7 => ?_)
                have h6 := hx6_7.1
                have z6 := hx6_7.2.1
                have y6 := hx6_7.2.2
                clear hh6 hx6_0 hx6_1 hx6_2 hx6_3 hx6_4 hx6_5 hx6_6 hx6_7
                clear hf
                have ex := (Ext.drw (Ext.refl _)).trans ex0
                refine Box.mk ?_
                simp only [fill, Act.put, Nat.reduceAdd, List.setIfInBounds_toArray, List.set_cons_zero, List.set_cons_succ, h6] at hK ⊢
                go_simp
                exact hK.out _ _ ⟨_, _, _, _, rfl, z6⟩ (Ext.refl _) (fun b hb => by cases hb)
              refine Steps.flw (fun (v : Value) (X : World) => ∃ b A n c, v = .agg #[.bool b, .slice A n c] ∧ ZV X (.agg #[.bool b, .slice A n c]) (γ * va + δ * vb)) [6] rfl (by kernel_rfl) (by kernel_rfl) (fun _ => rfl) (fun y X ex0 hf => ?_) ?_
              · have hh6 : ((fun (v : Value) (X : World) => ∃ b A n c b' A' n' c', v = .tuple #[.agg #[.bool b, .slice A n c], .agg #[.bool b', .slice A' n' c']] ∧ ZV X (.agg #[.bool b, .slice A n c]) (α * va + β * vb) ∧ ZV X (.agg #[.bool b', .slice A' n' c']) (γ * va + δ * vb))) (y 6) X := hf.1
                refine Exists.elim hh6 (fun b6 hx6_0 => ?_)
                refine Exists.elim hx6_0 (fun A6 hx6_1 => ?_)
                refine Exists.elim hx6_1 (fun n6 hx6_2 => ?_)
                refine Exists.elim hx6_2 (fun c6 hx6_3 => ?_)
                refine Exists.elim hx6_3 (fun bb6 hx6_4 => ?_)
                refine Exists.elim hx6_4 (fun AA6 hx6_5 => ?_)
                refine Exists.elim hx6_5 (fun nn6 hx6_6 => ?_)
                refine Exists.elim hx6_6 (fun cc6 hx6_7 => ?_)
                have h6 := hx6_7.1
                have z6 := hx6_7.2.1
                have y6 := hx6_7.2.2
                clear hh6 hx6_0 hx6_1 hx6_2 hx6_3 hx6_4 hx6_5 hx6_6 hx6_7
                clear hf
                simp only [fill, Act.put, Nat.reduceAdd, List.setIfInBounds_toArray, List.set_cons_zero, List.set_cons_succ, h6]
                exact ⟨_, ⟨by rfl, fun w => by go_simp⟩, ⟨_, _, _, _, rfl, y6⟩⟩
              exact Steps.nil
            case done =>
              intro y X ex hf hlt hsep
              have hh0 : ((fun (v : Value) (X : World) => ∃ b A n c, v = .agg #[.bool b, .slice A n c] ∧ ZV X (.agg #[.bool b, .slice A n c]) (va))) (y 0) X := hf.1
              refine Exists.elim hh0 (fun b0 hx0_0 => ?_)
              refine Exists.elim hx0_0 (fun A0 hx0_1 => ?_)
              refine Exists.elim hx0_1 (fun n0 hx0_2 => ?_)
              refine Exists.elim hx0_2 (fun c0 hx0_3 => ?_)
              have h0 := hx0_3.1
              have z0 := hx0_3.2
              clear hh0 hx0_0 hx0_1 hx0_2 hx0_3
              have hh1 : ((fun (v : Value) (X : World) => ∃ b A n c, v = .agg #[.bool b, .slice A n c] ∧ ZV X (.agg #[.bool b, .slice A n c]) (vb))) (y 1) X := hf.2.1
              refine Exists.elim hh1 (fun b1 hx1_0 => ?_)
              refine Exists.elim hx1_0 (fun A1 hx1_1 => ?_)
              refine Exists.elim hx1_1 (fun n1 hx1_2 => ?_)
              refine Exists.elim hx1_2 (fun c1 hx1_3 => ?_)
              have h1 := hx1_3.1
              have z1 := hx1_3.2
              clear hh1 hx1_0 hx1_1 hx1_2 hx1_3
              have hh2 : ((fun (v : Value) (X : World) => ∃ s, v = s ∧ STV X s α β γ δ)) (y 2) X := hf.2.2.1
              refine Exists.elim hh2 (fun s2 hx2_0 => ?_)
              have h2 := hx2_0.1
              have z2 := hx2_0.2
              clear hh2 hx2_0
              have hh3 : ((fun (v : Value) (X : World) => ∃ b A n c, v = .agg #[.bool b, .slice A n c] ∧ ZV X (.agg #[.bool b, .slice A n c]) (va))) (y 3) X := hf.2.2.2.1
              refine Exists.elim hh3 (fun b3 hx3_0 => ?_)
              refine Exists.elim hx3_0 (fun A3 hx3_1 => ?_)
              refine Exists.elim hx3_1 (fun n3 hx3_2 => ?_)
              refine Exists.elim hx3_2 (fun c3 hx3_3 => ?_)
              have h3 := hx3_3.1
              have z3 := hx3_3.2
              clear hh3 hx3_0 hx3_1 hx3_2 hx3_3
              have hh4 : ((fun (v : Value) (X : World) => ∃ b A n c, v = .agg #[.bool b, .slice A n c] ∧ ZV X (.agg #[.bool b, .slice A n c]) (vb))) (y 4) X := hf.2.2.2.2.1
              refine Exists.elim hh4 (fun b4 hx4_0 => ?_)
              refine Exists.elim hx4_0 (fun A4 hx4_1 => ?_)
              refine Exists.elim hx4_1 (fun n4 hx4_2 => ?_)
              refine Exists.elim hx4_2 (fun c4 hx4_3 => ?_)
              have h4 := hx4_3.1
              have z4 := hx4_3.2
              clear hh4 hx4_0 hx4_1 hx4_2 hx4_3
              have hh5 : ((fun (v : Value) (X : World) => ∃ b A n c b' A' n' c', v = .tuple #[.agg #[.bool b, .slice A n c], .agg #[.bool b', .slice A' n' c']] ∧ ZV X (.agg #[.bool b, .slice A n c]) (α * va + β * vb) ∧ ZV X (.agg #[.bool b', .slice A' n' c']) (γ * va + δ * vb))) (y 5) X := hf.2.2.2.2.2.1
              refine Exists.elim hh5 (fun b5 hx5_0 => ?_)
              refine Exists.elim hx5_0 (fun A5 hx5_1 => ?_)
              refine Exists.elim hx5_1 (fun n5 hx5_2 => ?_)
              refine Exists.elim hx5_2 (fun c5 hx5_3 => ?_)
              refine Exists.elim hx5_3 (fun bb5 hx5_4 => ?_)
              refine Exists.elim hx5_4 (fun AA5 hx5_5 => ?_)
              refine Exists.elim hx5_5 (fun nn5 hx5_6 => ?_)
              refine Exists.elim hx5_6 (fun cc5 hx5_7 => ?_)
              have h5 := hx5_7.1
              have z5 := hx5_7.2.1
              have y5 := hx5_7.2.2
              clear hh5 hx5_0 hx5_1 hx5_2 hx5_3 hx5_4 hx5_5 hx5_6 hx5_7
              have hh6 : ((fun (v : Value) (X : World) => ∃ b A n c b' A' n' c', v = .tuple #[.agg #[.bool b, .slice A n c], .agg #[.bool b', .slice A' n' c']] ∧ ZV X (.agg #[.bool b, .slice A n c]) (α * va + β * vb) ∧ ZV X (.agg #[.bool b', .slice A' n' c']) (γ * va + δ * vb))) (y 6) X := hf.2.2.2.2.2.2.1
              refine Exists.elim hh6 (fun b6 hx6_0 => ?_)
              refine Exists.elim hx6_0 (fun A6 hx6_1 => ?_)
              refine Exists.elim hx6_1 (fun n6 hx6_2 => ?_)
              refine Exists.elim hx6_2 (fun c6 hx6_3 => ?_)
              refine Exists.elim hx6_3 (fun bb6 hx6_4 => ?_)
              refine Exists.elim hx6_4 (fun AA6 hx6_5 => ?_)
              refine Exists.elim hx6_5 (fun nn6 hx6_6 => ?_)
              refine Exists.elim hx6_6 (fun cc6 hx6_7 => ?_)
              have h6 := hx6_7.1
              have z6 := hx6_7.2.1
              have y6 := hx6_7.2.2
              clear hh6 hx6_0 hx6_1 hx6_2 hx6_3 hx6_4 hx6_5 hx6_6 hx6_7
              have hh7 : ((fun (v : Value) (X : World) => ∃ b A n c, v = .agg #[.bool b, .slice A n c] ∧ ZV X (.agg #[.bool b, .slice A n c]) (α * va + β * vb))) (y 7) X := hf.2.2.2.2.2.2.2.1
              refine Exists.elim hh7 (fun b7 hx7_0 => ?_)
              refine Exists.elim hx7_0 (fun A7 hx7_1 => ?_)
              refine Exists.elim hx7_1 (fun n7 hx7_2 => ?_)
              refine Exists.elim hx7_2 (fun c7 hx7_3 => ?_)
              have h7 := hx7_3.1
              have z7 := hx7_3.2
              clear hh7 hx7_0 hx7_1 hx7_2 hx7_3
              have hh8 : ((fun (v : Value) (X : World) => ∃ b A n c, v = .agg #[.bool b, .slice A n c] ∧ ZV X (.agg #[.bool b, .slice A n c]) (γ * va + δ * vb))) (y 8) X := hf.2.2.2.2.2.2.2.2.1
              refine Exists.elim hh8 (fun b8 hx8_0 => ?_)
              refine Exists.elim hx8_0 (fun A8 hx8_1 => ?_)
              refine Exists.elim hx8_1 (fun n8 hx8_2 => ?_)
              refine Exists.elim hx8_2 (fun c8 hx8_3 => ?_)
              have h8 := hx8_3.1
              have z8 := hx8_3.2
              clear hh8 hx8_0 hx8_1 hx8_2 hx8_3
              clear hf
              clear hsep hlt
              refine Box.mk ?_
              simp only [List.drop_succ_cons, List.drop_zero, fill, Act.put, Nat.reduceAdd, List.setIfInBounds_toArray, List.set_cons_zero, List.set_cons_succ, h0, h1, h2, h3, h4, h5, h6, h7, h8]
              clear h0 h1 h2 h3 h4 h5 h6 h7 h8
              obtain ⟨W', hW', m1', m2', m3', m4', m5', m6'⟩ := two_put (RA.out.ext (x1.trans ex)) (RB'.out.ext (x1.trans ex)) (Ne.symm n4_5) b7 A7 n7 c7 b8 A8 n8 c8 z7 z8 (Ext.below (HE.out.trans (x1.trans ex))) (by omega) (by omega)
              have m7 := m6' _ (RG.out.ext (x1.trans ex)) (by omega) (by omega)
              obtain ⟨_, _, _, _, g30, g31, g32, g33⟩ := (RA.out.ext (x1.trans ex)).facts
              have T := (RB'.out.ext (x1.trans ex)).far (RA.out.ext (x1.trans ex)) (Ne.symm n4_5) (.bool b7) (.slice A7 n7 c7)
              obtain ⟨_, _, _, _, g50, g51, g52, g53⟩ := T.facts
              have HI : Hid (GI W W' g4 g5 (W.heap.size + 1 + 1) gN L (α * va + β * vb) (γ * va + δ * vb)) := Lib.hid ⟨hnx.1, hnx.2.2.1, m1', m2', m3', m4', m7, by rw [hnx.2.2.2.2]; exact HH.out.1, Nat.le_trans (len_mono (by omega)) HH.out.2.2, Nat.le_trans (len_mono (by omega)) HH.out.2.2, m5'⟩
              have HM := Lib.hid (And.intro (hzNum_eq m2') (hzNum_eq (hGI.out.2.2.2.1)))
              have HN := Lib.hid hnx
              have HW' := Lib.hid hW'
              clear hW' m1' m2' m3' m4' m5' m6' m7 T ex x1 hnx z0 z1 z2 z3 z4 z5 z6 z7 z8 y5 y6
              go_wp2_with fail
              refine NoPanic.normal ?_
              go_wp2
              rw [← HW'.out]
              go_roundw
              case rel => exact ⟨_, _, HI⟩
              case measure => rw [HM.out.1, HM.out.2]; have := HN.out; omega
        · have c1i : ¬ (m1 : Int) ≤ 2 := by omega
          go_wp2_with fail
          obtain ⟨α, β, γ, δ, hso, hsl, hcall⟩ := shorten_fix va vb L ha0 hbp HH.out.2.1 HH.out.2.2 hL hL2
          have hnx := SO.next hso hb0
          have hla := Nat.le_trans HH.out.2.1 hL2; have hlb := Nat.le_trans HH.out.2.2 hL2
          obtain ⟨hl1, hl2, hl3, hl4⟩ := hsl
          have HC := Lib.hid hcall; clear hcall hso
          have lA1 := Nat.lt_of_lt_of_le lA x1.size; have lB1 := Nat.lt_of_lt_of_le lB x1.size
          have HA5 : Hid (HZ w1 g4 va) := Lib.hid ⟨q1, B1, m1, d1, k0', k1', KZ.out.ext x1⟩
          have HB5 : Hid (HZ w1 g5 vb) := Lib.hid ⟨q2, B2, m2, d2, j0', j1', JZ.out.ext x1⟩
          clear k0' k1' j0' j1'
          refine wp_region_noPanic ?_
          refine wp_pool 9 [some 34, some 35, some 36, some 37, some 38, some 39, some 33, some 40, some 41] [(8, 6)] [] [(fun (v : Value) (X : World) => ∃ b A n c, v = .agg #[.bool b, .slice A n c] ∧ ZV X (.agg #[.bool b, .slice A n c]) (va)), (fun (v : Value) (X : World) => ∃ b A n c, v = .agg #[.bool b, .slice A n c] ∧ ZV X (.agg #[.bool b, .slice A n c]) (vb)), (fun (v : Value) (X : World) => ∃ s, v = s ∧ STV X s α β γ δ), (fun (v : Value) (X : World) => ∃ b A n c, v = .agg #[.bool b, .slice A n c] ∧ ZV X (.agg #[.bool b, .slice A n c]) (va)), (fun (v : Value) (X : World) => ∃ b A n c, v = .agg #[.bool b, .slice A n c] ∧ ZV X (.agg #[.bool b, .slice A n c]) (vb)), (fun (v : Value) (X : World) => ∃ b A n c b' A' n' c', v = .tuple #[.agg #[.bool b, .slice A n c], .agg #[.bool b', .slice A' n' c']] ∧ ZV X (.agg #[.bool b, .slice A n c]) (α * va + β * vb) ∧ ZV X (.agg #[.bool b', .slice A' n' c']) (γ * va + δ * vb)), (fun (v : Value) (X : World) => ∃ b A n c b' A' n' c', v = .tuple #[.agg #[.bool b, .slice A n c], .agg #[.bool b', .slice A' n' c']] ∧ ZV X (.agg #[.bool b, .slice A n c]) (α * va + β * vb) ∧ ZV X (.agg #[.bool b', .slice A' n' c']) (γ * va + δ * vb)), (fun (v : Value) (X : World) => ∃ b A n c, v = .agg #[.bool b, .slice A n c] ∧ ZV X (.agg #[.bool b, .slice A n c]) (α * va + β * vb)), (fun (v : Value) (X : World) => ∃ b A n c, v = .agg #[.bool b, .slice A n c] ∧ ZV X (.agg #[.bool b, .slice A n c]) (γ * va + δ * vb))] [noF, noF, noF, noF, noF, noF, noF, noF, noF] (by kernel_rfl) (by kernel_rfl) (by kernel_rfl) (by kernel_rfl) (by kernel_rfl) (by kernel_rfl) (by kernel_rfl) (by kernel_rfl) (fun _ _ _ _ h => h) ⟨(fun _ _ _ e ⟨b, A, n, c, h1, h2⟩ => ⟨b, A, n, c, h1, h2.ext e⟩), (fun _ _ _ e ⟨b, A, n, c, h1, h2⟩ => ⟨b, A, n, c, h1, h2.ext e⟩), (fun _ _ _ e ⟨s, h1, h2⟩ => ⟨s, h1, h2.ext e⟩), (fun _ _ _ e ⟨b, A, n, c, h1, h2⟩ => ⟨b, A, n, c, h1, h2.ext e⟩), (fun _ _ _ e ⟨b, A, n, c, h1, h2⟩ => ⟨b, A, n, c, h1, h2.ext e⟩), (fun _ _ _ e ⟨b, A, n, c, b', A', n', c', h1, h2, h3⟩ => ⟨b, A, n, c, b', A', n', c', h1, h2.ext e, h3.ext e⟩), (fun _ _ _ e ⟨b, A, n, c, b', A', n', c', h1, h2, h3⟩ => ⟨b, A, n, c, b', A', n', c', h1, h2.ext e, h3.ext e⟩), (fun _ _ _ e ⟨b, A, n, c, h1, h2⟩ => ⟨b, A, n, c, h1, h2.ext e⟩), (fun _ _ _ e ⟨b, A, n, c, h1, h2⟩ => ⟨b, A, n, c, h1, h2.ext e⟩), True.intro⟩ ?steps ?done
          case steps =>
            simp only [List.take_succ_cons, List.take_zero]
            refine Steps.cons (fun (v : Value) (X : World) => ∃ b A n c, v = .agg #[.bool b, .slice A n c] ∧ ZV X (.agg #[.bool b, .slice A n c]) (va)) [] rfl (by kernel_rfl) rfl (by kernel_rfl) (fun y X ex0 hf K hK => ?_) ?_
            · clear hf
              have ex := (Ext.drw (Ext.refl _)).trans ex0
              refine Box.mk ?_
              simp only [fill, Act.put, Nat.reduceAdd, List.setIfInBounds_toArray, List.set_cons_zero, List.set_cons_succ] at hK ⊢
              obtain ⟨bl, Al, nl, cl, k0, k1, kz⟩ := (HA5.out.ext (by omega) ex)
              go_simp
              exact hK.out _ _ ⟨_, _, _, _, rfl, kz⟩ (Ext.refl _) (fun b hb => by cases hb)
            refine Steps.cons (fun (v : Value) (X : World) => ∃ b A n c, v = .agg #[.bool b, .slice A n c] ∧ ZV X (.agg #[.bool b, .slice A n c]) (vb)) [] rfl (by kernel_rfl) rfl (by kernel_rfl) (fun y X ex0 hf K hK => ?_) ?_
            · clear hf
              have ex := (Ext.drw (Ext.refl _)).trans ex0
              refine Box.mk ?_
              simp only [fill, Act.put, Nat.reduceAdd, List.setIfInBounds_toArray, List.set_cons_zero, List.set_cons_succ] at hK ⊢
              obtain ⟨bl, Al, nl, cl, k0, k1, kz⟩ := (HB5.out.ext (by omega) ex)
              go_simp
              exact hK.out _ _ ⟨_, _, _, _, rfl, kz⟩ (Ext.refl _) (fun b hb => by cases hb)
            refine Steps.cons (fun (v : Value) (X : World) => ∃ s, v = s ∧ STV X s α β γ δ) [0, 1] rfl (by kernel_rfl) rfl (by kernel_rfl) (fun y X ex0 hf K hK => ?_) ?_
            · have hh0 : ((fun (v : Value) (X : World) => ∃ b A n c, v = .agg #[.bool b, .slice A n c] ∧ ZV X (.agg #[.bool b, .slice A n c]) (va))) (y 0) X := hf.1
              refine Exists.elim hh0 (fun b0 hx0_0 => ?_)
              refine Exists.elim hx0_0 (fun A0 hx0_1 => ?_)
              refine Exists.elim hx0_1 (fun n0 hx0_2 => ?_)
              refine Exists.elim hx0_2 (fun c0 hx0_3 => ?_)
              have h0 := hx0_3.1
              have z0 := hx0_3.2
              clear hh0 hx0_0 hx0_1 hx0_2 hx0_3
              have hh1 : ((fun (v : Value) (X : World) => ∃ b A n c, v = .agg #[.bool b, .slice A n c] ∧ ZV X (.agg #[.bool b, .slice A n c]) (vb))) (y 1) X := hf.2.1
              refine Exists.elim hh1 (fun b1 hx1_0 => ?_)
              refine Exists.elim hx1_0 (fun A1 hx1_1 => ?_)
              refine Exists.elim hx1_1 (fun n1 hx1_2 => ?_)
              refine Exists.elim hx1_2 (fun c1 hx1_3 => ?_)
              have h1 := hx1_3.1
              have z1 := hx1_3.2
              clear hh1 hx1_0 hx1_1 hx1_2 hx1_3
              clear hf
              have ex := (Ext.drw (Ext.refl _)).trans ex0
              refine Box.mk ?_
              simp only [fill, Act.put, Nat.reduceAdd, List.setIfInBounds_toArray, List.set_cons_zero, List.set_cons_succ, h0, h1] at hK ⊢
              go_simp
              refine (HC.out _ _ _ z0 z1).mono ?_
              rintro e V ⟨sv, rfl, hst, hb⟩
              try go_wp2_with fail
              exact hK.out _ _ ⟨_, rfl, hst⟩ hb (fun b hb => by cases hb)
            refine Steps.cons (fun (v : Value) (X : World) => ∃ b A n c, v = .agg #[.bool b, .slice A n c] ∧ ZV X (.agg #[.bool b, .slice A n c]) (va)) [] rfl (by kernel_rfl) rfl (by kernel_rfl) (fun y X ex0 hf K hK => ?_) ?_
            · clear hf
              have ex := (Ext.drw (Ext.refl _)).trans ex0
              refine Box.mk ?_
              simp only [fill, Act.put, Nat.reduceAdd, List.setIfInBounds_toArray, List.set_cons_zero, List.set_cons_succ] at hK ⊢
              obtain ⟨bl, Al, nl, cl, k0, k1, kz⟩ := (HA5.out.ext (by omega) ex)
              go_simp
              exact hK.out _ _ ⟨_, _, _, _, rfl, kz⟩ (Ext.refl _) (fun b hb => by cases hb)
            refine Steps.cons (fun (v : Value) (X : World) => ∃ b A n c, v = .agg #[.bool b, .slice A n c] ∧ ZV X (.agg #[.bool b, .slice A n c]) (vb)) [] rfl (by kernel_rfl) rfl (by kernel_rfl) (fun y X ex0 hf K hK => ?_) ?_
            · clear hf
              have ex := (Ext.drw (Ext.refl _)).trans ex0
              refine Box.mk ?_
              simp only [fill, Act.put, Nat.reduceAdd, List.setIfInBounds_toArray, List.set_cons_zero, List.set_cons_succ] at hK ⊢
              obtain ⟨bl, Al, nl, cl, k0, k1, kz⟩ := (HB5.out.ext (by omega) ex)
              go_simp
              exact hK.out _ _ ⟨_, _, _, _, rfl, kz⟩ (Ext.refl _) (fun b hb => by cases hb)
            refine Steps.cons (fun (v : Value) (X : World) => ∃ b A n c b' A' n' c', v = .tuple #[.agg #[.bool b, .slice A n c], .agg #[.bool b', .slice A' n' c']] ∧ ZV X (.agg #[.bool b, .slice A n c]) (α * va + β * vb) ∧ ZV X (.agg #[.bool b', .slice A' n' c']) (γ * va + δ * vb)) [2, 3, 4] rfl (by kernel_rfl) rfl (by kernel_rfl) (fun y X ex0 hf K hK => ?_) ?_
            · have hh2 : ((fun (v : Value) (X : World) => ∃ s, v = s ∧ STV X s α β γ δ)) (y 2) X := hf.1
              refine Exists.elim hh2 (fun s2 hx2_0 => ?_)
              have h2 := hx2_0.1
              have z2 := hx2_0.2
              clear hh2 hx2_0
              have hh3 : ((fun (v : Value) (X : World) => ∃ b A n c, v = .agg #[.bool b, .slice A n c] ∧ ZV X (.agg #[.bool b, .slice A n c]) (va))) (y 3) X := hf.2.1
              refine Exists.elim hh3 (fun b3 hx3_0 => ?_)
              refine Exists.elim hx3_0 (fun A3 hx3_1 => ?_)
              refine Exists.elim hx3_1 (fun n3 hx3_2 => ?_)
              refine Exists.elim hx3_2 (fun c3 hx3_3 => ?_)
              have h3 := hx3_3.1
              have z3 := hx3_3.2
              clear hh3 hx3_0 hx3_1 hx3_2 hx3_3
              have hh4 : ((fun (v : Value) (X : World) => ∃ b A n c, v = .agg #[.bool b, .slice A n c] ∧ ZV X (.agg #[.bool b, .slice A n c]) (vb))) (y 4) X := hf.2.2.1
              refine Exists.elim hh4 (fun b4 hx4_0 => ?_)
              refine Exists.elim hx4_0 (fun A4 hx4_1 => ?_)
              refine Exists.elim hx4_1 (fun n4 hx4_2 => ?_)
              refine Exists.elim hx4_2 (fun c4 hx4_3 => ?_)
              have h4 := hx4_3.1
              have z4 := hx4_3.2
              clear hh4 hx4_0 hx4_1 hx4_2 hx4_3
              clear hf
              have ex := (Ext.drw (Ext.refl _)).trans ex0
              refine Box.mk ?_
              simp only [fill, Act.put, Nat.reduceAdd, List.setIfInBounds_toArray, List.set_cons_zero, List.set_cons_succ, h2, h3, h4] at hK ⊢
              go_simp
              refine (apply_any α β γ δ va vb _ _ _ _ z2 z3 z4 (by omega) (by omega) (by omega) (by omega) (by omega) (by omega)).mono ?_
              rintro e V ⟨b9, A9, n9, c9, b8, A8, n8, c8, rfl, hz, hy, hb⟩
              try go_wp2_with fail
              exact hK.out _ _ ⟨_, _, _, _, _, _, _, _, rfl, hz, hy⟩ hb (fun b hb => by cases hb)
            refine Steps.cons (fun (v : Value) (X : World) => ∃ b A n c b' A' n' c', v = .tuple #[.agg #[.bool b, .slice A n c], .agg #[.bool b', .slice A' n' c']] ∧ ZV X (.agg #[.bool b, .slice A n c]) (α * va + β * vb) ∧ ZV X (.agg #[.bool b', .slice A' n' c']) (γ * va + δ * vb)) [5] rfl (by kernel_rfl) rfl (by kernel_rfl) (fun y X ex0 hf K hK => ?_) ?_
            · have hh5 : ((fun (v : Value) (X : World) => ∃ b A n c b' A' n' c', v = .tuple #[.agg #[.bool b, .slice A n c], .agg #[.bool b', .slice A' n' c']] ∧ ZV X (.agg #[.bool b, .slice A n c]) (α * va + β * vb) ∧ ZV X (.agg #[.bool b', .slice A' n' c']) (γ * va + δ * vb))) (y 5) X := hf.1
              refine Exists.elim hh5 (fun b5 hx5_0 => ?_)
              refine Exists.elim hx5_0 (fun A5 hx5_1 => ?_)
              refine Exists.elim hx5_1 (fun n5 hx5_2 => ?_)
              refine Exists.elim hx5_2 (fun c5 hx5_3 => ?_)
              refine Exists.elim hx5_3 (fun bb5 hx5_4 => ?_)
              refine Exists.elim hx5_4 (fun AA5 hx5_5 => ?_)
              refine Exists.elim hx5_5 (fun nn5 hx5_6 => ?_)
              refine Exists.elim hx5_6 (fun cc5 hx5_7 => ?_)
              have h5 := hx5_7.1
              have z5 := hx5_7.2.1
              have y5 := hx5_7.2.2
              clear hh5 hx5_0 hx5_1 hx5_2 hx5_3 hx5_4 hx5_5 hx5_6 hx5_7
              clear hf
              have ex := (Ext.drw (Ext.refl _)).trans ex0
              refine Box.mk ?_
              simp only [fill, Act.put, Nat.reduceAdd, List.setIfInBounds_toArray, List.set_cons_zero, List.set_cons_succ, h5] at hK ⊢
              go_simp
              exact hK.out _ _ ⟨_, _, _, _, _, _, _, _, rfl, z5, y5⟩ (Ext.refl _) (fun b hb => by cases hb)
            refine Steps.cons (fun (v : Value) (X : World) => ∃ b A n c, v = .agg #[.bool b, .slice A n c] ∧ ZV X (.agg #[.bool b, .slice A n c]) (α * va + β * vb)) [6] rfl (by kernel_rfl) rfl (by kernel_rfl) (fun y X ex0 hf K hK => ?_) ?_
            · have hh6 : ((fun (v : Value) (X : World) => ∃ b A n c b' A' n' c', v = .tuple #[.agg #[.bool b, .slice A n c], .agg #[.bool b', .slice A' n' c']] ∧ ZV X (.agg #[.bool b, .slice A n c]) (α * va + β * vb) ∧ ZV X (.agg #[.bool b', .slice A' n' c']) (γ * va + δ * vb))) (y 6) X := hf.1
              refine Exists.elim hh6 (fun b6 hx6_0 => ?_)
              refine Exists.elim hx6_0 (fun A6 hx6_1 => ?_)
              refine Exists.elim hx6_1 (fun n6 hx6_2 => ?_)
              refine Exists.elim hx6_2 (fun c6 hx6_3 => ?_)
              refine Exists.elim hx6_3 (fun bb6 hx6_4 => ?_)
              refine Exists.elim hx6_4 (fun AA6 hx6_5 => ?_)
              refine Exists.elim hx6_5 (fun nn6 hx6_6 => ?_)
              refine Exists.elim hx6_6 (fun cc6 hx6_7 => ?_)
              have h6 := hx6_7.1
              have z6 := hx6_7.2.1
              have y6 := hx6_7.2.2
              clear hh6 hx6_0 hx6_1 hx6_2 hx6_3 hx6_4 hx6_5 hx6_6 hx6_7
              clear hf
              have ex := (Ext.drw (Ext.refl _)).trans ex0
              refine Box.mk ?_
              simp only [fill, Act.put, Nat.reduceAdd, List.setIfInBounds_toArray, List.set_cons_zero, List.set_cons_succ, h6] at hK ⊢
              go_simp
              exact hK.out _ _ ⟨_, _, _, _, rfl, z6⟩ (Ext.refl _) (fun b hb => by cases hb)
            refine Steps.flw (fun (v : Value) (X : World) => ∃ b A n c, v = .agg #[.bool b, .slice A n c] ∧ ZV X (.agg #[.bool b, .slice A n c]) (γ * va + δ * vb)) [6] rfl (by kernel_rfl) (by kernel_rfl) (fun _ => rfl) (fun y X ex0 hf => ?_) ?_
            · have hh6 : ((fun (v : Value) (X : World) => ∃ b A n c b' A' n' c', v = .tuple #[.agg #[.bool b, .slice A n c], .agg #[.bool b', .slice A' n' c']] ∧ ZV X (.agg #[.bool b, .slice A n c]) (α * va + β * vb) ∧ ZV X (.agg #[.bool b', .slice A' n' c']) (γ * va + δ * vb))) (y 6) X := hf.1
              refine Exists.elim hh6 (fun b6 hx6_0 => ?_)
              refine Exists.elim hx6_0 (fun A6 hx6_1 => ?_)
              refine Exists.elim hx6_1 (fun n6 hx6_2 => ?_)
              refine Exists.elim hx6_2 (fun c6 hx6_3 => ?_)
              refine Exists.elim hx6_3 (fun bb6 hx6_4 => ?_)
              refine Exists.elim hx6_4 (fun AA6 hx6_5 => ?_)
              refine Exists.elim hx6_5 (fun nn6 hx6_6 => ?_)
              refine Exists.elim hx6_6 (fun cc6 hx6_7 => ?_)
              have h6 := hx6_7.1
              have z6 := hx6_7.2.1
              have y6 := hx6_7.2.2
              clear hh6 hx6_0 hx6_1 hx6_2 hx6_3 hx6_4 hx6_5 hx6_6 hx6_7
              clear hf
              simp only [fill, Act.put, Nat.reduceAdd, List.setIfInBounds_toArray, List.set_cons_zero, List.set_cons_succ, h6]
              exact ⟨_, ⟨by rfl, fun w => by go_simp⟩, ⟨_, _, _, _, rfl, y6⟩⟩
            exact Steps.nil
          case done =>
            intro y X ex hf hlt hsep
            have hh0 : ((fun (v : Value) (X : World) => ∃ b A n c, v = .agg #[.bool b, .slice A n c] ∧ ZV X (.agg #[.bool b, .slice A n c]) (va))) (y 0) X := hf.1
            refine Exists.elim hh0 (fun b0 hx0_0 => ?_)
            refine Exists.elim hx0_0 (fun A0 hx0_1 => ?_)
            refine Exists.elim hx0_1 (fun n0 hx0_2 => ?_)
            refine Exists.elim hx0_2 (fun c0 hx0_3 => ?_)
            have h0 := hx0_3.1
            have z0 := hx0_3.2
            clear hh0 hx0_0 hx0_1 hx0_2 hx0_3
            have hh1 : ((fun (v : Value) (X : World) => ∃ b A n c, v = .agg #[.bool b, .slice A n c] ∧ ZV X (.agg #[.bool b, .slice A n c]) (vb))) (y 1) X := hf.2.1
            refine Exists.elim hh1 (fun b1 hx1_0 => ?_)
            refine Exists.elim hx1_0 (fun A1 hx1_1 => ?_)
            refine Exists.elim hx1_1 (fun n1 hx1_2 => ?_)
            refine Exists.elim hx1_2 (fun c1 hx1_3 => ?_)
            have h1 := hx1_3.1
            have z1 := hx1_3.2
            clear hh1 hx1_0 hx1_1 hx1_2 hx1_3
            have hh2 : ((fun (v : Value) (X : World) => ∃ s, v = s ∧ STV X s α β γ δ)) (y 2) X := hf.2.2.1
            refine Exists.elim hh2 (fun s2 hx2_0 => ?_)
            have h2 := hx2_0.1
            have z2 := hx2_0.2
            clear hh2 hx2_0
            have hh3 : ((fun (v : Value) (X : World) => ∃ b A n c, v = .agg #[.bool b, .slice A n c] ∧ ZV X (.agg #[.bool b, .slice A n c]) (va))) (y 3) X := hf.2.2.2.1
            refine Exists.elim hh3 (fun b3 hx3_0 => ?_)
            refine Exists.elim hx3_0 (fun A3 hx3_1 => ?_)
            refine Exists.elim hx3_1 (fun n3 hx3_2 => ?_)
            refine Exists.elim hx3_2 (fun c3 hx3_3 => ?_)
            have h3 := hx3_3.1
            have z3 := hx3_3.2
            clear hh3 hx3_0 hx3_1 hx3_2 hx3_3
            have hh4 : ((fun (v : Value) (X : World) => ∃ b A n c, v = .agg #[.bool b, .slice A n c] ∧ ZV X (.agg #[.bool b, .slice A n c]) (vb))) (y 4) X := hf.2.2.2.2.1
            refine Exists.elim hh4 (fun b4 hx4_0 => ?_)
            refine Exists.elim hx4_0 (fun A4 hx4_1 => ?_)
            refine Exists.elim hx4_1 (fun n4 hx4_2 => ?_)
            refine Exists.elim hx4_2 (fun c4 hx4_3 => ?_)
            have h4 := hx4_3.1
            have z4 := hx4_3.2
            clear hh4 hx4_0 hx4_1 hx4_2 hx4_3
            have hh5 : ((fun (v : Value) (X : World) => ∃ b A n c b' A' n' c', v = .tuple #[.agg #[.bool b, .slice A n c], .agg #[.bool b', .slice A' n' c']] ∧ ZV X (.agg #[.bool b, .slice A n c]) (α * va + β * vb) ∧ ZV X (.agg #[.bool b', .slice A' n' c']) (γ * va + δ * vb))) (y 5) X := hf.2.2.2.2.2.1
            refine Exists.elim hh5 (fun b5 hx5_0 => ?_)
            refine Exists.elim hx5_0 (fun A5 hx5_1 => ?_)
            refine Exists.elim hx5_1 (fun n5 hx5_2 => ?_)
            refine Exists.elim hx5_2 (fun c5 hx5_3 => ?_)
            refine Exists.elim hx5_3 (fun bb5 hx5_4 => ?_)
            refine Exists.elim hx5_4 (fun AA5 hx5_5 => ?_)
            refine Exists.elim hx5_5 (fun nn5 hx5_6 => ?_)
            refine Exists.elim hx5_6 (fun cc5 hx5_7 => ?_)
            have h5 := hx5_7.1
            have z5 := hx5_7.2.1
            have y5 := hx5_7.2.2
            clear hh5 hx5_0 hx5_1 hx5_2 hx5_3 hx5_4 hx5_5 hx5_6 hx5_7
            have hh6 : ((fun (v : Value) (X : World) => ∃ b A n c b' A' n' c', v = .tuple #[.agg #[.bool b, .slice A n c], .agg #[.bool b', .slice A' n' c']] ∧ ZV X (.agg #[.bool b, .slice A n c]) (α * va + β * vb) ∧ ZV X (.agg #[.bool b', .slice A' n' c']) (γ * va + δ * vb))) (y 6) X := hf.2.2.2.2.2.2.1
            refine Exists.elim hh6 (fun b6 hx6_0 => ?_)
            refine Exists.elim hx6_0 (fun A6 hx6_1 => ?_)
            refine Exists.elim hx6_1 (fun n6 hx6_2 => ?_)
            refine Exists.elim hx6_2 (fun c6 hx6_3 => ?_)
            refine Exists.elim hx6_3 (fun bb6 hx6_4 => ?_)
            refine Exists.elim hx6_4 (fun AA6 hx6_5 => ?_)
            refine Exists.elim hx6_5 (fun nn6 hx6_6 => ?_)
            refine Exists.elim hx6_6 (fun cc6 hx6_7 => ?_)
            have h6 := hx6_7.1
            have z6 := hx6_7.2.1
            have y6 := hx6_7.2.2
            clear hh6 hx6_0 hx6_1 hx6_2 hx6_3 hx6_4 hx6_5 hx6_6 hx6_7
            have hh7 : ((fun (v : Value) (X : World) => ∃ b A n c, v = .agg #[.bool b, .slice A n c] ∧ ZV X (.agg #[.bool b, .slice A n c]) (α * va + β * vb))) (y 7) X := hf.2.2.2.2.2.2.2.1
            refine Exists.elim hh7 (fun b7 hx7_0 => ?_)
            refine Exists.elim hx7_0 (fun A7 hx7_1 => ?_)
            refine Exists.elim hx7_1 (fun n7 hx7_2 => ?_)
            refine Exists.elim hx7_2 (fun c7 hx7_3 => ?_)
            have h7 := hx7_3.1
            have z7 := hx7_3.2
            clear hh7 hx7_0 hx7_1 hx7_2 hx7_3
            have hh8 : ((fun (v : Value) (X : World) => ∃ b A n c, v = .agg #[.bool b, .slice A n c] ∧ ZV X (.agg #[.bool b, .slice A n c]) (γ * va + δ * vb))) (y 8) X := hf.2.2.2.2.2.2.2.2.1
            refine Exists.elim hh8 (fun b8 hx8_0 => ?_)
            refine Exists.elim hx8_0 (fun A8 hx8_1 => ?_)
            refine Exists.elim hx8_1 (fun n8 hx8_2 => ?_)
            refine Exists.elim hx8_2 (fun c8 hx8_3 => ?_)
            have h8 := hx8_3.1
            have z8 := hx8_3.2
            clear hh8 hx8_0 hx8_1 hx8_2 hx8_3
            clear hf
            clear hsep hlt
            refine Box.mk ?_
            simp only [List.drop_succ_cons, List.drop_zero, fill, Act.put, Nat.reduceAdd, List.setIfInBounds_toArray, List.set_cons_zero, List.set_cons_succ, h0, h1, h2, h3, h4, h5, h6, h7, h8]
            clear h0 h1 h2 h3 h4 h5 h6 h7 h8
            obtain ⟨W', hW', m1', m2', m3', m4', m5', m6'⟩ := two_put (RA.out.ext (x1.trans ex)) (RB'.out.ext (x1.trans ex)) (Ne.symm n4_5) b7 A7 n7 c7 b8 A8 n8 c8 z7 z8 (Ext.below (HE.out.trans (x1.trans ex))) (by omega) (by omega)
            have m7 := m6' _ (RG.out.ext (x1.trans ex)) (by omega) (by omega)
            obtain ⟨_, _, _, _, g30, g31, g32, g33⟩ := (RA.out.ext (x1.trans ex)).facts
            have T := (RB'.out.ext (x1.trans ex)).far (RA.out.ext (x1.trans ex)) (Ne.symm n4_5) (.bool b7) (.slice A7 n7 c7)
            obtain ⟨_, _, _, _, g50, g51, g52, g53⟩ := T.facts
            have HI : Hid (GI W W' g4 g5 (W.heap.size + 1 + 1) gN L (α * va + β * vb) (γ * va + δ * vb)) := Lib.hid ⟨hnx.1, hnx.2.2.1, m1', m2', m3', m4', m7, by rw [hnx.2.2.2.2]; exact HH.out.1, Nat.le_trans (len_mono (by omega)) HH.out.2.2, Nat.le_trans (len_mono (by omega)) HH.out.2.2, m5'⟩
            have HM := Lib.hid (And.intro (hzNum_eq m2') (hzNum_eq (hGI.out.2.2.2.1)))
            have HN := Lib.hid hnx
            have HW' := Lib.hid hW'
            clear hW' m1' m2' m3' m4' m5' m6' m7 T ex x1 hnx z0 z1 z2 z3 z4 z5 z6 z7 z8 y5 y6
            go_wp2_with fail
            refine NoPanic.normal ?_
            go_wp2
            rw [← HW'.out]
            go_roundw
            case rel => exact ⟨_, _, HI⟩
            case measure => rw [HM.out.1, HM.out.2]; have := HN.out; omega
end Go.Proofs.YtmlopkkbgpfdnaaGreatDoor
