/- Walks: the law ExactField. -/
import Derived.Test.YtmlopkkbgpfdnabM22
import Derived.Test.YtmlopkkbgpfdnabM23
namespace Go.Proofs.Ytmlopkkbgpfdnab
open Go.RowKit

theorem RA.bad {N D x y er : Int} (h : RA false N D x y er) : er = 2 := by
  rcases h with ⟨-, -, -, h⟩ | ⟨h, -⟩ | ⟨h, -⟩
  · exact h
  · cases h
  · cases h
theorem RA.good {N D x y er : Int} (h : RA true N D x y er) : (((dig N.natAbs).length ≤ 256 ∧ (dig D.natAbs).length ≤ 256) ∧ x = N ∧ y = D ∧ er = 0) ∨ (x = 0 ∧ y = 0 ∧ er = 5) := by
  rcases h with ⟨h, -⟩ | ⟨-, h⟩ | ⟨-, -, h⟩
  · cases h
  · exact .inl h
  · exact .inr h
theorem zeroR_zero (a : Value) (w : World) (ha : ZV w a 0) : Calls Try.prog 10 #[a] w fun e w' => e = .returned (.bool true) ∧ Ext w w' := by
  have := zeroR_any 0 a w ha
  rwa [show decide ((0 : Int) = 0) = true from rfl] at this
theorem sign_le {z : Int} (h : z ≤ 0) : decide (z.sign ≤ 0) = true := by
  rcases (by omega : z < 0 ∨ z = 0) with h | h
  · rw [Int.sign_eq_neg_one_of_neg h]; decide
  · subst h; decide
theorem HF.farF {X : World} {g h : Nat} {x y : Int} (H : HF X g x y) (r : RB X h) (hne : g ≠ h) (u v : Value) : HF ((X.setCell ⟨h, 0, none⟩ u).setCell ⟨h, 1, none⟩ v) g x y := by
  obtain ⟨⟨b, A, n, c, h0, h1, h2⟩, ⟨b', A', n', c', k0, k1, k2⟩⟩ := H
  exact ⟨⟨b, A, n, c, (far2 hne).trans h0, (far2 hne).trans h1, h2.rb r _ _⟩, ⟨b', A', n', c', (far2 hne).trans k0, (far2 hne).trans k1, k2.rb r _ _⟩⟩
theorem valid_rat {W : World} {b b' : Bool} {B B' : Option Addr} {m d m' d' : Nat} {x y : Int} (h1 : ZV W (.agg #[.bool b, .slice B m d]) x) (h2 : ZV W (.agg #[.bool b', .slice B' m' d']) y) :
    Wd W (.slice B m d) (dig x.natAbs) ∧ Wd W (.slice B' m' d') (dig y.natAbs) ∧ numOf b (dig x.natAbs) = x ∧ numOf b' (dig y.natAbs) = y ∧ vldR b b' (dig x.natAbs) (dig y.natAbs) = vldR (decide (x < 0)) (decide (y < 0)) (dig x.natAbs) (dig y.natAbs) := by
  obtain ⟨e1, w1⟩ := h1.words
  obtain ⟨e2, w2⟩ := h2.words
  subst e1 e2
  exact ⟨w1, w2, num_of x, num_of y, rfl⟩

set_option maxHeartbeats 4000000 in
set_option maxRecDepth 100000 in
theorem exactField_walk (p q p2 q2 : Bool) (A A' A2 A2' : Option Addr) (n c n' c' n2 c2 n2' c2' : Nat) (l l' k k' : List Nat) (w : World) (hx : Wd w (.slice A n c) l) (hy : Wd w (.slice A' n' c') l') (hx2 : Wd w (.slice A2 n2 c2) k) (hy2 : Wd w (.slice A2' n2' c2') k') :
    Calls Try.prog 3 #[.agg #[.bool p, .slice A n c, .bool q, .slice A' n' c'], .agg #[.bool p2, .slice A2 n2 c2, .bool q2, .slice A2' n2' c2']] w fun e w' => e = .returned (.bool true) ∧ Ext w w' := by
  obtain ⟨W0, hW0⟩ : ∃ W0, W0 = (w.alloc (Obj.cells #[.bool p, .slice A n c, .bool q, .slice A' n' c'] 26)).alloc (Obj.cells #[.bool p2, .slice A2 n2 c2, .bool q2, .slice A2' n2' c2'] 26) := ⟨_, rfl⟩
  have e0 : Ext w W0 := by rw [hW0]; exact ((Ext.refl w).alc _).alc _
  have h1 : RW W0 w.heap.size p q A n c A' n' c' l l' := by rw [hW0]; exact (RW.new 26 hx hy).ext ((Ext.refl _).alc _)
  have h2 : RW W0 (w.heap.size + 1) p2 q2 A2 n2 c2 A2' n2' c2' k k' := by
    have := RW.new (W := w.alloc (Obj.cells #[.bool p, .slice A n c, .bool q, .slice A' n' c'] 26)) (p := p2) (q := q2) 26 (hx2.below (below1 _ _)) (hy2.below (below1 _ _))
    rw [World.size_alloc] at this
    rw [hW0]; exact this
  have V1 := Lib.hid (validRatR_any p q A A' n c n' c' l l' W0 h1.w1 h1.w2)
  have H1 := Lib.hid h1; have H2 := Lib.hid h2; have E0 := Lib.hid e0; have HW0 := Lib.hid hW0
  clear h1 h2 e0 hW0 hx hy hx2 hy2
  go_enter Try.func3, Try.ntmps3
  go_upto_region 1 with fail
  rw [← HW0.out]
  clear HW0
  have k0 := H1.out.k0; have k1 := H1.out.k1; have k2 := H1.out.k2; have k3 := H1.out.k3
  go_wp2_with fail
  refine V1.out.mono ?_
  rintro e W1 ⟨rfl, x1⟩
  have G1 := Lib.hid (H1.out.ext x1); have G2 := Lib.hid (H2.out.ext x1); have E1 := Lib.hid (E0.out.trans x1)
  clear x1 V1 k0 k1 k2 k3 H1 H2 E0
  by_cases hp : vldR p q l l' = true
  · rw [hp]
    have V2 := Lib.hid (validRatR_any p2 q2 A2 A2' n2 c2 n2' c2' k k' W1 G2.out.w1 G2.out.w2)
    have k0 := G2.out.k0; have k1 := G2.out.k1; have k2 := G2.out.k2; have k3 := G2.out.k3
    go_wp2_with fail
    refine V2.out.mono ?_
    rintro e W2 ⟨rfl, x2⟩
    have G1 := Lib.hid (G1.out.ext x2); have G2 := Lib.hid (G2.out.ext x2); have E2 := Lib.hid (E1.out.trans x2)
    clear x2 V2 k0 k1 k2 k3 E1
    by_cases hq : vldR p2 q2 k k' = true
    · rw [hq]
      have hok : (vldR p q l l' && vldR p2 q2 k k') = true := by rw [hp, hq]; rfl
      obtain ⟨hv1, hv2, hv3, hv4⟩ := vldR_parts hp
      obtain ⟨hu1, hu2, hu3, hu4⟩ := vldR_parts hq
      have HPQ := Lib.hid (And.intro hp hq); have HOK := Lib.hid hok
      have HV := Lib.hid (And.intro hv1 (And.intro hv2 (And.intro hv3 hv4))); have HU := Lib.hid (And.intro hu1 (And.intro hu2 (And.intro hu3 hu4)))
      clear hp hq hok hv1 hv2 hv3 hv4 hu1 hu2 hu3 hu4
      have RM := Lib.hid (ratMul_u p q p2 q2 A A' A2 A2' n c n' c' n2 c2 n2' c2' l l' k k' W2 G1.out.w1 G1.out.w2 G2.out.w1 G2.out.w2)
      rw [HOK.out] at RM
      obtain ⟨N, hN⟩ : ∃ N, N = (numOf p l * numOf p2 k) / nfg ((numOf p l * numOf p2 k)) ((numOf q l' * numOf q2 k')) := ⟨_, rfl⟩
      obtain ⟨D, hD⟩ : ∃ D, D = (numOf q l' * numOf q2 k') / nfg ((numOf p l * numOf p2 k)) ((numOf q l' * numOf q2 k')) := ⟨_, rfl⟩
      rw [← hN, ← hD] at RM
      have HN := Lib.hid hN; have HD := Lib.hid hD
      clear hN hD
      go_upto_region 4 with fail
      have k0 := G1.out.k0; have k1 := G1.out.k1; have k2 := G1.out.k2; have k3 := G1.out.k3
      have j0 := G2.out.k0; have j1 := G2.out.k1; have j2 := G2.out.k2; have j3 := G2.out.k3
      go_wp2_with fail
      refine RM.out.mono ?_
      rintro e W3 ⟨vx, vy, er, hra, b1, B1, m1, d1, b1', B1', m1', d1', rfl, y1, y2, x3⟩
      replace x3 : Ext W2 W3 := x3
      have HRA := Lib.hid hra.good; have Y1 := Lib.hid y1; have Y2 := Lib.hid y2; have X3 := Lib.hid x3
      clear hra y1 y2 x3 RM k0 k1 k2 k3 j0 j1 j2 j3
      go_upto_region 5 with fail
      obtain ⟨W4, hW4⟩ : ∃ W4, W4 = W3.alloc (Obj.cells #[.bool b1, .slice B1 m1 d1, .bool b1', .slice B1' m1' d1'] 26) := ⟨_, rfl⟩
      have e4 : Ext W2 W4 := by rw [hW4]; exact X3.out.alc _
      have i7 : HF W4 W3.heap.size vx vy := by rw [hW4]; exact HF.new W3 b1 B1 m1 d1 b1' B1' m1' d1' 26 Y1.out Y2.out
      have r7 := RW.new (W := W3) (p := b1) (q := b1') 26 Y1.out.words.2 Y2.out.words.2
      rw [← hW4] at r7 ⊢
      have VR := Lib.hid (valid_rat Y1.out Y2.out).2.2
      obtain ⟨g7, hg7⟩ : ∃ k, k = W3.heap.size := ⟨_, rfl⟩
      rw [← hg7] at i7 r7 ⊢
      have G1 := Lib.hid (G1.out.ext e4); have G2 := Lib.hid (G2.out.ext e4); have E4 := Lib.hid (E2.out.trans e4); have R7 := Lib.hid r7
      clear e4 i7 r7 hW4 hg7 X3 Y1 Y2 E2
      have RDV := Lib.hid (ratDiv_u b1 b1' p2 q2 B1 B1' A2 A2' m1 d1 m1' d1' n2 c2 n2' c2' (dig vx.natAbs) (dig vy.natAbs) k k' W4 R7.out.w1 R7.out.w2 G2.out.w1 G2.out.w2)
      rw [VR.out.1, VR.out.2.1, VR.out.2.2, HPQ.out.2] at RDV
      have k0 := R7.out.k0; have k1 := R7.out.k1; have k2 := R7.out.k2; have k3 := R7.out.k3
      have j0 := G2.out.k0; have j1 := G2.out.k1; have j2 := G2.out.k2; have j3 := G2.out.k3
      obtain ⟨vb, hvb⟩ : ∃ vb, vb = vldR (decide (vx < 0)) (decide (vy < 0)) (dig vx.natAbs) (dig vy.natAbs) := ⟨_, rfl⟩
      rw [← hvb, Bool.and_true] at RDV
      obtain ⟨N2, hN2⟩ : ∃ N, N = (vx * numOf q2 k') / nfg (vx * numOf q2 k') (vy * numOf p2 k) := ⟨_, rfl⟩
      obtain ⟨D2, hD2⟩ : ∃ D, D = (vy * numOf p2 k) / nfg (vx * numOf q2 k') (vy * numOf p2 k) := ⟨_, rfl⟩
      rw [← hN2, ← hD2] at RDV
      have HN2 := Lib.hid (And.intro hN2 hD2); have HVB := Lib.hid hvb
      clear hN2 hD2 hvb
      go_wp2_with fail
      refine RDV.out.mono ?_
      rintro e W5 ⟨ux, uy, er2, hrd, b2, B2, m2, d2, b2', B2', m2', d2', rfl, y1, y2, x5⟩
      replace x5 : Ext W4 W5 := x5
      have HRD := Lib.hid hrd; have Y1 := Lib.hid y1; have Y2 := Lib.hid y2; have X5 := Lib.hid x5
      clear hrd y1 y2 x5 RDV k0 k1 k2 k3 j0 j1 j2 j3
      go_upto_region 6 with fail
      obtain ⟨W6, hW6⟩ : ∃ W6, W6 = W5.alloc (Obj.cells #[.bool b2, .slice B2 m2 d2, .bool b2', .slice B2' m2' d2'] 26) := ⟨_, rfl⟩
      have e6 : Ext W4 W6 := by rw [hW6]; exact X5.out.alc _
      have i9 : HF W6 W5.heap.size ux uy := by rw [hW6]; exact HF.new W5 b2 B2 m2 d2 b2' B2' m2' d2' 26 Y1.out Y2.out
      rw [← hW6]
      obtain ⟨g9, hg9⟩ : ∃ k, k = W5.heap.size := ⟨_, rfl⟩
      rw [← hg9] at i9 ⊢
      have G1 := Lib.hid (G1.out.ext e6); have G2 := Lib.hid (G2.out.ext e6); have E6 := Lib.hid (E4.out.trans e6); have I9 := Lib.hid i9
      clear e6 i9 hW6 hg9 X5 Y1 Y2 E4 R7
      go_cut [73] (fun a wx => a = .bool false ∧ (RW wx w.heap.size p q A n c A' n' c' l l' ∧ RW wx (w.heap.size + 1) p2 q2 A2 n2 c2 A2' n2' c2' k k' ∧ Ext w wx))
      case first =>
        rcases HRA.out with ⟨hfit, rfl, rfl, rfl⟩ | ⟨rfl, rfl, rfl⟩
        · have hlow := nf_low (x := numOf p l * numOf p2 k) (y := numOf q l' * numOf q2 k') (Int.mul_ne_zero (by have := HV.out.2.2.1; omega) (by have := HU.out.2.2.1; omega))
          have hvt : vb = true := by
            rw [HVB.out]
            refine vldR_of hfit.1 hfit.2 ?_ ?_
            · rw [HD.out]; exact hlow.1
            · rw [HN.out, HD.out]; exact hlow.2.1
          rcases HRD.out with ⟨-, hu0, rfl, rfl, rfl⟩ | ⟨hnz, hra2⟩
          · clear hfit hlow hvt
            have j0 := G2.out.k0; have j1 := G2.out.k1; have j2 := G2.out.k2; have j3 := G2.out.k3
            have zc := vld_zv G2.out.w1 HU.out.1
            rw [hu0] at zc
            have OF := Lib.hid (fun W (e : Ext W6 W) => zeroR_zero _ W (zc.ext e))
            have OF1 := Lib.hid (of_any p2 A2 n2 c2 W6)
            clear zc hu0
            go_wp2_with fail
            refine OF1.out.mono ?_
            rintro e Wa ⟨rfl, xa⟩
            replace xa : Ext W6 Wa := xa
            have XA := Lib.hid xa; clear xa OF1
            have ZC := Lib.hid (OF.out Wa XA.out)
            clear OF
            go_wp2_with fail
            refine ZC.out.mono ?_
            rintro e Wb ⟨rfl, xb⟩
            replace xb : Ext Wa Wb := xb
            have XB := Lib.hid (XA.out.trans xb); clear xb ZC j0 j1 j2 j3
            go_wp2_with fail
            go_meet
            exact ⟨rfl, G1.out.ext XB.out, G2.out.ext XB.out, E6.out.trans XB.out⟩
          · rw [hvt] at hra2 hnz
            rcases hra2.good with ⟨-, rfl, rfl, rfl⟩ | ⟨rfl, rfl, rfl⟩
            · obtain ⟨q1, q2'⟩ := div_mul (a := numOf p l) (b := numOf q l') (c := numOf p2 k) (d := numOf q2 k') HV.out.2.2.1 HU.out.2.2.1 HV.out.2.2.2 (fun h => hnz ⟨rfl, h⟩) HN.out HD.out
              rw [← HN2.out.1] at q1
              rw [← HN2.out.2] at q2'
              have i9 := I9.out
              rw [q1, q2'] at i9
              have hff : HF W6 w.heap.size (numOf p l) (numOf q l') := G1.out.hf HV.out.1 HV.out.2.1
              obtain ⟨⟨ba, Ba, na, ca, k0, k1, kz⟩, ⟨bb, Bb, nb, cb, k2, k3, ky⟩⟩ := i9
              have j0 := G1.out.k0; have j1 := G1.out.k1; have j2 := G1.out.k2; have j3 := G1.out.k3
              have zf1 := vld_zv G1.out.w1 HV.out.1
              have zf2 := vld_zv G1.out.w2 HV.out.2.1
              have SR := Lib.hid (sameRat_true _ _ _ _ W6 (fv_mk kz ky) (fv_mk zf1 zf2))
              clear hfit hlow hvt hnz hra2 q1 q2' hff kz ky zf1 zf2
              go_wp2_with fail
              refine SR.out.mono ?_
              rintro e Wa ⟨rfl, xa⟩
              have XA := Lib.hid xa; clear xa SR k0 k1 k2 k3 j0 j1 j2 j3
              go_wp2_with fail
              go_meet
              exact ⟨rfl, G1.out.ext XA.out, G2.out.ext XA.out, E6.out.trans XA.out⟩
            · clear hfit hlow hvt hnz hra2
              go_wp2_with fail
              go_meet
              exact ⟨rfl, G1.out, G2.out, E6.out⟩
        · go_wp2_with fail
          go_meet
          exact ⟨rfl, G1.out, G2.out, E6.out⟩
      case rest =>
        obtain ⟨rfl, hg1, hg2, he⟩ := hcut
        clear HRA HRD HVB HN2 HN HD VR G1 G2 E6 I9
        have G1 := Lib.hid hg1; have G2 := Lib.hid hg2; have E6 := Lib.hid he
        clear hg1 hg2 he
        go_upto_region 8 with fail
        have RM := Lib.hid (ratAdd_u p q p2 q2 A A' A2 A2' n c n' c' n2 c2 n2' c2' l l' k k' wc G1.out.w1 G1.out.w2 G2.out.w1 G2.out.w2)
        rw [HOK.out] at RM
        obtain ⟨N, hN⟩ : ∃ N, N = (numOf p l * numOf q2 k' + numOf p2 k * numOf q l') / nfg ((numOf p l * numOf q2 k' + numOf p2 k * numOf q l')) ((numOf q l' * numOf q2 k')) := ⟨_, rfl⟩
        obtain ⟨D, hD⟩ : ∃ D, D = (numOf q l' * numOf q2 k') / nfg ((numOf p l * numOf q2 k' + numOf p2 k * numOf q l')) ((numOf q l' * numOf q2 k')) := ⟨_, rfl⟩
        rw [← hN, ← hD] at RM
        have HN := Lib.hid hN; have HD := Lib.hid hD
        clear hN hD
        have k0 := G1.out.k0; have k1 := G1.out.k1; have k2 := G1.out.k2; have k3 := G1.out.k3
        have j0 := G2.out.k0; have j1 := G2.out.k1; have j2 := G2.out.k2; have j3 := G2.out.k3
        go_wp2_with fail
        refine RM.out.mono ?_
        rintro e W3 ⟨vx, vy, er, hra, b1, B1, m1, d1, b1', B1', m1', d1', rfl, y1, y2, x3⟩
        replace x3 : Ext wc W3 := x3
        have HRA := Lib.hid hra.good; have Y1 := Lib.hid y1; have Y2 := Lib.hid y2; have X3 := Lib.hid x3
        clear hra y1 y2 x3 RM k0 k1 k2 k3 j0 j1 j2 j3
        go_upto_region 9 with fail
        obtain ⟨W4, hW4⟩ : ∃ W4, W4 = W3.alloc (Obj.cells #[.bool b1, .slice B1 m1 d1, .bool b1', .slice B1' m1' d1'] 26) := ⟨_, rfl⟩
        have e4 : Ext wc W4 := by rw [hW4]; exact X3.out.alc _
        have r7 := RW.new (W := W3) (p := b1) (q := b1') 26 Y1.out.words.2 Y2.out.words.2
        rw [← hW4] at r7 ⊢
        have VR := Lib.hid (valid_rat Y1.out Y2.out).2.2
        obtain ⟨g7, hg7⟩ : ∃ k, k = W3.heap.size := ⟨_, rfl⟩
        rw [← hg7] at r7 ⊢
        have G1 := Lib.hid (G1.out.ext e4); have G2 := Lib.hid (G2.out.ext e4); have E4 := Lib.hid (E6.out.trans e4); have R7 := Lib.hid r7
        clear e4 r7 hW4 hg7 X3 Y1 Y2 E6
        have RDV := Lib.hid (ratSub_u b1 b1' p2 q2 B1 B1' A2 A2' m1 d1 m1' d1' n2 c2 n2' c2' (dig vx.natAbs) (dig vy.natAbs) k k' W4 R7.out.w1 R7.out.w2 G2.out.w1 G2.out.w2)
        rw [VR.out.1, VR.out.2.1, VR.out.2.2, HPQ.out.2] at RDV
        have k0 := R7.out.k0; have k1 := R7.out.k1; have k2 := R7.out.k2; have k3 := R7.out.k3
        have j0 := G2.out.k0; have j1 := G2.out.k1; have j2 := G2.out.k2; have j3 := G2.out.k3
        obtain ⟨vb, hvb⟩ : ∃ vb, vb = vldR (decide (vx < 0)) (decide (vy < 0)) (dig vx.natAbs) (dig vy.natAbs) := ⟨_, rfl⟩
        rw [← hvb, Bool.and_true] at RDV
        obtain ⟨N2, hN2⟩ : ∃ N, N = (vx * numOf q2 k' + -(numOf p2 k) * vy) / nfg (vx * numOf q2 k' + -(numOf p2 k) * vy) (vy * numOf q2 k') := ⟨_, rfl⟩
        obtain ⟨D2, hD2⟩ : ∃ D, D = (vy * numOf q2 k') / nfg (vx * numOf q2 k' + -(numOf p2 k) * vy) (vy * numOf q2 k') := ⟨_, rfl⟩
        rw [← hN2, ← hD2] at RDV
        have HN2 := Lib.hid (And.intro hN2 hD2); have HVB := Lib.hid hvb
        clear hN2 hD2 hvb
        go_wp2_with fail
        refine RDV.out.mono ?_
        rintro e W5 ⟨ux, uy, er2, hrd, b2, B2, m2, d2, b2', B2', m2', d2', rfl, y1, y2, x5⟩
        replace x5 : Ext W4 W5 := x5
        have HRD := Lib.hid hrd; have Y1 := Lib.hid y1; have Y2 := Lib.hid y2; have X5 := Lib.hid x5
        clear hrd y1 y2 x5 RDV k0 k1 k2 k3 j0 j1 j2 j3
        go_upto_region 10 with fail
        obtain ⟨W6, hW6⟩ : ∃ W6, W6 = W5.alloc (Obj.cells #[.bool b2, .slice B2 m2 d2, .bool b2', .slice B2' m2' d2'] 26) := ⟨_, rfl⟩
        have e6 : Ext W4 W6 := by rw [hW6]; exact X5.out.alc _
        have i9 : HF W6 W5.heap.size ux uy := by rw [hW6]; exact HF.new W5 b2 B2 m2 d2 b2' B2' m2' d2' 26 Y1.out Y2.out
        rw [← hW6]
        obtain ⟨g9, hg9⟩ : ∃ k, k = W5.heap.size := ⟨_, rfl⟩
        rw [← hg9] at i9 ⊢
        have G1 := Lib.hid (G1.out.ext e6); have G2 := Lib.hid (G2.out.ext e6); have E6 := Lib.hid (E4.out.trans e6); have I9 := Lib.hid i9
        clear e6 i9 hW6 hg9 X5 Y1 Y2 E4 R7
        go_cut [97] (fun a wx => a = .bool false ∧ (RW wx w.heap.size p q A n c A' n' c' l l' ∧ RW wx (w.heap.size + 1) p2 q2 A2 n2 c2 A2' n2' c2' k k' ∧ Ext w wx))
        case first =>
          rcases HRA.out with ⟨hfit, rfl, rfl, rfl⟩ | ⟨rfl, rfl, rfl⟩
          · have hlow := nf_low (x := numOf p l * numOf q2 k' + numOf p2 k * numOf q l') (y := numOf q l' * numOf q2 k') (Int.mul_ne_zero (by have := HV.out.2.2.1; omega) (by have := HU.out.2.2.1; omega))
            have hvt : vb = true := by
              rw [HVB.out]
              refine vldR_of hfit.1 hfit.2 ?_ ?_
              · rw [HD.out]; exact hlow.1
              · rw [HN.out, HD.out]; exact hlow.2.1
            have hra2 := HRD.out
            rw [hvt] at hra2
            rcases hra2.good with ⟨-, rfl, rfl, rfl⟩ | ⟨rfl, rfl, rfl⟩
            · obtain ⟨q1, q2'⟩ := sub_add (a := numOf p l) (b := numOf q l') (c := numOf p2 k) (d := numOf q2 k') HV.out.2.2.1 HU.out.2.2.1 HV.out.2.2.2 HN.out HD.out
              rw [← HN2.out.1] at q1
              rw [← HN2.out.2] at q2'
              have i9 := I9.out
              rw [q1, q2'] at i9
              obtain ⟨⟨ba, Ba, na, ca, k0, k1, kz⟩, ⟨bb, Bb, nb, cb, k2, k3, ky⟩⟩ := i9
              have j0 := G1.out.k0; have j1 := G1.out.k1; have j2 := G1.out.k2; have j3 := G1.out.k3
              have zf1 := vld_zv G1.out.w1 HV.out.1
              have zf2 := vld_zv G1.out.w2 HV.out.2.1
              have SR := Lib.hid (sameRat_true _ _ _ _ W6 (fv_mk kz ky) (fv_mk zf1 zf2))
              clear hfit hlow hvt hra2 q1 q2' kz ky zf1 zf2
              go_wp2_with fail
              refine SR.out.mono ?_
              rintro e Wa ⟨rfl, xa⟩
              have XA := Lib.hid xa; clear xa SR k0 k1 k2 k3 j0 j1 j2 j3
              go_wp2_with fail
              go_meet
              exact ⟨rfl, G1.out.ext XA.out, G2.out.ext XA.out, E6.out.trans XA.out⟩
            · clear hfit hlow hvt hra2
              go_wp2_with fail
              go_meet
              exact ⟨rfl, G1.out, G2.out, E6.out⟩
          · go_wp2_with fail
            go_meet
            exact ⟨rfl, G1.out, G2.out, E6.out⟩
        case rest =>
          obtain ⟨rfl, hg1, hg2, he⟩ := hcut
          clear HRA HRD HVB HN2 HN HD VR G1 G2 E6 I9
          have G1 := Lib.hid hg1; have E6 := Lib.hid he
          clear hg1 hg2 he HU HOK
          have RF := Lib.hid (ratFloor_yes p q A A' n c n' c' l l' wc G1.out.w1 G1.out.w2 HPQ.out.1)
          have gf := G1.out.hf HV.out.1 HV.out.2.1
          have lfl := vldR_lens HPQ.out.1 G1.out.w1.ok G1.out.w2.ok
          have lva : (dig (numOf p l).natAbs).length ≤ 256 := by rw [vld_dig G1.out.w1.ok HV.out.1]; exact vld_len HV.out.1
          have lvb : (dig (numOf q l').natAbs).length ≤ 256 := by rw [vld_dig G1.out.w2.ok HV.out.2.1]; exact vld_len HV.out.2.1
          have hb0 := HV.out.2.2.1
          obtain ⟨va, hva⟩ : ∃ z, z = numOf p l := ⟨_, rfl⟩
          obtain ⟨vb, hvb⟩ : ∃ z, z = numOf q l' := ⟨_, rfl⟩
          rw [← hva, ← hvb] at RF gf
          rw [← hva] at lva
          rw [← hvb] at lvb hb0
          obtain ⟨vn, hvn⟩ : ∃ z, z = va / vb := ⟨_, rfl⟩
          rw [← hvn] at RF
          have hfl := floor_le (a := va) hb0
          rw [← hvn] at hfl
          have lvn : (dig vn.natAbs).length ≤ 256 := by rw [hvn]; exact quo_len lva
          have GF := Lib.hid gf; have HFL := Lib.hid hfl; have LL := Lib.hid (And.intro lva (And.intro lvb lvn))
          have k0 := G1.out.k0; have k1 := G1.out.k1; have k2 := G1.out.k2; have k3 := G1.out.k3
          clear gf lfl lva lvb hb0 hva hvb hvn hfl lvn HV HPQ
          go_upto_region 12 with fail
          go_wp2_with fail
          refine RF.out.mono ?_
          rintro e W3 ⟨b1, B1, m1, d1, rfl, hz, x3⟩
          replace x3 : Ext wc W3 := x3
          have Z1 := Lib.hid hz; have X3 := Lib.hid x3
          clear hz x3 RF k0 k1 k2 k3
          go_upto_region 13 with fail
          obtain ⟨W4, hW4⟩ : ∃ W4, W4 = W3.alloc (Obj.cells #[.bool b1, .slice B1 m1 d1] 24) := ⟨_, rfl⟩
          have e4 : Ext wc W4 := by rw [hW4]; exact X3.out.alc _
          have i14 : HZ W4 W3.heap.size vn := by rw [hW4]; exact HZ.lit W3 b1 B1 m1 d1 24 Z1.out
          rw [← hW4]
          obtain ⟨g14, hg14⟩ : ∃ k, k = W3.heap.size := ⟨_, rfl⟩
          rw [← hg14] at i14 ⊢
          have GF := Lib.hid (GF.out.ext e4); have E4 := Lib.hid (E6.out.trans e4)
          have l14 := i14.lt
          have I14 := Lib.hid i14
          obtain ⟨b5, A5, n5, c5, k0, k1, kz⟩ := i14
          have V1 := Lib.hid (validR_any b5 A5 n5 c5 _ W4 kz.words.2)
          rw [show b5 = decide (vn < 0) from kz.words.1, vld_of LL.out.2.2] at V1
          rw [show b5 = decide (vn < 0) from kz.words.1] at k0
          clear kz e4 hW4 hg14 X3 Z1 E6 G1
          go_wp2_with fail
          refine V1.out.mono ?_
          rintro e W5 ⟨rfl, x5⟩
          replace x5 : Ext W4 W5 := x5
          have GF := Lib.hid (GF.out.ext x5); have E5 := Lib.hid (E4.out.trans x5); have I14 := Lib.hid (I14.out.ext l14 x5)
          have l14 := I14.out.lt; have lgf := GF.out.lt
          clear x5 k0 k1 V1 E4
          go_upto_region 15 with fail
          have lll := LL.out
          refine wp_region_noPanic ?_
          refine wp_pool 7 [some 110, some 111, some 112, some 113, some 114, some 115, some 15] [] [6] [(fun (v : Value) (X : World) => ∃ b A n c, v = .agg #[.bool b, .slice A n c] ∧ ZV X (.agg #[.bool b, .slice A n c]) (vn)), (fun (v : Value) (X : World) => ∃ b A n c, v = .agg #[.bool b, .slice A n c] ∧ ZV X (.agg #[.bool b, .slice A n c]) (vn)), (fun (v : Value) (_ : World) => v = .pointer (some ⟨w.heap.size, 2, none⟩)), (fun (v : Value) (X : World) => ∃ b A n c, v = .agg #[.bool b, .slice A n c] ∧ ZV X (.agg #[.bool b, .slice A n c]) (vb)), (fun (v : Value) (X : World) => ∃ b A n c, v = .agg #[.bool b, .slice A n c] ∧ ZV X (.agg #[.bool b, .slice A n c]) (vb)), (fun (v : Value) (X : World) => ∃ b A n c, v = .agg #[.bool b, .slice A n c] ∧ ZV X (.agg #[.bool b, .slice A n c]) (vn * vb)), (fun (v : Value) (X : World) => ∃ g, v = .pointer (some ⟨g, 0, none⟩) ∧ W5.heap.size ≤ g ∧ RB X g)] [noF, noF, noF, noF, noF, noF, ptrF] (by kernel_rfl) (by kernel_rfl) (by kernel_rfl) (by kernel_rfl) (by kernel_rfl) (by kernel_rfl) (by kernel_rfl) (by kernel_rfl) (fun _ _ _ _ h => h) ⟨(fun _ _ _ e ⟨b, A, n, c, h1, h2⟩ => ⟨b, A, n, c, h1, h2.ext e⟩), (fun _ _ _ e ⟨b, A, n, c, h1, h2⟩ => ⟨b, A, n, c, h1, h2.ext e⟩), Stays.pure _, (fun _ _ _ e ⟨b, A, n, c, h1, h2⟩ => ⟨b, A, n, c, h1, h2.ext e⟩), (fun _ _ _ e ⟨b, A, n, c, h1, h2⟩ => ⟨b, A, n, c, h1, h2.ext e⟩), (fun _ _ _ e ⟨b, A, n, c, h1, h2⟩ => ⟨b, A, n, c, h1, h2.ext e⟩), (fun _ _ _ e ⟨g, h1, h2, h3⟩ => ⟨g, h1, h2, h3.ext e⟩), True.intro⟩ ?steps ?done
          case steps =>
            simp only [List.take_succ_cons, List.take_zero]
            refine Steps.cons (fun (v : Value) (X : World) => ∃ b A n c, v = .agg #[.bool b, .slice A n c] ∧ ZV X (.agg #[.bool b, .slice A n c]) (vn)) [] rfl (by kernel_rfl) rfl (by kernel_rfl) (fun y X ex0 hf K hK => ?_) ?_
            · clear hf
              have ex := (Ext.drw (Ext.refl _)).trans ex0
              refine Box.mk ?_
              simp only [fill, Act.put, Nat.reduceAdd, List.setIfInBounds_toArray, List.set_cons_zero, List.set_cons_succ] at hK ⊢
              obtain ⟨bl, Al, nl, cl, k0, k1, kz⟩ := (I14.out.ext (by omega) ex)
              go_simp
              exact hK.out _ _ ⟨_, _, _, _, rfl, kz⟩ (Ext.refl _) (fun b hb => by cases hb)
            refine Steps.cons (fun (v : Value) (X : World) => ∃ b A n c, v = .agg #[.bool b, .slice A n c] ∧ ZV X (.agg #[.bool b, .slice A n c]) (vn)) [0] rfl (by kernel_rfl) rfl (by kernel_rfl) (fun y X ex0 hf K hK => ?_) ?_
            · have hh0 : ((fun (v : Value) (X : World) => ∃ b A n c, v = .agg #[.bool b, .slice A n c] ∧ ZV X (.agg #[.bool b, .slice A n c]) (vn))) (y 0) X := hf.1
              refine Exists.elim hh0 (fun b0 hx0_0 => ?_)
              refine Exists.elim hx0_0 (fun A0 hx0_1 => ?_)
              refine Exists.elim hx0_1 (fun n0 hx0_2 => ?_)
              refine Exists.elim hx0_2 (fun c0 hx0_3 => ?_)
              have h0 := hx0_3.1
              have z0 := hx0_3.2
              clear hh0 hx0_0 hx0_1 hx0_2 hx0_3
              clear hf
              have ex := (Ext.drw (Ext.refl _)).trans ex0
              refine Box.mk ?_
              simp only [fill, Act.put, Nat.reduceAdd, List.setIfInBounds_toArray, List.set_cons_zero, List.set_cons_succ, h0] at hK ⊢
              go_simp
              refine (asAgg ((of_any _ _ _ _ _).mono fun e w' ⟨he, hb⟩ => ⟨_, he, (z0).ext hb, hb⟩)).mono ?_
              rintro e V ⟨b9, A9, n9, c9, rfl, hz, hb⟩
              try go_wp2_with fail
              exact hK.out _ _ ⟨_, _, _, _, rfl, hz⟩ hb (fun b hb => by cases hb)
            refine Steps.cons (fun (v : Value) (_ : World) => v = .pointer (some ⟨w.heap.size, 2, none⟩)) [] rfl (by kernel_rfl) rfl (by kernel_rfl) (fun y X ex0 hf K hK => ?_) ?_
            · clear hf
              have ex := (Ext.drw (Ext.refl _)).trans ex0
              refine Box.mk ?_
              simp only [fill, Act.put, Nat.reduceAdd, List.setIfInBounds_toArray, List.set_cons_zero, List.set_cons_succ] at hK ⊢
              go_simp
              exact hK.out _ _ rfl (Ext.refl _) (fun b hb => by cases hb)
            refine Steps.cons (fun (v : Value) (X : World) => ∃ b A n c, v = .agg #[.bool b, .slice A n c] ∧ ZV X (.agg #[.bool b, .slice A n c]) (vb)) [2] rfl (by kernel_rfl) rfl (by kernel_rfl) (fun y X ex0 hf K hK => ?_) ?_
            · have h2 : ((fun (v : Value) (_ : World) => v = .pointer (some ⟨w.heap.size, 2, none⟩))) (y 2) X := hf.1
              clear hf
              have ex := (Ext.drw (Ext.refl _)).trans ex0
              refine Box.mk ?_
              simp only [fill, Act.put, Nat.reduceAdd, List.setIfInBounds_toArray, List.set_cons_zero, List.set_cons_succ, h2] at hK ⊢
              obtain ⟨bl, Al, nl, cl, k0, k1, kz⟩ := (GF.out.2.ext (by omega) ex)
              go_simp
              exact hK.out _ _ ⟨_, _, _, _, rfl, kz⟩ (Ext.refl _) (fun b hb => by cases hb)
            refine Steps.cons (fun (v : Value) (X : World) => ∃ b A n c, v = .agg #[.bool b, .slice A n c] ∧ ZV X (.agg #[.bool b, .slice A n c]) (vb)) [3, 1] rfl (by kernel_rfl) rfl (by kernel_rfl) (fun y X ex0 hf K hK => ?_) ?_
            · have hh3 : ((fun (v : Value) (X : World) => ∃ b A n c, v = .agg #[.bool b, .slice A n c] ∧ ZV X (.agg #[.bool b, .slice A n c]) (vb))) (y 3) X := hf.1
              refine Exists.elim hh3 (fun b3 hx3_0 => ?_)
              refine Exists.elim hx3_0 (fun A3 hx3_1 => ?_)
              refine Exists.elim hx3_1 (fun n3 hx3_2 => ?_)
              refine Exists.elim hx3_2 (fun c3 hx3_3 => ?_)
              have h3 := hx3_3.1
              have z3 := hx3_3.2
              clear hh3 hx3_0 hx3_1 hx3_2 hx3_3
              have hh1 : ((fun (v : Value) (X : World) => ∃ b A n c, v = .agg #[.bool b, .slice A n c] ∧ ZV X (.agg #[.bool b, .slice A n c]) (vn))) (y 1) X := hf.2.1
              refine Exists.elim hh1 (fun b1 hx1_0 => ?_)
              refine Exists.elim hx1_0 (fun A1 hx1_1 => ?_)
              refine Exists.elim hx1_1 (fun n1 hx1_2 => ?_)
              refine Exists.elim hx1_2 (fun c1 hx1_3 => ?_)
              have h1 := hx1_3.1
              have z1 := hx1_3.2
              clear hh1 hx1_0 hx1_1 hx1_2 hx1_3
              clear hf
              have ex := (Ext.drw (Ext.refl _)).trans ex0
              refine Box.mk ?_
              simp only [fill, Act.put, Nat.reduceAdd, List.setIfInBounds_toArray, List.set_cons_zero, List.set_cons_succ, h3, h1] at hK ⊢
              go_simp
              refine (asAgg ((of_any _ _ _ _ _).mono fun e w' ⟨he, hb⟩ => ⟨_, he, (z3).ext hb, hb⟩)).mono ?_
              rintro e V ⟨b9, A9, n9, c9, rfl, hz, hb⟩
              try go_wp2_with fail
              exact hK.out _ _ ⟨_, _, _, _, rfl, hz⟩ hb (fun b hb => by cases hb)
            refine Steps.cons (fun (v : Value) (X : World) => ∃ b A n c, v = .agg #[.bool b, .slice A n c] ∧ ZV X (.agg #[.bool b, .slice A n c]) (vn * vb)) [1, 4] rfl (by kernel_rfl) rfl (by kernel_rfl) (fun y X ex0 hf K hK => ?_) ?_
            · have hh1 : ((fun (v : Value) (X : World) => ∃ b A n c, v = .agg #[.bool b, .slice A n c] ∧ ZV X (.agg #[.bool b, .slice A n c]) (vn))) (y 1) X := hf.1
              refine Exists.elim hh1 (fun b1 hx1_0 => ?_)
              refine Exists.elim hx1_0 (fun A1 hx1_1 => ?_)
              refine Exists.elim hx1_1 (fun n1 hx1_2 => ?_)
              refine Exists.elim hx1_2 (fun c1 hx1_3 => ?_)
              have h1 := hx1_3.1
              have z1 := hx1_3.2
              clear hh1 hx1_0 hx1_1 hx1_2 hx1_3
              have hh4 : ((fun (v : Value) (X : World) => ∃ b A n c, v = .agg #[.bool b, .slice A n c] ∧ ZV X (.agg #[.bool b, .slice A n c]) (vb))) (y 4) X := hf.2.1
              refine Exists.elim hh4 (fun b4 hx4_0 => ?_)
              refine Exists.elim hx4_0 (fun A4 hx4_1 => ?_)
              refine Exists.elim hx4_1 (fun n4 hx4_2 => ?_)
              refine Exists.elim hx4_2 (fun c4 hx4_3 => ?_)
              have h4 := hx4_3.1
              have z4 := hx4_3.2
              clear hh4 hx4_0 hx4_1 hx4_2 hx4_3
              clear hf
              have ex := (Ext.drw (Ext.refl _)).trans ex0
              refine Box.mk ?_
              simp only [fill, Act.put, Nat.reduceAdd, List.setIfInBounds_toArray, List.set_cons_zero, List.set_cons_succ, h1, h4] at hK ⊢
              go_simp
              refine (asAgg (timesRZ_any _ _ _ _ _ z1 z4 (by omega) (by omega))).mono ?_
              rintro e V ⟨b9, A9, n9, c9, rfl, hz, hb⟩
              try go_wp2_with fail
              exact hK.out _ _ ⟨_, _, _, _, rfl, hz⟩ hb (fun b hb => by cases hb)
            refine Steps.cons (fun (v : Value) (X : World) => ∃ g, v = .pointer (some ⟨g, 0, none⟩) ∧ W5.heap.size ≤ g ∧ RB X g) [] rfl (by kernel_rfl) rfl (by kernel_rfl) (fun y X ex0 hf K hK => ?_) ?_
            · clear hf
              have ex := (Ext.drw (Ext.refl _)).trans ex0
              refine Box.mk ?_
              simp only [fill, Act.put, Nat.reduceAdd, List.setIfInBounds_toArray, List.set_cons_zero, List.set_cons_succ] at hK ⊢
              go_simp
              exact hK.out _ _ ⟨X.heap.size, rfl, ex.size, RB.c1 X false none 0 0 36⟩ (Ext.alc (Ext.refl X) (.cells #[.bool false, .slice none 0 0] 36)) (New.ptr (Nat.le_refl _) (by simp))
            exact Steps.nil
          case done =>
            intro y X ex hf hlt hsep
            have hh0 : ((fun (v : Value) (X : World) => ∃ b A n c, v = .agg #[.bool b, .slice A n c] ∧ ZV X (.agg #[.bool b, .slice A n c]) (vn))) (y 0) X := hf.1
            refine Exists.elim hh0 (fun b0 hx0_0 => ?_)
            refine Exists.elim hx0_0 (fun A0 hx0_1 => ?_)
            refine Exists.elim hx0_1 (fun n0 hx0_2 => ?_)
            refine Exists.elim hx0_2 (fun c0 hx0_3 => ?_)
            have h0 := hx0_3.1
            have z0 := hx0_3.2
            clear hh0 hx0_0 hx0_1 hx0_2 hx0_3
            have hh1 : ((fun (v : Value) (X : World) => ∃ b A n c, v = .agg #[.bool b, .slice A n c] ∧ ZV X (.agg #[.bool b, .slice A n c]) (vn))) (y 1) X := hf.2.1
            refine Exists.elim hh1 (fun b1 hx1_0 => ?_)
            refine Exists.elim hx1_0 (fun A1 hx1_1 => ?_)
            refine Exists.elim hx1_1 (fun n1 hx1_2 => ?_)
            refine Exists.elim hx1_2 (fun c1 hx1_3 => ?_)
            have h1 := hx1_3.1
            have z1 := hx1_3.2
            clear hh1 hx1_0 hx1_1 hx1_2 hx1_3
            have h2 : ((fun (v : Value) (_ : World) => v = .pointer (some ⟨w.heap.size, 2, none⟩))) (y 2) X := hf.2.2.1
            have hh3 : ((fun (v : Value) (X : World) => ∃ b A n c, v = .agg #[.bool b, .slice A n c] ∧ ZV X (.agg #[.bool b, .slice A n c]) (vb))) (y 3) X := hf.2.2.2.1
            refine Exists.elim hh3 (fun b3 hx3_0 => ?_)
            refine Exists.elim hx3_0 (fun A3 hx3_1 => ?_)
            refine Exists.elim hx3_1 (fun n3 hx3_2 => ?_)
            refine Exists.elim hx3_2 (fun c3 hx3_3 => ?_)
            have h3 := hx3_3.1
            have z3 := hx3_3.2
            clear hh3 hx3_0 hx3_1 hx3_2 hx3_3
            have hh4 : ((fun (v : Value) (X : World) => ∃ b A n c, v = .agg #[.bool b, .slice A n c] ∧ ZV X (.agg #[.bool b, .slice A n c]) (vb))) (y 4) X := hf.2.2.2.2.1
            refine Exists.elim hh4 (fun b4 hx4_0 => ?_)
            refine Exists.elim hx4_0 (fun A4 hx4_1 => ?_)
            refine Exists.elim hx4_1 (fun n4 hx4_2 => ?_)
            refine Exists.elim hx4_2 (fun c4 hx4_3 => ?_)
            have h4 := hx4_3.1
            have z4 := hx4_3.2
            clear hh4 hx4_0 hx4_1 hx4_2 hx4_3
            have hh5 : ((fun (v : Value) (X : World) => ∃ b A n c, v = .agg #[.bool b, .slice A n c] ∧ ZV X (.agg #[.bool b, .slice A n c]) (vn * vb))) (y 5) X := hf.2.2.2.2.2.1
            refine Exists.elim hh5 (fun b5 hx5_0 => ?_)
            refine Exists.elim hx5_0 (fun A5 hx5_1 => ?_)
            refine Exists.elim hx5_1 (fun n5 hx5_2 => ?_)
            refine Exists.elim hx5_2 (fun c5 hx5_3 => ?_)
            have h5 := hx5_3.1
            have z5 := hx5_3.2
            clear hh5 hx5_0 hx5_1 hx5_2 hx5_3
            have hh6 : ((fun (v : Value) (X : World) => ∃ g, v = .pointer (some ⟨g, 0, none⟩) ∧ W5.heap.size ≤ g ∧ RB X g)) (y 6) X := hf.2.2.2.2.2.2.1
            refine Exists.elim hh6 (fun g6 hx6_0 => ?_)
            have h6 := hx6_0.1
            have z6 := hx6_0.2.1
            have q6 := hx6_0.2.2
            clear hh6 hx6_0
            clear hf
            clear hsep hlt
            refine Box.mk ?_
            simp only [List.drop_succ_cons, List.drop_zero, fill, Act.put, Nat.reduceAdd, List.setIfInBounds_toArray, List.set_cons_zero, List.set_cons_succ, h0, h1, h2, h3, h4, h5, h6]
            clear h0 h1 h2 h3 h4 h5 h6
            obtain ⟨_, _, _, _, g30, g31, g32, g33⟩ := q6.facts
            obtain ⟨W6, hW6⟩ : ∃ W6, W6 = (X.setCell ⟨g6, 0, none⟩ (.bool b5)).setCell ⟨g6, 1, none⟩ (.slice A5 n5 c5) := ⟨_, rfl⟩
            have i15 : HZ W6 g6 (vn * vb) := by rw [hW6]; exact HZ.put q6 z5
            have gf := GF.out.ext ex
            have gf6 : HF W6 w.heap.size va vb := by rw [hW6]; exact gf.farF q6 (by have := z6; omega) _ _
            have e6 : Ext w W6 := by rw [hW6]; exact below_set2 (Ext.below (E5.out.trans ex)) (by have := E5.out.size; omega) _ _
            have IS := Lib.hid i15; have GF := Lib.hid gf6; have E6 := Lib.hid e6; have HW6 := Lib.hid hW6
            clear i15 gf gf6 e6 hW6 ex z0 z1 z3 z4 z5 q6 I14 E5
            go_wp2_with fail
            refine NoPanic.normal ?_
            go_upto_region 16 with fail
            rw [← HW6.out]
            clear g30 g31 g32 g33 HW6
            have lgf := GF.out.lt; have lis := IS.out.lt
            have lvl : (dig (vn * vb).natAbs).length ≤ 512 := len_times LL.out.2.2 LL.out.2.1
            obtain ⟨vl, hvl⟩ : ∃ vl, vl = vn * vb := ⟨_, rfl⟩
            rw [← hvl] at IS lvl
            have hfl := HFL.out
            rw [← hvl] at hfl
            have lvs : (dig (vl + vb).natAbs).length ≤ 513 := len_addZ (by omega) (by omega)
            obtain ⟨so1, hso1⟩ : ∃ s, s = (vl - va).sign := ⟨_, rfl⟩
            obtain ⟨so2, hso2⟩ : ∃ s, s = (vl + vb - va).sign := ⟨_, rfl⟩
            have hs1 : decide (so1 ≤ 0) = true := by rw [hso1]; exact sign_le (by omega)
            have hs2 : decide (0 < so2) = true := by rw [hso2, Int.sign_eq_one_of_pos (by omega)]; decide
            have O1 := Lib.hid (show ∀ W a b, ZV W a vl → ZV W b va → Calls Try.prog 16 #[a, b] W fun e w' => e = .returned (.int .i64 so1) ∧ Ext W w' from fun W a b h k => by rw [hso1]; exact orderRZ_any vl va a b W h k (by omega) (by omega))
            have O2 := Lib.hid (show ∀ W a b, ZV W a (vl + vb) → ZV W b va → Calls Try.prog 16 #[a, b] W fun e w' => e = .returned (.int .i64 so2) ∧ Ext W w' from fun W a b h k => by rw [hso2]; exact orderRZ_any (vl + vb) va a b W h k (by omega) (by omega))
            clear hvl hfl hso1 hso2
            refine wp_region_noPanic ?_
            refine wp_pool 21 [some 116, some 117, some 118, some 119, some 120, some 121, some 122, some 123, some 124, some 125, some 126, some 127, some 128, some 129, some 130, some 131, some 132, some 133, some 134, some 135, some 136] [] [] [(fun (v : Value) (X : World) => ∃ b A n c, v = .agg #[.bool b, .slice A n c] ∧ ZV X (.agg #[.bool b, .slice A n c]) (vl)), (fun (v : Value) (_ : World) => v = .pointer (some ⟨w.heap.size, 0, none⟩)), (fun (v : Value) (X : World) => ∃ b A n c, v = .agg #[.bool b, .slice A n c] ∧ ZV X (.agg #[.bool b, .slice A n c]) (va)), (fun (v : Value) (X : World) => ∃ b A n c, v = .agg #[.bool b, .slice A n c] ∧ ZV X (.agg #[.bool b, .slice A n c]) (va)), (fun (v : Value) (_ : World) => v = .int .i64 (so1)), (fun (v : Value) (_ : World) => v = .bool true), (fun (v : Value) (_ : World) => v = .bool true), (fun (v : Value) (X : World) => ∃ b A n c, v = .agg #[.bool b, .slice A n c] ∧ ZV X (.agg #[.bool b, .slice A n c]) (vl)), (fun (v : Value) (_ : World) => v = .pointer (some ⟨w.heap.size, 2, none⟩)), (fun (v : Value) (X : World) => ∃ b A n c, v = .agg #[.bool b, .slice A n c] ∧ ZV X (.agg #[.bool b, .slice A n c]) (vb)), (fun (v : Value) (X : World) => ∃ b A n c, v = .agg #[.bool b, .slice A n c] ∧ ZV X (.agg #[.bool b, .slice A n c]) (vb)), (fun (v : Value) (X : World) => ∃ b A n c, v = .agg #[.bool b, .slice A n c] ∧ ZV X (.agg #[.bool b, .slice A n c]) (vl + vb)), (fun (v : Value) (_ : World) => v = .pointer (some ⟨w.heap.size, 0, none⟩)), (fun (v : Value) (X : World) => ∃ b A n c, v = .agg #[.bool b, .slice A n c] ∧ ZV X (.agg #[.bool b, .slice A n c]) (va)), (fun (v : Value) (X : World) => ∃ b A n c, v = .agg #[.bool b, .slice A n c] ∧ ZV X (.agg #[.bool b, .slice A n c]) (va)), (fun (v : Value) (_ : World) => v = .int .i64 (so2)), (fun (v : Value) (_ : World) => v = .bool true), (fun (v : Value) (_ : World) => v = .bool true), (fun (v : Value) (_ : World) => v = .bool true), (fun (v : Value) (_ : World) => v = .bool true), (fun (v : Value) (_ : World) => v = .bool true)] [noF, noF, noF, noF, noF, noF, noF, noF, noF, noF, noF, noF, noF, noF, noF, noF, noF, noF, noF, noF, noF] (by kernel_rfl) (by kernel_rfl) (by kernel_rfl) (by kernel_rfl) (by kernel_rfl) (by kernel_rfl) (by kernel_rfl) (by kernel_rfl) (fun _ _ _ _ h => h) ⟨(fun _ _ _ e ⟨b, A, n, c, h1, h2⟩ => ⟨b, A, n, c, h1, h2.ext e⟩), Stays.pure _, (fun _ _ _ e ⟨b, A, n, c, h1, h2⟩ => ⟨b, A, n, c, h1, h2.ext e⟩), (fun _ _ _ e ⟨b, A, n, c, h1, h2⟩ => ⟨b, A, n, c, h1, h2.ext e⟩), Stays.pure _, Stays.pure _, Stays.pure _, (fun _ _ _ e ⟨b, A, n, c, h1, h2⟩ => ⟨b, A, n, c, h1, h2.ext e⟩), Stays.pure _, (fun _ _ _ e ⟨b, A, n, c, h1, h2⟩ => ⟨b, A, n, c, h1, h2.ext e⟩), (fun _ _ _ e ⟨b, A, n, c, h1, h2⟩ => ⟨b, A, n, c, h1, h2.ext e⟩), (fun _ _ _ e ⟨b, A, n, c, h1, h2⟩ => ⟨b, A, n, c, h1, h2.ext e⟩), Stays.pure _, (fun _ _ _ e ⟨b, A, n, c, h1, h2⟩ => ⟨b, A, n, c, h1, h2.ext e⟩), (fun _ _ _ e ⟨b, A, n, c, h1, h2⟩ => ⟨b, A, n, c, h1, h2.ext e⟩), Stays.pure _, Stays.pure _, Stays.pure _, Stays.pure _, Stays.pure _, Stays.pure _, True.intro⟩ ?steps ?done
            case steps =>
              simp only [List.take_succ_cons, List.take_zero]
              refine Steps.cons (fun (v : Value) (X : World) => ∃ b A n c, v = .agg #[.bool b, .slice A n c] ∧ ZV X (.agg #[.bool b, .slice A n c]) (vl)) [] rfl (by kernel_rfl) rfl (by kernel_rfl) (fun y X ex0 hf K hK => ?_) ?_
              · clear hf
                have ex := (Ext.drw (Ext.refl _)).trans ex0
                refine Box.mk ?_
                simp only [fill, Act.put, Nat.reduceAdd, List.setIfInBounds_toArray, List.set_cons_zero, List.set_cons_succ] at hK ⊢
                obtain ⟨bl, Al, nl, cl, k0, k1, kz⟩ := (IS.out.ext (by omega) ex)
                go_simp
                exact hK.out _ _ ⟨_, _, _, _, rfl, kz⟩ (Ext.refl _) (fun b hb => by cases hb)
              refine Steps.cons (fun (v : Value) (_ : World) => v = .pointer (some ⟨w.heap.size, 0, none⟩)) [] rfl (by kernel_rfl) rfl (by kernel_rfl) (fun y X ex0 hf K hK => ?_) ?_
              · clear hf
                have ex := (Ext.drw (Ext.refl _)).trans ex0
                refine Box.mk ?_
                simp only [fill, Act.put, Nat.reduceAdd, List.setIfInBounds_toArray, List.set_cons_zero, List.set_cons_succ] at hK ⊢
                go_simp
                exact hK.out _ _ rfl (Ext.refl _) (fun b hb => by cases hb)
              refine Steps.cons (fun (v : Value) (X : World) => ∃ b A n c, v = .agg #[.bool b, .slice A n c] ∧ ZV X (.agg #[.bool b, .slice A n c]) (va)) [1] rfl (by kernel_rfl) rfl (by kernel_rfl) (fun y X ex0 hf K hK => ?_) ?_
              · have h1 : ((fun (v : Value) (_ : World) => v = .pointer (some ⟨w.heap.size, 0, none⟩))) (y 1) X := hf.1
                clear hf
                have ex := (Ext.drw (Ext.refl _)).trans ex0
                refine Box.mk ?_
                simp only [fill, Act.put, Nat.reduceAdd, List.setIfInBounds_toArray, List.set_cons_zero, List.set_cons_succ, h1] at hK ⊢
                obtain ⟨bl, Al, nl, cl, k0, k1, kz⟩ := (GF.out.1.ext (by omega) ex)
                go_simp
                exact hK.out _ _ ⟨_, _, _, _, rfl, kz⟩ (Ext.refl _) (fun b hb => by cases hb)
              refine Steps.cons (fun (v : Value) (X : World) => ∃ b A n c, v = .agg #[.bool b, .slice A n c] ∧ ZV X (.agg #[.bool b, .slice A n c]) (va)) [2] rfl (by kernel_rfl) rfl (by kernel_rfl) (fun y X ex0 hf K hK => ?_) ?_
              · have hh2 : ((fun (v : Value) (X : World) => ∃ b A n c, v = .agg #[.bool b, .slice A n c] ∧ ZV X (.agg #[.bool b, .slice A n c]) (va))) (y 2) X := hf.1
                refine Exists.elim hh2 (fun b2 hx2_0 => ?_)
                refine Exists.elim hx2_0 (fun A2 hx2_1 => ?_)
                refine Exists.elim hx2_1 (fun n2 hx2_2 => ?_)
                refine Exists.elim hx2_2 (fun c2 hx2_3 => ?_)
                have h2 := hx2_3.1
                have z2 := hx2_3.2
                clear hh2 hx2_0 hx2_1 hx2_2 hx2_3
                clear hf
                have ex := (Ext.drw (Ext.refl _)).trans ex0
                refine Box.mk ?_
                simp only [fill, Act.put, Nat.reduceAdd, List.setIfInBounds_toArray, List.set_cons_zero, List.set_cons_succ, h2] at hK ⊢
                go_simp
                refine (asAgg ((of_any _ _ _ _ _).mono fun e w' ⟨he, hb⟩ => ⟨_, he, (z2).ext hb, hb⟩)).mono ?_
                rintro e V ⟨b9, A9, n9, c9, rfl, hz, hb⟩
                try go_wp2_with fail
                exact hK.out _ _ ⟨_, _, _, _, rfl, hz⟩ hb (fun b hb => by cases hb)
              refine Steps.cons (fun (v : Value) (_ : World) => v = .int .i64 (so1)) [0, 3] rfl (by kernel_rfl) rfl (by kernel_rfl) (fun y X ex0 hf K hK => ?_) ?_
              · have hh0 : ((fun (v : Value) (X : World) => ∃ b A n c, v = .agg #[.bool b, .slice A n c] ∧ ZV X (.agg #[.bool b, .slice A n c]) (vl))) (y 0) X := hf.1
                refine Exists.elim hh0 (fun b0 hx0_0 => ?_)
                refine Exists.elim hx0_0 (fun A0 hx0_1 => ?_)
                refine Exists.elim hx0_1 (fun n0 hx0_2 => ?_)
                refine Exists.elim hx0_2 (fun c0 hx0_3 => ?_)
                have h0 := hx0_3.1
                have z0 := hx0_3.2
                clear hh0 hx0_0 hx0_1 hx0_2 hx0_3
                have hh3 : ((fun (v : Value) (X : World) => ∃ b A n c, v = .agg #[.bool b, .slice A n c] ∧ ZV X (.agg #[.bool b, .slice A n c]) (va))) (y 3) X := hf.2.1
                refine Exists.elim hh3 (fun b3 hx3_0 => ?_)
                refine Exists.elim hx3_0 (fun A3 hx3_1 => ?_)
                refine Exists.elim hx3_1 (fun n3 hx3_2 => ?_)
                refine Exists.elim hx3_2 (fun c3 hx3_3 => ?_)
                have h3 := hx3_3.1
                have z3 := hx3_3.2
                clear hh3 hx3_0 hx3_1 hx3_2 hx3_3
                clear hf
                have ex := (Ext.drw (Ext.refl _)).trans ex0
                refine Box.mk ?_
                simp only [fill, Act.put, Nat.reduceAdd, List.setIfInBounds_toArray, List.set_cons_zero, List.set_cons_succ, h0, h3] at hK ⊢
                go_simp
                refine (O1.out _ _ _ z0 z3).mono ?_
                rintro e V ⟨rfl, hb⟩
                try go_wp2_with fail
                exact hK.out _ _ rfl hb (fun b hb => by cases hb)
              refine Steps.cons (fun (v : Value) (_ : World) => v = .bool true) [4] rfl (by kernel_rfl) rfl (by kernel_rfl) (fun y X ex0 hf K hK => ?_) ?_
              · have h4 : ((fun (v : Value) (_ : World) => v = .int .i64 (so1))) (y 4) X := hf.1
                clear hf
                have ex := (Ext.drw (Ext.refl _)).trans ex0
                refine Box.mk ?_
                simp only [fill, Act.put, Nat.reduceAdd, List.setIfInBounds_toArray, List.set_cons_zero, List.set_cons_succ, h4] at hK ⊢
                go_simp
                try rw [hs1]
                exact hK.out _ _ rfl (Ext.refl _) (fun b hb => by cases hb)
              refine Steps.cons (fun (v : Value) (_ : World) => v = .bool true) [5, 4] rfl (by kernel_rfl) rfl (by kernel_rfl) (fun y X ex0 hf K hK => ?_) ?_
              · have h5 : ((fun (v : Value) (_ : World) => v = .bool true)) (y 5) X := hf.1
                have h4 : ((fun (v : Value) (_ : World) => v = .int .i64 (so1))) (y 4) X := hf.2.1
                clear hf
                have ex := (Ext.drw (Ext.refl _)).trans ex0
                refine Box.mk ?_
                simp only [fill, Act.put, Nat.reduceAdd, List.setIfInBounds_toArray, List.set_cons_zero, List.set_cons_succ, h5, h4] at hK ⊢
                go_simp
                exact hK.out _ _ rfl (Ext.refl _) (fun b hb => by cases hb)
              refine Steps.cons (fun (v : Value) (X : World) => ∃ b A n c, v = .agg #[.bool b, .slice A n c] ∧ ZV X (.agg #[.bool b, .slice A n c]) (vl)) [6] rfl (by kernel_rfl) rfl (by kernel_rfl) (fun y X ex0 hf K hK => ?_) ?_
              · have h6 : ((fun (v : Value) (_ : World) => v = .bool true)) (y 6) X := hf.1
                clear hf
                have ex := (Ext.drw (Ext.refl _)).trans ex0
                refine Box.mk ?_
                simp only [fill, Act.put, Nat.reduceAdd, List.setIfInBounds_toArray, List.set_cons_zero, List.set_cons_succ, h6] at hK ⊢
                obtain ⟨bl, Al, nl, cl, k0, k1, kz⟩ := (IS.out.ext (by omega) ex)
                go_simp
                exact hK.out _ _ ⟨_, _, _, _, rfl, kz⟩ (Ext.refl _) (fun b hb => by cases hb)
              refine Steps.cons (fun (v : Value) (_ : World) => v = .pointer (some ⟨w.heap.size, 2, none⟩)) [6] rfl (by kernel_rfl) rfl (by kernel_rfl) (fun y X ex0 hf K hK => ?_) ?_
              · have h6 : ((fun (v : Value) (_ : World) => v = .bool true)) (y 6) X := hf.1
                clear hf
                have ex := (Ext.drw (Ext.refl _)).trans ex0
                refine Box.mk ?_
                simp only [fill, Act.put, Nat.reduceAdd, List.setIfInBounds_toArray, List.set_cons_zero, List.set_cons_succ, h6] at hK ⊢
                go_simp
                exact hK.out _ _ rfl (Ext.refl _) (fun b hb => by cases hb)
              refine Steps.cons (fun (v : Value) (X : World) => ∃ b A n c, v = .agg #[.bool b, .slice A n c] ∧ ZV X (.agg #[.bool b, .slice A n c]) (vb)) [8, 6] rfl (by kernel_rfl) rfl (by kernel_rfl) (fun y X ex0 hf K hK => ?_) ?_
              · have h8 : ((fun (v : Value) (_ : World) => v = .pointer (some ⟨w.heap.size, 2, none⟩))) (y 8) X := hf.1
                have h6 : ((fun (v : Value) (_ : World) => v = .bool true)) (y 6) X := hf.2.1
                clear hf
                have ex := (Ext.drw (Ext.refl _)).trans ex0
                refine Box.mk ?_
                simp only [fill, Act.put, Nat.reduceAdd, List.setIfInBounds_toArray, List.set_cons_zero, List.set_cons_succ, h8, h6] at hK ⊢
                obtain ⟨bl, Al, nl, cl, k0, k1, kz⟩ := (GF.out.2.ext (by omega) ex)
                go_simp
                exact hK.out _ _ ⟨_, _, _, _, rfl, kz⟩ (Ext.refl _) (fun b hb => by cases hb)
              refine Steps.cons (fun (v : Value) (X : World) => ∃ b A n c, v = .agg #[.bool b, .slice A n c] ∧ ZV X (.agg #[.bool b, .slice A n c]) (vb)) [9, 6] rfl (by kernel_rfl) rfl (by kernel_rfl) (fun y X ex0 hf K hK => ?_) ?_
              · have hh9 : ((fun (v : Value) (X : World) => ∃ b A n c, v = .agg #[.bool b, .slice A n c] ∧ ZV X (.agg #[.bool b, .slice A n c]) (vb))) (y 9) X := hf.1
                refine Exists.elim hh9 (fun b9 hx9_0 => ?_)
                refine Exists.elim hx9_0 (fun A9 hx9_1 => ?_)
                refine Exists.elim hx9_1 (fun n9 hx9_2 => ?_)
                refine Exists.elim hx9_2 (fun c9 hx9_3 => ?_)
                have h9 := hx9_3.1
                have z9 := hx9_3.2
                clear hh9 hx9_0 hx9_1 hx9_2 hx9_3
                have h6 : ((fun (v : Value) (_ : World) => v = .bool true)) (y 6) X := hf.2.1
                clear hf
                have ex := (Ext.drw (Ext.refl _)).trans ex0
                refine Box.mk ?_
                simp only [fill, Act.put, Nat.reduceAdd, List.setIfInBounds_toArray, List.set_cons_zero, List.set_cons_succ, h9, h6] at hK ⊢
                go_simp
                refine (asAgg ((of_any _ _ _ _ _).mono fun e w' ⟨he, hb⟩ => ⟨_, he, (z9).ext hb, hb⟩)).mono ?_
                rintro e V ⟨b9, A9, n9, c9, rfl, hz, hb⟩
                try go_wp2_with fail
                exact hK.out _ _ ⟨_, _, _, _, rfl, hz⟩ hb (fun b hb => by cases hb)
              refine Steps.cons (fun (v : Value) (X : World) => ∃ b A n c, v = .agg #[.bool b, .slice A n c] ∧ ZV X (.agg #[.bool b, .slice A n c]) (vl + vb)) [7, 10, 6] rfl (by kernel_rfl) rfl (by kernel_rfl) (fun y X ex0 hf K hK => ?_) ?_
              · have hh7 : ((fun (v : Value) (X : World) => ∃ b A n c, v = .agg #[.bool b, .slice A n c] ∧ ZV X (.agg #[.bool b, .slice A n c]) (vl))) (y 7) X := hf.1
                refine Exists.elim hh7 (fun b7 hx7_0 => ?_)
                refine Exists.elim hx7_0 (fun A7 hx7_1 => ?_)
                refine Exists.elim hx7_1 (fun n7 hx7_2 => ?_)
                refine Exists.elim hx7_2 (fun c7 hx7_3 => ?_)
                have h7 := hx7_3.1
                have z7 := hx7_3.2
                clear hh7 hx7_0 hx7_1 hx7_2 hx7_3
                have hh10 : ((fun (v : Value) (X : World) => ∃ b A n c, v = .agg #[.bool b, .slice A n c] ∧ ZV X (.agg #[.bool b, .slice A n c]) (vb))) (y 10) X := hf.2.1
                refine Exists.elim hh10 (fun b10 hx10_0 => ?_)
                refine Exists.elim hx10_0 (fun A10 hx10_1 => ?_)
                refine Exists.elim hx10_1 (fun n10 hx10_2 => ?_)
                refine Exists.elim hx10_2 (fun c10 hx10_3 => ?_)
                have h10 := hx10_3.1
                have z10 := hx10_3.2
                clear hh10 hx10_0 hx10_1 hx10_2 hx10_3
                have h6 : ((fun (v : Value) (_ : World) => v = .bool true)) (y 6) X := hf.2.2.1
                clear hf
                have ex := (Ext.drw (Ext.refl _)).trans ex0
                refine Box.mk ?_
                simp only [fill, Act.put, Nat.reduceAdd, List.setIfInBounds_toArray, List.set_cons_zero, List.set_cons_succ, h7, h10, h6] at hK ⊢
                go_simp
                refine (asAgg (plusRZ_any _ _ _ _ _ z7 z10 (by omega) (by omega))).mono ?_
                rintro e V ⟨b9, A9, n9, c9, rfl, hz, hb⟩
                try go_wp2_with fail
                exact hK.out _ _ ⟨_, _, _, _, rfl, hz⟩ hb (fun b hb => by cases hb)
              refine Steps.cons (fun (v : Value) (_ : World) => v = .pointer (some ⟨w.heap.size, 0, none⟩)) [6] rfl (by kernel_rfl) rfl (by kernel_rfl) (fun y X ex0 hf K hK => ?_) ?_
              · have h6 : ((fun (v : Value) (_ : World) => v = .bool true)) (y 6) X := hf.1
                clear hf
                have ex := (Ext.drw (Ext.refl _)).trans ex0
                refine Box.mk ?_
                simp only [fill, Act.put, Nat.reduceAdd, List.setIfInBounds_toArray, List.set_cons_zero, List.set_cons_succ, h6] at hK ⊢
                go_simp
                exact hK.out _ _ rfl (Ext.refl _) (fun b hb => by cases hb)
              refine Steps.cons (fun (v : Value) (X : World) => ∃ b A n c, v = .agg #[.bool b, .slice A n c] ∧ ZV X (.agg #[.bool b, .slice A n c]) (va)) [12, 6] rfl (by kernel_rfl) rfl (by kernel_rfl) (fun y X ex0 hf K hK => ?_) ?_
              · have h12 : ((fun (v : Value) (_ : World) => v = .pointer (some ⟨w.heap.size, 0, none⟩))) (y 12) X := hf.1
                have h6 : ((fun (v : Value) (_ : World) => v = .bool true)) (y 6) X := hf.2.1
                clear hf
                have ex := (Ext.drw (Ext.refl _)).trans ex0
                refine Box.mk ?_
                simp only [fill, Act.put, Nat.reduceAdd, List.setIfInBounds_toArray, List.set_cons_zero, List.set_cons_succ, h12, h6] at hK ⊢
                obtain ⟨bl, Al, nl, cl, k0, k1, kz⟩ := (GF.out.1.ext (by omega) ex)
                go_simp
                exact hK.out _ _ ⟨_, _, _, _, rfl, kz⟩ (Ext.refl _) (fun b hb => by cases hb)
              refine Steps.cons (fun (v : Value) (X : World) => ∃ b A n c, v = .agg #[.bool b, .slice A n c] ∧ ZV X (.agg #[.bool b, .slice A n c]) (va)) [13, 11, 6] rfl (by kernel_rfl) rfl (by kernel_rfl) (fun y X ex0 hf K hK => ?_) ?_
              · have hh13 : ((fun (v : Value) (X : World) => ∃ b A n c, v = .agg #[.bool b, .slice A n c] ∧ ZV X (.agg #[.bool b, .slice A n c]) (va))) (y 13) X := hf.1
                refine Exists.elim hh13 (fun b13 hx13_0 => ?_)
                refine Exists.elim hx13_0 (fun A13 hx13_1 => ?_)
                refine Exists.elim hx13_1 (fun n13 hx13_2 => ?_)
                refine Exists.elim hx13_2 (fun c13 hx13_3 => ?_)
                have h13 := hx13_3.1
                have z13 := hx13_3.2
                clear hh13 hx13_0 hx13_1 hx13_2 hx13_3
                have hh11 : ((fun (v : Value) (X : World) => ∃ b A n c, v = .agg #[.bool b, .slice A n c] ∧ ZV X (.agg #[.bool b, .slice A n c]) (vl + vb))) (y 11) X := hf.2.1
                refine Exists.elim hh11 (fun b11 hx11_0 => ?_)
                refine Exists.elim hx11_0 (fun A11 hx11_1 => ?_)
                refine Exists.elim hx11_1 (fun n11 hx11_2 => ?_)
                refine Exists.elim hx11_2 (fun c11 hx11_3 => ?_)
                have h11 := hx11_3.1
                have z11 := hx11_3.2
                clear hh11 hx11_0 hx11_1 hx11_2 hx11_3
                have h6 : ((fun (v : Value) (_ : World) => v = .bool true)) (y 6) X := hf.2.2.1
                clear hf
                have ex := (Ext.drw (Ext.refl _)).trans ex0
                refine Box.mk ?_
                simp only [fill, Act.put, Nat.reduceAdd, List.setIfInBounds_toArray, List.set_cons_zero, List.set_cons_succ, h13, h11, h6] at hK ⊢
                go_simp
                refine (asAgg ((of_any _ _ _ _ _).mono fun e w' ⟨he, hb⟩ => ⟨_, he, (z13).ext hb, hb⟩)).mono ?_
                rintro e V ⟨b9, A9, n9, c9, rfl, hz, hb⟩
                try go_wp2_with fail
                exact hK.out _ _ ⟨_, _, _, _, rfl, hz⟩ hb (fun b hb => by cases hb)
              refine Steps.cons (fun (v : Value) (_ : World) => v = .int .i64 (so2)) [11, 14, 6] rfl (by kernel_rfl) rfl (by kernel_rfl) (fun y X ex0 hf K hK => ?_) ?_
              · have hh11 : ((fun (v : Value) (X : World) => ∃ b A n c, v = .agg #[.bool b, .slice A n c] ∧ ZV X (.agg #[.bool b, .slice A n c]) (vl + vb))) (y 11) X := hf.1
                refine Exists.elim hh11 (fun b11 hx11_0 => ?_)
                refine Exists.elim hx11_0 (fun A11 hx11_1 => ?_)
                refine Exists.elim hx11_1 (fun n11 hx11_2 => ?_)
                refine Exists.elim hx11_2 (fun c11 hx11_3 => ?_)
                have h11 := hx11_3.1
                have z11 := hx11_3.2
                clear hh11 hx11_0 hx11_1 hx11_2 hx11_3
                have hh14 : ((fun (v : Value) (X : World) => ∃ b A n c, v = .agg #[.bool b, .slice A n c] ∧ ZV X (.agg #[.bool b, .slice A n c]) (va))) (y 14) X := hf.2.1
                refine Exists.elim hh14 (fun b14 hx14_0 => ?_)
                refine Exists.elim hx14_0 (fun A14 hx14_1 => ?_)
                refine Exists.elim hx14_1 (fun n14 hx14_2 => ?_)
                refine Exists.elim hx14_2 (fun c14 hx14_3 => ?_)
                have h14 := hx14_3.1
                have z14 := hx14_3.2
                clear hh14 hx14_0 hx14_1 hx14_2 hx14_3
                have h6 : ((fun (v : Value) (_ : World) => v = .bool true)) (y 6) X := hf.2.2.1
                clear hf
                have ex := (Ext.drw (Ext.refl _)).trans ex0
                refine Box.mk ?_
                simp only [fill, Act.put, Nat.reduceAdd, List.setIfInBounds_toArray, List.set_cons_zero, List.set_cons_succ, h11, h14, h6] at hK ⊢
                go_simp
                refine (O2.out _ _ _ z11 z14).mono ?_
                rintro e V ⟨rfl, hb⟩
                try go_wp2_with fail
                exact hK.out _ _ rfl hb (fun b hb => by cases hb)
              refine Steps.cons (fun (v : Value) (_ : World) => v = .bool true) [15, 6] rfl (by kernel_rfl) rfl (by kernel_rfl) (fun y X ex0 hf K hK => ?_) ?_
              · have h15 : ((fun (v : Value) (_ : World) => v = .int .i64 (so2))) (y 15) X := hf.1
                have h6 : ((fun (v : Value) (_ : World) => v = .bool true)) (y 6) X := hf.2.1
                clear hf
                have ex := (Ext.drw (Ext.refl _)).trans ex0
                refine Box.mk ?_
                simp only [fill, Act.put, Nat.reduceAdd, List.setIfInBounds_toArray, List.set_cons_zero, List.set_cons_succ, h15, h6] at hK ⊢
                go_simp
                try rw [hs2]
                exact hK.out _ _ rfl (Ext.refl _) (fun b hb => by cases hb)
              refine Steps.cons (fun (v : Value) (_ : World) => v = .bool true) [6, 16] rfl (by kernel_rfl) rfl (by kernel_rfl) (fun y X ex0 hf K hK => ?_) ?_
              · have h6 : ((fun (v : Value) (_ : World) => v = .bool true)) (y 6) X := hf.1
                have h16 : ((fun (v : Value) (_ : World) => v = .bool true)) (y 16) X := hf.2.1
                clear hf
                have ex := (Ext.drw (Ext.refl _)).trans ex0
                refine Box.mk ?_
                simp only [fill, Act.put, Nat.reduceAdd, List.setIfInBounds_toArray, List.set_cons_zero, List.set_cons_succ, h6, h16] at hK ⊢
                go_simp
                exact hK.out _ _ rfl (Ext.refl _) (fun b hb => by cases hb)
              refine Steps.cons (fun (v : Value) (_ : World) => v = .bool true) [17, 15] rfl (by kernel_rfl) rfl (by kernel_rfl) (fun y X ex0 hf K hK => ?_) ?_
              · have h17 : ((fun (v : Value) (_ : World) => v = .bool true)) (y 17) X := hf.1
                have h15 : ((fun (v : Value) (_ : World) => v = .int .i64 (so2))) (y 15) X := hf.2.1
                clear hf
                have ex := (Ext.drw (Ext.refl _)).trans ex0
                refine Box.mk ?_
                simp only [fill, Act.put, Nat.reduceAdd, List.setIfInBounds_toArray, List.set_cons_zero, List.set_cons_succ, h17, h15] at hK ⊢
                go_simp
                exact hK.out _ _ rfl (Ext.refl _) (fun b hb => by cases hb)
              refine Steps.cons (fun (v : Value) (_ : World) => v = .bool true) [18] rfl (by kernel_rfl) rfl (by kernel_rfl) (fun y X ex0 hf K hK => ?_) ?_
              · have h18 : ((fun (v : Value) (_ : World) => v = .bool true)) (y 18) X := hf.1
                clear hf
                have ex := (Ext.drw (Ext.refl _)).trans ex0
                refine Box.mk ?_
                simp only [fill, Act.put, Nat.reduceAdd, List.setIfInBounds_toArray, List.set_cons_zero, List.set_cons_succ, h18] at hK ⊢
                go_simp
                refine (awake_any _).mono ?_
                rintro e V ⟨rfl, hb⟩
                try go_wp2_with fail
                exact hK.out _ _ rfl hb (fun b hb => by cases hb)
              refine Steps.cons (fun (v : Value) (_ : World) => v = .bool true) [18, 19] rfl (by kernel_rfl) rfl (by kernel_rfl) (fun y X ex0 hf K hK => ?_) ?_
              · have h18 : ((fun (v : Value) (_ : World) => v = .bool true)) (y 18) X := hf.1
                have h19 : ((fun (v : Value) (_ : World) => v = .bool true)) (y 19) X := hf.2.1
                clear hf
                have ex := (Ext.drw (Ext.refl _)).trans ex0
                refine Box.mk ?_
                simp only [fill, Act.put, Nat.reduceAdd, List.setIfInBounds_toArray, List.set_cons_zero, List.set_cons_succ, h18, h19] at hK ⊢
                go_simp
                exact hK.out _ _ rfl (Ext.refl _) (fun b hb => by cases hb)
              exact Steps.nil
            case done =>
              intro y X ex hf hlt hsep
              have hh0 : ((fun (v : Value) (X : World) => ∃ b A n c, v = .agg #[.bool b, .slice A n c] ∧ ZV X (.agg #[.bool b, .slice A n c]) (vl))) (y 0) X := hf.1
              refine Exists.elim hh0 (fun b0 hx0_0 => ?_)
              refine Exists.elim hx0_0 (fun A0 hx0_1 => ?_)
              refine Exists.elim hx0_1 (fun n0 hx0_2 => ?_)
              refine Exists.elim hx0_2 (fun c0 hx0_3 => ?_)
              have h0 := hx0_3.1
              have z0 := hx0_3.2
              clear hh0 hx0_0 hx0_1 hx0_2 hx0_3
              have h1 : ((fun (v : Value) (_ : World) => v = .pointer (some ⟨w.heap.size, 0, none⟩))) (y 1) X := hf.2.1
              have hh2 : ((fun (v : Value) (X : World) => ∃ b A n c, v = .agg #[.bool b, .slice A n c] ∧ ZV X (.agg #[.bool b, .slice A n c]) (va))) (y 2) X := hf.2.2.1
              refine Exists.elim hh2 (fun b2 hx2_0 => ?_)
              refine Exists.elim hx2_0 (fun A2 hx2_1 => ?_)
              refine Exists.elim hx2_1 (fun n2 hx2_2 => ?_)
              refine Exists.elim hx2_2 (fun c2 hx2_3 => ?_)
              have h2 := hx2_3.1
              have z2 := hx2_3.2
              clear hh2 hx2_0 hx2_1 hx2_2 hx2_3
              have hh3 : ((fun (v : Value) (X : World) => ∃ b A n c, v = .agg #[.bool b, .slice A n c] ∧ ZV X (.agg #[.bool b, .slice A n c]) (va))) (y 3) X := hf.2.2.2.1
              refine Exists.elim hh3 (fun b3 hx3_0 => ?_)
              refine Exists.elim hx3_0 (fun A3 hx3_1 => ?_)
              refine Exists.elim hx3_1 (fun n3 hx3_2 => ?_)
              refine Exists.elim hx3_2 (fun c3 hx3_3 => ?_)
              have h3 := hx3_3.1
              have z3 := hx3_3.2
              clear hh3 hx3_0 hx3_1 hx3_2 hx3_3
              have h4 : ((fun (v : Value) (_ : World) => v = .int .i64 (so1))) (y 4) X := hf.2.2.2.2.1
              have h5 : ((fun (v : Value) (_ : World) => v = .bool true)) (y 5) X := hf.2.2.2.2.2.1
              have h6 : ((fun (v : Value) (_ : World) => v = .bool true)) (y 6) X := hf.2.2.2.2.2.2.1
              have hh7 : ((fun (v : Value) (X : World) => ∃ b A n c, v = .agg #[.bool b, .slice A n c] ∧ ZV X (.agg #[.bool b, .slice A n c]) (vl))) (y 7) X := hf.2.2.2.2.2.2.2.1
              refine Exists.elim hh7 (fun b7 hx7_0 => ?_)
              refine Exists.elim hx7_0 (fun A7 hx7_1 => ?_)
              refine Exists.elim hx7_1 (fun n7 hx7_2 => ?_)
              refine Exists.elim hx7_2 (fun c7 hx7_3 => ?_)
              have h7 := hx7_3.1
              have z7 := hx7_3.2
              clear hh7 hx7_0 hx7_1 hx7_2 hx7_3
              have h8 : ((fun (v : Value) (_ : World) => v = .pointer (some ⟨w.heap.size, 2, none⟩))) (y 8) X := hf.2.2.2.2.2.2.2.2.1
              have hh9 : ((fun (v : Value) (X : World) => ∃ b A n c, v = .agg #[.bool b, .slice A n c] ∧ ZV X (.agg #[.bool b, .slice A n c]) (vb))) (y 9) X := hf.2.2.2.2.2.2.2.2.2.1
              refine Exists.elim hh9 (fun b9 hx9_0 => ?_)
              refine Exists.elim hx9_0 (fun A9 hx9_1 => ?_)
              refine Exists.elim hx9_1 (fun n9 hx9_2 => ?_)
              refine Exists.elim hx9_2 (fun c9 hx9_3 => ?_)
              have h9 := hx9_3.1
              have z9 := hx9_3.2
              clear hh9 hx9_0 hx9_1 hx9_2 hx9_3
              have hh10 : ((fun (v : Value) (X : World) => ∃ b A n c, v = .agg #[.bool b, .slice A n c] ∧ ZV X (.agg #[.bool b, .slice A n c]) (vb))) (y 10) X := hf.2.2.2.2.2.2.2.2.2.2.1
              refine Exists.elim hh10 (fun b10 hx10_0 => ?_)
              refine Exists.elim hx10_0 (fun A10 hx10_1 => ?_)
              refine Exists.elim hx10_1 (fun n10 hx10_2 => ?_)
              refine Exists.elim hx10_2 (fun c10 hx10_3 => ?_)
              have h10 := hx10_3.1
              have z10 := hx10_3.2
              clear hh10 hx10_0 hx10_1 hx10_2 hx10_3
              have hh11 : ((fun (v : Value) (X : World) => ∃ b A n c, v = .agg #[.bool b, .slice A n c] ∧ ZV X (.agg #[.bool b, .slice A n c]) (vl + vb))) (y 11) X := hf.2.2.2.2.2.2.2.2.2.2.2.1
              refine Exists.elim hh11 (fun b11 hx11_0 => ?_)
              refine Exists.elim hx11_0 (fun A11 hx11_1 => ?_)
              refine Exists.elim hx11_1 (fun n11 hx11_2 => ?_)
              refine Exists.elim hx11_2 (fun c11 hx11_3 => ?_)
              have h11 := hx11_3.1
              have z11 := hx11_3.2
              clear hh11 hx11_0 hx11_1 hx11_2 hx11_3
              have h12 : ((fun (v : Value) (_ : World) => v = .pointer (some ⟨w.heap.size, 0, none⟩))) (y 12) X := hf.2.2.2.2.2.2.2.2.2.2.2.2.1
              have hh13 : ((fun (v : Value) (X : World) => ∃ b A n c, v = .agg #[.bool b, .slice A n c] ∧ ZV X (.agg #[.bool b, .slice A n c]) (va))) (y 13) X := hf.2.2.2.2.2.2.2.2.2.2.2.2.2.1
              refine Exists.elim hh13 (fun b13 hx13_0 => ?_)
              refine Exists.elim hx13_0 (fun A13 hx13_1 => ?_)
              refine Exists.elim hx13_1 (fun n13 hx13_2 => ?_)
              refine Exists.elim hx13_2 (fun c13 hx13_3 => ?_)
              have h13 := hx13_3.1
              have z13 := hx13_3.2
              clear hh13 hx13_0 hx13_1 hx13_2 hx13_3
              have hh14 : ((fun (v : Value) (X : World) => ∃ b A n c, v = .agg #[.bool b, .slice A n c] ∧ ZV X (.agg #[.bool b, .slice A n c]) (va))) (y 14) X := hf.2.2.2.2.2.2.2.2.2.2.2.2.2.2.1
              refine Exists.elim hh14 (fun b14 hx14_0 => ?_)
              refine Exists.elim hx14_0 (fun A14 hx14_1 => ?_)
              refine Exists.elim hx14_1 (fun n14 hx14_2 => ?_)
              refine Exists.elim hx14_2 (fun c14 hx14_3 => ?_)
              have h14 := hx14_3.1
              have z14 := hx14_3.2
              clear hh14 hx14_0 hx14_1 hx14_2 hx14_3
              have h15 : ((fun (v : Value) (_ : World) => v = .int .i64 (so2))) (y 15) X := hf.2.2.2.2.2.2.2.2.2.2.2.2.2.2.2.1
              have h16 : ((fun (v : Value) (_ : World) => v = .bool true)) (y 16) X := hf.2.2.2.2.2.2.2.2.2.2.2.2.2.2.2.2.1
              have h17 : ((fun (v : Value) (_ : World) => v = .bool true)) (y 17) X := hf.2.2.2.2.2.2.2.2.2.2.2.2.2.2.2.2.2.1
              have h18 : ((fun (v : Value) (_ : World) => v = .bool true)) (y 18) X := hf.2.2.2.2.2.2.2.2.2.2.2.2.2.2.2.2.2.2.1
              have h19 : ((fun (v : Value) (_ : World) => v = .bool true)) (y 19) X := hf.2.2.2.2.2.2.2.2.2.2.2.2.2.2.2.2.2.2.2.1
              have h20 : ((fun (v : Value) (_ : World) => v = .bool true)) (y 20) X := hf.2.2.2.2.2.2.2.2.2.2.2.2.2.2.2.2.2.2.2.2.1
              clear hf
              clear hsep hlt
              refine Box.mk ?_
              simp only [List.drop_succ_cons, List.drop_zero, fill, Act.put, Nat.reduceAdd, List.setIfInBounds_toArray, List.set_cons_zero, List.set_cons_succ, h0, h1, h2, h3, h4, h5, h6, h7, h8, h9, h10, h11, h12, h13, h14, h15, h16, h17, h18, h19, h20]
              clear h0 h1 h2 h3 h4 h5 h6 h7 h8 h9 h10 h11 h12 h13 h14 h15 h16 h17 h18 h19 h20
              have EX := Lib.hid (E6.out.trans ex)
              clear ex z0 z2 z3 z7 z9 z10 z11 z13 z14
              go_wp2_with fail
              refine NoPanic.normal ?_
              go_wp2
              go_ret
              exact ⟨rfl, EX.out⟩
    · have hq : vldR p2 q2 k k' = false := by simpa using hq
      rw [hq]
      have hbad : (vldR p q l l' && vldR p2 q2 k k') = false := by rw [hq]; simp
      clear hq hp
      have RAD := Lib.hid (ratAdd_u p q p2 q2 A A' A2 A2' n c n' c' n2 c2 n2' c2' l l' k k' W2 G1.out.w1 G1.out.w2 G2.out.w1 G2.out.w2)
      rw [hbad] at RAD
      go_upto_region 2 with fail
      have k0 := G1.out.k0; have k1 := G1.out.k1; have k2 := G1.out.k2; have k3 := G1.out.k3
      have j0 := G2.out.k0; have j1 := G2.out.k1; have j2 := G2.out.k2; have j3 := G2.out.k3
      obtain ⟨N, hN⟩ : ∃ N, N = (numOf p l * numOf q2 k' + numOf p2 k * numOf q l') / nfg ((numOf p l * numOf q2 k' + numOf p2 k * numOf q l')) ((numOf q l' * numOf q2 k')) := ⟨_, rfl⟩
      obtain ⟨D, hD⟩ : ∃ D, D = (numOf q l' * numOf q2 k') / nfg ((numOf p l * numOf q2 k' + numOf p2 k * numOf q l')) ((numOf q l' * numOf q2 k')) := ⟨_, rfl⟩
      rw [← hN, ← hD] at RAD
      clear hN hD hbad
      go_wp2_with fail
      refine RAD.out.mono ?_
      rintro e Wq ⟨x, y, er, hra, b, B, m, d, b', B', m', d', rfl, y1, y2, xq⟩
      obtain rfl := RA.bad hra
      have XQ := Lib.hid (E2.out.trans xq)
      clear hra y1 y2 xq RAD k0 k1 k2 k3 j0 j1 j2 j3
      go_wp2_with fail
      refine (awake_any _).mono ?_
      rintro e wz ⟨rfl, hbz⟩
      replace hbz : Ext _ wz := hbz
      have FX := Lib.hid (((XQ.out).alc _).trans hbz)
      clear hbz
      go_wp2
      go_ret
      exact ⟨rfl, FX.out⟩
  · have hp : vldR p q l l' = false := by simpa using hp
    rw [hp]
    have hbad : (vldR p q l l' && vldR p2 q2 k k') = false := by rw [hp]; rfl
    clear hp
    have RAD := Lib.hid (ratAdd_u p q p2 q2 A A' A2 A2' n c n' c' n2 c2 n2' c2' l l' k k' W1 G1.out.w1 G1.out.w2 G2.out.w1 G2.out.w2)
    rw [hbad] at RAD
    go_upto_region 2 with fail
    have k0 := G1.out.k0; have k1 := G1.out.k1; have k2 := G1.out.k2; have k3 := G1.out.k3
    have j0 := G2.out.k0; have j1 := G2.out.k1; have j2 := G2.out.k2; have j3 := G2.out.k3
    obtain ⟨N, hN⟩ : ∃ N, N = (numOf p l * numOf q2 k' + numOf p2 k * numOf q l') / nfg ((numOf p l * numOf q2 k' + numOf p2 k * numOf q l')) ((numOf q l' * numOf q2 k')) := ⟨_, rfl⟩
    obtain ⟨D, hD⟩ : ∃ D, D = (numOf q l' * numOf q2 k') / nfg ((numOf p l * numOf q2 k' + numOf p2 k * numOf q l')) ((numOf q l' * numOf q2 k')) := ⟨_, rfl⟩
    rw [← hN, ← hD] at RAD
    clear hN hD hbad
    go_wp2_with fail
    refine RAD.out.mono ?_
    rintro e Wq ⟨x, y, er, hra, b, B, m, d, b', B', m', d', rfl, y1, y2, xq⟩
    obtain rfl := RA.bad hra
    have XQ := Lib.hid (E1.out.trans xq)
    clear hra y1 y2 xq RAD k0 k1 k2 k3 j0 j1 j2 j3
    go_wp2_with fail
    refine (awake_any _).mono ?_
    rintro e wz ⟨rfl, hbz⟩
    replace hbz : Ext _ wz := hbz
    have FX := Lib.hid (((XQ.out).alc _).trans hbz)
    clear hbz
    go_wp2
    go_ret
    exact ⟨rfl, FX.out⟩
end Go.Proofs.Ytmlopkkbgpfdnab
