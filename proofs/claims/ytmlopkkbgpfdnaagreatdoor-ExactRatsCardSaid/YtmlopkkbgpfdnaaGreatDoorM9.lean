/- Walks: shorten. -/
import Derived.Test.YtmlopkkbgpfdnaaGreatDoorM8
namespace Go.Proofs.YtmlopkkbgpfdnaaGreatDoor
open Go.RowKit

/-- a step's matrix is returned -/
def RetS (w : World) (X Y : Int) (L : Nat) (e : Ending) (w' : World) : Prop := ∃ (sv : Value) (α β γ δ : Int), e = .returned sv ∧ STV w' sv α β γ δ ∧ SO X Y α β γ δ ∧
  ((dig α.natAbs).length ≤ L ∧ (dig β.natAbs).length ≤ L ∧ (dig γ.natAbs).length ≤ L ∧ (dig δ.natAbs).length ≤ L) ∧ Below w.heap.size w w'
theorem cmpE_any (x y n m c c' : Nat) (A A' : Option Addr) (w : World) (hx : Wd w (.slice A n c) (dig x)) (hy : Wd w (.slice A' m c') (dig y)) :
    Calls Tryz.prog 105 #[.slice A n c, .slice A' m c'] w fun e w' => e = .returned (.int .i64 (cmpN x y)) ∧ Ext w w' := by
  have h1 := hx.len; have h2 := hy.len; have l1 := hx.n_le; have l2 := hy.n_le
  by_cases hne : n = m
  · subst hne
    refine (compareE_eq x y n c c' A A' w hx hy l1).mono ?_
    rintro e w' ⟨rfl, k, rfl⟩
    exact ⟨rfl, Go.Proofs.YtmlopkkbgpfdnaaGreatDoor.Below.toDrewN (Below.refl _ _) k⟩
  · refine (compareE_ne x y n m c c' A A' w h1 h2 hne l1 l2).mono ?_
    rintro e w' ⟨rfl, k, rfl⟩
    exact ⟨rfl, Go.Proofs.YtmlopkkbgpfdnaaGreatDoor.Below.toDrewN (Below.refl _ _) k⟩
theorem cmp_ge {x y : Nat} : (0 : Int) ≤ cmpN x y ↔ y ≤ x := by
  unfold cmpN
  split
  · omega
  · split <;> omega
theorem len_two {n : Nat} (h : n < 18446744073709551616) : (dig n).length ≤ 2 := dig_len_le (by omega)
theorem ZV.zero (w : World) : ZV w (.agg #[.bool false, .slice none 0 0]) 0 := ZV.mk (by simp) (by rw [Int.natAbs_zero, dig_zero]; exact Wd.nil_ _)
theorem lens_plain {r t : Int} {L : Nat} (hr : 0 ≤ r) (ht : 0 < t) (hL : 2 ≤ L) (lx : (dig r.natAbs).length ≤ L) : (dig (0 : Int).natAbs).length ≤ L ∧ (dig (1 : Int).natAbs).length ≤ L ∧ (dig (1 : Int).natAbs).length ≤ L ∧ (dig (-(r / t)).natAbs).length ≤ L := by
  refine ⟨Nat.le_trans (len_two (by decide)) hL, Nat.le_trans (len_two (by decide)) hL, Nat.le_trans (len_two (by decide)) hL, ?_⟩
  refine Nat.le_trans (dig_len_le (Nat.lt_of_le_of_lt ?_ (lt_of_dig_len (Nat.le_refl _)))) lx
  have h1 : r / t ≤ r := Int.ediv_le_self _ hr
  have h2 : 0 ≤ r / t := Int.ediv_nonneg hr (by omega)
  omega
set_option maxHeartbeats 800000 in
set_option maxRecDepth 100000 in
theorem shorten_fix (r t : Int) (L : Nat) (hr : 0 ≤ r) (ht : 0 < t) (lx : (dig r.natAbs).length ≤ L) (ly : (dig t.natAbs).length ≤ L) (hL : 2 ≤ L) (hL2 : L ≤ 400000) :
    ∃ α β γ δ : Int, SO r t α β γ δ ∧ ((dig α.natAbs).length ≤ L ∧ (dig β.natAbs).length ≤ L ∧ (dig γ.natAbs).length ≤ L ∧ (dig δ.natAbs).length ≤ L) ∧
    ∀ (u u' : Value) (W : World), ZV W u r → ZV W u' t → Calls Tryz.prog 79 #[u, u'] W fun e w' => ∃ sv, e = .returned sv ∧ STV w' sv α β γ δ ∧ Below W.heap.size W w' := by
  have plain := SO.plain hr ht
  have plain2 := lens_plain hr ht hL lx
  obtain ⟨yes, hyes⟩ : ∃ yes : Bool, yes = decide (3 ≤ (dig t.natAbs).length ∧ t.natAbs ≤ r.natAbs) := ⟨_, rfl⟩
  obtain ⟨ok, α', β', γ', δ', hso, hbd, hlh⟩ : ∃ (ok : Bool) (α β γ δ : Int), (ok = true → SO r t α β γ δ) ∧ (α.natAbs < 18446744073709551616 ∧ β.natAbs < 18446744073709551616 ∧ γ.natAbs < 18446744073709551616 ∧ δ.natAbs < 18446744073709551616) ∧
      (yes = true → ∀ (n cX n' cY : Nat) (A A' : Option Addr) (w : World), Wd w (.slice A n cX) (dig r.natAbs) → Wd w (.slice A' n' cY) (dig t.natAbs) →
        Calls Tryz.prog 106 #[.slice A n cX, .slice A' n' cY] w fun e w' => ∃ (sv : Value), e = .returned (.tuple #[sv, .bool ok]) ∧ STV w' sv α β γ δ ∧ Below w.heap.size w w') := by
    cases yes
    · exact ⟨false, 0, 0, 0, 0, fun h => by simp at h, by decide, fun h => by simp at h⟩
    · obtain ⟨h3, hge⟩ := of_decide_eq_true hyes.symm
      have hmm : (dig t.natAbs).length ≤ (dig r.natAbs).length := dig_len_le (Nat.lt_of_le_of_lt hge (lt_of_dig_len (Nat.le_refl _)))
      obtain ⟨ok, α, β, γ, δ, h1, h2, h3⟩ := lehmer_fix r.natAbs t.natAbs ((dig r.natAbs).length - 3) (by omega) (by omega) hge
      rw [show ((r.natAbs : Nat) : Int) = r by omega, show ((t.natAbs : Nat) : Int) = t by omega] at h1
      exact ⟨ok, α, β, γ, δ, h1, h2, fun _ => h3⟩
  obtain ⟨α, β, γ, δ, hnum, hs, hl⟩ : ∃ α β γ δ : Int, (α = (if yes && ok then α' else 0) ∧ β = (if yes && ok then β' else 1) ∧ γ = (if yes && ok then γ' else 1) ∧ δ = (if yes && ok then δ' else -(r / t))) ∧ SO r t α β γ δ ∧
      ((dig α.natAbs).length ≤ L ∧ (dig β.natAbs).length ≤ L ∧ (dig γ.natAbs).length ≤ L ∧ (dig δ.natAbs).length ≤ L) := by
    refine ⟨_, _, _, _, ⟨rfl, rfl, rfl, rfl⟩, ?_⟩
    by_cases h : (yes && ok) = true
    · simp only [h, if_true]
      simp only [Bool.and_eq_true] at h
      exact ⟨hso h.2, Nat.le_trans (len_two hbd.1) hL, Nat.le_trans (len_two hbd.2.1) hL, Nat.le_trans (len_two hbd.2.2.1) hL, Nat.le_trans (len_two hbd.2.2.2) hL⟩
    · simp only [h]
      exact ⟨plain, plain2⟩
  refine ⟨α, β, γ, δ, hs, hl, ?_⟩
  clear hs hl hso hbd plain plain2
  intro u u' W hx hy
  obtain ⟨Ax, nx, cx, rfl, hwx, hnx, -⟩ := hx.open_
  obtain ⟨Ay, ny, cy, rfl, hwy, hny, -⟩ := hy.open_
  obtain ⟨bx, hbx⟩ : ∃ b, b = decide (r < 0) := ⟨_, rfl⟩
  obtain ⟨bY, hby⟩ : ∃ b, b = decide (t < 0) := ⟨_, rfl⟩
  rw [← hbx] at hx ⊢
  rw [← hby] at hy ⊢
  clear hbx hby
  obtain ⟨W1, hW1⟩ : ∃ W1, W1 = ((W.alloc (.cells #[.bool bx, .slice Ax nx cx] 44)).alloc (.cells #[.bool bY, .slice Ay ny cy] 44)).alloc (.cells #[.bool false, .slice none 0 0, .bool false, .slice none 0 0, .bool false, .slice none 0 0, .bool false, .slice none 0 0] 111) := ⟨_, rfl⟩
  have p1 : HZ (W.alloc (.cells #[.bool bx, .slice Ax nx cx] 44)) W.heap.size r := HZ.lit W bx Ax nx cx 44 hx
  have p2 : HZ ((W.alloc (.cells #[.bool bx, .slice Ax nx cx] 44)).alloc (.cells #[.bool bY, .slice Ay ny cy] 44)) (W.heap.size + 1) t := by
    have := HZ.lit (W.alloc (.cells #[.bool bx, .slice Ax nx cx] 44)) bY Ay ny cy 44 (hy.ext ((Ext.refl _).alc _))
    rwa [World.size_alloc] at this
  have p3 : SB W1 (W.heap.size + 1 + 1) := by
    have := SB.new ((W.alloc (.cells #[.bool bx, .slice Ax nx cx] 44)).alloc (.cells #[.bool bY, .slice Ay ny cy] 44)) 111
    rw [World.size_alloc, World.size_alloc] at this
    rw [hW1]; exact this
  have E1 : Ext W W1 := by rw [hW1]; exact (((Ext.refl W).alc _).alc _).alc _
  have PX : Hid (HZ W1 W.heap.size r) := Lib.hid (by rw [hW1]; exact p1.ext p1.lt (((Ext.refl _).alc _).alc _))
  have PY : Hid (HZ W1 (W.heap.size + 1) t) := Lib.hid (by rw [hW1]; exact p2.ext p2.lt ((Ext.refl _).alc _))
  have P3 := Lib.hid p3
  have EW := Lib.hid E1
  have zl : W.heap.size + 1 + 1 < W1.heap.size := p3.lt
  have zl2 : W.heap.size + 1 < W1.heap.size := by omega
  have zl3 : W.heap.size < W1.heap.size := by omega
  have ew : Ext W1 W1 := Ext.refl W1
  obtain ⟨q1, B1, m1, d1, k0, k1, kz⟩ := PX.out
  obtain ⟨q2, B2, m2, d2, j0, j1, jz⟩ := PY.out
  have wx := kz.words.2
  have wy := jz.words.2
  have lmx := wx.len
  have lmy := wy.len
  have cm := cmpE_any r.natAbs t.natAbs m1 m2 d1 d2 B1 B2 W1 wx wy
  have WX := Lib.hid wx; have WY := Lib.hid wy; have CM := Lib.hid cm; clear cm
  have HW1 := Lib.hid hW1
  clear p1 p2 p3 hW1 hx hy hwx hwy E1 kz jz wx wy hnx hny k0 j0
  have HLH := Lib.hid hlh; have HYES := Lib.hid hyes; have HNUM := Lib.hid hnum
  clear hlh hyes hnum
  go_enter Tryz.func79, Tryz.ntmps79
  go_upto_region 1 with fail
  rw [← HW1.out]
  clear HW1
  have LM := Lib.hid (And.intro (And.intro lmx lmy) (And.intro lx ly))
  clear lmx lmy lx ly
  by_cases c1 : 3 ≤ m2
  · have c1i : (2 : Int) < (m2 : Int) := by omega
    go_wp2_with fail
    refine CM.out.mono ?_
    rintro e w1 ⟨rfl, x1⟩
    have hlh := HLH.out; have hyes := HYES.out; have hnum := HNUM.out
    clear HLH HYES HNUM
    obtain ⟨cv, hcv⟩ : ∃ cv, cv = cmpN r.natAbs t.natAbs := ⟨_, rfl⟩
    rw [← hcv]
    have kx := keepAt x1 zl3 k1
    have jx := keepAt x1 zl2 j1
    by_cases hge : t.natAbs ≤ r.natAbs
    · have hc0 : (0 : Int) ≤ cv := by rw [hcv]; exact cmp_ge.2 hge
      have hy : yes = true := by rw [hyes]; exact decide_eq_true ⟨by rw [← LM.out.1.2]; exact c1, hge⟩
      have lh := hlh hy m1 d1 m2 d2 B1 B2 w1 (Wd.below WX.out x1) (Wd.below WY.out x1)
      rw [hy] at hnum
      have HNM := Lib.hid hnum
      have LHH := Lib.hid lh
      clear lh hcv hge CM k1 j1 hlh hyes hy hnum
      go_wp2_with fail
      refine LHH.out.mono ?_
      rintro e w2 ⟨sv, rfl, ⟨b1, A1, n1, c1', b2, A2, n2, c2, b3, A3, n3, c3, b4, A4, n4, c4, rfl, s1, s2, s3, s4⟩, x2⟩
      have xx : Ext W1 w2 := Ext.trans x1 x2
      have HZ := Lib.hid (And.intro s1 (And.intro s2 (And.intro s3 s4)))
      have XX := Lib.hid xx
      clear s1 s2 s3 s4 xx x1 x2 LHH kx jx hc0
      cases ok
      · have hnum := HNM.out
        simp only [Bool.and_false, Bool.false_eq_true, if_false] at hnum
        obtain ⟨rfl, rfl, rfl, rfl⟩ := hnum
        clear HNM
        go_wp2_with fail
        obtain ⟨W5, hW5⟩ : ∃ W5, W5 = w2.alloc (.cells #[.bool b1, .slice A1 n1 c1', .bool b2, .slice A2 n2 c2, .bool b3, .slice A3 n3 c3, .bool b4, .slice A4 n4 c4] 111) := ⟨_, rfl⟩
        rw [← hW5]
        have e5 : Ext W1 W5 := by rw [hW5]; exact XX.out.alc _
        clear hW5 HZ
        have PX5 := Lib.hid (PX.out.ext zl3 e5)
        have PY5 := Lib.hid (PY.out.ext zl2 e5)
        have P5 := Lib.hid (P3.out.ext e5)
        have E5 := Lib.hid (EW.out.trans e5)
        have y0 : W.heap.size < W5.heap.size := Nat.lt_of_lt_of_le zl3 e5.size
        have y1 : W.heap.size + 1 < W5.heap.size := Nat.lt_of_lt_of_le zl2 e5.size
        have l5 : (dig r.natAbs).length ≤ 999999 ∧ (dig t.natAbs).length ≤ 1000000 := by have := LM.out.2; omega
        clear e5
        refine wp_region_noPanic ?_
        refine wp_pool 7 [some 29, some 30, some 31, some 32, some 33, some 34, some 35] [] [] [(fun (v : Value) (X : World) => ∃ b A n c, v = .agg #[.bool b, .slice A n c] ∧ ZV X (.agg #[.bool b, .slice A n c]) (1)), (fun (v : Value) (X : World) => ∃ b A n c, v = .agg #[.bool b, .slice A n c] ∧ ZV X (.agg #[.bool b, .slice A n c]) (1)), (fun (v : Value) (X : World) => ∃ b A n c, v = .agg #[.bool b, .slice A n c] ∧ ZV X (.agg #[.bool b, .slice A n c]) (r)), (fun (v : Value) (X : World) => ∃ b A n c, v = .agg #[.bool b, .slice A n c] ∧ ZV X (.agg #[.bool b, .slice A n c]) (t)), (fun (v : Value) (X : World) => ∃ b A n c, v = .agg #[.bool b, .slice A n c] ∧ ZV X (.agg #[.bool b, .slice A n c]) (r / t)), (fun (v : Value) (X : World) => ∃ b A n c, v = .agg #[.bool b, .slice A n c] ∧ ZV X (.agg #[.bool b, .slice A n c]) (-(r / t))), (fun (v : Value) (X : World) => ∃ b A n c b' A' n' c' b'' A'' n'' c'', v = .agg #[.bool false, .slice none 0 0, .bool b, .slice A n c, .bool b', .slice A' n' c', .bool b'', .slice A'' n'' c''] ∧ ZV X (.agg #[.bool b, .slice A n c]) 1 ∧ ZV X (.agg #[.bool b', .slice A' n' c']) 1 ∧ ZV X (.agg #[.bool b'', .slice A'' n'' c'']) (-(r / t)))] [noF, noF, noF, noF, noF, noF, noF] (by kernel_rfl) (by kernel_rfl) (by kernel_rfl) (by kernel_rfl) (by kernel_rfl) (by kernel_rfl) (by kernel_rfl) (by kernel_rfl) (fun _ _ _ _ h => h) ⟨(fun _ _ _ e ⟨b, A, n, c, h1, h2⟩ => ⟨b, A, n, c, h1, h2.ext e⟩), (fun _ _ _ e ⟨b, A, n, c, h1, h2⟩ => ⟨b, A, n, c, h1, h2.ext e⟩), (fun _ _ _ e ⟨b, A, n, c, h1, h2⟩ => ⟨b, A, n, c, h1, h2.ext e⟩), (fun _ _ _ e ⟨b, A, n, c, h1, h2⟩ => ⟨b, A, n, c, h1, h2.ext e⟩), (fun _ _ _ e ⟨b, A, n, c, h1, h2⟩ => ⟨b, A, n, c, h1, h2.ext e⟩), (fun _ _ _ e ⟨b, A, n, c, h1, h2⟩ => ⟨b, A, n, c, h1, h2.ext e⟩), (fun _ _ _ e ⟨b, A, n, c, b', A', n', c', b'', A'', n'', c'', h1, h2, h3, h4⟩ => ⟨b, A, n, c, b', A', n', c', b'', A'', n'', c'', h1, h2.ext e, h3.ext e, h4.ext e⟩), True.intro⟩ ?steps ?done
        case steps =>
          simp only [List.take_succ_cons, List.take_zero]
          refine Steps.cons (fun (v : Value) (X : World) => ∃ b A n c, v = .agg #[.bool b, .slice A n c] ∧ ZV X (.agg #[.bool b, .slice A n c]) (1)) [] rfl (by kernel_rfl) rfl (by kernel_rfl) (fun y X ex0 hf K hK => ?_) ?_
          · clear hf
            have ex := (Ext.drw (Ext.refl _)).trans ex0
            refine Box.mk ?_
            simp only [fill, Act.put, Nat.reduceAdd, List.setIfInBounds_toArray, List.set_cons_zero, List.set_cons_succ] at hK ⊢
            go_simp
            refine (asAgg (smallE_any 1 _ (by omega) (by omega))).mono ?_
            rintro e V ⟨b9, A9, n9, c9, rfl, hz, hb⟩
            try go_wp2_with fail
            exact hK.out _ _ ⟨_, _, _, _, rfl, hz⟩ hb (fun b hb => by cases hb)
          refine Steps.cons (fun (v : Value) (X : World) => ∃ b A n c, v = .agg #[.bool b, .slice A n c] ∧ ZV X (.agg #[.bool b, .slice A n c]) (1)) [0] rfl (by kernel_rfl) rfl (by kernel_rfl) (fun y X ex0 hf K hK => ?_) ?_
          · have hh0 : ((fun (v : Value) (X : World) => ∃ b A n c, v = .agg #[.bool b, .slice A n c] ∧ ZV X (.agg #[.bool b, .slice A n c]) (1))) (y 0) X := hf.1
            refine Exists.elim hh0 (fun b0 hx0_0 => ?_)
            refine Exists.elim hx0_0 (fun A0 hx0_1 => ?_)
            refine Exists.elim hx0_1 (fun n0 hx0_2 => ?_)
            refine Exists.elim hx0_2 (fun c0 hx0_3 => ?_)
            have h0 := hx0_3.1
            have z0 := hx0_3.2
            clear hh0 hx0_0 hx0_1 hx0_2 hx0_3
            clear hf
            have ex := (Ext.drw (Ext.refl _)).trans ex0
            refine Box.mk ?_
            simp only [fill, Act.put, Nat.reduceAdd, List.setIfInBounds_toArray, List.set_cons_zero, List.set_cons_succ, h0] at hK ⊢
            go_simp
            refine (asAgg (smallE_any 1 _ (by omega) (by omega))).mono ?_
            rintro e V ⟨b9, A9, n9, c9, rfl, hz, hb⟩
            try go_wp2_with fail
            exact hK.out _ _ ⟨_, _, _, _, rfl, hz⟩ hb (fun b hb => by cases hb)
          refine Steps.cons (fun (v : Value) (X : World) => ∃ b A n c, v = .agg #[.bool b, .slice A n c] ∧ ZV X (.agg #[.bool b, .slice A n c]) (r)) [] rfl (by kernel_rfl) rfl (by kernel_rfl) (fun y X ex0 hf K hK => ?_) ?_
          · clear hf
            have ex := (Ext.drw (Ext.refl _)).trans ex0
            refine Box.mk ?_
            simp only [fill, Act.put, Nat.reduceAdd, List.setIfInBounds_toArray, List.set_cons_zero, List.set_cons_succ] at hK ⊢
            obtain ⟨bl, Al, nl, cl, k0, k1, kz⟩ := (PX5.out.ext (by omega) ex)
            go_simp
            exact hK.out _ _ ⟨_, _, _, _, rfl, kz⟩ (Ext.refl _) (fun b hb => by cases hb)
          refine Steps.cons (fun (v : Value) (X : World) => ∃ b A n c, v = .agg #[.bool b, .slice A n c] ∧ ZV X (.agg #[.bool b, .slice A n c]) (t)) [] rfl (by kernel_rfl) rfl (by kernel_rfl) (fun y X ex0 hf K hK => ?_) ?_
          · clear hf
            have ex := (Ext.drw (Ext.refl _)).trans ex0
            refine Box.mk ?_
            simp only [fill, Act.put, Nat.reduceAdd, List.setIfInBounds_toArray, List.set_cons_zero, List.set_cons_succ] at hK ⊢
            obtain ⟨bl, Al, nl, cl, k0, k1, kz⟩ := (PY5.out.ext (by omega) ex)
            go_simp
            exact hK.out _ _ ⟨_, _, _, _, rfl, kz⟩ (Ext.refl _) (fun b hb => by cases hb)
          refine Steps.cons (fun (v : Value) (X : World) => ∃ b A n c, v = .agg #[.bool b, .slice A n c] ∧ ZV X (.agg #[.bool b, .slice A n c]) (r / t)) [2, 3, 1] rfl (by kernel_rfl) rfl (by kernel_rfl) (fun y X ex0 hf K hK => ?_) ?_
          · have hh2 : ((fun (v : Value) (X : World) => ∃ b A n c, v = .agg #[.bool b, .slice A n c] ∧ ZV X (.agg #[.bool b, .slice A n c]) (r))) (y 2) X := hf.1
            refine Exists.elim hh2 (fun b2 hx2_0 => ?_)
            refine Exists.elim hx2_0 (fun A2 hx2_1 => ?_)
            refine Exists.elim hx2_1 (fun n2 hx2_2 => ?_)
            refine Exists.elim hx2_2 (fun c2 hx2_3 => ?_)
            have h2 := hx2_3.1
            have z2 := hx2_3.2
            clear hh2 hx2_0 hx2_1 hx2_2 hx2_3
            have hh3 : ((fun (v : Value) (X : World) => ∃ b A n c, v = .agg #[.bool b, .slice A n c] ∧ ZV X (.agg #[.bool b, .slice A n c]) (t))) (y 3) X := hf.2.1
            refine Exists.elim hh3 (fun b3 hx3_0 => ?_)
            refine Exists.elim hx3_0 (fun A3 hx3_1 => ?_)
            refine Exists.elim hx3_1 (fun n3 hx3_2 => ?_)
            refine Exists.elim hx3_2 (fun c3 hx3_3 => ?_)
            have h3 := hx3_3.1
            have z3 := hx3_3.2
            clear hh3 hx3_0 hx3_1 hx3_2 hx3_3
            have hh1 : ((fun (v : Value) (X : World) => ∃ b A n c, v = .agg #[.bool b, .slice A n c] ∧ ZV X (.agg #[.bool b, .slice A n c]) (1))) (y 1) X := hf.2.2.1
            refine Exists.elim hh1 (fun b1 hx1_0 => ?_)
            refine Exists.elim hx1_0 (fun A1 hx1_1 => ?_)
            refine Exists.elim hx1_1 (fun n1 hx1_2 => ?_)
            refine Exists.elim hx1_2 (fun c1 hx1_3 => ?_)
            have h1 := hx1_3.1
            have z1 := hx1_3.2
            clear hh1 hx1_0 hx1_1 hx1_2 hx1_3
            clear hf
            have ex := (Ext.drw (Ext.refl _)).trans ex0
            refine Box.mk ?_
            simp only [fill, Act.put, Nat.reduceAdd, List.setIfInBounds_toArray, List.set_cons_zero, List.set_cons_succ, h2, h3, h1] at hK ⊢
            go_simp
            refine (asAgg (overZ_any _ _ _ _ _ z2 z3 l5.1 l5.2 (by omega))).mono ?_
            rintro e V ⟨b9, A9, n9, c9, rfl, hz, hb⟩
            try go_wp2_with fail
            exact hK.out _ _ ⟨_, _, _, _, rfl, hz⟩ hb (fun b hb => by cases hb)
          refine Steps.cons (fun (v : Value) (X : World) => ∃ b A n c, v = .agg #[.bool b, .slice A n c] ∧ ZV X (.agg #[.bool b, .slice A n c]) (-(r / t))) [4] rfl (by kernel_rfl) rfl (by kernel_rfl) (fun y X ex0 hf K hK => ?_) ?_
          · have hh4 : ((fun (v : Value) (X : World) => ∃ b A n c, v = .agg #[.bool b, .slice A n c] ∧ ZV X (.agg #[.bool b, .slice A n c]) (r / t))) (y 4) X := hf.1
            refine Exists.elim hh4 (fun b4 hx4_0 => ?_)
            refine Exists.elim hx4_0 (fun A4 hx4_1 => ?_)
            refine Exists.elim hx4_1 (fun n4 hx4_2 => ?_)
            refine Exists.elim hx4_2 (fun c4 hx4_3 => ?_)
            have h4 := hx4_3.1
            have z4 := hx4_3.2
            clear hh4 hx4_0 hx4_1 hx4_2 hx4_3
            clear hf
            have ex := (Ext.drw (Ext.refl _)).trans ex0
            refine Box.mk ?_
            simp only [fill, Act.put, Nat.reduceAdd, List.setIfInBounds_toArray, List.set_cons_zero, List.set_cons_succ, h4] at hK ⊢
            go_simp
            refine (asAgg (oppositeZ_any _ _ _ z4)).mono ?_
            rintro e V ⟨b9, A9, n9, c9, rfl, hz, hb⟩
            try go_wp2_with fail
            exact hK.out _ _ ⟨_, _, _, _, rfl, hz⟩ hb (fun b hb => by cases hb)
          refine Steps.cons (fun (v : Value) (X : World) => ∃ b A n c b' A' n' c' b'' A'' n'' c'', v = .agg #[.bool false, .slice none 0 0, .bool b, .slice A n c, .bool b', .slice A' n' c', .bool b'', .slice A'' n'' c''] ∧ ZV X (.agg #[.bool b, .slice A n c]) 1 ∧ ZV X (.agg #[.bool b', .slice A' n' c']) 1 ∧ ZV X (.agg #[.bool b'', .slice A'' n'' c'']) (-(r / t))) [0, 1, 5] rfl (by kernel_rfl) rfl (by kernel_rfl) (fun y X ex0 hf K hK => ?_) ?_
          · have hh0 : ((fun (v : Value) (X : World) => ∃ b A n c, v = .agg #[.bool b, .slice A n c] ∧ ZV X (.agg #[.bool b, .slice A n c]) (1))) (y 0) X := hf.1
            refine Exists.elim hh0 (fun b0 hx0_0 => ?_)
            refine Exists.elim hx0_0 (fun A0 hx0_1 => ?_)
            refine Exists.elim hx0_1 (fun n0 hx0_2 => ?_)
            refine Exists.elim hx0_2 (fun c0 hx0_3 => ?_)
            have h0 := hx0_3.1
            have z0 := hx0_3.2
            clear hh0 hx0_0 hx0_1 hx0_2 hx0_3
            have hh1 : ((fun (v : Value) (X : World) => ∃ b A n c, v = .agg #[.bool b, .slice A n c] ∧ ZV X (.agg #[.bool b, .slice A n c]) (1))) (y 1) X := hf.2.1
            refine Exists.elim hh1 (fun b1 hx1_0 => ?_)
            refine Exists.elim hx1_0 (fun A1 hx1_1 => ?_)
            refine Exists.elim hx1_1 (fun n1 hx1_2 => ?_)
            refine Exists.elim hx1_2 (fun c1 hx1_3 => ?_)
            have h1 := hx1_3.1
            have z1 := hx1_3.2
            clear hh1 hx1_0 hx1_1 hx1_2 hx1_3
            have hh5 : ((fun (v : Value) (X : World) => ∃ b A n c, v = .agg #[.bool b, .slice A n c] ∧ ZV X (.agg #[.bool b, .slice A n c]) (-(r / t)))) (y 5) X := hf.2.2.1
            refine Exists.elim hh5 (fun b5 hx5_0 => ?_)
            refine Exists.elim hx5_0 (fun A5 hx5_1 => ?_)
            refine Exists.elim hx5_1 (fun n5 hx5_2 => ?_)
            refine Exists.elim hx5_2 (fun c5 hx5_3 => ?_)
            have h5 := hx5_3.1
            have z5 := hx5_3.2
            clear hh5 hx5_0 hx5_1 hx5_2 hx5_3
            clear hf
            have ex := (Ext.drw (Ext.refl _)).trans ex0
            refine Box.mk ?_
            simp only [fill, Act.put, Nat.reduceAdd, List.setIfInBounds_toArray, List.set_cons_zero, List.set_cons_succ, h0, h1, h5] at hK ⊢
            go_simp
            exact hK.out _ _ ⟨_, _, _, _, _, _, _, _, _, _, _, _, rfl, z0, z1, z5⟩ (Ext.refl _) (fun b hb => by cases hb)
          exact Steps.nil
        case done =>
          intro y X ex hf hlt hsep
          have hh0 : ((fun (v : Value) (X : World) => ∃ b A n c, v = .agg #[.bool b, .slice A n c] ∧ ZV X (.agg #[.bool b, .slice A n c]) (1))) (y 0) X := hf.1
          refine Exists.elim hh0 (fun b0 hx0_0 => ?_)
          refine Exists.elim hx0_0 (fun A0 hx0_1 => ?_)
          refine Exists.elim hx0_1 (fun n0 hx0_2 => ?_)
          refine Exists.elim hx0_2 (fun c0 hx0_3 => ?_)
          have h0 := hx0_3.1
          have z0 := hx0_3.2
          clear hh0 hx0_0 hx0_1 hx0_2 hx0_3
          have hh1 : ((fun (v : Value) (X : World) => ∃ b A n c, v = .agg #[.bool b, .slice A n c] ∧ ZV X (.agg #[.bool b, .slice A n c]) (1))) (y 1) X := hf.2.1
          refine Exists.elim hh1 (fun b1 hx1_0 => ?_)
          refine Exists.elim hx1_0 (fun A1 hx1_1 => ?_)
          refine Exists.elim hx1_1 (fun n1 hx1_2 => ?_)
          refine Exists.elim hx1_2 (fun c1 hx1_3 => ?_)
          have h1 := hx1_3.1
          have z1 := hx1_3.2
          clear hh1 hx1_0 hx1_1 hx1_2 hx1_3
          have hh2 : ((fun (v : Value) (X : World) => ∃ b A n c, v = .agg #[.bool b, .slice A n c] ∧ ZV X (.agg #[.bool b, .slice A n c]) (r))) (y 2) X := hf.2.2.1
          refine Exists.elim hh2 (fun b2 hx2_0 => ?_)
          refine Exists.elim hx2_0 (fun A2 hx2_1 => ?_)
          refine Exists.elim hx2_1 (fun n2 hx2_2 => ?_)
          refine Exists.elim hx2_2 (fun c2 hx2_3 => ?_)
          have h2 := hx2_3.1
          have z2 := hx2_3.2
          clear hh2 hx2_0 hx2_1 hx2_2 hx2_3
          have hh3 : ((fun (v : Value) (X : World) => ∃ b A n c, v = .agg #[.bool b, .slice A n c] ∧ ZV X (.agg #[.bool b, .slice A n c]) (t))) (y 3) X := hf.2.2.2.1
          refine Exists.elim hh3 (fun b3 hx3_0 => ?_)
          refine Exists.elim hx3_0 (fun A3 hx3_1 => ?_)
          refine Exists.elim hx3_1 (fun n3 hx3_2 => ?_)
          refine Exists.elim hx3_2 (fun c3 hx3_3 => ?_)
          have h3 := hx3_3.1
          have z3 := hx3_3.2
          clear hh3 hx3_0 hx3_1 hx3_2 hx3_3
          have hh4 : ((fun (v : Value) (X : World) => ∃ b A n c, v = .agg #[.bool b, .slice A n c] ∧ ZV X (.agg #[.bool b, .slice A n c]) (r / t))) (y 4) X := hf.2.2.2.2.1
          refine Exists.elim hh4 (fun b4 hx4_0 => ?_)
          refine Exists.elim hx4_0 (fun A4 hx4_1 => ?_)
          refine Exists.elim hx4_1 (fun n4 hx4_2 => ?_)
          refine Exists.elim hx4_2 (fun c4 hx4_3 => ?_)
          have h4 := hx4_3.1
          have z4 := hx4_3.2
          clear hh4 hx4_0 hx4_1 hx4_2 hx4_3
          have hh5 : ((fun (v : Value) (X : World) => ∃ b A n c, v = .agg #[.bool b, .slice A n c] ∧ ZV X (.agg #[.bool b, .slice A n c]) (-(r / t)))) (y 5) X := hf.2.2.2.2.2.1
          refine Exists.elim hh5 (fun b5 hx5_0 => ?_)
          refine Exists.elim hx5_0 (fun A5 hx5_1 => ?_)
          refine Exists.elim hx5_1 (fun n5 hx5_2 => ?_)
          refine Exists.elim hx5_2 (fun c5 hx5_3 => ?_)
          have h5 := hx5_3.1
          have z5 := hx5_3.2
          clear hh5 hx5_0 hx5_1 hx5_2 hx5_3
          have hh6 : ((fun (v : Value) (X : World) => ∃ b A n c b' A' n' c' b'' A'' n'' c'', v = .agg #[.bool false, .slice none 0 0, .bool b, .slice A n c, .bool b', .slice A' n' c', .bool b'', .slice A'' n'' c''] ∧ ZV X (.agg #[.bool b, .slice A n c]) 1 ∧ ZV X (.agg #[.bool b', .slice A' n' c']) 1 ∧ ZV X (.agg #[.bool b'', .slice A'' n'' c'']) (-(r / t)))) (y 6) X := hf.2.2.2.2.2.2.1
          refine Exists.elim hh6 (fun b6 hx6_0 => ?_)
          refine Exists.elim hx6_0 (fun A6 hx6_1 => ?_)
          refine Exists.elim hx6_1 (fun n6 hx6_2 => ?_)
          refine Exists.elim hx6_2 (fun c6 hx6_3 => ?_)
          refine Exists.elim hx6_3 (fun bb6 hx6_4 => ?_)
          refine Exists.elim hx6_4 (fun AA6 hx6_5 => ?_)
          refine Exists.elim hx6_5 (fun nn6 hx6_6 => ?_)
          refine Exists.elim hx6_6 (fun cc6 hx6_7 => ?_)
          refine Exists.elim hx6_7 (fun bbb6 hx6_8 => ?_)
          refine Exists.elim hx6_8 (fun AAA6 hx6_9 => ?_)
          refine Exists.elim hx6_9 (fun nnn6 hx6_10 => ?_)
          refine Exists.elim hx6_10 (fun ccc6 hx6_11 => ?_)
          have h6 := hx6_11.1
          have z6 := hx6_11.2.1
          have y6 := hx6_11.2.2.1
          have x6 := hx6_11.2.2.2
          clear hh6 hx6_0 hx6_1 hx6_2 hx6_3 hx6_4 hx6_5 hx6_6 hx6_7 hx6_8 hx6_9 hx6_10 hx6_11
          clear hf
          clear hsep hlt
          refine Box.mk ?_
          simp only [List.drop_succ_cons, List.drop_zero, fill, Act.put, Nat.reduceAdd, List.setIfInBounds_toArray, List.set_cons_zero, List.set_cons_succ, h0, h1, h2, h3, h4, h5, h6]
          clear h0 h1 h2 h3 h4 h5 h6
          have S5 := P5.out.ext ex
          have S4 := Lib.hid S5
          have HE := Lib.hid (Ext.trans E5.out ex)
          have HF := Lib.hid (And.intro z6 (And.intro y6 x6))
          obtain ⟨⟨a0, a1, a2, a3, a4, a5, a6, a7, g0, g1, g2, g3, g4, g5, g6, g7⟩, gf⟩ := S5.facts
          have gf0 := gf 0; have gf1 := gf 1; have gf2 := gf 2; have gf3 := gf 3; have gf4 := gf 4; have gf5 := gf 5; have gf6 := gf 6; have gf7 := gf 7
          have L5 := Lib.hid l5
          clear gf S5 ex z0 z1 z2 z3 z4 z5 z6 y6 x6 l5
          go_wp2_with fail
          refine NoPanic.normal ?_
          go_wp2
          clear g0 g1 g2 g3 g4 g5 g6 g7 gf0 gf1 gf2 gf3 gf4 gf5 gf6 gf7
          obtain ⟨q0, q1, q2, q3, q4, q5, q6, q7⟩ := put8_cells S4.out (.bool false) (.slice none 0 0) (.bool b6) (.slice A6 n6 c6) (.bool bb6) (.slice AA6 nn6 cc6) (.bool bbb6) (.slice AAA6 nnn6 ccc6)
          have hbel := put8_below (B := W.heap.size) (W := W) HE.out (show W.heap.size ≤ W.heap.size + 1 + 1 by omega) (.bool false) (.slice none 0 0) (.bool b6) (.slice A6 n6 c6) (.bool bb6) (.slice AA6 nn6 cc6) (.bool bbb6) (.slice AAA6 nnn6 ccc6)
          have P0 := (ZV.zero _).put8 S4.out (.bool false) (.slice none 0 0) (.bool b6) (.slice A6 n6 c6) (.bool bb6) (.slice AA6 nn6 cc6) (.bool bbb6) (.slice AAA6 nnn6 ccc6)
          have P1 := HF.out.1.put8 S4.out (.bool false) (.slice none 0 0) (.bool b6) (.slice A6 n6 c6) (.bool bb6) (.slice AA6 nn6 cc6) (.bool bbb6) (.slice AAA6 nnn6 ccc6)
          have P2 := HF.out.2.1.put8 S4.out (.bool false) (.slice none 0 0) (.bool b6) (.slice A6 n6 c6) (.bool bb6) (.slice AA6 nn6 cc6) (.bool bbb6) (.slice AAA6 nnn6 ccc6)
          have P3 := HF.out.2.2.put8 S4.out (.bool false) (.slice none 0 0) (.bool b6) (.slice A6 n6 c6) (.bool bb6) (.slice AA6 nn6 cc6) (.bool bbb6) (.slice AAA6 nnn6 ccc6)
          obtain ⟨W9, hW9⟩ : ∃ W9, W9 = put8 X (W.heap.size + 1 + 1) (.bool false) (.slice none 0 0) (.bool b6) (.slice A6 n6 c6) (.bool bb6) (.slice AA6 nn6 cc6) (.bool bbb6) (.slice AAA6 nnn6 ccc6) := ⟨_, rfl⟩
          rw [← hW9] at q0 q1 q2 q3 q4 q5 q6 q7 hbel P0 P1 P2 P3
          unfold put8 at hW9
          rw [← hW9]
          exact bodyPost_ret (v := .agg #[.bool false, .slice none 0 0, .bool b6, .slice A6 n6 c6, .bool bb6, .slice AA6 nn6 cc6, .bool bbb6, .slice AAA6 nnn6 ccc6]) (by simp [results, Tryz.results79, go_sem, q0, q1, q2, q3, q4, q5, q6, q7]) rfl
            ⟨_, rfl, ⟨false, none, 0, 0, b6, A6, n6, c6, bb6, AA6, nn6, cc6, bbb6, AAA6, nnn6, ccc6, rfl, P0, P1, P2, P3⟩, hbel⟩
      · have hnum := HNM.out
        simp only [Bool.and_true, if_true] at hnum
        obtain ⟨rfl, rfl, rfl, rfl⟩ := hnum
        clear HNM
        have xv : Ext w2 (w2.alloc (.cells #[.bool b1, .slice A1 n1 c1', .bool b2, .slice A2 n2 c2, .bool b3, .slice A3 n3 c3, .bool b4, .slice A4 n4 c4] 111)) := (Ext.refl w2).alc _
        have S3 := P3.out.ext (XX.out.trans xv)
        have HF := Lib.hid (And.intro (HZ.out.1.ext xv) (And.intro (HZ.out.2.1.ext xv) (And.intro (HZ.out.2.2.1.ext xv) (HZ.out.2.2.2.ext xv))))
        have HE := Lib.hid ((EW.out.trans XX.out).trans xv)
        have S4 := Lib.hid S3
        obtain ⟨⟨a0, a1, a2, a3, a4, a5, a6, a7, g0, g1, g2, g3, g4, g5, g6, g7⟩, gf⟩ := S3.facts
        have gf0 := gf 0; have gf1 := gf 1; have gf2 := gf 2; have gf3 := gf 3; have gf4 := gf 4; have gf5 := gf 5; have gf6 := gf 6; have gf7 := gf 7
        clear gf S3 xv HZ XX
        go_wp2
        clear g0 g1 g2 g3 g4 g5 g6 g7 gf0 gf1 gf2 gf3 gf4 gf5 gf6 gf7
        obtain ⟨q0, q1, q2, q3, q4, q5, q6, q7⟩ := put8_cells S4.out (.bool b1) (.slice A1 n1 c1') (.bool b2) (.slice A2 n2 c2) (.bool b3) (.slice A3 n3 c3) (.bool b4) (.slice A4 n4 c4)
        have hbel := put8_below (B := W.heap.size) (W := W) HE.out (show W.heap.size ≤ W.heap.size + 1 + 1 by omega) (.bool b1) (.slice A1 n1 c1') (.bool b2) (.slice A2 n2 c2) (.bool b3) (.slice A3 n3 c3) (.bool b4) (.slice A4 n4 c4)
        have P1 := HF.out.1.put8 S4.out (.bool b1) (.slice A1 n1 c1') (.bool b2) (.slice A2 n2 c2) (.bool b3) (.slice A3 n3 c3) (.bool b4) (.slice A4 n4 c4)
        have P2 := HF.out.2.1.put8 S4.out (.bool b1) (.slice A1 n1 c1') (.bool b2) (.slice A2 n2 c2) (.bool b3) (.slice A3 n3 c3) (.bool b4) (.slice A4 n4 c4)
        have P3' := HF.out.2.2.1.put8 S4.out (.bool b1) (.slice A1 n1 c1') (.bool b2) (.slice A2 n2 c2) (.bool b3) (.slice A3 n3 c3) (.bool b4) (.slice A4 n4 c4)
        have P4 := HF.out.2.2.2.put8 S4.out (.bool b1) (.slice A1 n1 c1') (.bool b2) (.slice A2 n2 c2) (.bool b3) (.slice A3 n3 c3) (.bool b4) (.slice A4 n4 c4)
        obtain ⟨W9, hW9⟩ : ∃ W9, W9 = put8 (w2.alloc (.cells #[.bool b1, .slice A1 n1 c1', .bool b2, .slice A2 n2 c2, .bool b3, .slice A3 n3 c3, .bool b4, .slice A4 n4 c4] 111)) (W.heap.size + 1 + 1) (.bool b1) (.slice A1 n1 c1') (.bool b2) (.slice A2 n2 c2) (.bool b3) (.slice A3 n3 c3) (.bool b4) (.slice A4 n4 c4) := ⟨_, rfl⟩
        rw [← hW9] at q0 q1 q2 q3 q4 q5 q6 q7 hbel P1 P2 P3' P4
        unfold put8 at hW9
        rw [← hW9]
        exact bodyPost_ret (v := .agg #[.bool b1, .slice A1 n1 c1', .bool b2, .slice A2 n2 c2, .bool b3, .slice A3 n3 c3, .bool b4, .slice A4 n4 c4]) (by simp [results, Tryz.results79, go_sem, q0, q1, q2, q3, q4, q5, q6, q7]) rfl
          ⟨_, rfl, ⟨b1, A1, n1, c1', b2, A2, n2, c2, b3, A3, n3, c3, b4, A4, n4, c4, rfl, P1, P2, P3', P4⟩, hbel⟩
    · have hc0 : ¬ (0 : Int) ≤ cv := by rw [hcv]; exact fun h => hge (cmp_ge.1 h)
      have hy : yes = false := by rw [hyes]; exact decide_eq_false (fun h => hge h.2)
      rw [hy] at hnum
      simp only [Bool.false_and, Bool.false_eq_true, if_false] at hnum
      obtain ⟨rfl, rfl, rfl, rfl⟩ := hnum
      clear hcv hge CM k1 j1 hlh hyes hy
      go_wp2_with fail
      have e5 := x1
      clear x1
      have PX5 := Lib.hid (PX.out.ext zl3 e5)
      have PY5 := Lib.hid (PY.out.ext zl2 e5)
      have P5 := Lib.hid (P3.out.ext e5)
      have E5 := Lib.hid (EW.out.trans e5)
      have y0 : W.heap.size < w1.heap.size := Nat.lt_of_lt_of_le zl3 e5.size
      have y1 : W.heap.size + 1 < w1.heap.size := Nat.lt_of_lt_of_le zl2 e5.size
      have l5 : (dig r.natAbs).length ≤ 999999 ∧ (dig t.natAbs).length ≤ 1000000 := by have := LM.out.2; omega
      clear e5
      refine wp_region_noPanic ?_
      refine wp_pool 7 [some 29, some 30, some 31, some 32, some 33, some 34, some 35] [] [] [(fun (v : Value) (X : World) => ∃ b A n c, v = .agg #[.bool b, .slice A n c] ∧ ZV X (.agg #[.bool b, .slice A n c]) (1)), (fun (v : Value) (X : World) => ∃ b A n c, v = .agg #[.bool b, .slice A n c] ∧ ZV X (.agg #[.bool b, .slice A n c]) (1)), (fun (v : Value) (X : World) => ∃ b A n c, v = .agg #[.bool b, .slice A n c] ∧ ZV X (.agg #[.bool b, .slice A n c]) (r)), (fun (v : Value) (X : World) => ∃ b A n c, v = .agg #[.bool b, .slice A n c] ∧ ZV X (.agg #[.bool b, .slice A n c]) (t)), (fun (v : Value) (X : World) => ∃ b A n c, v = .agg #[.bool b, .slice A n c] ∧ ZV X (.agg #[.bool b, .slice A n c]) (r / t)), (fun (v : Value) (X : World) => ∃ b A n c, v = .agg #[.bool b, .slice A n c] ∧ ZV X (.agg #[.bool b, .slice A n c]) (-(r / t))), (fun (v : Value) (X : World) => ∃ b A n c b' A' n' c' b'' A'' n'' c'', v = .agg #[.bool false, .slice none 0 0, .bool b, .slice A n c, .bool b', .slice A' n' c', .bool b'', .slice A'' n'' c''] ∧ ZV X (.agg #[.bool b, .slice A n c]) 1 ∧ ZV X (.agg #[.bool b', .slice A' n' c']) 1 ∧ ZV X (.agg #[.bool b'', .slice A'' n'' c'']) (-(r / t)))] [noF, noF, noF, noF, noF, noF, noF] (by kernel_rfl) (by kernel_rfl) (by kernel_rfl) (by kernel_rfl) (by kernel_rfl) (by kernel_rfl) (by kernel_rfl) (by kernel_rfl) (fun _ _ _ _ h => h) ⟨(fun _ _ _ e ⟨b, A, n, c, h1, h2⟩ => ⟨b, A, n, c, h1, h2.ext e⟩), (fun _ _ _ e ⟨b, A, n, c, h1, h2⟩ => ⟨b, A, n, c, h1, h2.ext e⟩), (fun _ _ _ e ⟨b, A, n, c, h1, h2⟩ => ⟨b, A, n, c, h1, h2.ext e⟩), (fun _ _ _ e ⟨b, A, n, c, h1, h2⟩ => ⟨b, A, n, c, h1, h2.ext e⟩), (fun _ _ _ e ⟨b, A, n, c, h1, h2⟩ => ⟨b, A, n, c, h1, h2.ext e⟩), (fun _ _ _ e ⟨b, A, n, c, h1, h2⟩ => ⟨b, A, n, c, h1, h2.ext e⟩), (fun _ _ _ e ⟨b, A, n, c, b', A', n', c', b'', A'', n'', c'', h1, h2, h3, h4⟩ => ⟨b, A, n, c, b', A', n', c', b'', A'', n'', c'', h1, h2.ext e, h3.ext e, h4.ext e⟩), True.intro⟩ ?steps ?done
      case steps =>
        simp only [List.take_succ_cons, List.take_zero]
        refine Steps.cons (fun (v : Value) (X : World) => ∃ b A n c, v = .agg #[.bool b, .slice A n c] ∧ ZV X (.agg #[.bool b, .slice A n c]) (1)) [] rfl (by kernel_rfl) rfl (by kernel_rfl) (fun y X ex0 hf K hK => ?_) ?_
        · clear hf
          have ex := (Ext.drw (Ext.refl _)).trans ex0
          refine Box.mk ?_
          simp only [fill, Act.put, Nat.reduceAdd, List.setIfInBounds_toArray, List.set_cons_zero, List.set_cons_succ] at hK ⊢
          go_simp
          refine (asAgg (smallE_any 1 _ (by omega) (by omega))).mono ?_
          rintro e V ⟨b9, A9, n9, c9, rfl, hz, hb⟩
          try go_wp2_with fail
          exact hK.out _ _ ⟨_, _, _, _, rfl, hz⟩ hb (fun b hb => by cases hb)
        refine Steps.cons (fun (v : Value) (X : World) => ∃ b A n c, v = .agg #[.bool b, .slice A n c] ∧ ZV X (.agg #[.bool b, .slice A n c]) (1)) [0] rfl (by kernel_rfl) rfl (by kernel_rfl) (fun y X ex0 hf K hK => ?_) ?_
        · have hh0 : ((fun (v : Value) (X : World) => ∃ b A n c, v = .agg #[.bool b, .slice A n c] ∧ ZV X (.agg #[.bool b, .slice A n c]) (1))) (y 0) X := hf.1
          refine Exists.elim hh0 (fun b0 hx0_0 => ?_)
          refine Exists.elim hx0_0 (fun A0 hx0_1 => ?_)
          refine Exists.elim hx0_1 (fun n0 hx0_2 => ?_)
          refine Exists.elim hx0_2 (fun c0 hx0_3 => ?_)
          have h0 := hx0_3.1
          have z0 := hx0_3.2
          clear hh0 hx0_0 hx0_1 hx0_2 hx0_3
          clear hf
          have ex := (Ext.drw (Ext.refl _)).trans ex0
          refine Box.mk ?_
          simp only [fill, Act.put, Nat.reduceAdd, List.setIfInBounds_toArray, List.set_cons_zero, List.set_cons_succ, h0] at hK ⊢
          go_simp
          refine (asAgg (smallE_any 1 _ (by omega) (by omega))).mono ?_
          rintro e V ⟨b9, A9, n9, c9, rfl, hz, hb⟩
          try go_wp2_with fail
          exact hK.out _ _ ⟨_, _, _, _, rfl, hz⟩ hb (fun b hb => by cases hb)
        refine Steps.cons (fun (v : Value) (X : World) => ∃ b A n c, v = .agg #[.bool b, .slice A n c] ∧ ZV X (.agg #[.bool b, .slice A n c]) (r)) [] rfl (by kernel_rfl) rfl (by kernel_rfl) (fun y X ex0 hf K hK => ?_) ?_
        · clear hf
          have ex := (Ext.drw (Ext.refl _)).trans ex0
          refine Box.mk ?_
          simp only [fill, Act.put, Nat.reduceAdd, List.setIfInBounds_toArray, List.set_cons_zero, List.set_cons_succ] at hK ⊢
          obtain ⟨bl, Al, nl, cl, k0, k1, kz⟩ := (PX5.out.ext (by omega) ex)
          go_simp
          exact hK.out _ _ ⟨_, _, _, _, rfl, kz⟩ (Ext.refl _) (fun b hb => by cases hb)
        refine Steps.cons (fun (v : Value) (X : World) => ∃ b A n c, v = .agg #[.bool b, .slice A n c] ∧ ZV X (.agg #[.bool b, .slice A n c]) (t)) [] rfl (by kernel_rfl) rfl (by kernel_rfl) (fun y X ex0 hf K hK => ?_) ?_
        · clear hf
          have ex := (Ext.drw (Ext.refl _)).trans ex0
          refine Box.mk ?_
          simp only [fill, Act.put, Nat.reduceAdd, List.setIfInBounds_toArray, List.set_cons_zero, List.set_cons_succ] at hK ⊢
          obtain ⟨bl, Al, nl, cl, k0, k1, kz⟩ := (PY5.out.ext (by omega) ex)
          go_simp
          exact hK.out _ _ ⟨_, _, _, _, rfl, kz⟩ (Ext.refl _) (fun b hb => by cases hb)
        refine Steps.cons (fun (v : Value) (X : World) => ∃ b A n c, v = .agg #[.bool b, .slice A n c] ∧ ZV X (.agg #[.bool b, .slice A n c]) (r / t)) [2, 3, 1] rfl (by kernel_rfl) rfl (by kernel_rfl) (fun y X ex0 hf K hK => ?_) ?_
        · have hh2 : ((fun (v : Value) (X : World) => ∃ b A n c, v = .agg #[.bool b, .slice A n c] ∧ ZV X (.agg #[.bool b, .slice A n c]) (r))) (y 2) X := hf.1
          refine Exists.elim hh2 (fun b2 hx2_0 => ?_)
          refine Exists.elim hx2_0 (fun A2 hx2_1 => ?_)
          refine Exists.elim hx2_1 (fun n2 hx2_2 => ?_)
          refine Exists.elim hx2_2 (fun c2 hx2_3 => ?_)
          have h2 := hx2_3.1
          have z2 := hx2_3.2
          clear hh2 hx2_0 hx2_1 hx2_2 hx2_3
          have hh3 : ((fun (v : Value) (X : World) => ∃ b A n c, v = .agg #[.bool b, .slice A n c] ∧ ZV X (.agg #[.bool b, .slice A n c]) (t))) (y 3) X := hf.2.1
          refine Exists.elim hh3 (fun b3 hx3_0 => ?_)
          refine Exists.elim hx3_0 (fun A3 hx3_1 => ?_)
          refine Exists.elim hx3_1 (fun n3 hx3_2 => ?_)
          refine Exists.elim hx3_2 (fun c3 hx3_3 => ?_)
          have h3 := hx3_3.1
          have z3 := hx3_3.2
          clear hh3 hx3_0 hx3_1 hx3_2 hx3_3
          have hh1 : ((fun (v : Value) (X : World) => ∃ b A n c, v = .agg #[.bool b, .slice A n c] ∧ ZV X (.agg #[.bool b, .slice A n c]) (1))) (y 1) X := hf.2.2.1
          refine Exists.elim hh1 (fun b1 hx1_0 => ?_)
          refine Exists.elim hx1_0 (fun A1 hx1_1 => ?_)
          refine Exists.elim hx1_1 (fun n1 hx1_2 => ?_)
          refine Exists.elim hx1_2 (fun c1 hx1_3 => ?_)
          have h1 := hx1_3.1
          have z1 := hx1_3.2
          clear hh1 hx1_0 hx1_1 hx1_2 hx1_3
          clear hf
          have ex := (Ext.drw (Ext.refl _)).trans ex0
          refine Box.mk ?_
          simp only [fill, Act.put, Nat.reduceAdd, List.setIfInBounds_toArray, List.set_cons_zero, List.set_cons_succ, h2, h3, h1] at hK ⊢
          go_simp
          refine (asAgg (overZ_any _ _ _ _ _ z2 z3 l5.1 l5.2 (by omega))).mono ?_
          rintro e V ⟨b9, A9, n9, c9, rfl, hz, hb⟩
          try go_wp2_with fail
          exact hK.out _ _ ⟨_, _, _, _, rfl, hz⟩ hb (fun b hb => by cases hb)
        refine Steps.cons (fun (v : Value) (X : World) => ∃ b A n c, v = .agg #[.bool b, .slice A n c] ∧ ZV X (.agg #[.bool b, .slice A n c]) (-(r / t))) [4] rfl (by kernel_rfl) rfl (by kernel_rfl) (fun y X ex0 hf K hK => ?_) ?_
        · have hh4 : ((fun (v : Value) (X : World) => ∃ b A n c, v = .agg #[.bool b, .slice A n c] ∧ ZV X (.agg #[.bool b, .slice A n c]) (r / t))) (y 4) X := hf.1
          refine Exists.elim hh4 (fun b4 hx4_0 => ?_)
          refine Exists.elim hx4_0 (fun A4 hx4_1 => ?_)
          refine Exists.elim hx4_1 (fun n4 hx4_2 => ?_)
          refine Exists.elim hx4_2 (fun c4 hx4_3 => ?_)
          have h4 := hx4_3.1
          have z4 := hx4_3.2
          clear hh4 hx4_0 hx4_1 hx4_2 hx4_3
          clear hf
          have ex := (Ext.drw (Ext.refl _)).trans ex0
          refine Box.mk ?_
          simp only [fill, Act.put, Nat.reduceAdd, List.setIfInBounds_toArray, List.set_cons_zero, List.set_cons_succ, h4] at hK ⊢
          go_simp
          refine (asAgg (oppositeZ_any _ _ _ z4)).mono ?_
          rintro e V ⟨b9, A9, n9, c9, rfl, hz, hb⟩
          try go_wp2_with fail
          exact hK.out _ _ ⟨_, _, _, _, rfl, hz⟩ hb (fun b hb => by cases hb)
        refine Steps.cons (fun (v : Value) (X : World) => ∃ b A n c b' A' n' c' b'' A'' n'' c'', v = .agg #[.bool false, .slice none 0 0, .bool b, .slice A n c, .bool b', .slice A' n' c', .bool b'', .slice A'' n'' c''] ∧ ZV X (.agg #[.bool b, .slice A n c]) 1 ∧ ZV X (.agg #[.bool b', .slice A' n' c']) 1 ∧ ZV X (.agg #[.bool b'', .slice A'' n'' c'']) (-(r / t))) [0, 1, 5] rfl (by kernel_rfl) rfl (by kernel_rfl) (fun y X ex0 hf K hK => ?_) ?_
        · have hh0 : ((fun (v : Value) (X : World) => ∃ b A n c, v = .agg #[.bool b, .slice A n c] ∧ ZV X (.agg #[.bool b, .slice A n c]) (1))) (y 0) X := hf.1
          refine Exists.elim hh0 (fun b0 hx0_0 => ?_)
          refine Exists.elim hx0_0 (fun A0 hx0_1 => ?_)
          refine Exists.elim hx0_1 (fun n0 hx0_2 => ?_)
          refine Exists.elim hx0_2 (fun c0 hx0_3 => ?_)
          have h0 := hx0_3.1
          have z0 := hx0_3.2
          clear hh0 hx0_0 hx0_1 hx0_2 hx0_3
          have hh1 : ((fun (v : Value) (X : World) => ∃ b A n c, v = .agg #[.bool b, .slice A n c] ∧ ZV X (.agg #[.bool b, .slice A n c]) (1))) (y 1) X := hf.2.1
          refine Exists.elim hh1 (fun b1 hx1_0 => ?_)
          refine Exists.elim hx1_0 (fun A1 hx1_1 => ?_)
          refine Exists.elim hx1_1 (fun n1 hx1_2 => ?_)
          refine Exists.elim hx1_2 (fun c1 hx1_3 => ?_)
          have h1 := hx1_3.1
          have z1 := hx1_3.2
          clear hh1 hx1_0 hx1_1 hx1_2 hx1_3
          have hh5 : ((fun (v : Value) (X : World) => ∃ b A n c, v = .agg #[.bool b, .slice A n c] ∧ ZV X (.agg #[.bool b, .slice A n c]) (-(r / t)))) (y 5) X := hf.2.2.1
          refine Exists.elim hh5 (fun b5 hx5_0 => ?_)
          refine Exists.elim hx5_0 (fun A5 hx5_1 => ?_)
          refine Exists.elim hx5_1 (fun n5 hx5_2 => ?_)
          refine Exists.elim hx5_2 (fun c5 hx5_3 => ?_)
          have h5 := hx5_3.1
          have z5 := hx5_3.2
          clear hh5 hx5_0 hx5_1 hx5_2 hx5_3
          clear hf
          have ex := (Ext.drw (Ext.refl _)).trans ex0
          refine Box.mk ?_
          simp only [fill, Act.put, Nat.reduceAdd, List.setIfInBounds_toArray, List.set_cons_zero, List.set_cons_succ, h0, h1, h5] at hK ⊢
          go_simp
          exact hK.out _ _ ⟨_, _, _, _, _, _, _, _, _, _, _, _, rfl, z0, z1, z5⟩ (Ext.refl _) (fun b hb => by cases hb)
        exact Steps.nil
      case done =>
        intro y X ex hf hlt hsep
        have hh0 : ((fun (v : Value) (X : World) => ∃ b A n c, v = .agg #[.bool b, .slice A n c] ∧ ZV X (.agg #[.bool b, .slice A n c]) (1))) (y 0) X := hf.1
        refine Exists.elim hh0 (fun b0 hx0_0 => ?_)
        refine Exists.elim hx0_0 (fun A0 hx0_1 => ?_)
        refine Exists.elim hx0_1 (fun n0 hx0_2 => ?_)
        refine Exists.elim hx0_2 (fun c0 hx0_3 => ?_)
        have h0 := hx0_3.1
        have z0 := hx0_3.2
        clear hh0 hx0_0 hx0_1 hx0_2 hx0_3
        have hh1 : ((fun (v : Value) (X : World) => ∃ b A n c, v = .agg #[.bool b, .slice A n c] ∧ ZV X (.agg #[.bool b, .slice A n c]) (1))) (y 1) X := hf.2.1
        refine Exists.elim hh1 (fun b1 hx1_0 => ?_)
        refine Exists.elim hx1_0 (fun A1 hx1_1 => ?_)
        refine Exists.elim hx1_1 (fun n1 hx1_2 => ?_)
        refine Exists.elim hx1_2 (fun c1 hx1_3 => ?_)
        have h1 := hx1_3.1
        have z1 := hx1_3.2
        clear hh1 hx1_0 hx1_1 hx1_2 hx1_3
        have hh2 : ((fun (v : Value) (X : World) => ∃ b A n c, v = .agg #[.bool b, .slice A n c] ∧ ZV X (.agg #[.bool b, .slice A n c]) (r))) (y 2) X := hf.2.2.1
        refine Exists.elim hh2 (fun b2 hx2_0 => ?_)
        refine Exists.elim hx2_0 (fun A2 hx2_1 => ?_)
        refine Exists.elim hx2_1 (fun n2 hx2_2 => ?_)
        refine Exists.elim hx2_2 (fun c2 hx2_3 => ?_)
        have h2 := hx2_3.1
        have z2 := hx2_3.2
        clear hh2 hx2_0 hx2_1 hx2_2 hx2_3
        have hh3 : ((fun (v : Value) (X : World) => ∃ b A n c, v = .agg #[.bool b, .slice A n c] ∧ ZV X (.agg #[.bool b, .slice A n c]) (t))) (y 3) X := hf.2.2.2.1
        refine Exists.elim hh3 (fun b3 hx3_0 => ?_)
        refine Exists.elim hx3_0 (fun A3 hx3_1 => ?_)
        refine Exists.elim hx3_1 (fun n3 hx3_2 => ?_)
        refine Exists.elim hx3_2 (fun c3 hx3_3 => ?_)
        have h3 := hx3_3.1
        have z3 := hx3_3.2
        clear hh3 hx3_0 hx3_1 hx3_2 hx3_3
        have hh4 : ((fun (v : Value) (X : World) => ∃ b A n c, v = .agg #[.bool b, .slice A n c] ∧ ZV X (.agg #[.bool b, .slice A n c]) (r / t))) (y 4) X := hf.2.2.2.2.1
        refine Exists.elim hh4 (fun b4 hx4_0 => ?_)
        refine Exists.elim hx4_0 (fun A4 hx4_1 => ?_)
        refine Exists.elim hx4_1 (fun n4 hx4_2 => ?_)
        refine Exists.elim hx4_2 (fun c4 hx4_3 => ?_)
        have h4 := hx4_3.1
        have z4 := hx4_3.2
        clear hh4 hx4_0 hx4_1 hx4_2 hx4_3
        have hh5 : ((fun (v : Value) (X : World) => ∃ b A n c, v = .agg #[.bool b, .slice A n c] ∧ ZV X (.agg #[.bool b, .slice A n c]) (-(r / t)))) (y 5) X := hf.2.2.2.2.2.1
        refine Exists.elim hh5 (fun b5 hx5_0 => ?_)
        refine Exists.elim hx5_0 (fun A5 hx5_1 => ?_)
        refine Exists.elim hx5_1 (fun n5 hx5_2 => ?_)
        refine Exists.elim hx5_2 (fun c5 hx5_3 => ?_)
        have h5 := hx5_3.1
        have z5 := hx5_3.2
        clear hh5 hx5_0 hx5_1 hx5_2 hx5_3
        have hh6 : ((fun (v : Value) (X : World) => ∃ b A n c b' A' n' c' b'' A'' n'' c'', v = .agg #[.bool false, .slice none 0 0, .bool b, .slice A n c, .bool b', .slice A' n' c', .bool b'', .slice A'' n'' c''] ∧ ZV X (.agg #[.bool b, .slice A n c]) 1 ∧ ZV X (.agg #[.bool b', .slice A' n' c']) 1 ∧ ZV X (.agg #[.bool b'', .slice A'' n'' c'']) (-(r / t)))) (y 6) X := hf.2.2.2.2.2.2.1
        refine Exists.elim hh6 (fun b6 hx6_0 => ?_)
        refine Exists.elim hx6_0 (fun A6 hx6_1 => ?_)
        refine Exists.elim hx6_1 (fun n6 hx6_2 => ?_)
        refine Exists.elim hx6_2 (fun c6 hx6_3 => ?_)
        refine Exists.elim hx6_3 (fun bb6 hx6_4 => ?_)
        refine Exists.elim hx6_4 (fun AA6 hx6_5 => ?_)
        refine Exists.elim hx6_5 (fun nn6 hx6_6 => ?_)
        refine Exists.elim hx6_6 (fun cc6 hx6_7 => ?_)
        refine Exists.elim hx6_7 (fun bbb6 hx6_8 => ?_)
        refine Exists.elim hx6_8 (fun AAA6 hx6_9 => ?_)
        refine Exists.elim hx6_9 (fun nnn6 hx6_10 => ?_)
        refine Exists.elim hx6_10 (fun ccc6 hx6_11 => ?_)
        have h6 := hx6_11.1
        have z6 := hx6_11.2.1
        have y6 := hx6_11.2.2.1
        have x6 := hx6_11.2.2.2
        clear hh6 hx6_0 hx6_1 hx6_2 hx6_3 hx6_4 hx6_5 hx6_6 hx6_7 hx6_8 hx6_9 hx6_10 hx6_11
        clear hf
        clear hsep hlt
        refine Box.mk ?_
        simp only [List.drop_succ_cons, List.drop_zero, fill, Act.put, Nat.reduceAdd, List.setIfInBounds_toArray, List.set_cons_zero, List.set_cons_succ, h0, h1, h2, h3, h4, h5, h6]
        clear h0 h1 h2 h3 h4 h5 h6
        have S5 := P5.out.ext ex
        have S4 := Lib.hid S5
        have HE := Lib.hid (Ext.trans E5.out ex)
        have HF := Lib.hid (And.intro z6 (And.intro y6 x6))
        obtain ⟨⟨a0, a1, a2, a3, a4, a5, a6, a7, g0, g1, g2, g3, g4, g5, g6, g7⟩, gf⟩ := S5.facts
        have gf0 := gf 0; have gf1 := gf 1; have gf2 := gf 2; have gf3 := gf 3; have gf4 := gf 4; have gf5 := gf 5; have gf6 := gf 6; have gf7 := gf 7
        have L5 := Lib.hid l5
        clear gf S5 ex z0 z1 z2 z3 z4 z5 z6 y6 x6 l5
        go_wp2_with fail
        refine NoPanic.normal ?_
        go_wp2
        clear g0 g1 g2 g3 g4 g5 g6 g7 gf0 gf1 gf2 gf3 gf4 gf5 gf6 gf7
        obtain ⟨q0, q1, q2, q3, q4, q5, q6, q7⟩ := put8_cells S4.out (.bool false) (.slice none 0 0) (.bool b6) (.slice A6 n6 c6) (.bool bb6) (.slice AA6 nn6 cc6) (.bool bbb6) (.slice AAA6 nnn6 ccc6)
        have hbel := put8_below (B := W.heap.size) (W := W) HE.out (show W.heap.size ≤ W.heap.size + 1 + 1 by omega) (.bool false) (.slice none 0 0) (.bool b6) (.slice A6 n6 c6) (.bool bb6) (.slice AA6 nn6 cc6) (.bool bbb6) (.slice AAA6 nnn6 ccc6)
        have P0 := (ZV.zero _).put8 S4.out (.bool false) (.slice none 0 0) (.bool b6) (.slice A6 n6 c6) (.bool bb6) (.slice AA6 nn6 cc6) (.bool bbb6) (.slice AAA6 nnn6 ccc6)
        have P1 := HF.out.1.put8 S4.out (.bool false) (.slice none 0 0) (.bool b6) (.slice A6 n6 c6) (.bool bb6) (.slice AA6 nn6 cc6) (.bool bbb6) (.slice AAA6 nnn6 ccc6)
        have P2 := HF.out.2.1.put8 S4.out (.bool false) (.slice none 0 0) (.bool b6) (.slice A6 n6 c6) (.bool bb6) (.slice AA6 nn6 cc6) (.bool bbb6) (.slice AAA6 nnn6 ccc6)
        have P3 := HF.out.2.2.put8 S4.out (.bool false) (.slice none 0 0) (.bool b6) (.slice A6 n6 c6) (.bool bb6) (.slice AA6 nn6 cc6) (.bool bbb6) (.slice AAA6 nnn6 ccc6)
        obtain ⟨W9, hW9⟩ : ∃ W9, W9 = put8 X (W.heap.size + 1 + 1) (.bool false) (.slice none 0 0) (.bool b6) (.slice A6 n6 c6) (.bool bb6) (.slice AA6 nn6 cc6) (.bool bbb6) (.slice AAA6 nnn6 ccc6) := ⟨_, rfl⟩
        rw [← hW9] at q0 q1 q2 q3 q4 q5 q6 q7 hbel P0 P1 P2 P3
        unfold put8 at hW9
        rw [← hW9]
        exact bodyPost_ret (v := .agg #[.bool false, .slice none 0 0, .bool b6, .slice A6 n6 c6, .bool bb6, .slice AA6 nn6 cc6, .bool bbb6, .slice AAA6 nnn6 ccc6]) (by simp [results, Tryz.results79, go_sem, q0, q1, q2, q3, q4, q5, q6, q7]) rfl
          ⟨_, rfl, ⟨false, none, 0, 0, b6, A6, n6, c6, bb6, AA6, nn6, cc6, bbb6, AAA6, nnn6, ccc6, rfl, P0, P1, P2, P3⟩, hbel⟩
  · have c1i : ¬ (2 : Int) < (m2 : Int) := by omega
    have hlh := HLH.out; have hyes := HYES.out; have hnum := HNUM.out
    clear HLH HYES HNUM
    have hy : yes = false := by rw [hyes]; exact decide_eq_false (fun h => c1 (by rw [LM.out.1.2]; exact h.1))
    rw [hy] at hnum
    simp only [Bool.false_and, Bool.false_eq_true, if_false] at hnum
    obtain ⟨rfl, rfl, rfl, rfl⟩ := hnum
    clear hlh hyes hy CM
    go_wp2_with fail
    have e5 := ew
    have PX5 := Lib.hid (PX.out.ext zl3 e5)
    have PY5 := Lib.hid (PY.out.ext zl2 e5)
    have P5 := Lib.hid (P3.out.ext e5)
    have E5 := Lib.hid (EW.out.trans e5)
    have y0 : W.heap.size < W1.heap.size := Nat.lt_of_lt_of_le zl3 e5.size
    have y1 : W.heap.size + 1 < W1.heap.size := Nat.lt_of_lt_of_le zl2 e5.size
    have l5 : (dig r.natAbs).length ≤ 999999 ∧ (dig t.natAbs).length ≤ 1000000 := by have := LM.out.2; omega
    clear e5
    refine wp_region_noPanic ?_
    refine wp_pool 7 [some 29, some 30, some 31, some 32, some 33, some 34, some 35] [] [] [(fun (v : Value) (X : World) => ∃ b A n c, v = .agg #[.bool b, .slice A n c] ∧ ZV X (.agg #[.bool b, .slice A n c]) (1)), (fun (v : Value) (X : World) => ∃ b A n c, v = .agg #[.bool b, .slice A n c] ∧ ZV X (.agg #[.bool b, .slice A n c]) (1)), (fun (v : Value) (X : World) => ∃ b A n c, v = .agg #[.bool b, .slice A n c] ∧ ZV X (.agg #[.bool b, .slice A n c]) (r)), (fun (v : Value) (X : World) => ∃ b A n c, v = .agg #[.bool b, .slice A n c] ∧ ZV X (.agg #[.bool b, .slice A n c]) (t)), (fun (v : Value) (X : World) => ∃ b A n c, v = .agg #[.bool b, .slice A n c] ∧ ZV X (.agg #[.bool b, .slice A n c]) (r / t)), (fun (v : Value) (X : World) => ∃ b A n c, v = .agg #[.bool b, .slice A n c] ∧ ZV X (.agg #[.bool b, .slice A n c]) (-(r / t))), (fun (v : Value) (X : World) => ∃ b A n c b' A' n' c' b'' A'' n'' c'', v = .agg #[.bool false, .slice none 0 0, .bool b, .slice A n c, .bool b', .slice A' n' c', .bool b'', .slice A'' n'' c''] ∧ ZV X (.agg #[.bool b, .slice A n c]) 1 ∧ ZV X (.agg #[.bool b', .slice A' n' c']) 1 ∧ ZV X (.agg #[.bool b'', .slice A'' n'' c'']) (-(r / t)))] [noF, noF, noF, noF, noF, noF, noF] (by kernel_rfl) (by kernel_rfl) (by kernel_rfl) (by kernel_rfl) (by kernel_rfl) (by kernel_rfl) (by kernel_rfl) (by kernel_rfl) (fun _ _ _ _ h => h) ⟨(fun _ _ _ e ⟨b, A, n, c, h1, h2⟩ => ⟨b, A, n, c, h1, h2.ext e⟩), (fun _ _ _ e ⟨b, A, n, c, h1, h2⟩ => ⟨b, A, n, c, h1, h2.ext e⟩), (fun _ _ _ e ⟨b, A, n, c, h1, h2⟩ => ⟨b, A, n, c, h1, h2.ext e⟩), (fun _ _ _ e ⟨b, A, n, c, h1, h2⟩ => ⟨b, A, n, c, h1, h2.ext e⟩), (fun _ _ _ e ⟨b, A, n, c, h1, h2⟩ => ⟨b, A, n, c, h1, h2.ext e⟩), (fun _ _ _ e ⟨b, A, n, c, h1, h2⟩ => ⟨b, A, n, c, h1, h2.ext e⟩), (fun _ _ _ e ⟨b, A, n, c, b', A', n', c', b'', A'', n'', c'', h1, h2, h3, h4⟩ => ⟨b, A, n, c, b', A', n', c', b'', A'', n'', c'', h1, h2.ext e, h3.ext e, h4.ext e⟩), True.intro⟩ ?steps ?done
    case steps =>
      simp only [List.take_succ_cons, List.take_zero]
      refine Steps.cons (fun (v : Value) (X : World) => ∃ b A n c, v = .agg #[.bool b, .slice A n c] ∧ ZV X (.agg #[.bool b, .slice A n c]) (1)) [] rfl (by kernel_rfl) rfl (by kernel_rfl) (fun y X ex0 hf K hK => ?_) ?_
      · clear hf
        have ex := (Ext.drw (Ext.refl _)).trans ex0
        refine Box.mk ?_
        simp only [fill, Act.put, Nat.reduceAdd, List.setIfInBounds_toArray, List.set_cons_zero, List.set_cons_succ] at hK ⊢
        go_simp
        refine (asAgg (smallE_any 1 _ (by omega) (by omega))).mono ?_
        rintro e V ⟨b9, A9, n9, c9, rfl, hz, hb⟩
        try go_wp2_with fail
        exact hK.out _ _ ⟨_, _, _, _, rfl, hz⟩ hb (fun b hb => by cases hb)
      refine Steps.cons (fun (v : Value) (X : World) => ∃ b A n c, v = .agg #[.bool b, .slice A n c] ∧ ZV X (.agg #[.bool b, .slice A n c]) (1)) [0] rfl (by kernel_rfl) rfl (by kernel_rfl) (fun y X ex0 hf K hK => ?_) ?_
      · have hh0 : ((fun (v : Value) (X : World) => ∃ b A n c, v = .agg #[.bool b, .slice A n c] ∧ ZV X (.agg #[.bool b, .slice A n c]) (1))) (y 0) X := hf.1
        refine Exists.elim hh0 (fun b0 hx0_0 => ?_)
        refine Exists.elim hx0_0 (fun A0 hx0_1 => ?_)
        refine Exists.elim hx0_1 (fun n0 hx0_2 => ?_)
        refine Exists.elim hx0_2 (fun c0 hx0_3 => ?_)
        have h0 := hx0_3.1
        have z0 := hx0_3.2
        clear hh0 hx0_0 hx0_1 hx0_2 hx0_3
        clear hf
        have ex := (Ext.drw (Ext.refl _)).trans ex0
        refine Box.mk ?_
        simp only [fill, Act.put, Nat.reduceAdd, List.setIfInBounds_toArray, List.set_cons_zero, List.set_cons_succ, h0] at hK ⊢
        go_simp
        refine (asAgg (smallE_any 1 _ (by omega) (by omega))).mono ?_
        rintro e V ⟨b9, A9, n9, c9, rfl, hz, hb⟩
        try go_wp2_with fail
        exact hK.out _ _ ⟨_, _, _, _, rfl, hz⟩ hb (fun b hb => by cases hb)
      refine Steps.cons (fun (v : Value) (X : World) => ∃ b A n c, v = .agg #[.bool b, .slice A n c] ∧ ZV X (.agg #[.bool b, .slice A n c]) (r)) [] rfl (by kernel_rfl) rfl (by kernel_rfl) (fun y X ex0 hf K hK => ?_) ?_
      · clear hf
        have ex := (Ext.drw (Ext.refl _)).trans ex0
        refine Box.mk ?_
        simp only [fill, Act.put, Nat.reduceAdd, List.setIfInBounds_toArray, List.set_cons_zero, List.set_cons_succ] at hK ⊢
        obtain ⟨bl, Al, nl, cl, k0, k1, kz⟩ := (PX5.out.ext (by omega) ex)
        go_simp
        exact hK.out _ _ ⟨_, _, _, _, rfl, kz⟩ (Ext.refl _) (fun b hb => by cases hb)
      refine Steps.cons (fun (v : Value) (X : World) => ∃ b A n c, v = .agg #[.bool b, .slice A n c] ∧ ZV X (.agg #[.bool b, .slice A n c]) (t)) [] rfl (by kernel_rfl) rfl (by kernel_rfl) (fun y X ex0 hf K hK => ?_) ?_
      · clear hf
        have ex := (Ext.drw (Ext.refl _)).trans ex0
        refine Box.mk ?_
        simp only [fill, Act.put, Nat.reduceAdd, List.setIfInBounds_toArray, List.set_cons_zero, List.set_cons_succ] at hK ⊢
        obtain ⟨bl, Al, nl, cl, k0, k1, kz⟩ := (PY5.out.ext (by omega) ex)
        go_simp
        exact hK.out _ _ ⟨_, _, _, _, rfl, kz⟩ (Ext.refl _) (fun b hb => by cases hb)
      refine Steps.cons (fun (v : Value) (X : World) => ∃ b A n c, v = .agg #[.bool b, .slice A n c] ∧ ZV X (.agg #[.bool b, .slice A n c]) (r / t)) [2, 3, 1] rfl (by kernel_rfl) rfl (by kernel_rfl) (fun y X ex0 hf K hK => ?_) ?_
      · have hh2 : ((fun (v : Value) (X : World) => ∃ b A n c, v = .agg #[.bool b, .slice A n c] ∧ ZV X (.agg #[.bool b, .slice A n c]) (r))) (y 2) X := hf.1
        refine Exists.elim hh2 (fun b2 hx2_0 => ?_)
        refine Exists.elim hx2_0 (fun A2 hx2_1 => ?_)
        refine Exists.elim hx2_1 (fun n2 hx2_2 => ?_)
        refine Exists.elim hx2_2 (fun c2 hx2_3 => ?_)
        have h2 := hx2_3.1
        have z2 := hx2_3.2
        clear hh2 hx2_0 hx2_1 hx2_2 hx2_3
        have hh3 : ((fun (v : Value) (X : World) => ∃ b A n c, v = .agg #[.bool b, .slice A n c] ∧ ZV X (.agg #[.bool b, .slice A n c]) (t))) (y 3) X := hf.2.1
        refine Exists.elim hh3 (fun b3 hx3_0 => ?_)
        refine Exists.elim hx3_0 (fun A3 hx3_1 => ?_)
        refine Exists.elim hx3_1 (fun n3 hx3_2 => ?_)
        refine Exists.elim hx3_2 (fun c3 hx3_3 => ?_)
        have h3 := hx3_3.1
        have z3 := hx3_3.2
        clear hh3 hx3_0 hx3_1 hx3_2 hx3_3
        have hh1 : ((fun (v : Value) (X : World) => ∃ b A n c, v = .agg #[.bool b, .slice A n c] ∧ ZV X (.agg #[.bool b, .slice A n c]) (1))) (y 1) X := hf.2.2.1
        refine Exists.elim hh1 (fun b1 hx1_0 => ?_)
        refine Exists.elim hx1_0 (fun A1 hx1_1 => ?_)
        refine Exists.elim hx1_1 (fun n1 hx1_2 => ?_)
        refine Exists.elim hx1_2 (fun c1 hx1_3 => ?_)
        have h1 := hx1_3.1
        have z1 := hx1_3.2
        clear hh1 hx1_0 hx1_1 hx1_2 hx1_3
        clear hf
        have ex := (Ext.drw (Ext.refl _)).trans ex0
        refine Box.mk ?_
        simp only [fill, Act.put, Nat.reduceAdd, List.setIfInBounds_toArray, List.set_cons_zero, List.set_cons_succ, h2, h3, h1] at hK ⊢
        go_simp
        refine (asAgg (overZ_any _ _ _ _ _ z2 z3 l5.1 l5.2 (by omega))).mono ?_
        rintro e V ⟨b9, A9, n9, c9, rfl, hz, hb⟩
        try go_wp2_with fail
        exact hK.out _ _ ⟨_, _, _, _, rfl, hz⟩ hb (fun b hb => by cases hb)
      refine Steps.cons (fun (v : Value) (X : World) => ∃ b A n c, v = .agg #[.bool b, .slice A n c] ∧ ZV X (.agg #[.bool b, .slice A n c]) (-(r / t))) [4] rfl (by kernel_rfl) rfl (by kernel_rfl) (fun y X ex0 hf K hK => ?_) ?_
      · have hh4 : ((fun (v : Value) (X : World) => ∃ b A n c, v = .agg #[.bool b, .slice A n c] ∧ ZV X (.agg #[.bool b, .slice A n c]) (r / t))) (y 4) X := hf.1
        refine Exists.elim hh4 (fun b4 hx4_0 => ?_)
        refine Exists.elim hx4_0 (fun A4 hx4_1 => ?_)
        refine Exists.elim hx4_1 (fun n4 hx4_2 => ?_)
        refine Exists.elim hx4_2 (fun c4 hx4_3 => ?_)
        have h4 := hx4_3.1
        have z4 := hx4_3.2
        clear hh4 hx4_0 hx4_1 hx4_2 hx4_3
        clear hf
        have ex := (Ext.drw (Ext.refl _)).trans ex0
        refine Box.mk ?_
        simp only [fill, Act.put, Nat.reduceAdd, List.setIfInBounds_toArray, List.set_cons_zero, List.set_cons_succ, h4] at hK ⊢
        go_simp
        refine (asAgg (oppositeZ_any _ _ _ z4)).mono ?_
        rintro e V ⟨b9, A9, n9, c9, rfl, hz, hb⟩
        try go_wp2_with fail
        exact hK.out _ _ ⟨_, _, _, _, rfl, hz⟩ hb (fun b hb => by cases hb)
      refine Steps.cons (fun (v : Value) (X : World) => ∃ b A n c b' A' n' c' b'' A'' n'' c'', v = .agg #[.bool false, .slice none 0 0, .bool b, .slice A n c, .bool b', .slice A' n' c', .bool b'', .slice A'' n'' c''] ∧ ZV X (.agg #[.bool b, .slice A n c]) 1 ∧ ZV X (.agg #[.bool b', .slice A' n' c']) 1 ∧ ZV X (.agg #[.bool b'', .slice A'' n'' c'']) (-(r / t))) [0, 1, 5] rfl (by kernel_rfl) rfl (by kernel_rfl) (fun y X ex0 hf K hK => ?_) ?_
      · have hh0 : ((fun (v : Value) (X : World) => ∃ b A n c, v = .agg #[.bool b, .slice A n c] ∧ ZV X (.agg #[.bool b, .slice A n c]) (1))) (y 0) X := hf.1
        refine Exists.elim hh0 (fun b0 hx0_0 => ?_)
        refine Exists.elim hx0_0 (fun A0 hx0_1 => ?_)
        refine Exists.elim hx0_1 (fun n0 hx0_2 => ?_)
        refine Exists.elim hx0_2 (fun c0 hx0_3 => ?_)
        have h0 := hx0_3.1
        have z0 := hx0_3.2
        clear hh0 hx0_0 hx0_1 hx0_2 hx0_3
        have hh1 : ((fun (v : Value) (X : World) => ∃ b A n c, v = .agg #[.bool b, .slice A n c] ∧ ZV X (.agg #[.bool b, .slice A n c]) (1))) (y 1) X := hf.2.1
        refine Exists.elim hh1 (fun b1 hx1_0 => ?_)
        refine Exists.elim hx1_0 (fun A1 hx1_1 => ?_)
        refine Exists.elim hx1_1 (fun n1 hx1_2 => ?_)
        refine Exists.elim hx1_2 (fun c1 hx1_3 => ?_)
        have h1 := hx1_3.1
        have z1 := hx1_3.2
        clear hh1 hx1_0 hx1_1 hx1_2 hx1_3
        have hh5 : ((fun (v : Value) (X : World) => ∃ b A n c, v = .agg #[.bool b, .slice A n c] ∧ ZV X (.agg #[.bool b, .slice A n c]) (-(r / t)))) (y 5) X := hf.2.2.1
        refine Exists.elim hh5 (fun b5 hx5_0 => ?_)
        refine Exists.elim hx5_0 (fun A5 hx5_1 => ?_)
        refine Exists.elim hx5_1 (fun n5 hx5_2 => ?_)
        refine Exists.elim hx5_2 (fun c5 hx5_3 => ?_)
        have h5 := hx5_3.1
        have z5 := hx5_3.2
        clear hh5 hx5_0 hx5_1 hx5_2 hx5_3
        clear hf
        have ex := (Ext.drw (Ext.refl _)).trans ex0
        refine Box.mk ?_
        simp only [fill, Act.put, Nat.reduceAdd, List.setIfInBounds_toArray, List.set_cons_zero, List.set_cons_succ, h0, h1, h5] at hK ⊢
        go_simp
        exact hK.out _ _ ⟨_, _, _, _, _, _, _, _, _, _, _, _, rfl, z0, z1, z5⟩ (Ext.refl _) (fun b hb => by cases hb)
      exact Steps.nil
    case done =>
      intro y X ex hf hlt hsep
      have hh0 : ((fun (v : Value) (X : World) => ∃ b A n c, v = .agg #[.bool b, .slice A n c] ∧ ZV X (.agg #[.bool b, .slice A n c]) (1))) (y 0) X := hf.1
      refine Exists.elim hh0 (fun b0 hx0_0 => ?_)
      refine Exists.elim hx0_0 (fun A0 hx0_1 => ?_)
      refine Exists.elim hx0_1 (fun n0 hx0_2 => ?_)
      refine Exists.elim hx0_2 (fun c0 hx0_3 => ?_)
      have h0 := hx0_3.1
      have z0 := hx0_3.2
      clear hh0 hx0_0 hx0_1 hx0_2 hx0_3
      have hh1 : ((fun (v : Value) (X : World) => ∃ b A n c, v = .agg #[.bool b, .slice A n c] ∧ ZV X (.agg #[.bool b, .slice A n c]) (1))) (y 1) X := hf.2.1
      refine Exists.elim hh1 (fun b1 hx1_0 => ?_)
      refine Exists.elim hx1_0 (fun A1 hx1_1 => ?_)
      refine Exists.elim hx1_1 (fun n1 hx1_2 => ?_)
      refine Exists.elim hx1_2 (fun c1 hx1_3 => ?_)
      have h1 := hx1_3.1
      have z1 := hx1_3.2
      clear hh1 hx1_0 hx1_1 hx1_2 hx1_3
      have hh2 : ((fun (v : Value) (X : World) => ∃ b A n c, v = .agg #[.bool b, .slice A n c] ∧ ZV X (.agg #[.bool b, .slice A n c]) (r))) (y 2) X := hf.2.2.1
      refine Exists.elim hh2 (fun b2 hx2_0 => ?_)
      refine Exists.elim hx2_0 (fun A2 hx2_1 => ?_)
      refine Exists.elim hx2_1 (fun n2 hx2_2 => ?_)
      refine Exists.elim hx2_2 (fun c2 hx2_3 => ?_)
      have h2 := hx2_3.1
      have z2 := hx2_3.2
      clear hh2 hx2_0 hx2_1 hx2_2 hx2_3
      have hh3 : ((fun (v : Value) (X : World) => ∃ b A n c, v = .agg #[.bool b, .slice A n c] ∧ ZV X (.agg #[.bool b, .slice A n c]) (t))) (y 3) X := hf.2.2.2.1
      refine Exists.elim hh3 (fun b3 hx3_0 => ?_)
      refine Exists.elim hx3_0 (fun A3 hx3_1 => ?_)
      refine Exists.elim hx3_1 (fun n3 hx3_2 => ?_)
      refine Exists.elim hx3_2 (fun c3 hx3_3 => ?_)
      have h3 := hx3_3.1
      have z3 := hx3_3.2
      clear hh3 hx3_0 hx3_1 hx3_2 hx3_3
      have hh4 : ((fun (v : Value) (X : World) => ∃ b A n c, v = .agg #[.bool b, .slice A n c] ∧ ZV X (.agg #[.bool b, .slice A n c]) (r / t))) (y 4) X := hf.2.2.2.2.1
      refine Exists.elim hh4 (fun b4 hx4_0 => ?_)
      refine Exists.elim hx4_0 (fun A4 hx4_1 => ?_)
      refine Exists.elim hx4_1 (fun n4 hx4_2 => ?_)
      refine Exists.elim hx4_2 (fun c4 hx4_3 => ?_)
      have h4 := hx4_3.1
      have z4 := hx4_3.2
      clear hh4 hx4_0 hx4_1 hx4_2 hx4_3
      have hh5 : ((fun (v : Value) (X : World) => ∃ b A n c, v = .agg #[.bool b, .slice A n c] ∧ ZV X (.agg #[.bool b, .slice A n c]) (-(r / t)))) (y 5) X := hf.2.2.2.2.2.1
      refine Exists.elim hh5 (fun b5 hx5_0 => ?_)
      refine Exists.elim hx5_0 (fun A5 hx5_1 => ?_)
      refine Exists.elim hx5_1 (fun n5 hx5_2 => ?_)
      refine Exists.elim hx5_2 (fun c5 hx5_3 => ?_)
      have h5 := hx5_3.1
      have z5 := hx5_3.2
      clear hh5 hx5_0 hx5_1 hx5_2 hx5_3
      have hh6 : ((fun (v : Value) (X : World) => ∃ b A n c b' A' n' c' b'' A'' n'' c'', v = .agg #[.bool false, .slice none 0 0, .bool b, .slice A n c, .bool b', .slice A' n' c', .bool b'', .slice A'' n'' c''] ∧ ZV X (.agg #[.bool b, .slice A n c]) 1 ∧ ZV X (.agg #[.bool b', .slice A' n' c']) 1 ∧ ZV X (.agg #[.bool b'', .slice A'' n'' c'']) (-(r / t)))) (y 6) X := hf.2.2.2.2.2.2.1
      refine Exists.elim hh6 (fun b6 hx6_0 => ?_)
      refine Exists.elim hx6_0 (fun A6 hx6_1 => ?_)
      refine Exists.elim hx6_1 (fun n6 hx6_2 => ?_)
      refine Exists.elim hx6_2 (fun c6 hx6_3 => ?_)
      refine Exists.elim hx6_3 (fun bb6 hx6_4 => ?_)
      refine Exists.elim hx6_4 (fun AA6 hx6_5 => ?_)
      refine Exists.elim hx6_5 (fun nn6 hx6_6 => ?_)
      refine Exists.elim hx6_6 (fun cc6 hx6_7 => ?_)
      refine Exists.elim hx6_7 (fun bbb6 hx6_8 => ?_)
      refine Exists.elim hx6_8 (fun AAA6 hx6_9 => ?_)
      refine Exists.elim hx6_9 (fun nnn6 hx6_10 => ?_)
      refine Exists.elim hx6_10 (fun ccc6 hx6_11 => ?_)
      have h6 := hx6_11.1
      have z6 := hx6_11.2.1
      have y6 := hx6_11.2.2.1
      have x6 := hx6_11.2.2.2
      clear hh6 hx6_0 hx6_1 hx6_2 hx6_3 hx6_4 hx6_5 hx6_6 hx6_7 hx6_8 hx6_9 hx6_10 hx6_11
      clear hf
      clear hsep hlt
      refine Box.mk ?_
      simp only [List.drop_succ_cons, List.drop_zero, fill, Act.put, Nat.reduceAdd, List.setIfInBounds_toArray, List.set_cons_zero, List.set_cons_succ, h0, h1, h2, h3, h4, h5, h6]
      clear h0 h1 h2 h3 h4 h5 h6
      have S5 := P5.out.ext ex
      have S4 := Lib.hid S5
      have HE := Lib.hid (Ext.trans E5.out ex)
      have HF := Lib.hid (And.intro z6 (And.intro y6 x6))
      obtain ⟨⟨a0, a1, a2, a3, a4, a5, a6, a7, g0, g1, g2, g3, g4, g5, g6, g7⟩, gf⟩ := S5.facts
      have gf0 := gf 0; have gf1 := gf 1; have gf2 := gf 2; have gf3 := gf 3; have gf4 := gf 4; have gf5 := gf 5; have gf6 := gf 6; have gf7 := gf 7
      have L5 := Lib.hid l5
      clear gf S5 ex z0 z1 z2 z3 z4 z5 z6 y6 x6 l5
      go_wp2_with fail
      refine NoPanic.normal ?_
      go_wp2
      clear g0 g1 g2 g3 g4 g5 g6 g7 gf0 gf1 gf2 gf3 gf4 gf5 gf6 gf7
      obtain ⟨q0, q1, q2, q3, q4, q5, q6, q7⟩ := put8_cells S4.out (.bool false) (.slice none 0 0) (.bool b6) (.slice A6 n6 c6) (.bool bb6) (.slice AA6 nn6 cc6) (.bool bbb6) (.slice AAA6 nnn6 ccc6)
      have hbel := put8_below (B := W.heap.size) (W := W) HE.out (show W.heap.size ≤ W.heap.size + 1 + 1 by omega) (.bool false) (.slice none 0 0) (.bool b6) (.slice A6 n6 c6) (.bool bb6) (.slice AA6 nn6 cc6) (.bool bbb6) (.slice AAA6 nnn6 ccc6)
      have P0 := (ZV.zero _).put8 S4.out (.bool false) (.slice none 0 0) (.bool b6) (.slice A6 n6 c6) (.bool bb6) (.slice AA6 nn6 cc6) (.bool bbb6) (.slice AAA6 nnn6 ccc6)
      have P1 := HF.out.1.put8 S4.out (.bool false) (.slice none 0 0) (.bool b6) (.slice A6 n6 c6) (.bool bb6) (.slice AA6 nn6 cc6) (.bool bbb6) (.slice AAA6 nnn6 ccc6)
      have P2 := HF.out.2.1.put8 S4.out (.bool false) (.slice none 0 0) (.bool b6) (.slice A6 n6 c6) (.bool bb6) (.slice AA6 nn6 cc6) (.bool bbb6) (.slice AAA6 nnn6 ccc6)
      have P3 := HF.out.2.2.put8 S4.out (.bool false) (.slice none 0 0) (.bool b6) (.slice A6 n6 c6) (.bool bb6) (.slice AA6 nn6 cc6) (.bool bbb6) (.slice AAA6 nnn6 ccc6)
      obtain ⟨W9, hW9⟩ : ∃ W9, W9 = put8 X (W.heap.size + 1 + 1) (.bool false) (.slice none 0 0) (.bool b6) (.slice A6 n6 c6) (.bool bb6) (.slice AA6 nn6 cc6) (.bool bbb6) (.slice AAA6 nnn6 ccc6) := ⟨_, rfl⟩
      rw [← hW9] at q0 q1 q2 q3 q4 q5 q6 q7 hbel P0 P1 P2 P3
      unfold put8 at hW9
      rw [← hW9]
      exact bodyPost_ret (v := .agg #[.bool false, .slice none 0 0, .bool b6, .slice A6 n6 c6, .bool bb6, .slice AA6 nn6 cc6, .bool bbb6, .slice AAA6 nnn6 ccc6]) (by simp [results, Tryz.results79, go_sem, q0, q1, q2, q3, q4, q5, q6, q7]) rfl
        ⟨_, rfl, ⟨false, none, 0, 0, b6, A6, n6, c6, bb6, AA6, nn6, cc6, bbb6, AAA6, nnn6, ccc6, rfl, P0, P1, P2, P3⟩, hbel⟩
end Go.Proofs.YtmlopkkbgpfdnaaGreatDoor
