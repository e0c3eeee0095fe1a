/- Walks: the law StampGroups, wrong arguments. -/
import Derived.Test.YtgjanbgehbpciaaG1
namespace Go.Proofs.Ytgjanbgehbpciaa
open Go.RowKit

/-- behind the first call -/
def NCut (X : World) (e : Int) (sp se : Value) (wx : World) : Prop := se = .int .i64 e ∧ Ext X wx ∧ sp = sp

set_option maxHeartbeats 8000000 in
set_option maxRecDepth 100000 in
theorem groups_no (w h : Int) (A : Option Addr) (n c : Nat) (l : List Int) (a b d : Mv) (W : World) (hl : Ins W A n c l) (hno : (vst w h l && has w h a && has w h b && has w h d) = false) :
    Calls Try.prog 6 #[.agg #[.int .i64 w, .int .i64 h, .slice A n c], .agg #[.int .i64 a.dx, .int .i64 a.dy, .int .i64 a.t, .bool a.f], .agg #[.int .i64 b.dx, .int .i64 b.dy, .int .i64 b.t, .bool b.f], .agg #[.int .i64 d.dx, .int .i64 d.dy, .int .i64 d.t, .bool d.f]] W fun e W' => e = .returned (.bool true) ∧ Ext W W' := by
  have HL := Lib.hid hl; have HNO := Lib.hid hno; clear hl hno
  go_enter Try.func6, Try.ntmps6
  go_upto_region 1 with fail
  have hs : Q3 ((((W.alloc (.cells #[.int .i64 w, .int .i64 h, .slice A n c] 24)).alloc (.cells #[.int .i64 a.dx, .int .i64 a.dy, .int .i64 a.t, .bool a.f] 26)).alloc (.cells #[.int .i64 b.dx, .int .i64 b.dy, .int .i64 b.t, .bool b.f] 26)).alloc (.cells #[.int .i64 d.dx, .int .i64 d.dy, .int .i64 d.t, .bool d.f] 26)) (W.heap.size) (.int .i64 w) (.int .i64 h) (.slice A n c) := by
    refine ⟨?_, ?_, ?_⟩ <;> (rw [World.cell?_alloc_past _ _ _ (by simp <;> omega), World.cell?_alloc_past _ _ _ (by simp <;> omega), World.cell?_alloc_past _ _ _ (by simp), World.cell?_alloc_new]; rfl)
  have qa : Q4 ((((W.alloc (.cells #[.int .i64 w, .int .i64 h, .slice A n c] 24)).alloc (.cells #[.int .i64 a.dx, .int .i64 a.dy, .int .i64 a.t, .bool a.f] 26)).alloc (.cells #[.int .i64 b.dx, .int .i64 b.dy, .int .i64 b.t, .bool b.f] 26)).alloc (.cells #[.int .i64 d.dx, .int .i64 d.dy, .int .i64 d.t, .bool d.f] 26)) (W.heap.size + 1) (.int .i64 a.dx) (.int .i64 a.dy) (.int .i64 a.t) (.bool a.f) := by
    refine ⟨?_, ?_, ?_, ?_⟩ <;> (rw [World.cell?_alloc_past _ _ _ (by simp <;> omega), World.cell?_alloc_past _ _ _ (by simp), World.cell?_alloc_at _ _ _ _ (by simp)]; rfl)
  have qb : Q4 ((((W.alloc (.cells #[.int .i64 w, .int .i64 h, .slice A n c] 24)).alloc (.cells #[.int .i64 a.dx, .int .i64 a.dy, .int .i64 a.t, .bool a.f] 26)).alloc (.cells #[.int .i64 b.dx, .int .i64 b.dy, .int .i64 b.t, .bool b.f] 26)).alloc (.cells #[.int .i64 d.dx, .int .i64 d.dy, .int .i64 d.t, .bool d.f] 26)) (W.heap.size + 1 + 1) (.int .i64 b.dx) (.int .i64 b.dy) (.int .i64 b.t) (.bool b.f) := by
    refine ⟨?_, ?_, ?_, ?_⟩ <;> (rw [World.cell?_alloc_past _ _ _ (by simp), World.cell?_alloc_at _ _ _ _ (by simp)]; rfl)
  have qd : Q4 ((((W.alloc (.cells #[.int .i64 w, .int .i64 h, .slice A n c] 24)).alloc (.cells #[.int .i64 a.dx, .int .i64 a.dy, .int .i64 a.t, .bool a.f] 26)).alloc (.cells #[.int .i64 b.dx, .int .i64 b.dy, .int .i64 b.t, .bool b.f] 26)).alloc (.cells #[.int .i64 d.dx, .int .i64 d.dy, .int .i64 d.t, .bool d.f] 26)) (W.heap.size + 1 + 1 + 1) (.int .i64 d.dx) (.int .i64 d.dy) (.int .i64 d.t) (.bool d.f) := by
    refine ⟨?_, ?_, ?_, ?_⟩ <;> (rw [World.cell?_alloc_at _ _ _ _ (by simp)]; rfl)
  have bb := al4 W (.cells #[.int .i64 w, .int .i64 h, .slice A n c] 24) (.cells #[.int .i64 a.dx, .int .i64 a.dy, .int .i64 a.t, .bool a.f] 26) (.cells #[.int .i64 b.dx, .int .i64 b.dy, .int .i64 b.t, .bool b.f] 26) (.cells #[.int .i64 d.dx, .int .i64 d.dy, .int .i64 d.t, .bool d.f] 26)
  have zz : ((((W.alloc (.cells #[.int .i64 w, .int .i64 h, .slice A n c] 24)).alloc (.cells #[.int .i64 a.dx, .int .i64 a.dy, .int .i64 a.t, .bool a.f] 26)).alloc (.cells #[.int .i64 b.dx, .int .i64 b.dy, .int .i64 b.t, .bool b.f] 26)).alloc (.cells #[.int .i64 d.dx, .int .i64 d.dy, .int .i64 d.t, .bool d.f] 26)).heap.size = W.heap.size + 1 + 1 + 1 + 1 := by simp
  generalize ((((W.alloc (.cells #[.int .i64 w, .int .i64 h, .slice A n c] 24)).alloc (.cells #[.int .i64 a.dx, .int .i64 a.dy, .int .i64 a.t, .bool a.f] 26)).alloc (.cells #[.int .i64 b.dx, .int .i64 b.dy, .int .i64 b.t, .bool b.f] 26)).alloc (.cells #[.int .i64 d.dx, .int .i64 d.dy, .int .i64 d.t, .bool d.f] 26)) = W4 at *
  have zle : W.heap.size + 1 + 1 + 1 + 1 ≤ W4.heap.size := by omega
  have BB : Hid (Ext W W4) := Lib.hid bb; clear bb zz
  have HS := Lib.hid hs; have Ha := Lib.hid qa; have Hb := Lib.hid qb; have Hd := Lib.hid qd
  clear hs qa qb qd
  go_cut [62] (fun sc wx => sc = .bool true ∧ Ext W4 wx)
  case first =>
    have E0 : Ext W4 W4 := Ext.refl _
    have s0 := keepAt E0 (by omega) HS.out.1
    have s1 := keepAt E0 (by omega) HS.out.2.1
    have s2 := keepAt E0 (by omega) HS.out.2.2
    cases hv : vst w h l
    · have _hh := True.intro
      go_wp2_with fail
      refine (validR_is (b := false) hv _ (HL.out.ext BB.out).il).mono ?_
      rintro e w1 ⟨rfl, hb⟩
      have EE1 : Hid (Ext W4 w1) := Lib.hid hb
      clear hb s0 s1 s2 E0
      go_wp2_with fail
      go_meet
      exact ⟨rfl, EE1.out⟩
    · have _hh := True.intro
      cases ha0 : has w h a
      · have _hh := True.intro
        go_wp2_with fail
        refine (validR_is (b := true) hv _ (HL.out.ext BB.out).il).mono ?_
        rintro e w1 ⟨rfl, hb⟩
        have EE1 : Hid (Ext W4 w1) := Lib.hid hb
        clear hb s0 s1 s2 E0
        have s0 := keepAt EE1.out (by omega) HS.out.1
        have s1 := keepAt EE1.out (by omega) HS.out.2.1
        have s2 := keepAt EE1.out (by omega) HS.out.2.2
        have a0 := keepAt EE1.out (by omega) Ha.out.1
        have a1 := keepAt EE1.out (by omega) Ha.out.2.1
        have a2 := keepAt EE1.out (by omega) Ha.out.2.2.1
        have a3 := keepAt EE1.out (by omega) Ha.out.2.2.2
        go_wp2_with fail
        refine (fits_is (b := false) ha0 _).mono ?_
        rintro e w2 ⟨rfl, hb⟩
        have EE2 : Hid (Ext W4 w2) := Lib.hid (EE1.out.trans hb)
        clear hb s0 s1 s2; clear a1 a2 a3
        go_wp2_with fail
        go_meet
        exact ⟨rfl, EE2.out⟩
      · have _hh := True.intro
        cases hb0 : has w h b
        · have _hh := True.intro
          go_wp2_with fail
          refine (validR_is (b := true) hv _ (HL.out.ext BB.out).il).mono ?_
          rintro e w1 ⟨rfl, hb⟩
          have EE1 : Hid (Ext W4 w1) := Lib.hid hb
          clear hb s0 s1 s2 E0
          have s0 := keepAt EE1.out (by omega) HS.out.1
          have s1 := keepAt EE1.out (by omega) HS.out.2.1
          have s2 := keepAt EE1.out (by omega) HS.out.2.2
          have a0 := keepAt EE1.out (by omega) Ha.out.1
          have a1 := keepAt EE1.out (by omega) Ha.out.2.1
          have a2 := keepAt EE1.out (by omega) Ha.out.2.2.1
          have a3 := keepAt EE1.out (by omega) Ha.out.2.2.2
          go_wp2_with fail
          refine (fits_is (b := true) ha0 _).mono ?_
          rintro e w2 ⟨rfl, hb⟩
          have EE2 : Hid (Ext W4 w2) := Lib.hid (EE1.out.trans hb)
          clear hb s0 s1 s2; clear a1 a2 a3
          have s0 := keepAt EE2.out (by omega) HS.out.1
          have s1 := keepAt EE2.out (by omega) HS.out.2.1
          have s2 := keepAt EE2.out (by omega) HS.out.2.2
          have b0 := keepAt EE2.out (by omega) Hb.out.1
          have b1 := keepAt EE2.out (by omega) Hb.out.2.1
          have b2 := keepAt EE2.out (by omega) Hb.out.2.2.1
          have b3 := keepAt EE2.out (by omega) Hb.out.2.2.2
          go_wp2_with fail
          refine (fits_is (b := false) hb0 _).mono ?_
          rintro e w3 ⟨rfl, hb⟩
          have EE3 : Hid (Ext W4 w3) := Lib.hid (EE2.out.trans hb)
          clear hb s0 s1 s2; clear b1 b2 b3
          go_wp2_with fail
          go_meet
          exact ⟨rfl, EE3.out⟩
        · have _hh := True.intro
          cases hd0 : has w h d
          · have _hh := True.intro
            go_wp2_with fail
            refine (validR_is (b := true) hv _ (HL.out.ext BB.out).il).mono ?_
            rintro e w1 ⟨rfl, hb⟩
            have EE1 : Hid (Ext W4 w1) := Lib.hid hb
            clear hb s0 s1 s2 E0
            have s0 := keepAt EE1.out (by omega) HS.out.1
            have s1 := keepAt EE1.out (by omega) HS.out.2.1
            have s2 := keepAt EE1.out (by omega) HS.out.2.2
            have a0 := keepAt EE1.out (by omega) Ha.out.1
            have a1 := keepAt EE1.out (by omega) Ha.out.2.1
            have a2 := keepAt EE1.out (by omega) Ha.out.2.2.1
            have a3 := keepAt EE1.out (by omega) Ha.out.2.2.2
            go_wp2_with fail
            refine (fits_is (b := true) ha0 _).mono ?_
            rintro e w2 ⟨rfl, hb⟩
            have EE2 : Hid (Ext W4 w2) := Lib.hid (EE1.out.trans hb)
            clear hb s0 s1 s2; clear a1 a2 a3
            have s0 := keepAt EE2.out (by omega) HS.out.1
            have s1 := keepAt EE2.out (by omega) HS.out.2.1
            have s2 := keepAt EE2.out (by omega) HS.out.2.2
            have b0 := keepAt EE2.out (by omega) Hb.out.1
            have b1 := keepAt EE2.out (by omega) Hb.out.2.1
            have b2 := keepAt EE2.out (by omega) Hb.out.2.2.1
            have b3 := keepAt EE2.out (by omega) Hb.out.2.2.2
            go_wp2_with fail
            refine (fits_is (b := true) hb0 _).mono ?_
            rintro e w3 ⟨rfl, hb⟩
            have EE3 : Hid (Ext W4 w3) := Lib.hid (EE2.out.trans hb)
            clear hb s0 s1 s2; clear b1 b2 b3
            have s0 := keepAt EE3.out (by omega) HS.out.1
            have s1 := keepAt EE3.out (by omega) HS.out.2.1
            have s2 := keepAt EE3.out (by omega) HS.out.2.2
            have d0 := keepAt EE3.out (by omega) Hd.out.1
            have d1 := keepAt EE3.out (by omega) Hd.out.2.1
            have d2 := keepAt EE3.out (by omega) Hd.out.2.2.1
            have d3 := keepAt EE3.out (by omega) Hd.out.2.2.2
            go_wp2_with fail
            refine (fits_is (b := false) hd0 _).mono ?_
            rintro e w4 ⟨rfl, hb⟩
            have EE4 : Hid (Ext W4 w4) := Lib.hid (EE3.out.trans hb)
            clear hb s0 s1 s2; clear d1 d2 d3
            go_wp2_with fail
            go_meet
            exact ⟨rfl, EE4.out⟩
          · have := HNO.out; rw [hv, ha0, hb0, hd0] at this; cases this
  case rest =>
    obtain ⟨rfl, E1⟩ := hcut
    have EC := Lib.hid E1; clear E1
    go_wp2_with fail
    have lw := EC.out.size
    have s0 := keepAt EC.out (by omega) HS.out.1
    have s1 := keepAt EC.out (by omega) HS.out.2.1
    have s2 := keepAt EC.out (by omega) HS.out.2.2
    have a0 := keepAt EC.out (by omega) Ha.out.1
    have a1 := keepAt EC.out (by omega) Ha.out.2.1
    have a2 := keepAt EC.out (by omega) Ha.out.2.2.1
    have a3 := keepAt EC.out (by omega) Ha.out.2.2.2
    clear s0 s1 s2 a0 a1 a2 a3
    go_cut [9, 10] from 63 to 70 (fun sp se wx => NCut wc (ansE w h (l.take 70) a) sp se wx)
    case first =>
      have lwc : W4.heap.size ≤ wc.heap.size := lw
      have s0 := keepAt EC.out (by omega) HS.out.1
      have s1 := keepAt EC.out (by omega) HS.out.2.1
      have s2 := keepAt EC.out (by omega) HS.out.2.2
      have a0 := keepAt EC.out (by omega) Ha.out.1
      have a1 := keepAt EC.out (by omega) Ha.out.2.1
      have a2 := keepAt EC.out (by omega) Ha.out.2.2.1
      have a3 := keepAt EC.out (by omega) Ha.out.2.2.2
      refine wp_region_noPanic ?_
      refine wp_pool 9 [some 64, some 65, some 66, some 67, some 68, some 63, some 69, some 70, some 9] [(7, 5)] [8] [(fun (v : Value) (_ : World) => v = .agg #[.int .i64 a.dx, .int .i64 a.dy, .int .i64 a.t, .bool a.f]), (fun (v : Value) (_ : World) => v = .agg #[.int .i64 a.dx, .int .i64 a.dy, .int .i64 a.t, .bool a.f]), (fun (v : Value) (_ : World) => v = .agg #[.int .i64 w, .int .i64 h, .slice A n c]), (fun (v : Value) (X : World) => ∃ A' n' c', v = .agg #[.int .i64 w, .int .i64 h, .slice A' n' c'] ∧ Il X (.slice A' n' c') (l.take 70)), (fun (v : Value) (_ : World) => ∃ x1 x2 A' n' c', v = .tuple #[.agg #[.int .i64 x1, .int .i64 x2, .slice A' n' c'], .int .i64 (ansE w h (l.take 70) a)]), (fun (v : Value) (_ : World) => ∃ x1 x2 A' n' c', v = .tuple #[.agg #[.int .i64 x1, .int .i64 x2, .slice A' n' c'], .int .i64 (ansE w h (l.take 70) a)]), (fun (v : Value) (_ : World) => ∃ x1 x2 A' n' c', v = .agg #[.int .i64 x1, .int .i64 x2, .slice A' n' c']), (fun (v : Value) (_ : World) => v = .int .i64 (ansE w h (l.take 70) a)), (fun (v : Value) (X : World) => ∃ g, v = .pointer (some ⟨g, 0, none⟩) ∧ wc.heap.size ≤ g ∧ TB X g)] [noF, noF, noF, noF, noF, noF, noF, noF, ptrF] (by kernel_rfl) (by kernel_rfl) (by kernel_rfl) (by kernel_rfl) (by kernel_rfl) (by kernel_rfl) (by kernel_rfl) (by kernel_rfl) (fun _ _ _ _ h => h) ⟨Stays.pure _, Stays.pure _, Stays.pure _, (fun _ _ _ e ⟨A', n', c', h1, h2⟩ => ⟨A', n', c', h1, h2.ext e⟩), Stays.pure _, Stays.pure _, Stays.pure _, Stays.pure _, (fun _ _ _ e ⟨g, h1, h2, h3⟩ => ⟨g, h1, h2, h3.ext e⟩), True.intro⟩ ?steps ?done
      case steps =>
        simp only [List.take_succ_cons, List.take_zero]
        refine Steps.cons (fun (v : Value) (_ : World) => v = .agg #[.int .i64 a.dx, .int .i64 a.dy, .int .i64 a.t, .bool a.f]) [] rfl (by kernel_rfl) rfl (by kernel_rfl) (fun y X ex0 hf K hK => ?_) ?_
        · clear hf
          have ex := (Ext.drw (Ext.refl _)).trans ex0
          refine Box.mk ?_
          simp only [fill, Act.put, Nat.reduceAdd, List.setIfInBounds_toArray, List.set_cons_zero, List.set_cons_succ] at hK ⊢
          have q0 := keepAt ex (by omega) a0
          have q1 := keepAt ex (by omega) a1
          have q2 := keepAt ex (by omega) a2
          have q3 := keepAt ex (by omega) a3
          go_simp
          exact hK.out _ _ rfl (Ext.refl _) (fun b hb => by cases hb)
        refine Steps.cons (fun (v : Value) (_ : World) => v = .agg #[.int .i64 a.dx, .int .i64 a.dy, .int .i64 a.t, .bool a.f]) [0] rfl (by kernel_rfl) rfl (by kernel_rfl) (fun y X ex0 hf K hK => ?_) ?_
        · have h0 : ((fun (v : Value) (_ : World) => v = .agg #[.int .i64 a.dx, .int .i64 a.dy, .int .i64 a.t, .bool a.f])) (y 0) X := hf.1
          clear hf
          have ex := (Ext.drw (Ext.refl _)).trans ex0
          refine Box.mk ?_
          simp only [fill, Act.put, Nat.reduceAdd, List.setIfInBounds_toArray, List.set_cons_zero, List.set_cons_succ, h0] at hK ⊢
          go_simp
          refine (move_any a _).mono ?_
          rintro e V ⟨rfl, hb⟩
          try go_wp2_with fail
          exact hK.out _ _ rfl hb (fun b hb => by cases hb)
        refine Steps.cons (fun (v : Value) (_ : World) => v = .agg #[.int .i64 w, .int .i64 h, .slice A n c]) [] rfl (by kernel_rfl) rfl (by kernel_rfl) (fun y X ex0 hf K hK => ?_) ?_
        · clear hf
          have ex := (Ext.drw (Ext.refl _)).trans ex0
          refine Box.mk ?_
          simp only [fill, Act.put, Nat.reduceAdd, List.setIfInBounds_toArray, List.set_cons_zero, List.set_cons_succ] at hK ⊢
          have q0 := keepAt ex (by omega) s0
          have q1 := keepAt ex (by omega) s1
          have q2 := keepAt ex (by omega) s2
          go_simp
          exact hK.out _ _ rfl (Ext.refl _) (fun b hb => by cases hb)
        refine Steps.cons (fun (v : Value) (X : World) => ∃ A' n' c', v = .agg #[.int .i64 w, .int .i64 h, .slice A' n' c'] ∧ Il X (.slice A' n' c') (l.take 70)) [2, 1] rfl (by kernel_rfl) rfl (by kernel_rfl) (fun y X ex0 hf K hK => ?_) ?_
        · have h2 : ((fun (v : Value) (_ : World) => v = .agg #[.int .i64 w, .int .i64 h, .slice A n c])) (y 2) X := hf.1
          have h1 : ((fun (v : Value) (_ : World) => v = .agg #[.int .i64 a.dx, .int .i64 a.dy, .int .i64 a.t, .bool a.f])) (y 1) X := hf.2.1
          clear hf
          have ex := (Ext.drw (Ext.refl _)).trans ex0
          refine Box.mk ?_
          simp only [fill, Act.put, Nat.reduceAdd, List.setIfInBounds_toArray, List.set_cons_zero, List.set_cons_succ, h2, h1] at hK ⊢
          go_simp
          refine (stamps_any w h A n c l _ (HL.out.ext (BB.out.trans (EC.out.trans ex)))).mono ?_
          rintro e V ⟨A', n', c', rfl, hil, hfr, hb⟩
          try go_wp2_with fail
          exact hK.out _ _ ⟨A', n', c', rfl, hil⟩ hb (fun b hb => by cases hb)
        refine Steps.cons (fun (v : Value) (_ : World) => ∃ x1 x2 A' n' c', v = .tuple #[.agg #[.int .i64 x1, .int .i64 x2, .slice A' n' c'], .int .i64 (ansE w h (l.take 70) a)]) [1, 3] rfl (by kernel_rfl) rfl (by kernel_rfl) (fun y X ex0 hf K hK => ?_) ?_
        · have h1 : ((fun (v : Value) (_ : World) => v = .agg #[.int .i64 a.dx, .int .i64 a.dy, .int .i64 a.t, .bool a.f])) (y 1) X := hf.1
          have hh3 : ((fun (v : Value) (X : World) => ∃ A' n' c', v = .agg #[.int .i64 w, .int .i64 h, .slice A' n' c'] ∧ Il X (.slice A' n' c') (l.take 70))) (y 3) X := hf.2.1
          refine Exists.elim hh3 (fun A3 hx3_0 => ?_)
          refine Exists.elim hx3_0 (fun n3 hx3_1 => ?_)
          refine Exists.elim hx3_1 (fun c3 hx3_2 => ?_)
          have h3 := hx3_2.1
          have il3 := hx3_2.2
          clear hh3 hx3_0 hx3_1 hx3_2
          clear hf
          have ex := (Ext.drw (Ext.refl _)).trans ex0
          refine Box.mk ?_
          simp only [fill, Act.put, Nat.reduceAdd, List.setIfInBounds_toArray, List.set_cons_zero, List.set_cons_succ, h1, h3] at hK ⊢
          go_simp
          refine (apply_any w h a A3 n3 c3 (l.take 70) _ il3).mono ?_
          rintro e V ⟨A2, n2, c2, rfl, hil, hfr, hb⟩
          try go_wp2_with fail
          exact hK.out _ _ ⟨_, _, _, _, _, rfl⟩ hb (fun b hb => by cases hb)
        refine Steps.cons (fun (v : Value) (_ : World) => ∃ x1 x2 A' n' c', v = .tuple #[.agg #[.int .i64 x1, .int .i64 x2, .slice A' n' c'], .int .i64 (ansE w h (l.take 70) a)]) [4] rfl (by kernel_rfl) rfl (by kernel_rfl) (fun y X ex0 hf K hK => ?_) ?_
        · have hh4 : ((fun (v : Value) (_ : World) => ∃ x1 x2 A' n' c', v = .tuple #[.agg #[.int .i64 x1, .int .i64 x2, .slice A' n' c'], .int .i64 (ansE w h (l.take 70) a)])) (y 4) X := hf.1
          refine Exists.elim hh4 (fun x41 hx4_0 => ?_)
          refine Exists.elim hx4_0 (fun x42 hx4_1 => ?_)
          refine Exists.elim hx4_1 (fun A4 hx4_2 => ?_)
          refine Exists.elim hx4_2 (fun n4 hx4_3 => ?_)
          refine Exists.elim hx4_3 (fun c4 hx4_4 => ?_)
          have h4 := hx4_4
          clear hh4 hx4_0 hx4_1 hx4_2 hx4_3 hx4_4
          clear hf
          have ex := (Ext.drw (Ext.refl _)).trans ex0
          refine Box.mk ?_
          simp only [fill, Act.put, Nat.reduceAdd, List.setIfInBounds_toArray, List.set_cons_zero, List.set_cons_succ, h4] at hK ⊢
          go_simp
          exact hK.out _ _ ⟨_, _, _, _, _, rfl⟩ (Ext.refl _) (fun b hb => by cases hb)
        refine Steps.cons (fun (v : Value) (_ : World) => ∃ x1 x2 A' n' c', v = .agg #[.int .i64 x1, .int .i64 x2, .slice A' n' c']) [5] rfl (by kernel_rfl) rfl (by kernel_rfl) (fun y X ex0 hf K hK => ?_) ?_
        · have hh5 : ((fun (v : Value) (_ : World) => ∃ x1 x2 A' n' c', v = .tuple #[.agg #[.int .i64 x1, .int .i64 x2, .slice A' n' c'], .int .i64 (ansE w h (l.take 70) a)])) (y 5) X := hf.1
          refine Exists.elim hh5 (fun x51 hx5_0 => ?_)
          refine Exists.elim hx5_0 (fun x52 hx5_1 => ?_)
          refine Exists.elim hx5_1 (fun A5 hx5_2 => ?_)
          refine Exists.elim hx5_2 (fun n5 hx5_3 => ?_)
          refine Exists.elim hx5_3 (fun c5 hx5_4 => ?_)
          have h5 := hx5_4
          clear hh5 hx5_0 hx5_1 hx5_2 hx5_3 hx5_4
          clear hf
          have ex := (Ext.drw (Ext.refl _)).trans ex0
          refine Box.mk ?_
          simp only [fill, Act.put, Nat.reduceAdd, List.setIfInBounds_toArray, List.set_cons_zero, List.set_cons_succ, h5] at hK ⊢
          go_simp
          exact hK.out _ _ ⟨_, _, _, _, _, rfl⟩ (Ext.refl _) (fun b hb => by cases hb)
        refine Steps.flw (fun (v : Value) (_ : World) => v = .int .i64 (ansE w h (l.take 70) a)) [5] rfl (by kernel_rfl) (by kernel_rfl) (fun _ => rfl) (fun y X ex0 hf => ?_) ?_
        · have hh5 : ((fun (v : Value) (_ : World) => ∃ x1 x2 A' n' c', v = .tuple #[.agg #[.int .i64 x1, .int .i64 x2, .slice A' n' c'], .int .i64 (ansE w h (l.take 70) a)])) (y 5) X := hf.1
          refine Exists.elim hh5 (fun x51 hx5_0 => ?_)
          refine Exists.elim hx5_0 (fun x52 hx5_1 => ?_)
          refine Exists.elim hx5_1 (fun A5 hx5_2 => ?_)
          refine Exists.elim hx5_2 (fun n5 hx5_3 => ?_)
          refine Exists.elim hx5_3 (fun c5 hx5_4 => ?_)
          have h5 := hx5_4
          clear hh5 hx5_0 hx5_1 hx5_2 hx5_3 hx5_4
          clear hf
          simp only [fill, Act.put, Nat.reduceAdd, List.setIfInBounds_toArray, List.set_cons_zero, List.set_cons_succ, h5]
          exact ⟨_, ⟨by rfl, fun w => by go_simp⟩, rfl⟩
        refine Steps.cons (fun (v : Value) (X : World) => ∃ g, v = .pointer (some ⟨g, 0, none⟩) ∧ wc.heap.size ≤ g ∧ TB X g) [] rfl (by kernel_rfl) rfl (by kernel_rfl) (fun y X ex0 hf K hK => ?_) ?_
        · clear hf
          have ex := (Ext.drw (Ext.refl _)).trans ex0
          refine Box.mk ?_
          simp only [fill, Act.put, Nat.reduceAdd, List.setIfInBounds_toArray, List.set_cons_zero, List.set_cons_succ] at hK ⊢
          go_simp
          exact hK.out _ _ ⟨X.heap.size, rfl, ex.size, _, _, _, _, heap_alloc_new X (.cells #[.int .i64 0, .int .i64 0, .slice none 0 0] 27)⟩ (Ext.alc (Ext.refl X) (.cells #[.int .i64 0, .int .i64 0, .slice none 0 0] 27)) (New.ptr (Nat.le_refl _) (by simp))
        exact Steps.nil
      case done =>
        intro y X ex hf hlt hsep
        have h0 : ((fun (v : Value) (_ : World) => v = .agg #[.int .i64 a.dx, .int .i64 a.dy, .int .i64 a.t, .bool a.f])) (y 0) X := hf.1
        have h1 : ((fun (v : Value) (_ : World) => v = .agg #[.int .i64 a.dx, .int .i64 a.dy, .int .i64 a.t, .bool a.f])) (y 1) X := hf.2.1
        have h2 : ((fun (v : Value) (_ : World) => v = .agg #[.int .i64 w, .int .i64 h, .slice A n c])) (y 2) X := hf.2.2.1
        have hh3 : ((fun (v : Value) (X : World) => ∃ A' n' c', v = .agg #[.int .i64 w, .int .i64 h, .slice A' n' c'] ∧ Il X (.slice A' n' c') (l.take 70))) (y 3) X := hf.2.2.2.1
        refine Exists.elim hh3 (fun A3 hx3_0 => ?_)
        refine Exists.elim hx3_0 (fun n3 hx3_1 => ?_)
        refine Exists.elim hx3_1 (fun c3 hx3_2 => ?_)
        have h3 := hx3_2.1
        have il3 := hx3_2.2
        clear hh3 hx3_0 hx3_1 hx3_2
        have hh4 : ((fun (v : Value) (_ : World) => ∃ x1 x2 A' n' c', v = .tuple #[.agg #[.int .i64 x1, .int .i64 x2, .slice A' n' c'], .int .i64 (ansE w h (l.take 70) a)])) (y 4) X := hf.2.2.2.2.1
        refine Exists.elim hh4 (fun x41 hx4_0 => ?_)
        refine Exists.elim hx4_0 (fun x42 hx4_1 => ?_)
        refine Exists.elim hx4_1 (fun A4 hx4_2 => ?_)
        refine Exists.elim hx4_2 (fun n4 hx4_3 => ?_)
        refine Exists.elim hx4_3 (fun c4 hx4_4 => ?_)
        have h4 := hx4_4
        clear hh4 hx4_0 hx4_1 hx4_2 hx4_3 hx4_4
        have hh5 : ((fun (v : Value) (_ : World) => ∃ x1 x2 A' n' c', v = .tuple #[.agg #[.int .i64 x1, .int .i64 x2, .slice A' n' c'], .int .i64 (ansE w h (l.take 70) a)])) (y 5) X := hf.2.2.2.2.2.1
        refine Exists.elim hh5 (fun x51 hx5_0 => ?_)
        refine Exists.elim hx5_0 (fun x52 hx5_1 => ?_)
        refine Exists.elim hx5_1 (fun A5 hx5_2 => ?_)
        refine Exists.elim hx5_2 (fun n5 hx5_3 => ?_)
        refine Exists.elim hx5_3 (fun c5 hx5_4 => ?_)
        have h5 := hx5_4
        clear hh5 hx5_0 hx5_1 hx5_2 hx5_3 hx5_4
        have hh6 : ((fun (v : Value) (_ : World) => ∃ x1 x2 A' n' c', v = .agg #[.int .i64 x1, .int .i64 x2, .slice A' n' c'])) (y 6) X := hf.2.2.2.2.2.2.1
        refine Exists.elim hh6 (fun x61 hx6_0 => ?_)
        refine Exists.elim hx6_0 (fun x62 hx6_1 => ?_)
        refine Exists.elim hx6_1 (fun A6 hx6_2 => ?_)
        refine Exists.elim hx6_2 (fun n6 hx6_3 => ?_)
        refine Exists.elim hx6_3 (fun c6 hx6_4 => ?_)
        have h6 := hx6_4
        clear hh6 hx6_0 hx6_1 hx6_2 hx6_3 hx6_4
        have h7 : ((fun (v : Value) (_ : World) => v = .int .i64 (ansE w h (l.take 70) a))) (y 7) X := hf.2.2.2.2.2.2.2.1
        have hh8 : ((fun (v : Value) (X : World) => ∃ g, v = .pointer (some ⟨g, 0, none⟩) ∧ wc.heap.size ≤ g ∧ TB X g)) (y 8) X := hf.2.2.2.2.2.2.2.2.1
        refine Exists.elim hh8 (fun g8 hx8_0 => ?_)
        have h8 := hx8_0.1
        have z8 := hx8_0.2.1
        have q8 := hx8_0.2.2
        clear hh8 hx8_0
        clear hf
        clear hsep hlt
        refine Box.mk ?_
        simp only [List.drop_succ_cons, List.drop_zero, fill, Act.put, Nat.reduceAdd, List.setIfInBounds_toArray, List.set_cons_zero, List.set_cons_succ, h0, h1, h2, h3, h4, h5, h6, h7, h8]
        clear h0 h1 h2 h3 h4 h5 h6 h7 h8
        have xx := ex.size
        obtain ⟨⟨_, _, _, k0, k1, k2⟩, k4⟩ := q8.facts
        have EX := Lib.hid ex; clear ex q8
        go_wp2_with fail
        refine NoPanic.normal ?_
        go_wp2_with fail
        go_meet
        exact ⟨rfl, ((EX.out.sc z8).sc z8).sc z8, rfl⟩
    case rest =>
      obtain ⟨rfl, ex, -⟩ := hcut
      have ED := Lib.hid (EC.out.trans ex); clear ex EC
      have lw2 := ED.out.size
      cases hv : vst w h l
      · have _hh := True.intro
        have he : ansE w h (l.take 70) a = 2 := by unfold ansE okA; rw [vst_take, hv]; rfl
        rw [he]
        clear he
        have s0 := keepAt ED.out (by omega) HS.out.1
        have s1 := keepAt ED.out (by omega) HS.out.2.1
        have s2 := keepAt ED.out (by omega) HS.out.2.2
        have a0 := keepAt ED.out (by omega) Ha.out.1
        have a1 := keepAt ED.out (by omega) Ha.out.2.1
        have a2 := keepAt ED.out (by omega) Ha.out.2.2.1
        have a3 := keepAt ED.out (by omega) Ha.out.2.2.2
        go_wp2_with fail
        refine (validR_is (b := false) hv _ (HL.out.ext (BB.out.trans ED.out)).il).mono ?_
        rintro e w1 ⟨rfl, hb⟩
        have EE := Lib.hid (ED.out.trans hb); clear hb; clear s0 s1 s2 a0 a1 a2 a3
        go_wp2_with fail
        refine (awake_any _).mono ?_
        rintro e w3 ⟨rfl, hb⟩
        replace EE := Lib.hid (EE.out.trans hb); clear hb
        go_wp2
        go_ret
        exact ⟨rfl, BB.out.trans EE.out⟩
      · cases ha0 : has w h a
        · have _hh := True.intro
          have he : ansE w h (l.take 70) a = 2 := by unfold ansE okA; rw [vst_take, hv, ha0]; rfl
          rw [he]
          clear he
          have s0 := keepAt ED.out (by omega) HS.out.1
          have s1 := keepAt ED.out (by omega) HS.out.2.1
          have s2 := keepAt ED.out (by omega) HS.out.2.2
          have a0 := keepAt ED.out (by omega) Ha.out.1
          have a1 := keepAt ED.out (by omega) Ha.out.2.1
          have a2 := keepAt ED.out (by omega) Ha.out.2.2.1
          have a3 := keepAt ED.out (by omega) Ha.out.2.2.2
          go_wp2_with fail
          refine (validR_is (b := true) hv _ (HL.out.ext (BB.out.trans ED.out)).il).mono ?_
          rintro e w1 ⟨rfl, hb⟩
          have EE := Lib.hid (ED.out.trans hb); clear hb; clear s0 s1 s2 a0 a1 a2 a3
          have s0 := keepAt EE.out (by omega) HS.out.1
          have s1 := keepAt EE.out (by omega) HS.out.2.1
          have s2 := keepAt EE.out (by omega) HS.out.2.2
          have a0 := keepAt EE.out (by omega) Ha.out.1
          have a1 := keepAt EE.out (by omega) Ha.out.2.1
          have a2 := keepAt EE.out (by omega) Ha.out.2.2.1
          have a3 := keepAt EE.out (by omega) Ha.out.2.2.2
          go_wp2_with fail
          refine (fits_is (b := false) ha0 _).mono ?_
          rintro e w2 ⟨rfl, hb⟩
          replace EE := Lib.hid (EE.out.trans hb); clear hb; clear s0 s1 s2 a0 a1 a2 a3
          go_wp2_with fail
          refine (awake_any _).mono ?_
          rintro e w3 ⟨rfl, hb⟩
          replace EE := Lib.hid (EE.out.trans hb); clear hb
          go_wp2
          go_ret
          exact ⟨rfl, BB.out.trans EE.out⟩
        · have _hh := True.intro
          have he : ansE w h (l.take 70) a = 0 := by unfold ansE okA; rw [vst_take, hv, ha0]; rfl
          rw [he]
          clear he
          have s0 := keepAt ED.out (by omega) HS.out.1
          have s1 := keepAt ED.out (by omega) HS.out.2.1
          have s2 := keepAt ED.out (by omega) HS.out.2.2
          have a0 := keepAt ED.out (by omega) Ha.out.1
          have a1 := keepAt ED.out (by omega) Ha.out.2.1
          have a2 := keepAt ED.out (by omega) Ha.out.2.2.1
          have a3 := keepAt ED.out (by omega) Ha.out.2.2.2
          go_wp2_with fail
          refine (validR_is (b := true) hv _ (HL.out.ext (BB.out.trans ED.out)).il).mono ?_
          rintro e w1 ⟨rfl, hb⟩
          have EE := Lib.hid (ED.out.trans hb); clear hb; clear s0 s1 s2 a0 a1 a2 a3
          have s0 := keepAt EE.out (by omega) HS.out.1
          have s1 := keepAt EE.out (by omega) HS.out.2.1
          have s2 := keepAt EE.out (by omega) HS.out.2.2
          have a0 := keepAt EE.out (by omega) Ha.out.1
          have a1 := keepAt EE.out (by omega) Ha.out.2.1
          have a2 := keepAt EE.out (by omega) Ha.out.2.2.1
          have a3 := keepAt EE.out (by omega) Ha.out.2.2.2
          go_wp2_with fail
          refine (fits_is (b := true) ha0 _).mono ?_
          rintro e w2 ⟨rfl, hb⟩
          replace EE := Lib.hid (EE.out.trans hb); clear hb; clear s0 s1 s2 a0 a1 a2 a3
          go_wp2_with fail
          refine (awake_any _).mono ?_
          rintro e w3 ⟨rfl, hb⟩
          replace EE := Lib.hid (EE.out.trans hb); clear hb
          go_wp2
          go_ret
          exact ⟨rfl, BB.out.trans EE.out⟩

/-- the law -/
theorem groups_any (w h : Int) (A : Option Addr) (n c : Nat) (l : List Int) (a b d : Mv) (W : World) (hl : Ins W A n c l) :
    Calls Try.prog 6 #[.agg #[.int .i64 w, .int .i64 h, .slice A n c], .agg #[.int .i64 a.dx, .int .i64 a.dy, .int .i64 a.t, .bool a.f], .agg #[.int .i64 b.dx, .int .i64 b.dy, .int .i64 b.t, .bool b.f], .agg #[.int .i64 d.dx, .int .i64 d.dy, .int .i64 d.t, .bool d.f]] W fun e W' => e = .returned (.bool true) ∧ Ext W W' := by
  cases hno : (vst w h l && has w h a && has w h b && has w h d)
  · exact groups_no w h A n c l a b d W hl hno
  · simp only [Bool.and_eq_true] at hno
    exact groups_ok w h A n c l a b d W hl hno.1.1.1 hno.1.1.2 hno.1.2 hno.2
end Go.Proofs.Ytgjanbgehbpciaa
