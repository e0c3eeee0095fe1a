/- Walks: the law StampOrbits. -/
import Derived.Test.YtgjanbgehbpciaaK5
import Derived.Test.YtgjanbgehbpciaaP5
namespace Go.Proofs.Ytgjanbgehbpciaa
open Go.RowKit

theorem vst_cut (w h : Int) (l : List Int) : vst w h (l.take 70) = vst w h l := by
  unfold vst
  cases hs : okSize w h
  · simp
  · have ha := area_in hs
    by_cases hl : (l.length : Int) = w * h
    · rw [List.take_of_length_le (by omega)]
    · have e1 : decide (((l.take 70).length : Int) = w * h) = false := by rw [List.length_take]; simp; omega
      have e2 : decide ((l.length : Int) = w * h) = false := by simp; omega
      rw [e1, e2]; simp
theorem vst_all {w h : Int} {l : List Int} (hv : vst w h (l.take 70) = true) : l.take 70 = l := by
  rw [vst_cut] at hv
  unfold vst at hv
  simp only [Bool.and_eq_true, decide_eq_true_eq] at hv
  have ha := area_in hv.1.1
  exact List.take_of_length_le (by omega)

set_option maxRecDepth 100000 in
theorem asked_f (G : Value) (w h : Int) (A : Option Addr) (n c : Nat) (l : List Int) (W : World) (hl : Il W (.slice A n c) l) (hv : vst w h l = false) :
    Calls Try.prog 39 #[G, .agg #[.int .i64 w, .int .i64 h, .slice A n c]] W fun e W' => e = .returned (.bool false) ∧ Ext W W' := by
  have hvv := validR_any w h A n c l (W.alloc (.cells #[.int .i64 w, .int .i64 h, .slice A n c] 24)) (hl.below ((Ext.refl W).alc _))
  rw [hv] at hvv
  have HVV := Lib.hid hvv; clear hvv hl hv
  go_enter Try.func39, Try.ntmps39
  go_wp2_with fail
  refine HVV.out.mono ?_
  rintro e V ⟨rfl, hx⟩
  have E : Hid (Ext W V) := Lib.hid (nx (al1 W _) hx); clear hx
  go_wp2
  go_ret
  exact ⟨rfl, E.out⟩
set_option maxRecDepth 100000 in
theorem asked_t (w h : Nat) (G A : Option Addr) (ng cg n c : Nat) (l : List Int) (g : List Mv) (W : World) (hl : Il W (.slice A n c) l) (hv : vst w h l = true) (hg : Ml W (.slice G ng cg) g) :
    Calls Try.prog 39 #[.slice G ng cg, .agg #[.int .i64 w, .int .i64 h, .slice A n c]] W fun e W' => e = .returned (.bool (grpB w h g)) ∧ Ext W W' := by
  have hs := (vst_N hv).1
  have hvv := validR_any w h A n c l (W.alloc (.cells #[.int .i64 w, .int .i64 h, .slice A n c] 24)) (hl.below ((Ext.refl W).alc _))
  rw [hv] at hvv
  have hgg := fun X (hX : Ext W X) => groupR_any w h _ g X hs (hg.ext hX)
  obtain ⟨r, hr⟩ : ∃ r, r = grpB w h g := ⟨_, rfl⟩
  simp only [← hr] at hgg ⊢
  have q1 : Q3 (W.alloc (.cells #[.int .i64 w, .int .i64 h, .slice A n c] 24)) W.heap.size (.int .i64 w) (.int .i64 h) (.slice A n c) := by
    refine ⟨?_, ?_, ?_⟩ <;> (rw [World.cell?_alloc_new]; rfl)
  have hlt1 : W.heap.size < (W.alloc (.cells #[.int .i64 w, .int .i64 h, .slice A n c] 24)).heap.size := by simp
  have HVV := Lib.hid hvv; have HGG := Lib.hid hgg; have Q1 := Lib.hid q1; have HL := Lib.hid hlt1; clear hvv hl hv hs hg hgg hr q1 hlt1
  go_enter Try.func39, Try.ntmps39
  go_wp2_with fail
  refine HVV.out.mono ?_
  rintro e V ⟨rfl, hx⟩
  obtain ⟨z0, z1, z2⟩ := Q1.out.ext HL.out hx
  have E : Hid (Ext W V) := Lib.hid (nx (al1 W _) hx); clear hx
  go_wp2_with fail
  refine (HGG.out _ E.out).mono ?_
  rintro e V2 ⟨rfl, hx⟩
  have E2 := Lib.hid (E.out.trans hx); clear hx z0 z1 z2
  go_wp2
  go_ret
  exact ⟨rfl, E2.out⟩

/-- behind the three statements, where the arguments are right -/
def KCutM (X : World) (kn : Nat) (kl : List Mv) (s5 s6 : Value) (wx : World) : Prop := (∃ A c, s5 = .slice A kn c ∧ Ml wx (.slice A kn c) kl) ∧ s6 = .int .i64 0 ∧ Ext X wx
/-- where they are wrong -/
def NCut (X : World) (s5 s6 : Value) (wx : World) : Prop := s5 = .slice none 0 0 ∧ s6 = .int .i64 2 ∧ Ext X wx
def NCutL (X : World) (s9 s10 : Value) (wx : World) : Prop :=
  ∃ g, s9 = .pointer (some ⟨g, 0, none⟩) ∧ s10 = .int .i64 2 ∧ Q3 wx g (.int .i64 0) (.int .i64 0) (.slice none 0 0) ∧ g < wx.heap.size ∧ X.heap.size ≤ g ∧ Ext X wx

set_option maxHeartbeats 8000000 in
set_option maxRecDepth 100000 in
theorem orbL_no (A0 : Option Addr) (n0 c0 : Nat) (G0 Gl : List Mv) (w h : Int) (A : Option Addr) (n c : Nat) (l L : List Int) (W : World) (hg : Ml W (.slice A0 n0 c0) G0) (hl : Ins W A n c l) (hGl : Gl = G0.take 521) (hL : L = l.take 70)
    (hk : ∀ X A' n' c' Ag ng cg, Il X (.slice A' n' c') L → Ml X (.slice Ag ng cg) Gl → Calls Try.prog 36 #[.slice Ag ng cg, .agg #[.int .i64 w, .int .i64 h, .slice A' n' c']] X fun e Y => e = .returned (.tuple #[.slice none 0 0, .int .i64 2]) ∧ Ext X Y)
    (ho : ∀ X A' n' c' Ag ng cg, Il X (.slice A' n' c') L → Ml X (.slice Ag ng cg) Gl → Calls Try.prog 37 #[.slice Ag ng cg, .agg #[.int .i64 w, .int .i64 h, .slice A' n' c']] X fun e Y => e = .returned (.tuple #[.slice none 0 0, .int .i64 2]) ∧ Ext X Y)
    (hle : ∀ X A' n' c' Ag ng cg, Il X (.slice A' n' c') L → Ml X (.slice Ag ng cg) Gl → Calls Try.prog 38 #[.slice Ag ng cg, .agg #[.int .i64 w, .int .i64 h, .slice A' n' c']] X fun e Y => e = .returned (.tuple #[.agg #[.int .i64 0, .int .i64 0, .slice none 0 0], .int .i64 2]) ∧ Ext X Y)
    (ha : ∀ X, Ext W X → Calls Try.prog 39 #[.slice A0 n0 c0, .agg #[.int .i64 w, .int .i64 h, .slice A n c]] X fun e Y => e = .returned (.bool false) ∧ Ext X Y) :
    Calls Try.prog 7 #[.slice A0 n0 c0, .agg #[.int .i64 w, .int .i64 h, .slice A n c]] W fun e W' => e = .returned (.bool true) ∧ Ext W W' := by
  have hmv : ∀ X, Ml X (.slice A0 n0 c0) G0 → Calls Try.prog 31 #[.slice A0 n0 c0] X fun e Y => ∃ A' n' c', e = .returned (.slice A' n' c') ∧ Ml Y (.slice A' n' c') Gl ∧ Ext X Y := fun X hX => (moves_any A0 n0 c0 G0 X hX).mono (fun e Y ⟨v, e1, hm, hx⟩ => by
    rw [← hGl] at hm
    have hm' := hm
    obtain ⟨A', c', rfl, -⟩ := hm
    exact ⟨A', _, c', e1, hm', hx⟩)
  have hst : ∀ X, Ins X A n c l → Calls Try.prog 15 #[.agg #[.int .i64 w, .int .i64 h, .slice A n c]] X fun e Y => ∃ A' n' c', e = .returned (.agg #[.int .i64 w, .int .i64 h, .slice A' n' c']) ∧ Il Y (.slice A' n' c') L ∧ Fr X.heap.size (.slice A' n' c') ∧ Ext X Y := fun X hX => by
    rw [hL]; exact stamps_any w h A n c l X hX
  have HMV := Lib.hid hmv; have HST := Lib.hid hst; have HG := Lib.hid hg; have HL := Lib.hid hl; clear hmv hst hg hl hGl hL
  have HK := Lib.hid hk; have HO := Lib.hid ho; have HLE := Lib.hid hle; have HA := Lib.hid ha; clear hk ho hle ha
  have hsm : ∀ X, Calls Try.prog 20 #[.agg #[.int .i64 0, .int .i64 0, .slice none 0 0], .agg #[.int .i64 0, .int .i64 0, .slice none 0 0]] X fun e Y => e = .returned (.bool true) ∧ Ext X Y := fun X => by
    have := same_eq 0 0 none none 0 0 0 0 [] [] X (Il.nil_ X) (Il.nil_ X) (by omega) (by omega)
    rwa [decide_eq_true (rfl : ([] : List Int) = [])] at this
  have HSM := Lib.hid hsm; clear hsm
  go_enter Try.func7, Try.ntmps7
  go_upto_region 1 with fail
  have q1 : Q3 (W.alloc (.cells #[.int .i64 w, .int .i64 h, .slice A n c] 24)) W.heap.size (.int .i64 w) (.int .i64 h) (.slice A n c) := by
    refine ⟨?_, ?_, ?_⟩ <;> (rw [World.cell?_alloc_new]; rfl)
  have bb := al1 W (.cells #[.int .i64 w, .int .i64 h, .slice A n c] 24)
  have zz : (W.alloc (.cells #[.int .i64 w, .int .i64 h, .slice A n c] 24)).heap.size = W.heap.size + 1 := by simp
  generalize (W.alloc (.cells #[.int .i64 w, .int .i64 h, .slice A n c] 24)) = W1 at *
  have zle : W.heap.size < W1.heap.size := by omega
  have BB : Hid (Ext W W1) := Lib.hid bb; have HB := Lib.hid q1
  clear bb zz q1
  have ec : Ext W1 W1 := Ext.refl _
  have EC := Lib.hid ec; clear ec
  go_cut [5, 6] from 14 to 21 (fun s5 s6 wx => NCut W1 s5 s6 wx)
  case first =>
    refine wp_region_noPanic ?_
    refine wp_pool 8 [some 15, some 16, some 17, some 18, some 19, some 14, some 20, some 21] [(7, 5)] [] [(fun (v : Value) (_ : World) => v = .slice A0 n0 c0), (fun (v : Value) (X : World) => ∃ A' n' c', v = .slice A' n' c' ∧ Ml X (.slice A' n' c') Gl), (fun (v : Value) (_ : World) => v = .agg #[.int .i64 w, .int .i64 h, .slice A n c]), (fun (v : Value) (X : World) => ∃ A' n' c', v = .agg #[.int .i64 w, .int .i64 h, .slice A' n' c'] ∧ Il X (.slice A' n' c') L), (fun (v : Value) (_ : World) => v = .tuple #[.slice none 0 0, .int .i64 2]), (fun (v : Value) (_ : World) => v = .tuple #[.slice none 0 0, .int .i64 2]), (fun (v : Value) (_ : World) => v = .slice none 0 0), (fun (v : Value) (_ : World) => v = .int .i64 2)] [noF, noF, noF, noF, noF, noF, noF, noF] (by kernel_rfl) (by kernel_rfl) (by kernel_rfl) (by kernel_rfl) (by kernel_rfl) (by kernel_rfl) (by kernel_rfl) (by kernel_rfl) (fun _ _ _ _ h => h) ⟨Stays.pure _, (fun _ _ _ e ⟨A', n', c', h1, h2⟩ => ⟨A', n', c', h1, h2.ext e⟩), Stays.pure _, (fun _ _ _ e ⟨A', n', c', h1, h2⟩ => ⟨A', n', c', h1, h2.below e⟩), Stays.pure _, Stays.pure _, Stays.pure _, Stays.pure _, True.intro⟩ ?steps ?done
    case steps =>
      simp only [List.take_succ_cons, List.take_zero]
      refine Steps.cons (fun (v : Value) (_ : World) => v = .slice A0 n0 c0) [] rfl (by kernel_rfl) rfl (by kernel_rfl) (fun y X ex0 hf K hK => ?_) ?_
      · clear hf
        have ex := (Ext.drw (Ext.refl _)).trans ex0
        refine Box.mk ?_
        simp only [fill, Act.put, Nat.reduceAdd, List.setIfInBounds_toArray, List.set_cons_zero, List.set_cons_succ] at hK ⊢
        go_simp
        exact hK.out _ _ rfl (Ext.refl _) (fun b hb => by cases hb)
      refine Steps.cons (fun (v : Value) (X : World) => ∃ A' n' c', v = .slice A' n' c' ∧ Ml X (.slice A' n' c') Gl) [0] rfl (by kernel_rfl) rfl (by kernel_rfl) (fun y X ex0 hf K hK => ?_) ?_
      · have h0 : ((fun (v : Value) (_ : World) => v = .slice A0 n0 c0)) (y 0) X := hf.1
        clear hf
        have ex := (Ext.drw (Ext.refl _)).trans ex0
        refine Box.mk ?_
        simp only [fill, Act.put, Nat.reduceAdd, List.setIfInBounds_toArray, List.set_cons_zero, List.set_cons_succ, h0] at hK ⊢
        go_simp
        refine (HMV.out _ (HG.out.ext (BB.out.trans (EC.out.trans ex)))).mono ?_
        rintro e V ⟨A', n', c', rfl, hil, hb⟩
        try go_wp2_with fail
        exact hK.out _ _ ⟨A', n', c', rfl, hil⟩ hb (fun b hb => by cases hb)
      refine Steps.cons (fun (v : Value) (_ : World) => v = .agg #[.int .i64 w, .int .i64 h, .slice A n c]) [] rfl (by kernel_rfl) rfl (by kernel_rfl) (fun y X ex0 hf K hK => ?_) ?_
      · clear hf
        have ex := (Ext.drw (Ext.refl _)).trans ex0
        refine Box.mk ?_
        simp only [fill, Act.put, Nat.reduceAdd, List.setIfInBounds_toArray, List.set_cons_zero, List.set_cons_succ] at hK ⊢
        obtain ⟨q0, q1, q2⟩ := Q3.ext HB.out (by omega) (EC.out.trans ex)
        go_simp
        exact hK.out _ _ rfl (Ext.refl _) (fun b hb => by cases hb)
      refine Steps.cons (fun (v : Value) (X : World) => ∃ A' n' c', v = .agg #[.int .i64 w, .int .i64 h, .slice A' n' c'] ∧ Il X (.slice A' n' c') L) [2, 1] rfl (by kernel_rfl) rfl (by kernel_rfl) (fun y X ex0 hf K hK => ?_) ?_
      · have h2 : ((fun (v : Value) (_ : World) => v = .agg #[.int .i64 w, .int .i64 h, .slice A n c])) (y 2) X := hf.1
        have hh1 : ((fun (v : Value) (X : World) => ∃ A' n' c', v = .slice A' n' c' ∧ Ml X (.slice A' n' c') Gl)) (y 1) X := hf.2.1
        refine Exists.elim hh1 (fun A1 hx1_0 => ?_)
        refine Exists.elim hx1_0 (fun n1 hx1_1 => ?_)
        refine Exists.elim hx1_1 (fun c1 hx1_2 => ?_)
        have h1 := hx1_2.1
        have il1 := hx1_2.2
        clear hh1 hx1_0 hx1_1 hx1_2
        clear hf
        have ex := (Ext.drw (Ext.refl _)).trans ex0
        refine Box.mk ?_
        simp only [fill, Act.put, Nat.reduceAdd, List.setIfInBounds_toArray, List.set_cons_zero, List.set_cons_succ, h2, h1] at hK ⊢
        go_simp
        refine (HST.out _ (HL.out.ext (BB.out.trans (EC.out.trans ex)))).mono ?_
        rintro e V ⟨A', n', c', rfl, hil, hfr, hb⟩
        try go_wp2_with fail
        exact hK.out _ _ ⟨A', n', c', rfl, hil⟩ hb (fun b hb => by cases hb)
      refine Steps.cons (fun (v : Value) (_ : World) => v = .tuple #[.slice none 0 0, .int .i64 2]) [1, 3] rfl (by kernel_rfl) rfl (by kernel_rfl) (fun y X ex0 hf K hK => ?_) ?_
      · have hh1 : ((fun (v : Value) (X : World) => ∃ A' n' c', v = .slice A' n' c' ∧ Ml X (.slice A' n' c') Gl)) (y 1) X := hf.1
        refine Exists.elim hh1 (fun A1 hx1_0 => ?_)
        refine Exists.elim hx1_0 (fun n1 hx1_1 => ?_)
        refine Exists.elim hx1_1 (fun c1 hx1_2 => ?_)
        have h1 := hx1_2.1
        have il1 := hx1_2.2
        clear hh1 hx1_0 hx1_1 hx1_2
        have hh3 : ((fun (v : Value) (X : World) => ∃ A' n' c', v = .agg #[.int .i64 w, .int .i64 h, .slice A' n' c'] ∧ Il X (.slice A' n' c') L)) (y 3) X := hf.2.1
        refine Exists.elim hh3 (fun A3 hx3_0 => ?_)
        refine Exists.elim hx3_0 (fun n3 hx3_1 => ?_)
        refine Exists.elim hx3_1 (fun c3 hx3_2 => ?_)
        have h3 := hx3_2.1
        have il3 := hx3_2.2
        clear hh3 hx3_0 hx3_1 hx3_2
        clear hf
        have ex := (Ext.drw (Ext.refl _)).trans ex0
        refine Box.mk ?_
        simp only [fill, Act.put, Nat.reduceAdd, List.setIfInBounds_toArray, List.set_cons_zero, List.set_cons_succ, h1, h3] at hK ⊢
        go_simp
        refine (HK.out _ A3 n3 c3 A1 n1 c1 il3 il1).mono ?_
        rintro e V ⟨rfl, hb⟩
        try go_wp2_with fail
        exact hK.out _ _ rfl hb (fun b hb => by cases hb)
      refine Steps.cons (fun (v : Value) (_ : World) => v = .tuple #[.slice none 0 0, .int .i64 2]) [4] rfl (by kernel_rfl) rfl (by kernel_rfl) (fun y X ex0 hf K hK => ?_) ?_
      · have h4 : ((fun (v : Value) (_ : World) => v = .tuple #[.slice none 0 0, .int .i64 2])) (y 4) X := hf.1
        clear hf
        have ex := (Ext.drw (Ext.refl _)).trans ex0
        refine Box.mk ?_
        simp only [fill, Act.put, Nat.reduceAdd, List.setIfInBounds_toArray, List.set_cons_zero, List.set_cons_succ, h4] at hK ⊢
        go_simp
        exact hK.out _ _ rfl (Ext.refl _) (fun b hb => by cases hb)
      refine Steps.cons (fun (v : Value) (_ : World) => v = .slice none 0 0) [5] rfl (by kernel_rfl) rfl (by kernel_rfl) (fun y X ex0 hf K hK => ?_) ?_
      · have h5 : ((fun (v : Value) (_ : World) => v = .tuple #[.slice none 0 0, .int .i64 2])) (y 5) X := hf.1
        clear hf
        have ex := (Ext.drw (Ext.refl _)).trans ex0
        refine Box.mk ?_
        simp only [fill, Act.put, Nat.reduceAdd, List.setIfInBounds_toArray, List.set_cons_zero, List.set_cons_succ, h5] at hK ⊢
        go_simp
        exact hK.out _ _ rfl (Ext.refl _) (fun b hb => by cases hb)
      refine Steps.flw (fun (v : Value) (_ : World) => v = .int .i64 2) [5] rfl (by kernel_rfl) (by kernel_rfl) (fun _ => rfl) (fun y X ex0 hf => ?_) ?_
      · have h5 : ((fun (v : Value) (_ : World) => v = .tuple #[.slice none 0 0, .int .i64 2])) (y 5) X := hf.1
        clear hf
        simp only [fill, Act.put, Nat.reduceAdd, List.setIfInBounds_toArray, List.set_cons_zero, List.set_cons_succ, h5]
        exact ⟨_, ⟨by rfl, fun w => by go_simp⟩, rfl⟩
      exact Steps.nil
    case done =>
      intro y X ex hf hlt hsep
      have h0 : ((fun (v : Value) (_ : World) => v = .slice A0 n0 c0)) (y 0) X := hf.1
      have hh1 : ((fun (v : Value) (X : World) => ∃ A' n' c', v = .slice A' n' c' ∧ Ml X (.slice A' n' c') Gl)) (y 1) X := hf.2.1
      refine Exists.elim hh1 (fun A1 hx1_0 => ?_)
      refine Exists.elim hx1_0 (fun n1 hx1_1 => ?_)
      refine Exists.elim hx1_1 (fun c1 hx1_2 => ?_)
      have h1 := hx1_2.1
      have il1 := hx1_2.2
      clear hh1 hx1_0 hx1_1 hx1_2
      have h2 : ((fun (v : Value) (_ : World) => v = .agg #[.int .i64 w, .int .i64 h, .slice A n c])) (y 2) X := hf.2.2.1
      have hh3 : ((fun (v : Value) (X : World) => ∃ A' n' c', v = .agg #[.int .i64 w, .int .i64 h, .slice A' n' c'] ∧ Il X (.slice A' n' c') L)) (y 3) X := hf.2.2.2.1
      refine Exists.elim hh3 (fun A3 hx3_0 => ?_)
      refine Exists.elim hx3_0 (fun n3 hx3_1 => ?_)
      refine Exists.elim hx3_1 (fun c3 hx3_2 => ?_)
      have h3 := hx3_2.1
      have il3 := hx3_2.2
      clear hh3 hx3_0 hx3_1 hx3_2
      have h4 : ((fun (v : Value) (_ : World) => v = .tuple #[.slice none 0 0, .int .i64 2])) (y 4) X := hf.2.2.2.2.1
      have h5 : ((fun (v : Value) (_ : World) => v = .tuple #[.slice none 0 0, .int .i64 2])) (y 5) X := hf.2.2.2.2.2.1
      have h6 : ((fun (v : Value) (_ : World) => v = .slice none 0 0)) (y 6) X := hf.2.2.2.2.2.2.1
      have h7 : ((fun (v : Value) (_ : World) => v = .int .i64 2)) (y 7) X := hf.2.2.2.2.2.2.2.1
      clear hf
      clear hsep hlt
      refine Box.mk ?_
      simp only [List.drop_succ_cons, List.drop_zero, fill, Act.put, Nat.reduceAdd, List.setIfInBounds_toArray, List.set_cons_zero, List.set_cons_succ, h0, h1, h2, h3, h4, h5, h6, h7]
      clear h0 h1 h2 h3 h4 h5 h6 h7
      have EX := Lib.hid ex; clear ex
      go_wp2_with fail
      refine NoPanic.normal ?_
      go_wp2_with fail
      go_meet
      exact ⟨rfl, rfl, EX.out⟩
  case rest =>
    obtain ⟨rfl, rfl, ex⟩ := hcut
    have E5 := Lib.hid ex; clear ex EC HK
    go_upto_region 2 with fail
    go_cut [7, 8] from 22 to 29 (fun s7 s8 wx => NCut wc s7 s8 wx)
    case first =>
      refine wp_region_noPanic ?_
      refine wp_pool 8 [some 23, some 24, some 25, some 26, some 27, some 22, some 28, some 29] [(7, 5)] [] [(fun (v : Value) (_ : World) => v = .slice A0 n0 c0), (fun (v : Value) (X : World) => ∃ A' n' c', v = .slice A' n' c' ∧ Ml X (.slice A' n' c') Gl), (fun (v : Value) (_ : World) => v = .agg #[.int .i64 w, .int .i64 h, .slice A n c]), (fun (v : Value) (X : World) => ∃ A' n' c', v = .agg #[.int .i64 w, .int .i64 h, .slice A' n' c'] ∧ Il X (.slice A' n' c') L), (fun (v : Value) (_ : World) => v = .tuple #[.slice none 0 0, .int .i64 2]), (fun (v : Value) (_ : World) => v = .tuple #[.slice none 0 0, .int .i64 2]), (fun (v : Value) (_ : World) => v = .slice none 0 0), (fun (v : Value) (_ : World) => v = .int .i64 2)] [noF, noF, noF, noF, noF, noF, noF, noF] (by kernel_rfl) (by kernel_rfl) (by kernel_rfl) (by kernel_rfl) (by kernel_rfl) (by kernel_rfl) (by kernel_rfl) (by kernel_rfl) (fun _ _ _ _ h => h) ⟨Stays.pure _, (fun _ _ _ e ⟨A', n', c', h1, h2⟩ => ⟨A', n', c', h1, h2.ext e⟩), Stays.pure _, (fun _ _ _ e ⟨A', n', c', h1, h2⟩ => ⟨A', n', c', h1, h2.below e⟩), Stays.pure _, Stays.pure _, Stays.pure _, Stays.pure _, True.intro⟩ ?steps ?done
      case steps =>
        simp only [List.take_succ_cons, List.take_zero]
        refine Steps.cons (fun (v : Value) (_ : World) => v = .slice A0 n0 c0) [] rfl (by kernel_rfl) rfl (by kernel_rfl) (fun y X ex0 hf K hK => ?_) ?_
        · clear hf
          have ex := (Ext.drw (Ext.refl _)).trans ex0
          refine Box.mk ?_
          simp only [fill, Act.put, Nat.reduceAdd, List.setIfInBounds_toArray, List.set_cons_zero, List.set_cons_succ] at hK ⊢
          go_simp
          exact hK.out _ _ rfl (Ext.refl _) (fun b hb => by cases hb)
        refine Steps.cons (fun (v : Value) (X : World) => ∃ A' n' c', v = .slice A' n' c' ∧ Ml X (.slice A' n' c') Gl) [0] rfl (by kernel_rfl) rfl (by kernel_rfl) (fun y X ex0 hf K hK => ?_) ?_
        · have h0 : ((fun (v : Value) (_ : World) => v = .slice A0 n0 c0)) (y 0) X := hf.1
          clear hf
          have ex := (Ext.drw (Ext.refl _)).trans ex0
          refine Box.mk ?_
          simp only [fill, Act.put, Nat.reduceAdd, List.setIfInBounds_toArray, List.set_cons_zero, List.set_cons_succ, h0] at hK ⊢
          go_simp
          refine (HMV.out _ (HG.out.ext (BB.out.trans (E5.out.trans ex)))).mono ?_
          rintro e V ⟨A', n', c', rfl, hil, hb⟩
          try go_wp2_with fail
          exact hK.out _ _ ⟨A', n', c', rfl, hil⟩ hb (fun b hb => by cases hb)
        refine Steps.cons (fun (v : Value) (_ : World) => v = .agg #[.int .i64 w, .int .i64 h, .slice A n c]) [] rfl (by kernel_rfl) rfl (by kernel_rfl) (fun y X ex0 hf K hK => ?_) ?_
        · clear hf
          have ex := (Ext.drw (Ext.refl _)).trans ex0
          refine Box.mk ?_
          simp only [fill, Act.put, Nat.reduceAdd, List.setIfInBounds_toArray, List.set_cons_zero, List.set_cons_succ] at hK ⊢
          obtain ⟨q0, q1, q2⟩ := Q3.ext HB.out (by omega) (E5.out.trans ex)
          go_simp
          exact hK.out _ _ rfl (Ext.refl _) (fun b hb => by cases hb)
        refine Steps.cons (fun (v : Value) (X : World) => ∃ A' n' c', v = .agg #[.int .i64 w, .int .i64 h, .slice A' n' c'] ∧ Il X (.slice A' n' c') L) [2, 1] rfl (by kernel_rfl) rfl (by kernel_rfl) (fun y X ex0 hf K hK => ?_) ?_
        · have h2 : ((fun (v : Value) (_ : World) => v = .agg #[.int .i64 w, .int .i64 h, .slice A n c])) (y 2) X := hf.1
          have hh1 : ((fun (v : Value) (X : World) => ∃ A' n' c', v = .slice A' n' c' ∧ Ml X (.slice A' n' c') Gl)) (y 1) X := hf.2.1
          refine Exists.elim hh1 (fun A1 hx1_0 => ?_)
          refine Exists.elim hx1_0 (fun n1 hx1_1 => ?_)
          refine Exists.elim hx1_1 (fun c1 hx1_2 => ?_)
          have h1 := hx1_2.1
          have il1 := hx1_2.2
          clear hh1 hx1_0 hx1_1 hx1_2
          clear hf
          have ex := (Ext.drw (Ext.refl _)).trans ex0
          refine Box.mk ?_
          simp only [fill, Act.put, Nat.reduceAdd, List.setIfInBounds_toArray, List.set_cons_zero, List.set_cons_succ, h2, h1] at hK ⊢
          go_simp
          refine (HST.out _ (HL.out.ext (BB.out.trans (E5.out.trans ex)))).mono ?_
          rintro e V ⟨A', n', c', rfl, hil, hfr, hb⟩
          try go_wp2_with fail
          exact hK.out _ _ ⟨A', n', c', rfl, hil⟩ hb (fun b hb => by cases hb)
        refine Steps.cons (fun (v : Value) (_ : World) => v = .tuple #[.slice none 0 0, .int .i64 2]) [1, 3] rfl (by kernel_rfl) rfl (by kernel_rfl) (fun y X ex0 hf K hK => ?_) ?_
        · have hh1 : ((fun (v : Value) (X : World) => ∃ A' n' c', v = .slice A' n' c' ∧ Ml X (.slice A' n' c') Gl)) (y 1) X := hf.1
          refine Exists.elim hh1 (fun A1 hx1_0 => ?_)
          refine Exists.elim hx1_0 (fun n1 hx1_1 => ?_)
          refine Exists.elim hx1_1 (fun c1 hx1_2 => ?_)
          have h1 := hx1_2.1
          have il1 := hx1_2.2
          clear hh1 hx1_0 hx1_1 hx1_2
          have hh3 : ((fun (v : Value) (X : World) => ∃ A' n' c', v = .agg #[.int .i64 w, .int .i64 h, .slice A' n' c'] ∧ Il X (.slice A' n' c') L)) (y 3) X := hf.2.1
          refine Exists.elim hh3 (fun A3 hx3_0 => ?_)
          refine Exists.elim hx3_0 (fun n3 hx3_1 => ?_)
          refine Exists.elim hx3_1 (fun c3 hx3_2 => ?_)
          have h3 := hx3_2.1
          have il3 := hx3_2.2
          clear hh3 hx3_0 hx3_1 hx3_2
          clear hf
          have ex := (Ext.drw (Ext.refl _)).trans ex0
          refine Box.mk ?_
          simp only [fill, Act.put, Nat.reduceAdd, List.setIfInBounds_toArray, List.set_cons_zero, List.set_cons_succ, h1, h3] at hK ⊢
          go_simp
          refine (HO.out _ A3 n3 c3 A1 n1 c1 il3 il1).mono ?_
          rintro e V ⟨rfl, hb⟩
          try go_wp2_with fail
          exact hK.out _ _ rfl hb (fun b hb => by cases hb)
        refine Steps.cons (fun (v : Value) (_ : World) => v = .tuple #[.slice none 0 0, .int .i64 2]) [4] rfl (by kernel_rfl) rfl (by kernel_rfl) (fun y X ex0 hf K hK => ?_) ?_
        · have h4 : ((fun (v : Value) (_ : World) => v = .tuple #[.slice none 0 0, .int .i64 2])) (y 4) X := hf.1
          clear hf
          have ex := (Ext.drw (Ext.refl _)).trans ex0
          refine Box.mk ?_
          simp only [fill, Act.put, Nat.reduceAdd, List.setIfInBounds_toArray, List.set_cons_zero, List.set_cons_succ, h4] at hK ⊢
          go_simp
          exact hK.out _ _ rfl (Ext.refl _) (fun b hb => by cases hb)
        refine Steps.cons (fun (v : Value) (_ : World) => v = .slice none 0 0) [5] rfl (by kernel_rfl) rfl (by kernel_rfl) (fun y X ex0 hf K hK => ?_) ?_
        · have h5 : ((fun (v : Value) (_ : World) => v = .tuple #[.slice none 0 0, .int .i64 2])) (y 5) X := hf.1
          clear hf
          have ex := (Ext.drw (Ext.refl _)).trans ex0
          refine Box.mk ?_
          simp only [fill, Act.put, Nat.reduceAdd, List.setIfInBounds_toArray, List.set_cons_zero, List.set_cons_succ, h5] at hK ⊢
          go_simp
          exact hK.out _ _ rfl (Ext.refl _) (fun b hb => by cases hb)
        refine Steps.flw (fun (v : Value) (_ : World) => v = .int .i64 2) [5] rfl (by kernel_rfl) (by kernel_rfl) (fun _ => rfl) (fun y X ex0 hf => ?_) ?_
        · have h5 : ((fun (v : Value) (_ : World) => v = .tuple #[.slice none 0 0, .int .i64 2])) (y 5) X := hf.1
          clear hf
          simp only [fill, Act.put, Nat.reduceAdd, List.setIfInBounds_toArray, List.set_cons_zero, List.set_cons_succ, h5]
          exact ⟨_, ⟨by rfl, fun w => by go_simp⟩, rfl⟩
        exact Steps.nil
      case done =>
        intro y X ex hf hlt hsep
        have h0 : ((fun (v : Value) (_ : World) => v = .slice A0 n0 c0)) (y 0) X := hf.1
        have hh1 : ((fun (v : Value) (X : World) => ∃ A' n' c', v = .slice A' n' c' ∧ Ml X (.slice A' n' c') Gl)) (y 1) X := hf.2.1
        refine Exists.elim hh1 (fun A1 hx1_0 => ?_)
        refine Exists.elim hx1_0 (fun n1 hx1_1 => ?_)
        refine Exists.elim hx1_1 (fun c1 hx1_2 => ?_)
        have h1 := hx1_2.1
        have il1 := hx1_2.2
        clear hh1 hx1_0 hx1_1 hx1_2
        have h2 : ((fun (v : Value) (_ : World) => v = .agg #[.int .i64 w, .int .i64 h, .slice A n c])) (y 2) X := hf.2.2.1
        have hh3 : ((fun (v : Value) (X : World) => ∃ A' n' c', v = .agg #[.int .i64 w, .int .i64 h, .slice A' n' c'] ∧ Il X (.slice A' n' c') L)) (y 3) X := hf.2.2.2.1
        refine Exists.elim hh3 (fun A3 hx3_0 => ?_)
        refine Exists.elim hx3_0 (fun n3 hx3_1 => ?_)
        refine Exists.elim hx3_1 (fun c3 hx3_2 => ?_)
        have h3 := hx3_2.1
        have il3 := hx3_2.2
        clear hh3 hx3_0 hx3_1 hx3_2
        have h4 : ((fun (v : Value) (_ : World) => v = .tuple #[.slice none 0 0, .int .i64 2])) (y 4) X := hf.2.2.2.2.1
        have h5 : ((fun (v : Value) (_ : World) => v = .tuple #[.slice none 0 0, .int .i64 2])) (y 5) X := hf.2.2.2.2.2.1
        have h6 : ((fun (v : Value) (_ : World) => v = .slice none 0 0)) (y 6) X := hf.2.2.2.2.2.2.1
        have h7 : ((fun (v : Value) (_ : World) => v = .int .i64 2)) (y 7) X := hf.2.2.2.2.2.2.2.1
        clear hf
        clear hsep hlt
        refine Box.mk ?_
        simp only [List.drop_succ_cons, List.drop_zero, fill, Act.put, Nat.reduceAdd, List.setIfInBounds_toArray, List.set_cons_zero, List.set_cons_succ, h0, h1, h2, h3, h4, h5, h6, h7]
        clear h0 h1 h2 h3 h4 h5 h6 h7
        have EX := Lib.hid ex; clear ex
        go_wp2_with fail
        refine NoPanic.normal ?_
        go_wp2_with fail
        go_meet
        exact ⟨rfl, rfl, EX.out⟩
    case rest =>
      obtain ⟨rfl, rfl, ex⟩ := hcut
      have E7 := Lib.hid (E5.out.trans ex); clear ex E5 HO
      go_upto_region 3 with fail
      go_cut [9, 10] from 30 to 37 (fun s9 s10 wx => NCutL wc s9 s10 wx)
      case first =>
        refine wp_region_noPanic ?_
        refine wp_pool 9 [some 31, some 32, some 33, some 34, some 35, some 30, some 36, some 37, some 9] [(7, 5)] [8] [(fun (v : Value) (_ : World) => v = .slice A0 n0 c0), (fun (v : Value) (X : World) => ∃ A' n' c', v = .slice A' n' c' ∧ Ml X (.slice A' n' c') Gl), (fun (v : Value) (_ : World) => v = .agg #[.int .i64 w, .int .i64 h, .slice A n c]), (fun (v : Value) (X : World) => ∃ A' n' c', v = .agg #[.int .i64 w, .int .i64 h, .slice A' n' c'] ∧ Il X (.slice A' n' c') L), (fun (v : Value) (_ : World) => v = .tuple #[.agg #[.int .i64 0, .int .i64 0, .slice none 0 0], .int .i64 2]), (fun (v : Value) (_ : World) => v = .tuple #[.agg #[.int .i64 0, .int .i64 0, .slice none 0 0], .int .i64 2]), (fun (v : Value) (_ : World) => v = .agg #[.int .i64 0, .int .i64 0, .slice none 0 0]), (fun (v : Value) (_ : World) => v = .int .i64 2), (fun (v : Value) (X : World) => ∃ g, v = .pointer (some ⟨g, 0, none⟩) ∧ wc.heap.size ≤ g ∧ T27 X g)] [noF, noF, noF, noF, noF, noF, noF, noF, ptrF] (by kernel_rfl) (by kernel_rfl) (by kernel_rfl) (by kernel_rfl) (by kernel_rfl) (by kernel_rfl) (by kernel_rfl) (by kernel_rfl) (fun _ _ _ _ h => h) ⟨Stays.pure _, (fun _ _ _ e ⟨A', n', c', h1, h2⟩ => ⟨A', n', c', h1, h2.ext e⟩), Stays.pure _, (fun _ _ _ e ⟨A', n', c', h1, h2⟩ => ⟨A', n', c', h1, h2.below e⟩), Stays.pure _, Stays.pure _, Stays.pure _, Stays.pure _, (fun _ _ _ e ⟨g, h1, h2, h3⟩ => ⟨g, h1, h2, h3.ext e⟩), True.intro⟩ ?steps ?done
        case steps =>
          simp only [List.take_succ_cons, List.take_zero]
          refine Steps.cons (fun (v : Value) (_ : World) => v = .slice A0 n0 c0) [] rfl (by kernel_rfl) rfl (by kernel_rfl) (fun y X ex0 hf K hK => ?_) ?_
          · clear hf
            have ex := (Ext.drw (Ext.refl _)).trans ex0
            refine Box.mk ?_
            simp only [fill, Act.put, Nat.reduceAdd, List.setIfInBounds_toArray, List.set_cons_zero, List.set_cons_succ] at hK ⊢
            go_simp
            exact hK.out _ _ rfl (Ext.refl _) (fun b hb => by cases hb)
          refine Steps.cons (fun (v : Value) (X : World) => ∃ A' n' c', v = .slice A' n' c' ∧ Ml X (.slice A' n' c') Gl) [0] rfl (by kernel_rfl) rfl (by kernel_rfl) (fun y X ex0 hf K hK => ?_) ?_
          · have h0 : ((fun (v : Value) (_ : World) => v = .slice A0 n0 c0)) (y 0) X := hf.1
            clear hf
            have ex := (Ext.drw (Ext.refl _)).trans ex0
            refine Box.mk ?_
            simp only [fill, Act.put, Nat.reduceAdd, List.setIfInBounds_toArray, List.set_cons_zero, List.set_cons_succ, h0] at hK ⊢
            go_simp
            refine (HMV.out _ (HG.out.ext (BB.out.trans (E7.out.trans ex)))).mono ?_
            rintro e V ⟨A', n', c', rfl, hil, hb⟩
            try go_wp2_with fail
            exact hK.out _ _ ⟨A', n', c', rfl, hil⟩ hb (fun b hb => by cases hb)
          refine Steps.cons (fun (v : Value) (_ : World) => v = .agg #[.int .i64 w, .int .i64 h, .slice A n c]) [] rfl (by kernel_rfl) rfl (by kernel_rfl) (fun y X ex0 hf K hK => ?_) ?_
          · clear hf
            have ex := (Ext.drw (Ext.refl _)).trans ex0
            refine Box.mk ?_
            simp only [fill, Act.put, Nat.reduceAdd, List.setIfInBounds_toArray, List.set_cons_zero, List.set_cons_succ] at hK ⊢
            obtain ⟨q0, q1, q2⟩ := Q3.ext HB.out (by omega) (E7.out.trans ex)
            go_simp
            exact hK.out _ _ rfl (Ext.refl _) (fun b hb => by cases hb)
          refine Steps.cons (fun (v : Value) (X : World) => ∃ A' n' c', v = .agg #[.int .i64 w, .int .i64 h, .slice A' n' c'] ∧ Il X (.slice A' n' c') L) [2, 1] rfl (by kernel_rfl) rfl (by kernel_rfl) (fun y X ex0 hf K hK => ?_) ?_
          · have h2 : ((fun (v : Value) (_ : World) => v = .agg #[.int .i64 w, .int .i64 h, .slice A n c])) (y 2) X := hf.1
            have hh1 : ((fun (v : Value) (X : World) => ∃ A' n' c', v = .slice A' n' c' ∧ Ml X (.slice A' n' c') Gl)) (y 1) X := hf.2.1
            refine Exists.elim hh1 (fun A1 hx1_0 => ?_)
            refine Exists.elim hx1_0 (fun n1 hx1_1 => ?_)
            refine Exists.elim hx1_1 (fun c1 hx1_2 => ?_)
            have h1 := hx1_2.1
            have il1 := hx1_2.2
            clear hh1 hx1_0 hx1_1 hx1_2
            clear hf
            have ex := (Ext.drw (Ext.refl _)).trans ex0
            refine Box.mk ?_
            simp only [fill, Act.put, Nat.reduceAdd, List.setIfInBounds_toArray, List.set_cons_zero, List.set_cons_succ, h2, h1] at hK ⊢
            go_simp
            refine (HST.out _ (HL.out.ext (BB.out.trans (E7.out.trans ex)))).mono ?_
            rintro e V ⟨A', n', c', rfl, hil, hfr, hb⟩
            try go_wp2_with fail
            exact hK.out _ _ ⟨A', n', c', rfl, hil⟩ hb (fun b hb => by cases hb)
          refine Steps.cons (fun (v : Value) (_ : World) => v = .tuple #[.agg #[.int .i64 0, .int .i64 0, .slice none 0 0], .int .i64 2]) [1, 3] rfl (by kernel_rfl) rfl (by kernel_rfl) (fun y X ex0 hf K hK => ?_) ?_
          · have hh1 : ((fun (v : Value) (X : World) => ∃ A' n' c', v = .slice A' n' c' ∧ Ml X (.slice A' n' c') Gl)) (y 1) X := hf.1
            refine Exists.elim hh1 (fun A1 hx1_0 => ?_)
            refine Exists.elim hx1_0 (fun n1 hx1_1 => ?_)
            refine Exists.elim hx1_1 (fun c1 hx1_2 => ?_)
            have h1 := hx1_2.1
            have il1 := hx1_2.2
            clear hh1 hx1_0 hx1_1 hx1_2
            have hh3 : ((fun (v : Value) (X : World) => ∃ A' n' c', v = .agg #[.int .i64 w, .int .i64 h, .slice A' n' c'] ∧ Il X (.slice A' n' c') L)) (y 3) X := hf.2.1
            refine Exists.elim hh3 (fun A3 hx3_0 => ?_)
            refine Exists.elim hx3_0 (fun n3 hx3_1 => ?_)
            refine Exists.elim hx3_1 (fun c3 hx3_2 => ?_)
            have h3 := hx3_2.1
            have il3 := hx3_2.2
            clear hh3 hx3_0 hx3_1 hx3_2
            clear hf
            have ex := (Ext.drw (Ext.refl _)).trans ex0
            refine Box.mk ?_
            simp only [fill, Act.put, Nat.reduceAdd, List.setIfInBounds_toArray, List.set_cons_zero, List.set_cons_succ, h1, h3] at hK ⊢
            go_simp
            refine (HLE.out _ A3 n3 c3 A1 n1 c1 il3 il1).mono ?_
            rintro e V ⟨rfl, hb⟩
            try go_wp2_with fail
            exact hK.out _ _ rfl hb (fun b hb => by cases hb)
          refine Steps.cons (fun (v : Value) (_ : World) => v = .tuple #[.agg #[.int .i64 0, .int .i64 0, .slice none 0 0], .int .i64 2]) [4] rfl (by kernel_rfl) rfl (by kernel_rfl) (fun y X ex0 hf K hK => ?_) ?_
          · have h4 : ((fun (v : Value) (_ : World) => v = .tuple #[.agg #[.int .i64 0, .int .i64 0, .slice none 0 0], .int .i64 2])) (y 4) X := hf.1
            clear hf
            have ex := (Ext.drw (Ext.refl _)).trans ex0
            refine Box.mk ?_
            simp only [fill, Act.put, Nat.reduceAdd, List.setIfInBounds_toArray, List.set_cons_zero, List.set_cons_succ, h4] at hK ⊢
            go_simp
            exact hK.out _ _ rfl (Ext.refl _) (fun b hb => by cases hb)
          refine Steps.cons (fun (v : Value) (_ : World) => v = .agg #[.int .i64 0, .int .i64 0, .slice none 0 0]) [5] rfl (by kernel_rfl) rfl (by kernel_rfl) (fun y X ex0 hf K hK => ?_) ?_
          · have h5 : ((fun (v : Value) (_ : World) => v = .tuple #[.agg #[.int .i64 0, .int .i64 0, .slice none 0 0], .int .i64 2])) (y 5) X := hf.1
            clear hf
            have ex := (Ext.drw (Ext.refl _)).trans ex0
            refine Box.mk ?_
            simp only [fill, Act.put, Nat.reduceAdd, List.setIfInBounds_toArray, List.set_cons_zero, List.set_cons_succ, h5] at hK ⊢
            go_simp
            exact hK.out _ _ rfl (Ext.refl _) (fun b hb => by cases hb)
          refine Steps.flw (fun (v : Value) (_ : World) => v = .int .i64 2) [5] rfl (by kernel_rfl) (by kernel_rfl) (fun _ => rfl) (fun y X ex0 hf => ?_) ?_
          · have h5 : ((fun (v : Value) (_ : World) => v = .tuple #[.agg #[.int .i64 0, .int .i64 0, .slice none 0 0], .int .i64 2])) (y 5) X := hf.1
            clear hf
            simp only [fill, Act.put, Nat.reduceAdd, List.setIfInBounds_toArray, List.set_cons_zero, List.set_cons_succ, h5]
            exact ⟨_, ⟨by rfl, fun w => by go_simp⟩, rfl⟩
          refine Steps.cons (fun (v : Value) (X : World) => ∃ g, v = .pointer (some ⟨g, 0, none⟩) ∧ wc.heap.size ≤ g ∧ T27 X g) [] rfl (by kernel_rfl) rfl (by kernel_rfl) (fun y X ex0 hf K hK => ?_) ?_
          · clear hf
            have ex := (Ext.drw (Ext.refl _)).trans ex0
            refine Box.mk ?_
            simp only [fill, Act.put, Nat.reduceAdd, List.setIfInBounds_toArray, List.set_cons_zero, List.set_cons_succ] at hK ⊢
            go_simp
            exact hK.out _ _ ⟨X.heap.size, rfl, ex.size, ⟨_, _, _, heap_alloc_new X (.cells #[.int .i64 0, .int .i64 0, .slice none 0 0] 27)⟩⟩ (Ext.alc (Ext.refl X) (.cells #[.int .i64 0, .int .i64 0, .slice none 0 0] 27)) (New.ptr (Nat.le_refl _) (by simp))
          exact Steps.nil
        case done =>
          intro y X ex hf hlt hsep
          have h0 : ((fun (v : Value) (_ : World) => v = .slice A0 n0 c0)) (y 0) X := hf.1
          have hh1 : ((fun (v : Value) (X : World) => ∃ A' n' c', v = .slice A' n' c' ∧ Ml X (.slice A' n' c') Gl)) (y 1) X := hf.2.1
          refine Exists.elim hh1 (fun A1 hx1_0 => ?_)
          refine Exists.elim hx1_0 (fun n1 hx1_1 => ?_)
          refine Exists.elim hx1_1 (fun c1 hx1_2 => ?_)
          have h1 := hx1_2.1
          have il1 := hx1_2.2
          clear hh1 hx1_0 hx1_1 hx1_2
          have h2 : ((fun (v : Value) (_ : World) => v = .agg #[.int .i64 w, .int .i64 h, .slice A n c])) (y 2) X := hf.2.2.1
          have hh3 : ((fun (v : Value) (X : World) => ∃ A' n' c', v = .agg #[.int .i64 w, .int .i64 h, .slice A' n' c'] ∧ Il X (.slice A' n' c') L)) (y 3) X := hf.2.2.2.1
          refine Exists.elim hh3 (fun A3 hx3_0 => ?_)
          refine Exists.elim hx3_0 (fun n3 hx3_1 => ?_)
          refine Exists.elim hx3_1 (fun c3 hx3_2 => ?_)
          have h3 := hx3_2.1
          have il3 := hx3_2.2
          clear hh3 hx3_0 hx3_1 hx3_2
          have h4 : ((fun (v : Value) (_ : World) => v = .tuple #[.agg #[.int .i64 0, .int .i64 0, .slice none 0 0], .int .i64 2])) (y 4) X := hf.2.2.2.2.1
          have h5 : ((fun (v : Value) (_ : World) => v = .tuple #[.agg #[.int .i64 0, .int .i64 0, .slice none 0 0], .int .i64 2])) (y 5) X := hf.2.2.2.2.2.1
          have h6 : ((fun (v : Value) (_ : World) => v = .agg #[.int .i64 0, .int .i64 0, .slice none 0 0])) (y 6) X := hf.2.2.2.2.2.2.1
          have h7 : ((fun (v : Value) (_ : World) => v = .int .i64 2)) (y 7) X := hf.2.2.2.2.2.2.2.1
          have hh8 : ((fun (v : Value) (X : World) => ∃ g, v = .pointer (some ⟨g, 0, none⟩) ∧ wc.heap.size ≤ g ∧ T27 X g)) (y 8) X := hf.2.2.2.2.2.2.2.2.1
          refine Exists.elim hh8 (fun g8 hx8_0 => ?_)
          have h8 := hx8_0.1
          have z8 := hx8_0.2.1
          have q8 := hx8_0.2.2
          clear hh8 hx8_0
          clear hf
          clear hsep hlt
          refine Box.mk ?_
          simp only [List.drop_succ_cons, List.drop_zero, fill, Act.put, Nat.reduceAdd, List.setIfInBounds_toArray, List.set_cons_zero, List.set_cons_succ, h0, h1, h2, h3, h4, h5, h6, h7, h8]
          clear h0 h1 h2 h3 h4 h5 h6 h7 h8
          obtain ⟨⟨_, _, _, k0, k1, k2⟩, k4⟩ := q8.tb.facts
          have QT := Lib.hid q8; have hlt := q8.lt; clear q8
          have EX := Lib.hid ex; clear ex
          go_wp2_with fail
          refine NoPanic.normal ?_
          go_wp2_with fail
          go_meet
          exact ⟨g8, rfl, rfl, T27.put QT.out _ _ _, by simp [World.setCell]; omega, z8, ((EX.out.sc z8).sc z8).sc z8⟩
      case rest =>
        obtain ⟨g9, rfl, rfl, hq9, hlt9, hg9, ex⟩ := hcut
        have E9 := Lib.hid (E7.out.trans ex); have HQ9 := Lib.hid hq9; clear ex E7 hq9
        obtain ⟨z0, z1, z2⟩ := HB.out.ext zle E9.out
        go_wp2_with fail
        refine (HA.out _ (BB.out.trans E9.out)).mono ?_
        rintro e V ⟨rfl, hb⟩
        obtain ⟨y0, y1, y2⟩ := HQ9.out.ext hlt9 hb
        have E10 := Lib.hid (E9.out.trans hb); clear hb z0 z1 z2
        go_wp2_with fail
        refine (own_any 0 0 none 0 0 _).mono ?_
        rintro e V2 ⟨rfl, hb⟩
        have E11 := Lib.hid (E10.out.trans hb); clear hb y0 y1 y2
        go_wp2_with fail
        refine (HSM.out _).mono ?_
        rintro e V3 ⟨rfl, hb⟩
        have E12 := Lib.hid (E11.out.trans hb); clear hb
        go_wp2_with fail
        refine (awake_any _).mono ?_
        rintro e V4 ⟨rfl, hb⟩
        have E13 := Lib.hid (E12.out.trans hb); clear hb
        go_wp2
        go_ret
        exact ⟨rfl, BB.out.trans E13.out⟩

set_option maxHeartbeats 8000000 in
set_option maxRecDepth 100000 in
theorem orbL_ok (A0 : Option Addr) (n0 c0 : Nat) (G0 Gl : List Mv) (w h : Nat) (A : Option Addr) (n c : Nat) (l L : List Int) (W : World) (hg : Ml W (.slice A0 n0 c0) G0) (hl : Ins W A n c l) (hGl : Gl = G0.take 521) (hL : L = l.take 70)
    (N : Nat) (hN : N = w * h) (hs : okSize w h = true) (hv : vst w h L = true) (hLN : L.length = N) (hG : IsG w h Gl) (hGG : Gl = G0) (hLL : L = l)
    (kn : Nat) (kl : List Mv) (hkl : kl = Gl.filter (fun m => kpm w h m L)) (hkn : kn ≤ 521)
    (hk : ∀ X A' n' c' Ag ng cg, Il X (.slice A' n' c') L → Ml X (.slice Ag ng cg) Gl → Calls Try.prog 36 #[.slice Ag ng cg, .agg #[.int .i64 w, .int .i64 h, .slice A' n' c']] X fun e Y => ∃ A' c', e = .returned (.tuple #[.slice A' kn c', .int .i64 0]) ∧ Ml Y (.slice A' kn c') kl ∧ Ext X Y)
    (ho : ∀ X A' n' c' Ag ng cg, Il X (.slice A' n' c') L → Ml X (.slice Ag ng cg) Gl → Calls Try.prog 37 #[.slice Ag ng cg, .agg #[.int .i64 w, .int .i64 h, .slice A' n' c']] X fun e Y => ∃ gf cap ne es, e = .returned (.tuple #[.slice (some ⟨gf, 0, none⟩) ne cap, .int .i64 0]) ∧ OS Y w h N L Gl gf cap ne es ∧ Ext X Y)
    (hle : ∀ X A' n' c' Ag ng cg, Il X (.slice A' n' c') L → Ml X (.slice Ag ng cg) Gl → Calls Try.prog 38 #[.slice Ag ng cg, .agg #[.int .i64 w, .int .i64 h, .slice A' n' c']] X fun e Y => ∃ b K, e = .returned (.tuple #[.agg #[.int .i64 w, .int .i64 h, .slice (some ⟨b, 0, none⟩) N N], .int .i64 0]) ∧ LS Y w h N L Gl b K ∧ Ext X Y) :
    Calls Try.prog 7 #[.slice A0 n0 c0, .agg #[.int .i64 w, .int .i64 h, .slice A n c]] W fun e W' => e = .returned (.bool true) ∧ Ext W W' := by
  have hmv : ∀ X, Ml X (.slice A0 n0 c0) G0 → Calls Try.prog 31 #[.slice A0 n0 c0] X fun e Y => ∃ A' n' c', e = .returned (.slice A' n' c') ∧ Ml Y (.slice A' n' c') Gl ∧ Ext X Y := fun X hX => (moves_any A0 n0 c0 G0 X hX).mono (fun e Y ⟨v, e1, hm, hx⟩ => by
    rw [← hGl] at hm
    have hm' := hm
    obtain ⟨A', c', rfl, -⟩ := hm
    exact ⟨A', _, c', e1, hm', hx⟩)
  have hst : ∀ X, Ins X A n c l → Calls Try.prog 15 #[.agg #[.int .i64 w, .int .i64 h, .slice A n c]] X fun e Y => ∃ A' n' c', e = .returned (.agg #[.int .i64 w, .int .i64 h, .slice A' n' c']) ∧ Il Y (.slice A' n' c') L ∧ Fr X.heap.size (.slice A' n' c') ∧ Ext X Y := fun X hX => by
    rw [hL]; exact stamps_any w h A n c l X hX
  have hNN : 1 ≤ N ∧ N ≤ 64 := by
    have hs' := okSize_iff.1 hs
    have : w * h ≤ 8 * 8 := Nat.mul_le_mul (by omega) (by omega)
    have : 1 * 1 ≤ w * h := Nat.mul_le_mul (by omega) (by omega)
    omega
  have hg0 := hg.len
  have hnb : n0 ≤ 521 := by rw [hg0, ← hGG, hGl, List.length_take]; omega
  have hn : n = N := by rw [hl.1, ← hLL, hLN]
  have hask : ∀ X, Ext W X → Calls Try.prog 39 #[.slice A0 n0 c0, .agg #[.int .i64 w, .int .i64 h, .slice A n c]] X fun e Y => e = .returned (.bool true) ∧ Ext X Y := fun X hX => by
    have := asked_t w h A0 A n0 c0 n c L G0 X (by rw [hLL]; exact (hl.ext hX).il) hv (hg.ext hX)
    rwa [← hGG, grpB_t hG] at this
  have hro : ∀ X, Ext W X → Calls Try.prog 40 #[.slice A0 n0 c0, .agg #[.int .i64 w, .int .i64 h, .slice A n c]] X fun e Y => ∃ (B : Nat) (Av : Option Addr) (cv nd : Nat) (ds : List So), e = .returned (.slice Av nd cv) ∧ nd = ds.length ∧ Y.ownsRow B 24 3 (.slice Av nd cv) nd (ds.flatMap (encO w h N)) ∧ (∀ x ∈ ds, Il Y (.slice x.A N N) x.l) ∧ Orb w h N L Gl (ds.map So.l) ∧ Ext X Y := fun X hX => by
    refine (orbitR_c w h A0 A n0 c0 n c L G0 X (by rw [hLL]; exact (hl.ext hX).il) hv (by rw [hLN, hN]) hs (hg.ext hX) (by omega) (fun m hm => hG.has m (by rw [hGG]; exact hm))).mono ?_
    rintro e Y ⟨Wx, v, rfl, -, ⟨Av, nd, cv, ds, rfl, a1, a2, a3, a4, a5, a6⟩, hx⟩
    rw [hn] at a3 a4 a5
    rw [hg0, List.take_of_length_le (Nat.le_refl _), ← hGG] at a5
    exact ⟨_, Av, cv, nd, ds, rfl, a1, a3, a4, a5, hx⟩
  have hrk : ∀ X, Ext W X → Calls Try.prog 41 #[.slice A0 n0 c0, .agg #[.int .i64 w, .int .i64 h, .slice A n c]] X fun e Y => ∃ A' n' c', e = .returned (.slice A' n' c') ∧ Ml Y (.slice A' n' c') kl ∧ Ext X Y := fun X hX => by
    refine (keepsR_c w h A0 A n0 c0 n c L G0 X (by rw [hLL]; exact (hl.ext hX).il) hv (by rw [hLN, hN]) hs (hg.ext hX) (by omega) (fun m hm => hG.has m (by rw [hGG]; exact hm))).mono ?_
    rintro e Y ⟨v, rfl, hm, hx⟩
    rw [← hGG, ← hkl] at hm
    have hm' := hm
    obtain ⟨A', c', rfl, -⟩ := hm
    exact ⟨A', _, c', rfl, hm', hx⟩
  have hklen : kl.length ≤ 521 := by
    rw [hkl]; refine Nat.le_trans (List.length_filter_le _ _) ?_
    rw [hGG, ← hg0]; exact hnb
  have hom : ∀ X Ak ck, Ml X (.slice Ak kn ck) kl → Calls Try.prog 33 #[.slice Ak kn ck] X fun e Y => ∃ A' n' c', e = .returned (.slice A' n' c') ∧ Ml Y (.slice A' n' c') kl ∧ Ext X Y := fun X Ak ck hX => by
    refine (ownMoves_any Ak kn ck kl X hX (by omega)).mono ?_
    rintro e Y ⟨v, rfl, hm, hx⟩
    have hm' := hm
    obtain ⟨A', c', rfl, -⟩ := hm
    exact ⟨A', _, c', rfl, hm', hx⟩
  have heq : ∀ X (u v : Value), Ml X u kl → Ml X v kl → Calls Try.prog 32 #[u, v] X fun e Y => e = .returned (.bool true) ∧ Ext X Y := fun X u v hu hv' => by
    have := equalM_any u v kl kl X hu hv' (by omega) (by omega)
    rwa [decide_eq_true (rfl : kl = kl)] at this
  have hsame : ∀ X (A1 A2 : Option Addr) (x : List Int), Il X (.slice A1 N N) x → Il X (.slice A2 N N) x → Calls Try.prog 20 #[.agg #[.int .i64 w, .int .i64 h, .slice A1 N N], .agg #[.int .i64 w, .int .i64 h, .slice A2 N N]] X fun e Y => e = .returned (.bool true) ∧ Ext X Y := fun X A1 A2 x h1 h2 => by
    have := same_eq w h A1 A2 N N N N x x X h1 h2 (by omega) (by omega)
    rwa [decide_eq_true (rfl : x = x)] at this
  have HASK := Lib.hid hask; have HRO := Lib.hid hro; have HRK := Lib.hid hrk; have HOM := Lib.hid hom; have HEQ := Lib.hid heq; have HSA := Lib.hid hsame
  have HK := Lib.hid hk; have HO := Lib.hid ho; have HLE := Lib.hid hle
  clear hask hro hrk hom heq hsame hk ho hle hv hs hN hLN hG hGG hLL hkl hg0 hn
  have HMV := Lib.hid hmv; have HST := Lib.hid hst; have HG := Lib.hid hg; have HL := Lib.hid hl; clear hmv hst hg hl hGl hL
  go_enter Try.func7, Try.ntmps7
  go_upto_region 1 with fail
  have q1 : Q3 (W.alloc (.cells #[.int .i64 w, .int .i64 h, .slice A n c] 24)) W.heap.size (.int .i64 w) (.int .i64 h) (.slice A n c) := by
    refine ⟨?_, ?_, ?_⟩ <;> (rw [World.cell?_alloc_new]; rfl)
  have bb := al1 W (.cells #[.int .i64 w, .int .i64 h, .slice A n c] 24)
  have zz : (W.alloc (.cells #[.int .i64 w, .int .i64 h, .slice A n c] 24)).heap.size = W.heap.size + 1 := by simp
  generalize (W.alloc (.cells #[.int .i64 w, .int .i64 h, .slice A n c] 24)) = W1 at *
  have zle : W.heap.size < W1.heap.size := by omega
  have BB : Hid (Ext W W1) := Lib.hid bb; have HB := Lib.hid q1
  clear bb zz q1
  have ec : Ext W1 W1 := Ext.refl _
  have EC := Lib.hid ec; clear ec
  go_cut [5, 6] from 14 to 21 (fun s5 s6 wx => KCutM W1 kn kl s5 s6 wx)
  case first =>
    refine wp_region_noPanic ?_
    refine wp_pool 8 [some 15, some 16, some 17, some 18, some 19, some 14, some 20, some 21] [(7, 5)] [] [(fun (v : Value) (_ : World) => v = .slice A0 n0 c0), (fun (v : Value) (X : World) => ∃ A' n' c', v = .slice A' n' c' ∧ Ml X (.slice A' n' c') Gl), (fun (v : Value) (_ : World) => v = .agg #[.int .i64 w, .int .i64 h, .slice A n c]), (fun (v : Value) (X : World) => ∃ A' n' c', v = .agg #[.int .i64 w, .int .i64 h, .slice A' n' c'] ∧ Il X (.slice A' n' c') L), (fun (v : Value) (X : World) => ∃ A' c', v = (.tuple #[(.slice A' kn c'), .int .i64 0]) ∧ Ml X (.slice A' kn c') kl), (fun (v : Value) (X : World) => ∃ A' c', v = (.tuple #[(.slice A' kn c'), .int .i64 0]) ∧ Ml X (.slice A' kn c') kl), (fun (v : Value) (X : World) => ∃ A' c', v = (.slice A' kn c') ∧ Ml X (.slice A' kn c') kl), (fun (v : Value) (_ : World) => v = .int .i64 0)] [noF, noF, noF, noF, noF, noF, noF, noF] (by kernel_rfl) (by kernel_rfl) (by kernel_rfl) (by kernel_rfl) (by kernel_rfl) (by kernel_rfl) (by kernel_rfl) (by kernel_rfl) (fun _ _ _ _ h => h) ⟨Stays.pure _, (fun _ _ _ e ⟨A', n', c', h1, h2⟩ => ⟨A', n', c', h1, h2.ext e⟩), Stays.pure _, (fun _ _ _ e ⟨A', n', c', h1, h2⟩ => ⟨A', n', c', h1, h2.below e⟩), (fun _ _ _ e ⟨A', c', h1, h2⟩ => ⟨A', c', h1, h2.ext e⟩), (fun _ _ _ e ⟨A', c', h1, h2⟩ => ⟨A', c', h1, h2.ext e⟩), (fun _ _ _ e ⟨A', c', h1, h2⟩ => ⟨A', c', h1, h2.ext e⟩), Stays.pure _, True.intro⟩ ?steps ?done
    case steps =>
      simp only [List.take_succ_cons, List.take_zero]
      refine Steps.cons (fun (v : Value) (_ : World) => v = .slice A0 n0 c0) [] rfl (by kernel_rfl) rfl (by kernel_rfl) (fun y X ex0 hf K hK => ?_) ?_
      · clear hf
        have ex := (Ext.drw (Ext.refl _)).trans ex0
        refine Box.mk ?_
        simp only [fill, Act.put, Nat.reduceAdd, List.setIfInBounds_toArray, List.set_cons_zero, List.set_cons_succ] at hK ⊢
        go_simp
        exact hK.out _ _ rfl (Ext.refl _) (fun b hb => by cases hb)
      refine Steps.cons (fun (v : Value) (X : World) => ∃ A' n' c', v = .slice A' n' c' ∧ Ml X (.slice A' n' c') Gl) [0] rfl (by kernel_rfl) rfl (by kernel_rfl) (fun y X ex0 hf K hK => ?_) ?_
      · have h0 : ((fun (v : Value) (_ : World) => v = .slice A0 n0 c0)) (y 0) X := hf.1
        clear hf
        have ex := (Ext.drw (Ext.refl _)).trans ex0
        refine Box.mk ?_
        simp only [fill, Act.put, Nat.reduceAdd, List.setIfInBounds_toArray, List.set_cons_zero, List.set_cons_succ, h0] at hK ⊢
        go_simp
        refine (HMV.out _ (HG.out.ext (BB.out.trans (EC.out.trans ex)))).mono ?_
        rintro e V ⟨A', n', c', rfl, hil, hb⟩
        try go_wp2_with fail
        exact hK.out _ _ ⟨A', n', c', rfl, hil⟩ hb (fun b hb => by cases hb)
      refine Steps.cons (fun (v : Value) (_ : World) => v = .agg #[.int .i64 w, .int .i64 h, .slice A n c]) [] rfl (by kernel_rfl) rfl (by kernel_rfl) (fun y X ex0 hf K hK => ?_) ?_
      · clear hf
        have ex := (Ext.drw (Ext.refl _)).trans ex0
        refine Box.mk ?_
        simp only [fill, Act.put, Nat.reduceAdd, List.setIfInBounds_toArray, List.set_cons_zero, List.set_cons_succ] at hK ⊢
        obtain ⟨q0, q1, q2⟩ := Q3.ext HB.out (by omega) (EC.out.trans ex)
        go_simp
        exact hK.out _ _ rfl (Ext.refl _) (fun b hb => by cases hb)
      refine Steps.cons (fun (v : Value) (X : World) => ∃ A' n' c', v = .agg #[.int .i64 w, .int .i64 h, .slice A' n' c'] ∧ Il X (.slice A' n' c') L) [2, 1] rfl (by kernel_rfl) rfl (by kernel_rfl) (fun y X ex0 hf K hK => ?_) ?_
      · have h2 : ((fun (v : Value) (_ : World) => v = .agg #[.int .i64 w, .int .i64 h, .slice A n c])) (y 2) X := hf.1
        have hh1 : ((fun (v : Value) (X : World) => ∃ A' n' c', v = .slice A' n' c' ∧ Ml X (.slice A' n' c') Gl)) (y 1) X := hf.2.1
        refine Exists.elim hh1 (fun A1 hx1_0 => ?_)
        refine Exists.elim hx1_0 (fun n1 hx1_1 => ?_)
        refine Exists.elim hx1_1 (fun c1 hx1_2 => ?_)
        have h1 := hx1_2.1
        have il1 := hx1_2.2
        clear hh1 hx1_0 hx1_1 hx1_2
        clear hf
        have ex := (Ext.drw (Ext.refl _)).trans ex0
        refine Box.mk ?_
        simp only [fill, Act.put, Nat.reduceAdd, List.setIfInBounds_toArray, List.set_cons_zero, List.set_cons_succ, h2, h1] at hK ⊢
        go_simp
        refine (HST.out _ (HL.out.ext (BB.out.trans (EC.out.trans ex)))).mono ?_
        rintro e V ⟨A', n', c', rfl, hil, hfr, hb⟩
        try go_wp2_with fail
        exact hK.out _ _ ⟨A', n', c', rfl, hil⟩ hb (fun b hb => by cases hb)
      refine Steps.cons (fun (v : Value) (X : World) => ∃ A' c', v = (.tuple #[(.slice A' kn c'), .int .i64 0]) ∧ Ml X (.slice A' kn c') kl) [1, 3] rfl (by kernel_rfl) rfl (by kernel_rfl) (fun y X ex0 hf K hK => ?_) ?_
      · have hh1 : ((fun (v : Value) (X : World) => ∃ A' n' c', v = .slice A' n' c' ∧ Ml X (.slice A' n' c') Gl)) (y 1) X := hf.1
        refine Exists.elim hh1 (fun A1 hx1_0 => ?_)
        refine Exists.elim hx1_0 (fun n1 hx1_1 => ?_)
        refine Exists.elim hx1_1 (fun c1 hx1_2 => ?_)
        have h1 := hx1_2.1
        have il1 := hx1_2.2
        clear hh1 hx1_0 hx1_1 hx1_2
        have hh3 : ((fun (v : Value) (X : World) => ∃ A' n' c', v = .agg #[.int .i64 w, .int .i64 h, .slice A' n' c'] ∧ Il X (.slice A' n' c') L)) (y 3) X := hf.2.1
        refine Exists.elim hh3 (fun A3 hx3_0 => ?_)
        refine Exists.elim hx3_0 (fun n3 hx3_1 => ?_)
        refine Exists.elim hx3_1 (fun c3 hx3_2 => ?_)
        have h3 := hx3_2.1
        have il3 := hx3_2.2
        clear hh3 hx3_0 hx3_1 hx3_2
        clear hf
        have ex := (Ext.drw (Ext.refl _)).trans ex0
        refine Box.mk ?_
        simp only [fill, Act.put, Nat.reduceAdd, List.setIfInBounds_toArray, List.set_cons_zero, List.set_cons_succ, h1, h3] at hK ⊢
        go_simp
        refine (HK.out _ A3 n3 c3 A1 n1 c1 il3 il1).mono ?_
        rintro e V ⟨A', c', rfl, hos, hb⟩
        try go_wp2_with fail
        exact hK.out _ _ ⟨_, _, rfl, hos⟩ hb (fun b hb => by cases hb)
      refine Steps.cons (fun (v : Value) (X : World) => ∃ A' c', v = (.tuple #[(.slice A' kn c'), .int .i64 0]) ∧ Ml X (.slice A' kn c') kl) [4] rfl (by kernel_rfl) rfl (by kernel_rfl) (fun y X ex0 hf K hK => ?_) ?_
      · have hh4 : ((fun (v : Value) (X : World) => ∃ A' c', v = (.tuple #[(.slice A' kn c'), .int .i64 0]) ∧ Ml X (.slice A' kn c') kl)) (y 4) X := hf.1
        refine Exists.elim hh4 (fun A4 hx4_0 => ?_)
        refine Exists.elim hx4_0 (fun c4 hx4_1 => ?_)
        have h4 := hx4_1.1
        have os4 := hx4_1.2
        clear hh4 hx4_0 hx4_1
        clear hf
        have ex := (Ext.drw (Ext.refl _)).trans ex0
        refine Box.mk ?_
        simp only [fill, Act.put, Nat.reduceAdd, List.setIfInBounds_toArray, List.set_cons_zero, List.set_cons_succ, h4] at hK ⊢
        go_simp
        exact hK.out _ _ ⟨_, _, rfl, os4⟩ (Ext.refl _) (fun b hb => by cases hb)
      refine Steps.cons (fun (v : Value) (X : World) => ∃ A' c', v = (.slice A' kn c') ∧ Ml X (.slice A' kn c') kl) [5] rfl (by kernel_rfl) rfl (by kernel_rfl) (fun y X ex0 hf K hK => ?_) ?_
      · have hh5 : ((fun (v : Value) (X : World) => ∃ A' c', v = (.tuple #[(.slice A' kn c'), .int .i64 0]) ∧ Ml X (.slice A' kn c') kl)) (y 5) X := hf.1
        refine Exists.elim hh5 (fun A5 hx5_0 => ?_)
        refine Exists.elim hx5_0 (fun c5 hx5_1 => ?_)
        have h5 := hx5_1.1
        have os5 := hx5_1.2
        clear hh5 hx5_0 hx5_1
        clear hf
        have ex := (Ext.drw (Ext.refl _)).trans ex0
        refine Box.mk ?_
        simp only [fill, Act.put, Nat.reduceAdd, List.setIfInBounds_toArray, List.set_cons_zero, List.set_cons_succ, h5] at hK ⊢
        go_simp
        exact hK.out _ _ ⟨_, _, rfl, os5⟩ (Ext.refl _) (fun b hb => by cases hb)
      refine Steps.flw (fun (v : Value) (_ : World) => v = .int .i64 0) [5] rfl (by kernel_rfl) (by kernel_rfl) (fun _ => rfl) (fun y X ex0 hf => ?_) ?_
      · have hh5 : ((fun (v : Value) (X : World) => ∃ A' c', v = (.tuple #[(.slice A' kn c'), .int .i64 0]) ∧ Ml X (.slice A' kn c') kl)) (y 5) X := hf.1
        refine Exists.elim hh5 (fun A5 hx5_0 => ?_)
        refine Exists.elim hx5_0 (fun c5 hx5_1 => ?_)
        have h5 := hx5_1.1
        have os5 := hx5_1.2
        clear hh5 hx5_0 hx5_1
        clear hf
        simp only [fill, Act.put, Nat.reduceAdd, List.setIfInBounds_toArray, List.set_cons_zero, List.set_cons_succ, h5]
        exact ⟨_, ⟨by rfl, fun w => by go_simp⟩, rfl⟩
      exact Steps.nil
    case done =>
      intro y X ex hf hlt hsep
      have h0 : ((fun (v : Value) (_ : World) => v = .slice A0 n0 c0)) (y 0) X := hf.1
      have hh1 : ((fun (v : Value) (X : World) => ∃ A' n' c', v = .slice A' n' c' ∧ Ml X (.slice A' n' c') Gl)) (y 1) X := hf.2.1
      refine Exists.elim hh1 (fun A1 hx1_0 => ?_)
      refine Exists.elim hx1_0 (fun n1 hx1_1 => ?_)
      refine Exists.elim hx1_1 (fun c1 hx1_2 => ?_)
      have h1 := hx1_2.1
      have il1 := hx1_2.2
      clear hh1 hx1_0 hx1_1 hx1_2
      have h2 : ((fun (v : Value) (_ : World) => v = .agg #[.int .i64 w, .int .i64 h, .slice A n c])) (y 2) X := hf.2.2.1
      have hh3 : ((fun (v : Value) (X : World) => ∃ A' n' c', v = .agg #[.int .i64 w, .int .i64 h, .slice A' n' c'] ∧ Il X (.slice A' n' c') L)) (y 3) X := hf.2.2.2.1
      refine Exists.elim hh3 (fun A3 hx3_0 => ?_)
      refine Exists.elim hx3_0 (fun n3 hx3_1 => ?_)
      refine Exists.elim hx3_1 (fun c3 hx3_2 => ?_)
      have h3 := hx3_2.1
      have il3 := hx3_2.2
      clear hh3 hx3_0 hx3_1 hx3_2
      have hh4 : ((fun (v : Value) (X : World) => ∃ A' c', v = (.tuple #[(.slice A' kn c'), .int .i64 0]) ∧ Ml X (.slice A' kn c') kl)) (y 4) X := hf.2.2.2.2.1
      refine Exists.elim hh4 (fun A4 hx4_0 => ?_)
      refine Exists.elim hx4_0 (fun c4 hx4_1 => ?_)
      have h4 := hx4_1.1
      have os4 := hx4_1.2
      clear hh4 hx4_0 hx4_1
      have hh5 : ((fun (v : Value) (X : World) => ∃ A' c', v = (.tuple #[(.slice A' kn c'), .int .i64 0]) ∧ Ml X (.slice A' kn c') kl)) (y 5) X := hf.2.2.2.2.2.1
      refine Exists.elim hh5 (fun A5 hx5_0 => ?_)
      refine Exists.elim hx5_0 (fun c5 hx5_1 => ?_)
      have h5 := hx5_1.1
      have os5 := hx5_1.2
      clear hh5 hx5_0 hx5_1
      have hh6 : ((fun (v : Value) (X : World) => ∃ A' c', v = (.slice A' kn c') ∧ Ml X (.slice A' kn c') kl)) (y 6) X := hf.2.2.2.2.2.2.1
      refine Exists.elim hh6 (fun A6 hx6_0 => ?_)
      refine Exists.elim hx6_0 (fun c6 hx6_1 => ?_)
      have h6 := hx6_1.1
      have os6 := hx6_1.2
      clear hh6 hx6_0 hx6_1
      have h7 : ((fun (v : Value) (_ : World) => v = .int .i64 0)) (y 7) X := hf.2.2.2.2.2.2.2.1
      clear hf
      have OS6 := Lib.hid os6; clear os6 os4 os5
      clear hsep hlt
      refine Box.mk ?_
      simp only [List.drop_succ_cons, List.drop_zero, fill, Act.put, Nat.reduceAdd, List.setIfInBounds_toArray, List.set_cons_zero, List.set_cons_succ, h0, h1, h2, h3, h4, h5, h6, h7]
      clear h0 h1 h2 h3 h4 h5 h6 h7
      have EX := Lib.hid ex; clear ex
      go_wp2_with fail
      refine NoPanic.normal ?_
      go_wp2_with fail
      go_meet
      exact ⟨⟨A6, c6, rfl, OS6.out⟩, rfl, EX.out⟩
  case rest =>
    obtain ⟨⟨A5, c5, rfl, hmk⟩, rfl, ex⟩ := hcut
    have E5 := Lib.hid ex; have HMK := Lib.hid hmk; clear ex EC HK hmk
    go_upto_region 2 with fail
    go_cut [7, 8] from 22 to 29 (fun s7 s8 wx => OCut wc w h N L Gl s7 s8 wx)
    case first =>
      refine wp_region_noPanic ?_
      refine wp_pool 8 [some 23, some 24, some 25, some 26, some 27, some 22, some 28, some 29] [(7, 5)] [] [(fun (v : Value) (_ : World) => v = .slice A0 n0 c0), (fun (v : Value) (X : World) => ∃ A' n' c', v = .slice A' n' c' ∧ Ml X (.slice A' n' c') Gl), (fun (v : Value) (_ : World) => v = .agg #[.int .i64 w, .int .i64 h, .slice A n c]), (fun (v : Value) (X : World) => ∃ A' n' c', v = .agg #[.int .i64 w, .int .i64 h, .slice A' n' c'] ∧ Il X (.slice A' n' c') L), (fun (v : Value) (X : World) => ∃ gf cap ne es, v = (.tuple #[(.slice (some ⟨gf, 0, none⟩) ne cap), .int .i64 0]) ∧ OS X w h N L Gl gf cap ne es), (fun (v : Value) (X : World) => ∃ gf cap ne es, v = (.tuple #[(.slice (some ⟨gf, 0, none⟩) ne cap), .int .i64 0]) ∧ OS X w h N L Gl gf cap ne es), (fun (v : Value) (X : World) => ∃ gf cap ne es, v = (.slice (some ⟨gf, 0, none⟩) ne cap) ∧ OS X w h N L Gl gf cap ne es), (fun (v : Value) (_ : World) => v = .int .i64 0)] [noF, noF, noF, noF, noF, noF, noF, noF] (by kernel_rfl) (by kernel_rfl) (by kernel_rfl) (by kernel_rfl) (by kernel_rfl) (by kernel_rfl) (by kernel_rfl) (by kernel_rfl) (fun _ _ _ _ h => h) ⟨Stays.pure _, (fun _ _ _ e ⟨A', n', c', h1, h2⟩ => ⟨A', n', c', h1, h2.ext e⟩), Stays.pure _, (fun _ _ _ e ⟨A', n', c', h1, h2⟩ => ⟨A', n', c', h1, h2.below e⟩), (fun _ _ _ e ⟨gf, cap, ne, es, h1, h2⟩ => ⟨gf, cap, ne, es, h1, h2.ext e⟩), (fun _ _ _ e ⟨gf, cap, ne, es, h1, h2⟩ => ⟨gf, cap, ne, es, h1, h2.ext e⟩), (fun _ _ _ e ⟨gf, cap, ne, es, h1, h2⟩ => ⟨gf, cap, ne, es, h1, h2.ext e⟩), Stays.pure _, True.intro⟩ ?steps ?done
      case steps =>
        simp only [List.take_succ_cons, List.take_zero]
        refine Steps.cons (fun (v : Value) (_ : World) => v = .slice A0 n0 c0) [] rfl (by kernel_rfl) rfl (by kernel_rfl) (fun y X ex0 hf K hK => ?_) ?_
        · clear hf
          have ex := (Ext.drw (Ext.refl _)).trans ex0
          refine Box.mk ?_
          simp only [fill, Act.put, Nat.reduceAdd, List.setIfInBounds_toArray, List.set_cons_zero, List.set_cons_succ] at hK ⊢
          go_simp
          exact hK.out _ _ rfl (Ext.refl _) (fun b hb => by cases hb)
        refine Steps.cons (fun (v : Value) (X : World) => ∃ A' n' c', v = .slice A' n' c' ∧ Ml X (.slice A' n' c') Gl) [0] rfl (by kernel_rfl) rfl (by kernel_rfl) (fun y X ex0 hf K hK => ?_) ?_
        · have h0 : ((fun (v : Value) (_ : World) => v = .slice A0 n0 c0)) (y 0) X := hf.1
          clear hf
          have ex := (Ext.drw (Ext.refl _)).trans ex0
          refine Box.mk ?_
          simp only [fill, Act.put, Nat.reduceAdd, List.setIfInBounds_toArray, List.set_cons_zero, List.set_cons_succ, h0] at hK ⊢
          go_simp
          refine (HMV.out _ (HG.out.ext (BB.out.trans (E5.out.trans ex)))).mono ?_
          rintro e V ⟨A', n', c', rfl, hil, hb⟩
          try go_wp2_with fail
          exact hK.out _ _ ⟨A', n', c', rfl, hil⟩ hb (fun b hb => by cases hb)
        refine Steps.cons (fun (v : Value) (_ : World) => v = .agg #[.int .i64 w, .int .i64 h, .slice A n c]) [] rfl (by kernel_rfl) rfl (by kernel_rfl) (fun y X ex0 hf K hK => ?_) ?_
        · clear hf
          have ex := (Ext.drw (Ext.refl _)).trans ex0
          refine Box.mk ?_
          simp only [fill, Act.put, Nat.reduceAdd, List.setIfInBounds_toArray, List.set_cons_zero, List.set_cons_succ] at hK ⊢
          obtain ⟨q0, q1, q2⟩ := Q3.ext HB.out (by omega) (E5.out.trans ex)
          go_simp
          exact hK.out _ _ rfl (Ext.refl _) (fun b hb => by cases hb)
        refine Steps.cons (fun (v : Value) (X : World) => ∃ A' n' c', v = .agg #[.int .i64 w, .int .i64 h, .slice A' n' c'] ∧ Il X (.slice A' n' c') L) [2, 1] rfl (by kernel_rfl) rfl (by kernel_rfl) (fun y X ex0 hf K hK => ?_) ?_
        · have h2 : ((fun (v : Value) (_ : World) => v = .agg #[.int .i64 w, .int .i64 h, .slice A n c])) (y 2) X := hf.1
          have hh1 : ((fun (v : Value) (X : World) => ∃ A' n' c', v = .slice A' n' c' ∧ Ml X (.slice A' n' c') Gl)) (y 1) X := hf.2.1
          refine Exists.elim hh1 (fun A1 hx1_0 => ?_)
          refine Exists.elim hx1_0 (fun n1 hx1_1 => ?_)
          refine Exists.elim hx1_1 (fun c1 hx1_2 => ?_)
          have h1 := hx1_2.1
          have il1 := hx1_2.2
          clear hh1 hx1_0 hx1_1 hx1_2
          clear hf
          have ex := (Ext.drw (Ext.refl _)).trans ex0
          refine Box.mk ?_
          simp only [fill, Act.put, Nat.reduceAdd, List.setIfInBounds_toArray, List.set_cons_zero, List.set_cons_succ, h2, h1] at hK ⊢
          go_simp
          refine (HST.out _ (HL.out.ext (BB.out.trans (E5.out.trans ex)))).mono ?_
          rintro e V ⟨A', n', c', rfl, hil, hfr, hb⟩
          try go_wp2_with fail
          exact hK.out _ _ ⟨A', n', c', rfl, hil⟩ hb (fun b hb => by cases hb)
        refine Steps.cons (fun (v : Value) (X : World) => ∃ gf cap ne es, v = (.tuple #[(.slice (some ⟨gf, 0, none⟩) ne cap), .int .i64 0]) ∧ OS X w h N L Gl gf cap ne es) [1, 3] rfl (by kernel_rfl) rfl (by kernel_rfl) (fun y X ex0 hf K hK => ?_) ?_
        · have hh1 : ((fun (v : Value) (X : World) => ∃ A' n' c', v = .slice A' n' c' ∧ Ml X (.slice A' n' c') Gl)) (y 1) X := hf.1
          refine Exists.elim hh1 (fun A1 hx1_0 => ?_)
          refine Exists.elim hx1_0 (fun n1 hx1_1 => ?_)
          refine Exists.elim hx1_1 (fun c1 hx1_2 => ?_)
          have h1 := hx1_2.1
          have il1 := hx1_2.2
          clear hh1 hx1_0 hx1_1 hx1_2
          have hh3 : ((fun (v : Value) (X : World) => ∃ A' n' c', v = .agg #[.int .i64 w, .int .i64 h, .slice A' n' c'] ∧ Il X (.slice A' n' c') L)) (y 3) X := hf.2.1
          refine Exists.elim hh3 (fun A3 hx3_0 => ?_)
          refine Exists.elim hx3_0 (fun n3 hx3_1 => ?_)
          refine Exists.elim hx3_1 (fun c3 hx3_2 => ?_)
          have h3 := hx3_2.1
          have il3 := hx3_2.2
          clear hh3 hx3_0 hx3_1 hx3_2
          clear hf
          have ex := (Ext.drw (Ext.refl _)).trans ex0
          refine Box.mk ?_
          simp only [fill, Act.put, Nat.reduceAdd, List.setIfInBounds_toArray, List.set_cons_zero, List.set_cons_succ, h1, h3] at hK ⊢
          go_simp
          refine (HO.out _ A3 n3 c3 A1 n1 c1 il3 il1).mono ?_
          rintro e V ⟨gf9, cap9, ne9, es9, rfl, hos, hb⟩
          try go_wp2_with fail
          exact hK.out _ _ ⟨_, _, _, _, rfl, hos⟩ hb (fun b hb => by cases hb)
        refine Steps.cons (fun (v : Value) (X : World) => ∃ gf cap ne es, v = (.tuple #[(.slice (some ⟨gf, 0, none⟩) ne cap), .int .i64 0]) ∧ OS X w h N L Gl gf cap ne es) [4] rfl (by kernel_rfl) rfl (by kernel_rfl) (fun y X ex0 hf K hK => ?_) ?_
        · have hh4 : ((fun (v : Value) (X : World) => ∃ gf cap ne es, v = (.tuple #[(.slice (some ⟨gf, 0, none⟩) ne cap), .int .i64 0]) ∧ OS X w h N L Gl gf cap ne es)) (y 4) X := hf.1
          refine Exists.elim hh4 (fun gf4 hx4_0 => ?_)
          refine Exists.elim hx4_0 (fun cap4 hx4_1 => ?_)
          refine Exists.elim hx4_1 (fun ne4 hx4_2 => ?_)
          refine Exists.elim hx4_2 (fun es4 hx4_3 => ?_)
          have h4 := hx4_3.1
          have os4 := hx4_3.2
          clear hh4 hx4_0 hx4_1 hx4_2 hx4_3
          clear hf
          have ex := (Ext.drw (Ext.refl _)).trans ex0
          refine Box.mk ?_
          simp only [fill, Act.put, Nat.reduceAdd, List.setIfInBounds_toArray, List.set_cons_zero, List.set_cons_succ, h4] at hK ⊢
          go_simp
          exact hK.out _ _ ⟨_, _, _, _, rfl, os4⟩ (Ext.refl _) (fun b hb => by cases hb)
        refine Steps.cons (fun (v : Value) (X : World) => ∃ gf cap ne es, v = (.slice (some ⟨gf, 0, none⟩) ne cap) ∧ OS X w h N L Gl gf cap ne es) [5] rfl (by kernel_rfl) rfl (by kernel_rfl) (fun y X ex0 hf K hK => ?_) ?_
        · have hh5 : ((fun (v : Value) (X : World) => ∃ gf cap ne es, v = (.tuple #[(.slice (some ⟨gf, 0, none⟩) ne cap), .int .i64 0]) ∧ OS X w h N L Gl gf cap ne es)) (y 5) X := hf.1
          refine Exists.elim hh5 (fun gf5 hx5_0 => ?_)
          refine Exists.elim hx5_0 (fun cap5 hx5_1 => ?_)
          refine Exists.elim hx5_1 (fun ne5 hx5_2 => ?_)
          refine Exists.elim hx5_2 (fun es5 hx5_3 => ?_)
          have h5 := hx5_3.1
          have os5 := hx5_3.2
          clear hh5 hx5_0 hx5_1 hx5_2 hx5_3
          clear hf
          have ex := (Ext.drw (Ext.refl _)).trans ex0
          refine Box.mk ?_
          simp only [fill, Act.put, Nat.reduceAdd, List.setIfInBounds_toArray, List.set_cons_zero, List.set_cons_succ, h5] at hK ⊢
          go_simp
          exact hK.out _ _ ⟨_, _, _, _, rfl, os5⟩ (Ext.refl _) (fun b hb => by cases hb)
        refine Steps.flw (fun (v : Value) (_ : World) => v = .int .i64 0) [5] rfl (by kernel_rfl) (by kernel_rfl) (fun _ => rfl) (fun y X ex0 hf => ?_) ?_
        · have hh5 : ((fun (v : Value) (X : World) => ∃ gf cap ne es, v = (.tuple #[(.slice (some ⟨gf, 0, none⟩) ne cap), .int .i64 0]) ∧ OS X w h N L Gl gf cap ne es)) (y 5) X := hf.1
          refine Exists.elim hh5 (fun gf5 hx5_0 => ?_)
          refine Exists.elim hx5_0 (fun cap5 hx5_1 => ?_)
          refine Exists.elim hx5_1 (fun ne5 hx5_2 => ?_)
          refine Exists.elim hx5_2 (fun es5 hx5_3 => ?_)
          have h5 := hx5_3.1
          have os5 := hx5_3.2
          clear hh5 hx5_0 hx5_1 hx5_2 hx5_3
          clear hf
          simp only [fill, Act.put, Nat.reduceAdd, List.setIfInBounds_toArray, List.set_cons_zero, List.set_cons_succ, h5]
          exact ⟨_, ⟨by rfl, fun w => by go_simp⟩, rfl⟩
        exact Steps.nil
      case done =>
        intro y X ex hf hlt hsep
        have h0 : ((fun (v : Value) (_ : World) => v = .slice A0 n0 c0)) (y 0) X := hf.1
        have hh1 : ((fun (v : Value) (X : World) => ∃ A' n' c', v = .slice A' n' c' ∧ Ml X (.slice A' n' c') Gl)) (y 1) X := hf.2.1
        refine Exists.elim hh1 (fun A1 hx1_0 => ?_)
        refine Exists.elim hx1_0 (fun n1 hx1_1 => ?_)
        refine Exists.elim hx1_1 (fun c1 hx1_2 => ?_)
        have h1 := hx1_2.1
        have il1 := hx1_2.2
        clear hh1 hx1_0 hx1_1 hx1_2
        have h2 : ((fun (v : Value) (_ : World) => v = .agg #[.int .i64 w, .int .i64 h, .slice A n c])) (y 2) X := hf.2.2.1
        have hh3 : ((fun (v : Value) (X : World) => ∃ A' n' c', v = .agg #[.int .i64 w, .int .i64 h, .slice A' n' c'] ∧ Il X (.slice A' n' c') L)) (y 3) X := hf.2.2.2.1
        refine Exists.elim hh3 (fun A3 hx3_0 => ?_)
        refine Exists.elim hx3_0 (fun n3 hx3_1 => ?_)
        refine Exists.elim hx3_1 (fun c3 hx3_2 => ?_)
        have h3 := hx3_2.1
        have il3 := hx3_2.2
        clear hh3 hx3_0 hx3_1 hx3_2
        have hh4 : ((fun (v : Value) (X : World) => ∃ gf cap ne es, v = (.tuple #[(.slice (some ⟨gf, 0, none⟩) ne cap), .int .i64 0]) ∧ OS X w h N L Gl gf cap ne es)) (y 4) X := hf.2.2.2.2.1
        refine Exists.elim hh4 (fun gf4 hx4_0 => ?_)
        refine Exists.elim hx4_0 (fun cap4 hx4_1 => ?_)
        refine Exists.elim hx4_1 (fun ne4 hx4_2 => ?_)
        refine Exists.elim hx4_2 (fun es4 hx4_3 => ?_)
        have h4 := hx4_3.1
        have os4 := hx4_3.2
        clear hh4 hx4_0 hx4_1 hx4_2 hx4_3
        have hh5 : ((fun (v : Value) (X : World) => ∃ gf cap ne es, v = (.tuple #[(.slice (some ⟨gf, 0, none⟩) ne cap), .int .i64 0]) ∧ OS X w h N L Gl gf cap ne es)) (y 5) X := hf.2.2.2.2.2.1
        refine Exists.elim hh5 (fun gf5 hx5_0 => ?_)
        refine Exists.elim hx5_0 (fun cap5 hx5_1 => ?_)
        refine Exists.elim hx5_1 (fun ne5 hx5_2 => ?_)
        refine Exists.elim hx5_2 (fun es5 hx5_3 => ?_)
        have h5 := hx5_3.1
        have os5 := hx5_3.2
        clear hh5 hx5_0 hx5_1 hx5_2 hx5_3
        have hh6 : ((fun (v : Value) (X : World) => ∃ gf cap ne es, v = (.slice (some ⟨gf, 0, none⟩) ne cap) ∧ OS X w h N L Gl gf cap ne es)) (y 6) X := hf.2.2.2.2.2.2.1
        refine Exists.elim hh6 (fun gf6 hx6_0 => ?_)
        refine Exists.elim hx6_0 (fun cap6 hx6_1 => ?_)
        refine Exists.elim hx6_1 (fun ne6 hx6_2 => ?_)
        refine Exists.elim hx6_2 (fun es6 hx6_3 => ?_)
        have h6 := hx6_3.1
        have os6 := hx6_3.2
        clear hh6 hx6_0 hx6_1 hx6_2 hx6_3
        have h7 : ((fun (v : Value) (_ : World) => v = .int .i64 0)) (y 7) X := hf.2.2.2.2.2.2.2.1
        clear hf
        have OS6 := Lib.hid os6; clear os6 os4 os5
        clear hsep hlt
        refine Box.mk ?_
        simp only [List.drop_succ_cons, List.drop_zero, fill, Act.put, Nat.reduceAdd, List.setIfInBounds_toArray, List.set_cons_zero, List.set_cons_succ, h0, h1, h2, h3, h4, h5, h6, h7]
        clear h0 h1 h2 h3 h4 h5 h6 h7
        have EX := Lib.hid ex; clear ex
        go_wp2_with fail
        refine NoPanic.normal ?_
        go_wp2_with fail
        go_meet
        exact ⟨gf6, cap6, ne6, es6, rfl, rfl, OS6.out, EX.out⟩
    case rest =>
      obtain ⟨gf, cap, ne, es, rfl, rfl, hos, ex⟩ := hcut
      have E7 := Lib.hid (E5.out.trans ex); have HOS := Lib.hid hos; have HMK7 := Lib.hid (HMK.out.ext ex); clear ex E5 HO hos HMK
      go_upto_region 3 with fail
      go_cut [9, 10] from 30 to 37 (fun s9 s10 wx => LCut wc w h N L Gl s9 s10 wx)
      case first =>
        refine wp_region_noPanic ?_
        refine wp_pool 9 [some 31, some 32, some 33, some 34, some 35, some 30, some 36, some 37, some 9] [(7, 5)] [8] [(fun (v : Value) (_ : World) => v = .slice A0 n0 c0), (fun (v : Value) (X : World) => ∃ A' n' c', v = .slice A' n' c' ∧ Ml X (.slice A' n' c') Gl), (fun (v : Value) (_ : World) => v = .agg #[.int .i64 w, .int .i64 h, .slice A n c]), (fun (v : Value) (X : World) => ∃ A' n' c', v = .agg #[.int .i64 w, .int .i64 h, .slice A' n' c'] ∧ Il X (.slice A' n' c') L), (fun (v : Value) (X : World) => ∃ b K, v = (.tuple #[(.agg #[.int .i64 w, .int .i64 h, .slice (some ⟨b, 0, none⟩) N N]), .int .i64 0]) ∧ LS X w h N L Gl b K), (fun (v : Value) (X : World) => ∃ b K, v = (.tuple #[(.agg #[.int .i64 w, .int .i64 h, .slice (some ⟨b, 0, none⟩) N N]), .int .i64 0]) ∧ LS X w h N L Gl b K), (fun (v : Value) (X : World) => ∃ b K, v = (.agg #[.int .i64 w, .int .i64 h, .slice (some ⟨b, 0, none⟩) N N]) ∧ LS X w h N L Gl b K), (fun (v : Value) (_ : World) => v = .int .i64 0), (fun (v : Value) (X : World) => ∃ g, v = .pointer (some ⟨g, 0, none⟩) ∧ wc.heap.size ≤ g ∧ T27 X g)] [noF, noF, noF, noF, noF, noF, noF, noF, ptrF] (by kernel_rfl) (by kernel_rfl) (by kernel_rfl) (by kernel_rfl) (by kernel_rfl) (by kernel_rfl) (by kernel_rfl) (by kernel_rfl) (fun _ _ _ _ h => h) ⟨Stays.pure _, (fun _ _ _ e ⟨A', n', c', h1, h2⟩ => ⟨A', n', c', h1, h2.ext e⟩), Stays.pure _, (fun _ _ _ e ⟨A', n', c', h1, h2⟩ => ⟨A', n', c', h1, h2.below e⟩), (fun _ _ _ e ⟨b, K, h1, h2⟩ => ⟨b, K, h1, h2.ext e⟩), (fun _ _ _ e ⟨b, K, h1, h2⟩ => ⟨b, K, h1, h2.ext e⟩), (fun _ _ _ e ⟨b, K, h1, h2⟩ => ⟨b, K, h1, h2.ext e⟩), Stays.pure _, (fun _ _ _ e ⟨g, h1, h2, h3⟩ => ⟨g, h1, h2, h3.ext e⟩), True.intro⟩ ?steps ?done
        case steps =>
          simp only [List.take_succ_cons, List.take_zero]
          refine Steps.cons (fun (v : Value) (_ : World) => v = .slice A0 n0 c0) [] rfl (by kernel_rfl) rfl (by kernel_rfl) (fun y X ex0 hf K hK => ?_) ?_
          · clear hf
            have ex := (Ext.drw (Ext.refl _)).trans ex0
            refine Box.mk ?_
            simp only [fill, Act.put, Nat.reduceAdd, List.setIfInBounds_toArray, List.set_cons_zero, List.set_cons_succ] at hK ⊢
            go_simp
            exact hK.out _ _ rfl (Ext.refl _) (fun b hb => by cases hb)
          refine Steps.cons (fun (v : Value) (X : World) => ∃ A' n' c', v = .slice A' n' c' ∧ Ml X (.slice A' n' c') Gl) [0] rfl (by kernel_rfl) rfl (by kernel_rfl) (fun y X ex0 hf K hK => ?_) ?_
          · have h0 : ((fun (v : Value) (_ : World) => v = .slice A0 n0 c0)) (y 0) X := hf.1
            clear hf
            have ex := (Ext.drw (Ext.refl _)).trans ex0
            refine Box.mk ?_
            simp only [fill, Act.put, Nat.reduceAdd, List.setIfInBounds_toArray, List.set_cons_zero, List.set_cons_succ, h0] at hK ⊢
            go_simp
            refine (HMV.out _ (HG.out.ext (BB.out.trans (E7.out.trans ex)))).mono ?_
            rintro e V ⟨A', n', c', rfl, hil, hb⟩
            try go_wp2_with fail
            exact hK.out _ _ ⟨A', n', c', rfl, hil⟩ hb (fun b hb => by cases hb)
          refine Steps.cons (fun (v : Value) (_ : World) => v = .agg #[.int .i64 w, .int .i64 h, .slice A n c]) [] rfl (by kernel_rfl) rfl (by kernel_rfl) (fun y X ex0 hf K hK => ?_) ?_
          · clear hf
            have ex := (Ext.drw (Ext.refl _)).trans ex0
            refine Box.mk ?_
            simp only [fill, Act.put, Nat.reduceAdd, List.setIfInBounds_toArray, List.set_cons_zero, List.set_cons_succ] at hK ⊢
            obtain ⟨q0, q1, q2⟩ := Q3.ext HB.out (by omega) (E7.out.trans ex)
            go_simp
            exact hK.out _ _ rfl (Ext.refl _) (fun b hb => by cases hb)
          refine Steps.cons (fun (v : Value) (X : World) => ∃ A' n' c', v = .agg #[.int .i64 w, .int .i64 h, .slice A' n' c'] ∧ Il X (.slice A' n' c') L) [2, 1] rfl (by kernel_rfl) rfl (by kernel_rfl) (fun y X ex0 hf K hK => ?_) ?_
          · have h2 : ((fun (v : Value) (_ : World) => v = .agg #[.int .i64 w, .int .i64 h, .slice A n c])) (y 2) X := hf.1
            have hh1 : ((fun (v : Value) (X : World) => ∃ A' n' c', v = .slice A' n' c' ∧ Ml X (.slice A' n' c') Gl)) (y 1) X := hf.2.1
            refine Exists.elim hh1 (fun A1 hx1_0 => ?_)
            refine Exists.elim hx1_0 (fun n1 hx1_1 => ?_)
            refine Exists.elim hx1_1 (fun c1 hx1_2 => ?_)
            have h1 := hx1_2.1
            have il1 := hx1_2.2
            clear hh1 hx1_0 hx1_1 hx1_2
            clear hf
            have ex := (Ext.drw (Ext.refl _)).trans ex0
            refine Box.mk ?_
            simp only [fill, Act.put, Nat.reduceAdd, List.setIfInBounds_toArray, List.set_cons_zero, List.set_cons_succ, h2, h1] at hK ⊢
            go_simp
            refine (HST.out _ (HL.out.ext (BB.out.trans (E7.out.trans ex)))).mono ?_
            rintro e V ⟨A', n', c', rfl, hil, hfr, hb⟩
            try go_wp2_with fail
            exact hK.out _ _ ⟨A', n', c', rfl, hil⟩ hb (fun b hb => by cases hb)
          refine Steps.cons (fun (v : Value) (X : World) => ∃ b K, v = (.tuple #[(.agg #[.int .i64 w, .int .i64 h, .slice (some ⟨b, 0, none⟩) N N]), .int .i64 0]) ∧ LS X w h N L Gl b K) [1, 3] rfl (by kernel_rfl) rfl (by kernel_rfl) (fun y X ex0 hf K hK => ?_) ?_
          · have hh1 : ((fun (v : Value) (X : World) => ∃ A' n' c', v = .slice A' n' c' ∧ Ml X (.slice A' n' c') Gl)) (y 1) X := hf.1
            refine Exists.elim hh1 (fun A1 hx1_0 => ?_)
            refine Exists.elim hx1_0 (fun n1 hx1_1 => ?_)
            refine Exists.elim hx1_1 (fun c1 hx1_2 => ?_)
            have h1 := hx1_2.1
            have il1 := hx1_2.2
            clear hh1 hx1_0 hx1_1 hx1_2
            have hh3 : ((fun (v : Value) (X : World) => ∃ A' n' c', v = .agg #[.int .i64 w, .int .i64 h, .slice A' n' c'] ∧ Il X (.slice A' n' c') L)) (y 3) X := hf.2.1
            refine Exists.elim hh3 (fun A3 hx3_0 => ?_)
            refine Exists.elim hx3_0 (fun n3 hx3_1 => ?_)
            refine Exists.elim hx3_1 (fun c3 hx3_2 => ?_)
            have h3 := hx3_2.1
            have il3 := hx3_2.2
            clear hh3 hx3_0 hx3_1 hx3_2
            clear hf
            have ex := (Ext.drw (Ext.refl _)).trans ex0
            refine Box.mk ?_
            simp only [fill, Act.put, Nat.reduceAdd, List.setIfInBounds_toArray, List.set_cons_zero, List.set_cons_succ, h1, h3] at hK ⊢
            go_simp
            refine (HLE.out _ A3 n3 c3 A1 n1 c1 il3 il1).mono ?_
            rintro e V ⟨b9, K9, rfl, hos, hb⟩
            try go_wp2_with fail
            exact hK.out _ _ ⟨_, _, rfl, hos⟩ hb (fun b hb => by cases hb)
          refine Steps.cons (fun (v : Value) (X : World) => ∃ b K, v = (.tuple #[(.agg #[.int .i64 w, .int .i64 h, .slice (some ⟨b, 0, none⟩) N N]), .int .i64 0]) ∧ LS X w h N L Gl b K) [4] rfl (by kernel_rfl) rfl (by kernel_rfl) (fun y X ex0 hf K hK => ?_) ?_
          · have hh4 : ((fun (v : Value) (X : World) => ∃ b K, v = (.tuple #[(.agg #[.int .i64 w, .int .i64 h, .slice (some ⟨b, 0, none⟩) N N]), .int .i64 0]) ∧ LS X w h N L Gl b K)) (y 4) X := hf.1
            refine Exists.elim hh4 (fun b4 hx4_0 => ?_)
            refine Exists.elim hx4_0 (fun K4 hx4_1 => ?_)
            have h4 := hx4_1.1
            have os4 := hx4_1.2
            clear hh4 hx4_0 hx4_1
            clear hf
            have ex := (Ext.drw (Ext.refl _)).trans ex0
            refine Box.mk ?_
            simp only [fill, Act.put, Nat.reduceAdd, List.setIfInBounds_toArray, List.set_cons_zero, List.set_cons_succ, h4] at hK ⊢
            go_simp
            exact hK.out _ _ ⟨_, _, rfl, os4⟩ (Ext.refl _) (fun b hb => by cases hb)
          refine Steps.cons (fun (v : Value) (X : World) => ∃ b K, v = (.agg #[.int .i64 w, .int .i64 h, .slice (some ⟨b, 0, none⟩) N N]) ∧ LS X w h N L Gl b K) [5] rfl (by kernel_rfl) rfl (by kernel_rfl) (fun y X ex0 hf K hK => ?_) ?_
          · have hh5 : ((fun (v : Value) (X : World) => ∃ b K, v = (.tuple #[(.agg #[.int .i64 w, .int .i64 h, .slice (some ⟨b, 0, none⟩) N N]), .int .i64 0]) ∧ LS X w h N L Gl b K)) (y 5) X := hf.1
            refine Exists.elim hh5 (fun b5 hx5_0 => ?_)
            refine Exists.elim hx5_0 (fun K5 hx5_1 => ?_)
            have h5 := hx5_1.1
            have os5 := hx5_1.2
            clear hh5 hx5_0 hx5_1
            clear hf
            have ex := (Ext.drw (Ext.refl _)).trans ex0
            refine Box.mk ?_
            simp only [fill, Act.put, Nat.reduceAdd, List.setIfInBounds_toArray, List.set_cons_zero, List.set_cons_succ, h5] at hK ⊢
            go_simp
            exact hK.out _ _ ⟨_, _, rfl, os5⟩ (Ext.refl _) (fun b hb => by cases hb)
          refine Steps.flw (fun (v : Value) (_ : World) => v = .int .i64 0) [5] rfl (by kernel_rfl) (by kernel_rfl) (fun _ => rfl) (fun y X ex0 hf => ?_) ?_
          · have hh5 : ((fun (v : Value) (X : World) => ∃ b K, v = (.tuple #[(.agg #[.int .i64 w, .int .i64 h, .slice (some ⟨b, 0, none⟩) N N]), .int .i64 0]) ∧ LS X w h N L Gl b K)) (y 5) X := hf.1
            refine Exists.elim hh5 (fun b5 hx5_0 => ?_)
            refine Exists.elim hx5_0 (fun K5 hx5_1 => ?_)
            have h5 := hx5_1.1
            have os5 := hx5_1.2
            clear hh5 hx5_0 hx5_1
            clear hf
            simp only [fill, Act.put, Nat.reduceAdd, List.setIfInBounds_toArray, List.set_cons_zero, List.set_cons_succ, h5]
            exact ⟨_, ⟨by rfl, fun w => by go_simp⟩, rfl⟩
          refine Steps.cons (fun (v : Value) (X : World) => ∃ g, v = .pointer (some ⟨g, 0, none⟩) ∧ wc.heap.size ≤ g ∧ T27 X g) [] rfl (by kernel_rfl) rfl (by kernel_rfl) (fun y X ex0 hf K hK => ?_) ?_
          · clear hf
            have ex := (Ext.drw (Ext.refl _)).trans ex0
            refine Box.mk ?_
            simp only [fill, Act.put, Nat.reduceAdd, List.setIfInBounds_toArray, List.set_cons_zero, List.set_cons_succ] at hK ⊢
            go_simp
            exact hK.out _ _ ⟨X.heap.size, rfl, ex.size, ⟨_, _, _, heap_alloc_new X (.cells #[.int .i64 0, .int .i64 0, .slice none 0 0] 27)⟩⟩ (Ext.alc (Ext.refl X) (.cells #[.int .i64 0, .int .i64 0, .slice none 0 0] 27)) (New.ptr (Nat.le_refl _) (by simp))
          exact Steps.nil
        case done =>
          intro y X ex hf hlt hsep
          have h0 : ((fun (v : Value) (_ : World) => v = .slice A0 n0 c0)) (y 0) X := hf.1
          have hh1 : ((fun (v : Value) (X : World) => ∃ A' n' c', v = .slice A' n' c' ∧ Ml X (.slice A' n' c') Gl)) (y 1) X := hf.2.1
          refine Exists.elim hh1 (fun A1 hx1_0 => ?_)
          refine Exists.elim hx1_0 (fun n1 hx1_1 => ?_)
          refine Exists.elim hx1_1 (fun c1 hx1_2 => ?_)
          have h1 := hx1_2.1
          have il1 := hx1_2.2
          clear hh1 hx1_0 hx1_1 hx1_2
          have h2 : ((fun (v : Value) (_ : World) => v = .agg #[.int .i64 w, .int .i64 h, .slice A n c])) (y 2) X := hf.2.2.1
          have hh3 : ((fun (v : Value) (X : World) => ∃ A' n' c', v = .agg #[.int .i64 w, .int .i64 h, .slice A' n' c'] ∧ Il X (.slice A' n' c') L)) (y 3) X := hf.2.2.2.1
          refine Exists.elim hh3 (fun A3 hx3_0 => ?_)
          refine Exists.elim hx3_0 (fun n3 hx3_1 => ?_)
          refine Exists.elim hx3_1 (fun c3 hx3_2 => ?_)
          have h3 := hx3_2.1
          have il3 := hx3_2.2
          clear hh3 hx3_0 hx3_1 hx3_2
          have hh4 : ((fun (v : Value) (X : World) => ∃ b K, v = (.tuple #[(.agg #[.int .i64 w, .int .i64 h, .slice (some ⟨b, 0, none⟩) N N]), .int .i64 0]) ∧ LS X w h N L Gl b K)) (y 4) X := hf.2.2.2.2.1
          refine Exists.elim hh4 (fun b4 hx4_0 => ?_)
          refine Exists.elim hx4_0 (fun K4 hx4_1 => ?_)
          have h4 := hx4_1.1
          have os4 := hx4_1.2
          clear hh4 hx4_0 hx4_1
          have hh5 : ((fun (v : Value) (X : World) => ∃ b K, v = (.tuple #[(.agg #[.int .i64 w, .int .i64 h, .slice (some ⟨b, 0, none⟩) N N]), .int .i64 0]) ∧ LS X w h N L Gl b K)) (y 5) X := hf.2.2.2.2.2.1
          refine Exists.elim hh5 (fun b5 hx5_0 => ?_)
          refine Exists.elim hx5_0 (fun K5 hx5_1 => ?_)
          have h5 := hx5_1.1
          have os5 := hx5_1.2
          clear hh5 hx5_0 hx5_1
          have hh6 : ((fun (v : Value) (X : World) => ∃ b K, v = (.agg #[.int .i64 w, .int .i64 h, .slice (some ⟨b, 0, none⟩) N N]) ∧ LS X w h N L Gl b K)) (y 6) X := hf.2.2.2.2.2.2.1
          refine Exists.elim hh6 (fun b6 hx6_0 => ?_)
          refine Exists.elim hx6_0 (fun K6 hx6_1 => ?_)
          have h6 := hx6_1.1
          have os6 := hx6_1.2
          clear hh6 hx6_0 hx6_1
          have h7 : ((fun (v : Value) (_ : World) => v = .int .i64 0)) (y 7) X := hf.2.2.2.2.2.2.2.1
          have hh8 : ((fun (v : Value) (X : World) => ∃ g, v = .pointer (some ⟨g, 0, none⟩) ∧ wc.heap.size ≤ g ∧ T27 X g)) (y 8) X := hf.2.2.2.2.2.2.2.2.1
          refine Exists.elim hh8 (fun g8 hx8_0 => ?_)
          have h8 := hx8_0.1
          have z8 := hx8_0.2.1
          have q8 := hx8_0.2.2
          clear hh8 hx8_0
          clear hf
          clear hsep hlt
          refine Box.mk ?_
          simp only [List.drop_succ_cons, List.drop_zero, fill, Act.put, Nat.reduceAdd, List.setIfInBounds_toArray, List.set_cons_zero, List.set_cons_succ, h0, h1, h2, h3, h4, h5, h6, h7, h8]
          clear h0 h1 h2 h3 h4 h5 h6 h7 h8
          clear os4 os5
          obtain ⟨⟨_, _, _, k0, k1, k2⟩, k4⟩ := q8.tb.facts
          have hne := q8.ne os6.2.2.1
          have QT := Lib.hid q8; have LL := Lib.hid os6; have hlt := q8.lt; clear q8 os6
          have EX := Lib.hid ex; clear ex
          go_wp2_with fail
          refine NoPanic.normal ?_
          go_wp2_with fail
          go_meet
          exact ⟨g8, b6, K6, rfl, rfl, T27.put QT.out _ _ _, by simp [World.setCell]; omega, ⟨LL.out.1, LL.out.2.1, ((LL.out.2.2.1.far hne).far hne).far hne, LL.out.2.2.2⟩, z8, ((EX.out.sc z8).sc z8).sc z8⟩
      case rest =>
        obtain ⟨g9, b9, K9, rfl, rfl, hq9, hlt9, hls9, hg9, ex⟩ := hcut
        have OSX := HOS.out.ext ex
        have E9 := Lib.hid (E7.out.trans ex); have HQ9 := Lib.hid hq9; have HL9 := Lib.hid hls9; have HOS9 := Lib.hid OSX; have HMK9 := Lib.hid (HMK7.out.ext ex)
        clear ex hq9 hls9 OSX HOS E7 HMK7
        obtain ⟨z0, z1, z2⟩ := HB.out.ext zle E9.out
        go_wp2_with fail
        refine (HASK.out _ (BB.out.trans E9.out)).mono ?_
        rintro e V ⟨rfl, hb⟩
        have F1 := Lib.hid hb; clear hb z0 z1 z2
        obtain ⟨z0, z1, z2⟩ := HB.out.ext zle (E9.out.trans F1.out)
        go_wp2_with fail
        refine (HRO.out _ (BB.out.trans (E9.out.trans F1.out))).mono ?_
        rintro e V2 ⟨Br, Av, cv, nd, ds, rfl, hnd, hrow, hil, horb, hb⟩
        have F2 := Lib.hid (F1.out.trans hb); clear hb z0 z1 z2 F1
        have hos2 := HOS9.out.ext F2.out
        obtain ⟨o1, o2, o3, o4, o5, zr, za, zo⟩ := hos2
        have hmap : es.map Sd.l = ds.map So.l := Orb.uniq zo horb
        have hK9 : K9 = ds.map So.l := Orb.uniq HL9.out.2.1 horb
        have hlen : nd = ne := by rw [hnd, o1, ← List.length_map (f := So.l), ← hmap, List.length_map]
        subst hlen
        have HND := Lib.hid hnd; have HROW := Lib.hid hrow; have HIL := Lib.hid hil; have HMAP := Lib.hid hmap; have HK9 := Lib.hid hK9; have ZR := Lib.hid zr; have ZA := Lib.hid za; have Z1 := Lib.hid o1; clear hnd hrow hil horb hmap hK9 zr za zo o1 HOS9
        have g0 : (nd != nd) = false := by simp
        have g0i : ((nd : Int) != (nd : Int)) = false := by simp
        go_wp2_with fail
        clear g0 g0i
        go_loopw [91] (fun i wr => ∃ k : Nat, i = .int .i64 k ∧ k ≤ nd ∧ Ext V2 wr) (fun i _ => nd - (intOf i).toNat)
        case atStart => exact ⟨0, rfl, by omega, Ext.refl _⟩
        case round =>
          obtain ⟨k, rfl, hk, hx⟩ := hrel
          have ER := Lib.hid hx; have lwr := hx.size; clear hx
          by_cases hlt : k < nd
          · obtain ⟨x, hxe⟩ : ∃ x, es[k]? = some x := ⟨es[k]'(by rw [← Z1.out]; exact hlt), List.getElem?_eq_getElem _⟩
            obtain ⟨u, hue⟩ : ∃ u, ds[k]? = some u := ⟨ds[k]'(by rw [← HND.out]; exact hlt), List.getElem?_eq_getElem _⟩
            have hxu : x.l = u.l := by
              have h1 : (es.map Sd.l)[k]? = some x.l := by rw [List.getElem?_map, hxe]; rfl
              rw [HMAP.out, List.getElem?_map, hue] at h1
              simpa using h1.symm
            obtain ⟨d0, d1, d2⟩ := (ZR.out.ext ER.out).2.1 k x hxe
            have hxm := List.mem_of_getElem? hxe
            have hum := List.mem_of_getElem? hue
            have q8 : Q3 (wr.alloc (.cells #[.int .i64 w, .int .i64 h, .slice (some ⟨x.b, 0, none⟩) N N] 27)) wr.heap.size (.int .i64 w) (.int .i64 h) (.slice (some ⟨x.b, 0, none⟩) N N) := by
              refine ⟨?_, ?_, ?_⟩ <;> (rw [World.cell?_alloc_new]; rfl)
            have e8 : Ext wr (wr.alloc (.cells #[.int .i64 w, .int .i64 h, .slice (some ⟨x.b, 0, none⟩) N N] 27)) := (Ext.refl wr).alc _
            have s8 : wr.heap.size < (wr.alloc (.cells #[.int .i64 w, .int .i64 h, .slice (some ⟨x.b, 0, none⟩) N N] 27)).heap.size := by simp
            go_upto_region 12 with fail
            generalize (wr.alloc (.cells #[.int .i64 w, .int .i64 h, .slice (some ⟨x.b, 0, none⟩) N N] 27)) = W8 at *
            have E8 := Lib.hid (ER.out.trans e8); have HQ8 := Lib.hid q8
            clear q8 d0 d1 d2
            have hax := il_N ((ZA.out x hxm).1.ext (ER.out.trans e8)) (ZA.out x hxm).2 (by omega)
            have hau := (HIL.out u hum).below (ER.out.trans e8)
            rw [← hxu] at hau
            have hrow := World.ownsRow.ext HROW.out (ER.out.trans e8)
            obtain ⟨gw, rfl⟩ := rowO_some hrow HND.out (by omega)
            obtain ⟨rc1, rc2, -, rc3⟩ := rowO hrow HND.out
            obtain ⟨-, -, hgw, -, rc4⟩ := rc3 _ _ _ rfl
            obtain ⟨v0, v1, v2⟩ := rc4 k u hue
            skip
            have HV0 := Lib.hid v0; have HV1 := Lib.hid v1; have HV2 := Lib.hid v2; have HAX := Lib.hid hax; have HAU := Lib.hid hau
            clear v0 v1 v2 hax hau hrow rc3 rc4 hxm hum hxe hue hxu e8
            go_cut [103] (fun s wx => s = .bool false ∧ Ext W8 wx)
            case first =>
              refine wp_region_noPanic ?_
              refine wp_pool 8 [some 96, some 97, some 98, some 99, some 100, some 101, some 102, some 103] [] [] [(fun (v : Value) (_ : World) => v = .agg #[.int .i64 w, .int .i64 h, .slice (some ⟨x.b, 0, none⟩) N N]), (fun (v : Value) (_ : World) => v = .agg #[.int .i64 w, .int .i64 h, .slice (some ⟨x.b, 0, none⟩) N N]), (fun (v : Value) (_ : World) => v = .slice (some ⟨gw, 0, none⟩) nd cv), (fun (v : Value) (_ : World) => v = .int .i64 k), (fun (v : Value) (_ : World) => v = .pointer (some ⟨gw, k * 3, none⟩)), (fun (v : Value) (_ : World) => v = .agg #[.int .i64 w, .int .i64 h, .slice u.A N N]), (fun (v : Value) (_ : World) => v = .bool true), (fun (v : Value) (_ : World) => v = .bool false)] [noF, noF, noF, noF, noF, noF, noF, noF] (by kernel_rfl) (by kernel_rfl) (by kernel_rfl) (by kernel_rfl) (by kernel_rfl) (by kernel_rfl) (by kernel_rfl) (by kernel_rfl) (fun _ _ _ _ h => h) ⟨Stays.pure _, Stays.pure _, Stays.pure _, Stays.pure _, Stays.pure _, Stays.pure _, Stays.pure _, Stays.pure _, True.intro⟩ ?steps ?done
              case steps =>
                simp only [List.take_succ_cons, List.take_zero]
                refine Steps.cons (fun (v : Value) (_ : World) => v = .agg #[.int .i64 w, .int .i64 h, .slice (some ⟨x.b, 0, none⟩) N N]) [] rfl (by kernel_rfl) rfl (by kernel_rfl) (fun y X ex0 hf K hK => ?_) ?_
                · clear hf
                  have ex := (Ext.drw (Ext.refl _)).trans ex0
                  refine Box.mk ?_
                  simp only [fill, Act.put, Nat.reduceAdd, List.setIfInBounds_toArray, List.set_cons_zero, List.set_cons_succ] at hK ⊢
                  obtain ⟨t0, t1, t2⟩ := HQ8.out.ext (by omega) ex
                  go_simp
                  exact hK.out _ _ rfl (Ext.refl _) (fun b hb => by cases hb)
                refine Steps.cons (fun (v : Value) (_ : World) => v = .agg #[.int .i64 w, .int .i64 h, .slice (some ⟨x.b, 0, none⟩) N N]) [0] rfl (by kernel_rfl) rfl (by kernel_rfl) (fun y X ex0 hf K hK => ?_) ?_
                · have h0 : ((fun (v : Value) (_ : World) => v = .agg #[.int .i64 w, .int .i64 h, .slice (some ⟨x.b, 0, none⟩) N N])) (y 0) X := hf.1
                  clear hf
                  have ex := (Ext.drw (Ext.refl _)).trans ex0
                  refine Box.mk ?_
                  simp only [fill, Act.put, Nat.reduceAdd, List.setIfInBounds_toArray, List.set_cons_zero, List.set_cons_succ, h0] at hK ⊢
                  go_simp
                  refine (own_any w h _ N N _).mono ?_
                  rintro e V ⟨rfl, hb⟩
                  try go_wp2_with fail
                  exact hK.out _ _ rfl hb (fun b hb => by cases hb)
                refine Steps.cons (fun (v : Value) (_ : World) => v = .slice (some ⟨gw, 0, none⟩) nd cv) [] rfl (by kernel_rfl) rfl (by kernel_rfl) (fun y X ex0 hf K hK => ?_) ?_
                · clear hf
                  have ex := (Ext.drw (Ext.refl _)).trans ex0
                  refine Box.mk ?_
                  simp only [fill, Act.put, Nat.reduceAdd, List.setIfInBounds_toArray, List.set_cons_zero, List.set_cons_succ] at hK ⊢
                  go_simp
                  exact hK.out _ _ rfl (Ext.refl _) (fun b hb => by cases hb)
                refine Steps.cons (fun (v : Value) (_ : World) => v = .int .i64 k) [] rfl (by kernel_rfl) rfl (by kernel_rfl) (fun y X ex0 hf K hK => ?_) ?_
                · clear hf
                  have ex := (Ext.drw (Ext.refl _)).trans ex0
                  refine Box.mk ?_
                  simp only [fill, Act.put, Nat.reduceAdd, List.setIfInBounds_toArray, List.set_cons_zero, List.set_cons_succ] at hK ⊢
                  go_simp
                  exact hK.out _ _ rfl (Ext.refl _) (fun b hb => by cases hb)
                refine Steps.cons (fun (v : Value) (_ : World) => v = .pointer (some ⟨gw, k * 3, none⟩)) [2, 3] rfl (by kernel_rfl) rfl (by kernel_rfl) (fun y X ex0 hf K hK => ?_) ?_
                · have h2 : ((fun (v : Value) (_ : World) => v = .slice (some ⟨gw, 0, none⟩) nd cv)) (y 2) X := hf.1
                  have h3 : ((fun (v : Value) (_ : World) => v = .int .i64 k)) (y 3) X := hf.2.1
                  clear hf
                  have ex := (Ext.drw (Ext.refl _)).trans ex0
                  refine Box.mk ?_
                  simp only [fill, Act.put, Nat.reduceAdd, List.setIfInBounds_toArray, List.set_cons_zero, List.set_cons_succ, h2, h3] at hK ⊢
                  go_simp
                  exact hK.out _ _ rfl (Ext.refl _) (fun b hb => by cases hb)
                refine Steps.cons (fun (v : Value) (_ : World) => v = .agg #[.int .i64 w, .int .i64 h, .slice u.A N N]) [4] rfl (by kernel_rfl) rfl (by kernel_rfl) (fun y X ex0 hf K hK => ?_) ?_
                · have h4 : ((fun (v : Value) (_ : World) => v = .pointer (some ⟨gw, k * 3, none⟩))) (y 4) X := hf.1
                  clear hf
                  have ex := (Ext.drw (Ext.refl _)).trans ex0
                  refine Box.mk ?_
                  simp only [fill, Act.put, Nat.reduceAdd, List.setIfInBounds_toArray, List.set_cons_zero, List.set_cons_succ, h4] at hK ⊢
                  have t0 := keepAt ex hgw HV0.out
                  have t1 := keepAt ex hgw HV1.out
                  have t2 := keepAt ex hgw HV2.out
                  go_simp
                  exact hK.out _ _ rfl (Ext.refl _) (fun b hb => by cases hb)
                refine Steps.cons (fun (v : Value) (_ : World) => v = .bool true) [1, 5] rfl (by kernel_rfl) rfl (by kernel_rfl) (fun y X ex0 hf K hK => ?_) ?_
                · have h1 : ((fun (v : Value) (_ : World) => v = .agg #[.int .i64 w, .int .i64 h, .slice (some ⟨x.b, 0, none⟩) N N])) (y 1) X := hf.1
                  have h5 : ((fun (v : Value) (_ : World) => v = .agg #[.int .i64 w, .int .i64 h, .slice u.A N N])) (y 5) X := hf.2.1
                  clear hf
                  have ex := (Ext.drw (Ext.refl _)).trans ex0
                  refine Box.mk ?_
                  simp only [fill, Act.put, Nat.reduceAdd, List.setIfInBounds_toArray, List.set_cons_zero, List.set_cons_succ, h1, h5] at hK ⊢
                  go_simp
                  refine (HSA.out _ _ _ _ (HAX.out.below ex) (HAU.out.below ex)).mono ?_
                  rintro e V ⟨rfl, hb⟩
                  try go_wp2_with fail
                  exact hK.out _ _ rfl hb (fun b hb => by cases hb)
                refine Steps.cons (fun (v : Value) (_ : World) => v = .bool false) [6] rfl (by kernel_rfl) rfl (by kernel_rfl) (fun y X ex0 hf K hK => ?_) ?_
                · have h6 : ((fun (v : Value) (_ : World) => v = .bool true)) (y 6) X := hf.1
                  clear hf
                  have ex := (Ext.drw (Ext.refl _)).trans ex0
                  refine Box.mk ?_
                  simp only [fill, Act.put, Nat.reduceAdd, List.setIfInBounds_toArray, List.set_cons_zero, List.set_cons_succ, h6] at hK ⊢
                  go_simp
                  exact hK.out _ _ rfl (Ext.refl _) (fun b hb => by cases hb)
                exact Steps.nil
              case done =>
                intro y X ex hf hlt hsep
                have h0 : ((fun (v : Value) (_ : World) => v = .agg #[.int .i64 w, .int .i64 h, .slice (some ⟨x.b, 0, none⟩) N N])) (y 0) X := hf.1
                have h1 : ((fun (v : Value) (_ : World) => v = .agg #[.int .i64 w, .int .i64 h, .slice (some ⟨x.b, 0, none⟩) N N])) (y 1) X := hf.2.1
                have h2 : ((fun (v : Value) (_ : World) => v = .slice (some ⟨gw, 0, none⟩) nd cv)) (y 2) X := hf.2.2.1
                have h3 : ((fun (v : Value) (_ : World) => v = .int .i64 k)) (y 3) X := hf.2.2.2.1
                have h4 : ((fun (v : Value) (_ : World) => v = .pointer (some ⟨gw, k * 3, none⟩))) (y 4) X := hf.2.2.2.2.1
                have h5 : ((fun (v : Value) (_ : World) => v = .agg #[.int .i64 w, .int .i64 h, .slice u.A N N])) (y 5) X := hf.2.2.2.2.2.1
                have h6 : ((fun (v : Value) (_ : World) => v = .bool true)) (y 6) X := hf.2.2.2.2.2.2.1
                have h7 : ((fun (v : Value) (_ : World) => v = .bool false)) (y 7) X := hf.2.2.2.2.2.2.2.1
                clear hf
                clear hsep hlt
                refine Box.mk ?_
                simp only [List.drop_succ_cons, List.drop_zero, fill, Act.put, Nat.reduceAdd, List.setIfInBounds_toArray, List.set_cons_zero, List.set_cons_succ, h0, h1, h2, h3, h4, h5, h6, h7]
                clear h0 h1 h2 h3 h4 h5 h6 h7
                have EX := Lib.hid ex; clear ex
                go_wp2_with fail
                refine NoPanic.normal ?_
                go_wp2_with fail
                go_meet
                exact ⟨rfl, EX.out⟩
            case rest =>
              obtain ⟨rfl, ex⟩ := hcut
              have F3 := Lib.hid (E8.out.trans ex); clear ex
              go_wp2_with fail
              go_roundw
              case rel => exact ⟨k + 1, by go_num, by omega, F3.out⟩
              case measure => simp [intOf]; omega
          · obtain rfl : k = nd := by omega
            have EB := Lib.hid (E9.out.trans (F2.out.trans ER.out))
            obtain ⟨x, hxe⟩ : ∃ x, es[0]? = some x := ⟨es[0]'(by rw [← Z1.out]; omega), List.getElem?_eq_getElem _⟩
            obtain ⟨u, hue⟩ : ∃ u, ds[0]? = some u := ⟨ds[0]'(by rw [← HND.out]; omega), List.getElem?_eq_getElem _⟩
            have hum := List.mem_of_getElem? hue
            have hu0 : K9.getD 0 [] = u.l := by rw [HK9.out, List.getD_eq_getElem?_getD, List.getElem?_map, hue]; rfl
            have ls9 := HL9.out.ext (F2.out.trans ER.out)
            have hax := il_N ls9.2.2.1 ls9.2.2.2 (by omega)
            have hau := (HIL.out u hum).below ER.out
            rw [← hu0] at hau
            have hrow := World.ownsRow.ext HROW.out ER.out
            obtain ⟨gw, rfl⟩ := rowO_some hrow HND.out (by omega)
            obtain ⟨rc1, rc2, -, rc3⟩ := rowO hrow HND.out
            obtain ⟨-, -, hgw, -, rc4⟩ := rc3 _ _ _ rfl
            obtain ⟨v0, v1, v2⟩ := rc4 0 u hue
            simp only [Nat.zero_mul, Nat.zero_add] at v0 v1 v2
            have hq9 := HQ9.out.ext hlt9 (F2.out.trans ER.out)
            have lw9 : g9 < wr.heap.size := Nat.lt_of_lt_of_le hlt9 (F2.out.trans ER.out).size
            have HV0 := Lib.hid v0; have HV1 := Lib.hid v1; have HV2 := Lib.hid v2; have HAX := Lib.hid hax; have HAU := Lib.hid hau; have HQ := Lib.hid hq9; have HMKR := Lib.hid (HMK9.out.ext (F2.out.trans ER.out))
            clear v0 v1 v2 hax hau hrow rc3 rc4 hum hxe hue hu0 ls9 hq9
            have kp0 : 0 < k := by omega
            go_upto_region 15 with fail
            refine wp_region_noPanic ?_
            refine wp_pool 17 [some 105, some 106, some 107, some 108, some 109, some 110, some 111, some 112, some 113, some 114, some 115, some 116, some 117, some 118, some 119, some 120, some 121] [] [] [(fun (v : Value) (_ : World) => v = .slice A5 kn c5), (fun (v : Value) (X : World) => ∃ A' n' c', v = .slice A' n' c' ∧ Ml X (.slice A' n' c') kl), (fun (v : Value) (_ : World) => v = .slice A0 n0 c0), (fun (v : Value) (_ : World) => v = .agg #[.int .i64 w, .int .i64 h, .slice A n c]), (fun (v : Value) (X : World) => ∃ A' n' c', v = .slice A' n' c' ∧ Ml X (.slice A' n' c') kl), (fun (v : Value) (_ : World) => v = .bool true), (fun (v : Value) (_ : World) => v = .bool true), (fun (v : Value) (_ : World) => v = .agg #[.int .i64 w, .int .i64 h, .slice (some ⟨b9, 0, none⟩) N N]), (fun (v : Value) (_ : World) => v = .agg #[.int .i64 w, .int .i64 h, .slice (some ⟨b9, 0, none⟩) N N]), (fun (v : Value) (_ : World) => v = .slice (some ⟨gw, 0, none⟩) k cv), (fun (v : Value) (_ : World) => v = .pointer (some ⟨gw, 0, none⟩)), (fun (v : Value) (_ : World) => v = .agg #[.int .i64 w, .int .i64 h, .slice u.A N N]), (fun (v : Value) (_ : World) => v = .bool true), (fun (v : Value) (_ : World) => v = .bool true), (fun (v : Value) (_ : World) => v = .bool true), (fun (v : Value) (_ : World) => v = .bool true), (fun (v : Value) (_ : World) => v = .bool true)] [noF, noF, noF, noF, noF, noF, noF, noF, noF, noF, noF, noF, noF, noF, noF, noF, noF] (by kernel_rfl) (by kernel_rfl) (by kernel_rfl) (by kernel_rfl) (by kernel_rfl) (by kernel_rfl) (by kernel_rfl) (by kernel_rfl) (fun _ _ _ _ h => h) ⟨Stays.pure _, (fun _ _ _ e ⟨A', n', c', h1, h2⟩ => ⟨A', n', c', h1, h2.ext e⟩), Stays.pure _, Stays.pure _, (fun _ _ _ e ⟨A', n', c', h1, h2⟩ => ⟨A', n', c', h1, h2.ext e⟩), Stays.pure _, Stays.pure _, Stays.pure _, Stays.pure _, Stays.pure _, Stays.pure _, Stays.pure _, Stays.pure _, Stays.pure _, Stays.pure _, Stays.pure _, Stays.pure _, True.intro⟩ ?steps ?done
            case steps =>
              simp only [List.take_succ_cons, List.take_zero]
              refine Steps.cons (fun (v : Value) (_ : World) => v = .slice A5 kn c5) [] rfl (by kernel_rfl) rfl (by kernel_rfl) (fun y X ex0 hf K hK => ?_) ?_
              · clear hf
                have ex := (Ext.drw (Ext.refl _)).trans ex0
                refine Box.mk ?_
                simp only [fill, Act.put, Nat.reduceAdd, List.setIfInBounds_toArray, List.set_cons_zero, List.set_cons_succ] at hK ⊢
                go_simp
                exact hK.out _ _ rfl (Ext.refl _) (fun b hb => by cases hb)
              refine Steps.cons (fun (v : Value) (X : World) => ∃ A' n' c', v = .slice A' n' c' ∧ Ml X (.slice A' n' c') kl) [0] rfl (by kernel_rfl) rfl (by kernel_rfl) (fun y X ex0 hf K hK => ?_) ?_
              · have h0 : ((fun (v : Value) (_ : World) => v = .slice A5 kn c5)) (y 0) X := hf.1
                clear hf
                have ex := (Ext.drw (Ext.refl _)).trans ex0
                refine Box.mk ?_
                simp only [fill, Act.put, Nat.reduceAdd, List.setIfInBounds_toArray, List.set_cons_zero, List.set_cons_succ, h0] at hK ⊢
                go_simp
                refine (HOM.out _ _ _ (HMKR.out.ext ex)).mono ?_
                rintro e V ⟨A', n', c', rfl, hil, hb⟩
                try go_wp2_with fail
                exact hK.out _ _ ⟨A', n', c', rfl, hil⟩ hb (fun b hb => by cases hb)
              refine Steps.cons (fun (v : Value) (_ : World) => v = .slice A0 n0 c0) [] rfl (by kernel_rfl) rfl (by kernel_rfl) (fun y X ex0 hf K hK => ?_) ?_
              · clear hf
                have ex := (Ext.drw (Ext.refl _)).trans ex0
                refine Box.mk ?_
                simp only [fill, Act.put, Nat.reduceAdd, List.setIfInBounds_toArray, List.set_cons_zero, List.set_cons_succ] at hK ⊢
                go_simp
                exact hK.out _ _ rfl (Ext.refl _) (fun b hb => by cases hb)
              refine Steps.cons (fun (v : Value) (_ : World) => v = .agg #[.int .i64 w, .int .i64 h, .slice A n c]) [] rfl (by kernel_rfl) rfl (by kernel_rfl) (fun y X ex0 hf K hK => ?_) ?_
              · clear hf
                have ex := (Ext.drw (Ext.refl _)).trans ex0
                refine Box.mk ?_
                simp only [fill, Act.put, Nat.reduceAdd, List.setIfInBounds_toArray, List.set_cons_zero, List.set_cons_succ] at hK ⊢
                obtain ⟨z0, z1, z2⟩ := HB.out.ext zle (EB.out.trans ex)
                go_simp
                exact hK.out _ _ rfl (Ext.refl _) (fun b hb => by cases hb)
              refine Steps.cons (fun (v : Value) (X : World) => ∃ A' n' c', v = .slice A' n' c' ∧ Ml X (.slice A' n' c') kl) [2, 3, 1] rfl (by kernel_rfl) rfl (by kernel_rfl) (fun y X ex0 hf K hK => ?_) ?_
              · have h2 : ((fun (v : Value) (_ : World) => v = .slice A0 n0 c0)) (y 2) X := hf.1
                have h3 : ((fun (v : Value) (_ : World) => v = .agg #[.int .i64 w, .int .i64 h, .slice A n c])) (y 3) X := hf.2.1
                have hh1 : ((fun (v : Value) (X : World) => ∃ A' n' c', v = .slice A' n' c' ∧ Ml X (.slice A' n' c') kl)) (y 1) X := hf.2.2.1
                refine Exists.elim hh1 (fun A1 hx1_0 => ?_)
                refine Exists.elim hx1_0 (fun n1 hx1_1 => ?_)
                refine Exists.elim hx1_1 (fun c1 hx1_2 => ?_)
                have h1 := hx1_2.1
                have il1 := hx1_2.2
                clear hh1 hx1_0 hx1_1 hx1_2
                clear hf
                have ex := (Ext.drw (Ext.refl _)).trans ex0
                refine Box.mk ?_
                simp only [fill, Act.put, Nat.reduceAdd, List.setIfInBounds_toArray, List.set_cons_zero, List.set_cons_succ, h2, h3, h1] at hK ⊢
                go_simp
                refine (HRK.out _ (BB.out.trans (EB.out.trans ex))).mono ?_
                rintro e V ⟨A', n', c', rfl, hil, hb⟩
                try go_wp2_with fail
                exact hK.out _ _ ⟨A', n', c', rfl, hil⟩ hb (fun b hb => by cases hb)
              refine Steps.cons (fun (v : Value) (_ : World) => v = .bool true) [1, 4] rfl (by kernel_rfl) rfl (by kernel_rfl) (fun y X ex0 hf K hK => ?_) ?_
              · have hh1 : ((fun (v : Value) (X : World) => ∃ A' n' c', v = .slice A' n' c' ∧ Ml X (.slice A' n' c') kl)) (y 1) X := hf.1
                refine Exists.elim hh1 (fun A1 hx1_0 => ?_)
                refine Exists.elim hx1_0 (fun n1 hx1_1 => ?_)
                refine Exists.elim hx1_1 (fun c1 hx1_2 => ?_)
                have h1 := hx1_2.1
                have il1 := hx1_2.2
                clear hh1 hx1_0 hx1_1 hx1_2
                have hh4 : ((fun (v : Value) (X : World) => ∃ A' n' c', v = .slice A' n' c' ∧ Ml X (.slice A' n' c') kl)) (y 4) X := hf.2.1
                refine Exists.elim hh4 (fun A4 hx4_0 => ?_)
                refine Exists.elim hx4_0 (fun n4 hx4_1 => ?_)
                refine Exists.elim hx4_1 (fun c4 hx4_2 => ?_)
                have h4 := hx4_2.1
                have il4 := hx4_2.2
                clear hh4 hx4_0 hx4_1 hx4_2
                clear hf
                have ex := (Ext.drw (Ext.refl _)).trans ex0
                refine Box.mk ?_
                simp only [fill, Act.put, Nat.reduceAdd, List.setIfInBounds_toArray, List.set_cons_zero, List.set_cons_succ, h1, h4] at hK ⊢
                go_simp
                refine (HEQ.out _ _ _ il1 il4).mono ?_
                rintro e V ⟨rfl, hb⟩
                try go_wp2_with fail
                exact hK.out _ _ rfl hb (fun b hb => by cases hb)
              refine Steps.cons (fun (v : Value) (_ : World) => v = .bool true) [5] rfl (by kernel_rfl) rfl (by kernel_rfl) (fun y X ex0 hf K hK => ?_) ?_
              · have h5 : ((fun (v : Value) (_ : World) => v = .bool true)) (y 5) X := hf.1
                clear hf
                have ex := (Ext.drw (Ext.refl _)).trans ex0
                refine Box.mk ?_
                simp only [fill, Act.put, Nat.reduceAdd, List.setIfInBounds_toArray, List.set_cons_zero, List.set_cons_succ, h5] at hK ⊢
                go_simp
                exact hK.out _ _ rfl (Ext.refl _) (fun b hb => by cases hb)
              refine Steps.cons (fun (v : Value) (_ : World) => v = .agg #[.int .i64 w, .int .i64 h, .slice (some ⟨b9, 0, none⟩) N N]) [6] rfl (by kernel_rfl) rfl (by kernel_rfl) (fun y X ex0 hf K hK => ?_) ?_
              · have h6 : ((fun (v : Value) (_ : World) => v = .bool true)) (y 6) X := hf.1
                clear hf
                have ex := (Ext.drw (Ext.refl _)).trans ex0
                refine Box.mk ?_
                simp only [fill, Act.put, Nat.reduceAdd, List.setIfInBounds_toArray, List.set_cons_zero, List.set_cons_succ, h6] at hK ⊢
                obtain ⟨t0, t1, t2⟩ := HQ.out.ext lw9 ex
                go_simp
                exact hK.out _ _ rfl (Ext.refl _) (fun b hb => by cases hb)
              refine Steps.cons (fun (v : Value) (_ : World) => v = .agg #[.int .i64 w, .int .i64 h, .slice (some ⟨b9, 0, none⟩) N N]) [7, 6] rfl (by kernel_rfl) rfl (by kernel_rfl) (fun y X ex0 hf K hK => ?_) ?_
              · have h7 : ((fun (v : Value) (_ : World) => v = .agg #[.int .i64 w, .int .i64 h, .slice (some ⟨b9, 0, none⟩) N N])) (y 7) X := hf.1
                have h6 : ((fun (v : Value) (_ : World) => v = .bool true)) (y 6) X := hf.2.1
                clear hf
                have ex := (Ext.drw (Ext.refl _)).trans ex0
                refine Box.mk ?_
                simp only [fill, Act.put, Nat.reduceAdd, List.setIfInBounds_toArray, List.set_cons_zero, List.set_cons_succ, h7, h6] at hK ⊢
                go_simp
                refine (own_any w h _ N N _).mono ?_
                rintro e V ⟨rfl, hb⟩
                try go_wp2_with fail
                exact hK.out _ _ rfl hb (fun b hb => by cases hb)
              refine Steps.cons (fun (v : Value) (_ : World) => v = .slice (some ⟨gw, 0, none⟩) k cv) [6] rfl (by kernel_rfl) rfl (by kernel_rfl) (fun y X ex0 hf K hK => ?_) ?_
              · have h6 : ((fun (v : Value) (_ : World) => v = .bool true)) (y 6) X := hf.1
                clear hf
                have ex := (Ext.drw (Ext.refl _)).trans ex0
                refine Box.mk ?_
                simp only [fill, Act.put, Nat.reduceAdd, List.setIfInBounds_toArray, List.set_cons_zero, List.set_cons_succ, h6] at hK ⊢
                go_simp
                exact hK.out _ _ rfl (Ext.refl _) (fun b hb => by cases hb)
              refine Steps.cons (fun (v : Value) (_ : World) => v = .pointer (some ⟨gw, 0, none⟩)) [9, 6] rfl (by kernel_rfl) rfl (by kernel_rfl) (fun y X ex0 hf K hK => ?_) ?_
              · have h9 : ((fun (v : Value) (_ : World) => v = .slice (some ⟨gw, 0, none⟩) k cv)) (y 9) X := hf.1
                have h6 : ((fun (v : Value) (_ : World) => v = .bool true)) (y 6) X := hf.2.1
                clear hf
                have ex := (Ext.drw (Ext.refl _)).trans ex0
                refine Box.mk ?_
                simp only [fill, Act.put, Nat.reduceAdd, List.setIfInBounds_toArray, List.set_cons_zero, List.set_cons_succ, h9, h6] at hK ⊢
                go_simp
                exact hK.out _ _ rfl (Ext.refl _) (fun b hb => by cases hb)
              refine Steps.cons (fun (v : Value) (_ : World) => v = .agg #[.int .i64 w, .int .i64 h, .slice u.A N N]) [10, 6] rfl (by kernel_rfl) rfl (by kernel_rfl) (fun y X ex0 hf K hK => ?_) ?_
              · have h10 : ((fun (v : Value) (_ : World) => v = .pointer (some ⟨gw, 0, none⟩))) (y 10) X := hf.1
                have h6 : ((fun (v : Value) (_ : World) => v = .bool true)) (y 6) X := hf.2.1
                clear hf
                have ex := (Ext.drw (Ext.refl _)).trans ex0
                refine Box.mk ?_
                simp only [fill, Act.put, Nat.reduceAdd, List.setIfInBounds_toArray, List.set_cons_zero, List.set_cons_succ, h10, h6] at hK ⊢
                have t0 := keepAt ex hgw HV0.out
                have t1 := keepAt ex hgw HV1.out
                have t2 := keepAt ex hgw HV2.out
                go_simp
                exact hK.out _ _ rfl (Ext.refl _) (fun b hb => by cases hb)
              refine Steps.cons (fun (v : Value) (_ : World) => v = .bool true) [8, 11, 6] rfl (by kernel_rfl) rfl (by kernel_rfl) (fun y X ex0 hf K hK => ?_) ?_
              · have h8 : ((fun (v : Value) (_ : World) => v = .agg #[.int .i64 w, .int .i64 h, .slice (some ⟨b9, 0, none⟩) N N])) (y 8) X := hf.1
                have h11 : ((fun (v : Value) (_ : World) => v = .agg #[.int .i64 w, .int .i64 h, .slice u.A N N])) (y 11) X := hf.2.1
                have h6 : ((fun (v : Value) (_ : World) => v = .bool true)) (y 6) X := hf.2.2.1
                clear hf
                have ex := (Ext.drw (Ext.refl _)).trans ex0
                refine Box.mk ?_
                simp only [fill, Act.put, Nat.reduceAdd, List.setIfInBounds_toArray, List.set_cons_zero, List.set_cons_succ, h8, h11, h6] at hK ⊢
                go_simp
                refine (HSA.out _ _ _ _ (HAX.out.below ex) (HAU.out.below ex)).mono ?_
                rintro e V ⟨rfl, hb⟩
                try go_wp2_with fail
                exact hK.out _ _ rfl hb (fun b hb => by cases hb)
              refine Steps.cons (fun (v : Value) (_ : World) => v = .bool true) [6, 12] rfl (by kernel_rfl) rfl (by kernel_rfl) (fun y X ex0 hf K hK => ?_) ?_
              · have h6 : ((fun (v : Value) (_ : World) => v = .bool true)) (y 6) X := hf.1
                have h12 : ((fun (v : Value) (_ : World) => v = .bool true)) (y 12) X := hf.2.1
                clear hf
                have ex := (Ext.drw (Ext.refl _)).trans ex0
                refine Box.mk ?_
                simp only [fill, Act.put, Nat.reduceAdd, List.setIfInBounds_toArray, List.set_cons_zero, List.set_cons_succ, h6, h12] at hK ⊢
                go_simp
                exact hK.out _ _ rfl (Ext.refl _) (fun b hb => by cases hb)
              refine Steps.cons (fun (v : Value) (_ : World) => v = .bool true) [13, 12] rfl (by kernel_rfl) rfl (by kernel_rfl) (fun y X ex0 hf K hK => ?_) ?_
              · have h13 : ((fun (v : Value) (_ : World) => v = .bool true)) (y 13) X := hf.1
                have h12 : ((fun (v : Value) (_ : World) => v = .bool true)) (y 12) X := hf.2.1
                clear hf
                have ex := (Ext.drw (Ext.refl _)).trans ex0
                refine Box.mk ?_
                simp only [fill, Act.put, Nat.reduceAdd, List.setIfInBounds_toArray, List.set_cons_zero, List.set_cons_succ, h13, h12] at hK ⊢
                go_simp
                exact hK.out _ _ rfl (Ext.refl _) (fun b hb => by cases hb)
              refine Steps.cons (fun (v : Value) (_ : World) => v = .bool true) [14] rfl (by kernel_rfl) rfl (by kernel_rfl) (fun y X ex0 hf K hK => ?_) ?_
              · have h14 : ((fun (v : Value) (_ : World) => v = .bool true)) (y 14) X := hf.1
                clear hf
                have ex := (Ext.drw (Ext.refl _)).trans ex0
                refine Box.mk ?_
                simp only [fill, Act.put, Nat.reduceAdd, List.setIfInBounds_toArray, List.set_cons_zero, List.set_cons_succ, h14] at hK ⊢
                go_simp
                refine (awake_any _).mono ?_
                rintro e V ⟨rfl, hb⟩
                try go_wp2_with fail
                exact hK.out _ _ rfl hb (fun b hb => by cases hb)
              refine Steps.cons (fun (v : Value) (_ : World) => v = .bool true) [14, 15] rfl (by kernel_rfl) rfl (by kernel_rfl) (fun y X ex0 hf K hK => ?_) ?_
              · have h14 : ((fun (v : Value) (_ : World) => v = .bool true)) (y 14) X := hf.1
                have h15 : ((fun (v : Value) (_ : World) => v = .bool true)) (y 15) X := hf.2.1
                clear hf
                have ex := (Ext.drw (Ext.refl _)).trans ex0
                refine Box.mk ?_
                simp only [fill, Act.put, Nat.reduceAdd, List.setIfInBounds_toArray, List.set_cons_zero, List.set_cons_succ, h14, h15] at hK ⊢
                go_simp
                exact hK.out _ _ rfl (Ext.refl _) (fun b hb => by cases hb)
              exact Steps.nil
            case done =>
              intro y X ex hf hlt hsep
              have h0 : ((fun (v : Value) (_ : World) => v = .slice A5 kn c5)) (y 0) X := hf.1
              have hh1 : ((fun (v : Value) (X : World) => ∃ A' n' c', v = .slice A' n' c' ∧ Ml X (.slice A' n' c') kl)) (y 1) X := hf.2.1
              refine Exists.elim hh1 (fun A1 hx1_0 => ?_)
              refine Exists.elim hx1_0 (fun n1 hx1_1 => ?_)
              refine Exists.elim hx1_1 (fun c1 hx1_2 => ?_)
              have h1 := hx1_2.1
              have il1 := hx1_2.2
              clear hh1 hx1_0 hx1_1 hx1_2
              have h2 : ((fun (v : Value) (_ : World) => v = .slice A0 n0 c0)) (y 2) X := hf.2.2.1
              have h3 : ((fun (v : Value) (_ : World) => v = .agg #[.int .i64 w, .int .i64 h, .slice A n c])) (y 3) X := hf.2.2.2.1
              have hh4 : ((fun (v : Value) (X : World) => ∃ A' n' c', v = .slice A' n' c' ∧ Ml X (.slice A' n' c') kl)) (y 4) X := hf.2.2.2.2.1
              refine Exists.elim hh4 (fun A4 hx4_0 => ?_)
              refine Exists.elim hx4_0 (fun n4 hx4_1 => ?_)
              refine Exists.elim hx4_1 (fun c4 hx4_2 => ?_)
              have h4 := hx4_2.1
              have il4 := hx4_2.2
              clear hh4 hx4_0 hx4_1 hx4_2
              have h5 : ((fun (v : Value) (_ : World) => v = .bool true)) (y 5) X := hf.2.2.2.2.2.1
              have h6 : ((fun (v : Value) (_ : World) => v = .bool true)) (y 6) X := hf.2.2.2.2.2.2.1
              have h7 : ((fun (v : Value) (_ : World) => v = .agg #[.int .i64 w, .int .i64 h, .slice (some ⟨b9, 0, none⟩) N N])) (y 7) X := hf.2.2.2.2.2.2.2.1
              have h8 : ((fun (v : Value) (_ : World) => v = .agg #[.int .i64 w, .int .i64 h, .slice (some ⟨b9, 0, none⟩) N N])) (y 8) X := hf.2.2.2.2.2.2.2.2.1
              have h9 : ((fun (v : Value) (_ : World) => v = .slice (some ⟨gw, 0, none⟩) k cv)) (y 9) X := hf.2.2.2.2.2.2.2.2.2.1
              have h10 : ((fun (v : Value) (_ : World) => v = .pointer (some ⟨gw, 0, none⟩))) (y 10) X := hf.2.2.2.2.2.2.2.2.2.2.1
              have h11 : ((fun (v : Value) (_ : World) => v = .agg #[.int .i64 w, .int .i64 h, .slice u.A N N])) (y 11) X := hf.2.2.2.2.2.2.2.2.2.2.2.1
              have h12 : ((fun (v : Value) (_ : World) => v = .bool true)) (y 12) X := hf.2.2.2.2.2.2.2.2.2.2.2.2.1
              have h13 : ((fun (v : Value) (_ : World) => v = .bool true)) (y 13) X := hf.2.2.2.2.2.2.2.2.2.2.2.2.2.1
              have h14 : ((fun (v : Value) (_ : World) => v = .bool true)) (y 14) X := hf.2.2.2.2.2.2.2.2.2.2.2.2.2.2.1
              have h15 : ((fun (v : Value) (_ : World) => v = .bool true)) (y 15) X := hf.2.2.2.2.2.2.2.2.2.2.2.2.2.2.2.1
              have h16 : ((fun (v : Value) (_ : World) => v = .bool true)) (y 16) X := hf.2.2.2.2.2.2.2.2.2.2.2.2.2.2.2.2.1
              clear hf
              clear il1 il4
              clear hsep hlt
              refine Box.mk ?_
              simp only [List.drop_succ_cons, List.drop_zero, fill, Act.put, Nat.reduceAdd, List.setIfInBounds_toArray, List.set_cons_zero, List.set_cons_succ, h0, h1, h2, h3, h4, h5, h6, h7, h8, h9, h10, h11, h12, h13, h14, h15, h16]
              clear h0 h1 h2 h3 h4 h5 h6 h7 h8 h9 h10 h11 h12 h13 h14 h15 h16
              have EX := Lib.hid (BB.out.trans (EB.out.trans ex)); clear ex
              go_wp2_with fail
              refine NoPanic.normal ?_
              go_wp2
              go_ret
              exact ⟨rfl, EX.out⟩

/-- the law -/
theorem orbL_any (A0 : Option Addr) (n0 c0 : Nat) (G0 : List Mv) (w h : Int) (A : Option Addr) (n c : Nat) (l : List Int) (W : World) (hg : Ml W (.slice A0 n0 c0) G0) (hl : Ins W A n c l) :
    Calls Try.prog 7 #[.slice A0 n0 c0, .agg #[.int .i64 w, .int .i64 h, .slice A n c]] W fun e W' => e = .returned (.bool true) ∧ Ext W W' := by
  have hGn : (G0.take 521).length ≤ 521 := by rw [List.length_take]; omega
  cases hv : vst w h (l.take 70)
  · have hv' : vst w h l = false := (vst_cut w h l).symm.trans hv
    exact orbL_no A0 n0 c0 G0 _ w h A n c l _ W hg hl rfl rfl (fun X A' n' c' Ag ng cg hI hM => keepsS_v w h Ag A' ng cg n' c' _ X hI hv) (fun X A' n' c' Ag ng cg hI hM => orbitS_v w h Ag A' ng cg n' c' _ X hI hv) (fun X A' n' c' Ag ng cg hI hM => leastS_v w h Ag A' ng cg n' c' _ X hI hv)
      (fun X hX => asked_f _ w h A n c l X (hl.ext hX).il hv')
  · have hs : okSize w h = true := by unfold vst at hv; simp only [Bool.and_eq_true] at hv; exact hv.1.1
    have hs' := okSize_iff.1 hs
    obtain ⟨w, rfl⟩ : ∃ n : Nat, w = n := ⟨w.toNat, by omega⟩
    obtain ⟨h, rfl⟩ : ∃ n : Nat, h = n := ⟨h.toNat, by omega⟩
    have hv' : vst w h l = true := (vst_cut w h l).symm.trans hv
    cases hgr : grpB w h (G0.take 521)
    · have hgr' : grpB w h G0 = false := (grpB_take hs).symm.trans hgr
      exact orbL_no A0 n0 c0 G0 _ w h A n c l _ W hg hl rfl rfl (fun X A' n' c' Ag ng cg hI hM => keepsS_g w h Ag A' ng cg n' c' _ _ X hI hv hM (by have := hM.len; omega) hgr) (fun X A' n' c' Ag ng cg hI hM => orbitS_g w h Ag A' ng cg n' c' _ _ X hI hv hM (by have := hM.len; omega) hgr) (fun X A' n' c' Ag ng cg hI hM => leastS_g w h Ag A' ng cg n' c' _ _ X hI hv hM (by have := hM.len; omega) hgr)
        (fun X hX => by have := asked_t w h A0 A n0 c0 n c l G0 X (hl.ext hX).il hv' (hg.ext hX); rwa [hgr'] at this)
    · exact orbL_ok A0 n0 c0 G0 _ w h A n c l _ W hg hl rfl rfl (w * h) rfl hs hv (vst_N hv).2 (grpB_iff.1 hgr) (grpB_few hs hgr) (vst_all hv) _ _ rfl (Nat.le_trans (List.length_filter_le _ _) hGn)
        (fun X A' n' c' Ag ng cg hI hM => by
          have hng := hM.len
          refine (keepsS_t w h Ag A' ng cg n' c' _ _ X hI hv hM (by omega) hgr).mono ?_
          rintro e Y ⟨v, rfl, hm, hx⟩
          have hm' := hm
          obtain ⟨A2, c2, rfl, -⟩ := hm
          exact ⟨A2, c2, rfl, hm', hx⟩)
        (orbit_w hv hgr hGn) (fun X A' n' c' Ag ng cg hI hM => least_w hgr hGn X _ A' n' c' Ag ng cg hv hI hM)
end Go.Proofs.Ytgjanbgehbpciaa
