/- Walks: the law StampStabilizer. -/
import Derived.Test.YtgjanbgehbpciaaK3
import Derived.Test.YtgjanbgehbpciaaV14
import Derived.Test.YtgjanbgehbpciaaV15
import Derived.Test.YtgjanbgehbpciaaD6
namespace Go.Proofs.Ytgjanbgehbpciaa
open Go.RowKit

/-- the orbit in memory -/
def OS (X : World) (w h N : Nat) (l : List Int) (G : List Mv) (gf cap ne : Nat) (es : List Sd) : Prop :=
  ne = es.length ∧ ne ≤ cap ∧ cap ≤ 9223372036854775807 ∧ 1 ≤ ne ∧ ne ≤ 1000 ∧ Rw X w h N gf es ∧ (∀ x ∈ es, Ar3 X x.b x.l ∧ x.l.length = N) ∧ Orb w h N l G (es.map Sd.l)
theorem OS.ext {X Y : World} {w h N : Nat} {l : List Int} {G : List Mv} {gf cap ne : Nat} {es : List Sd} (o : OS X w h N l G gf cap ne es) (e : Ext X Y) : OS Y w h N l G gf cap ne es :=
  ⟨o.1, o.2.1, o.2.2.1, o.2.2.2.1, o.2.2.2.2.1, o.2.2.2.2.2.1.ext e, fun x hx => ⟨(o.2.2.2.2.2.2.1 x hx).1.ext e, (o.2.2.2.2.2.2.1 x hx).2⟩, o.2.2.2.2.2.2.2⟩
/-- the least in memory -/
def LS (X : World) (w h N : Nat) (l : List Int) (G : List Mv) (b : Nat) (K : List (List Int)) : Prop := K ≠ [] ∧ Orb w h N l G K ∧ Ar3 X b (K.getD 0 []) ∧ (K.getD 0 []).length = N
theorem LS.ext {X Y : World} {w h N : Nat} {l : List Int} {G : List Mv} {b : Nat} {K : List (List Int)} (o : LS X w h N l G b K) (e : Ext X Y) : LS Y w h N l G b K := ⟨o.1, o.2.1, o.2.2.1.ext e, o.2.2.2⟩
theorem il_N {X : World} {b N : Nat} {l : List Int} (h : Ar3 X b l) (hl : l.length = N) (hN : N ≤ 64) : Il X (.slice (some ⟨b, 0, none⟩) N N) l := by
  subst hl; exact h.ar.il _ (Nat.le_refl _) (by omega)
theorem T27.put {X : World} {g : Nat} (h : T27 X g) (a b c : Value) : Q3 (((X.setCell ⟨g, 0, none⟩ a).setCell ⟨g, 1, none⟩ b).setCell ⟨g, 2, none⟩ c) g a b c := by
  obtain ⟨p, q, r, hh⟩ := h
  have : (((X.setCell ⟨g, 0, none⟩ a).setCell ⟨g, 1, none⟩ b).setCell ⟨g, 2, none⟩ c).heap[g]? = some (.cells #[a, b, c] 27 (0, 0)) := by
    simp [World.setCell, Array.getElem?_modify, hh]
  exact ⟨cell_of_row _ g 0 _ 27 (0, 0) this, cell_of_row _ g 1 _ 27 (0, 0) this, cell_of_row _ g 2 _ 27 (0, 0) this⟩
/-- behind a statement that asks for the least -/
def LCut (X : World) (w h N : Nat) (l : List Int) (G : List Mv) (s9 s10 : Value) (wx : World) : Prop :=
  ∃ g b K, s9 = .pointer (some ⟨g, 0, none⟩) ∧ s10 = .int .i64 0 ∧ Q3 wx g (.int .i64 w) (.int .i64 h) (.slice (some ⟨b, 0, none⟩) N N) ∧ g < wx.heap.size ∧ LS wx w h N l G b K ∧ X.heap.size ≤ g ∧ Ext X wx
def OCut (X : World) (w h N : Nat) (l : List Int) (G : List Mv) (s7 s8 : Value) (wx : World) : Prop :=
  ∃ gf cap ne es, s7 = .slice (some ⟨gf, 0, none⟩) ne cap ∧ s8 = .int .i64 0 ∧ OS wx w h N l G gf cap ne es ∧ Ext X wx
def KCut (X : World) (kn : Nat) (x : Int) (s5 s6 : Value) (wx : World) : Prop := (∃ A c, s5 = .slice A kn c) ∧ s6 = .int .i64 x ∧ Ext X wx

set_option maxHeartbeats 8000000 in
set_option maxRecDepth 100000 in
theorem stab_no (A0 : Option Addr) (n0 c0 : Nat) (G0 Gl : List Mv) (w h : Int) (A : Option Addr) (n c : Nat) (l L : List Int) (W : World) (hg : Ml W (.slice A0 n0 c0) G0) (hl : Ins W A n c l) (hGl : Gl = G0.take 521) (hL : L = l.take 70)
    (hk : ∀ X A' n' c' Ag ng cg, Il X (.slice A' n' c') L → Ml X (.slice Ag ng cg) Gl → Calls Try.prog 36 #[.slice Ag ng cg, .agg #[.int .i64 w, .int .i64 h, .slice A' n' c']] X fun e Y => e = .returned (.tuple #[.slice none 0 0, .int .i64 2]) ∧ Ext X Y) :
    Calls Try.prog 8 #[.slice A0 n0 c0, .agg #[.int .i64 w, .int .i64 h, .slice A n c]] W fun e W' => e = .returned (.bool true) ∧ Ext W W' := by
  have hmv : ∀ X, Ml X (.slice A0 n0 c0) G0 → Calls Try.prog 31 #[.slice A0 n0 c0] X fun e Y => ∃ A' n' c', e = .returned (.slice A' n' c') ∧ Ml Y (.slice A' n' c') Gl ∧ Ext X Y := fun X hX => (moves_any A0 n0 c0 G0 X hX).mono (fun e Y ⟨v, e1, hm, hx⟩ => by
    rw [← hGl] at hm
    have hm' := hm
    obtain ⟨A', c', rfl, -⟩ := hm
    exact ⟨A', _, c', e1, hm', hx⟩)
  have hst : ∀ X, Ins X A n c l → Calls Try.prog 15 #[.agg #[.int .i64 w, .int .i64 h, .slice A n c]] X fun e Y => ∃ A' n' c', e = .returned (.agg #[.int .i64 w, .int .i64 h, .slice A' n' c']) ∧ Il Y (.slice A' n' c') L ∧ Fr X.heap.size (.slice A' n' c') ∧ Ext X Y := fun X hX => by
    rw [hL]; exact stamps_any w h A n c l X hX
  have HMV := Lib.hid hmv; have HST := Lib.hid hst; have HG := Lib.hid hg; have HL := Lib.hid hl; clear hmv hst hg hl hGl hL
  have HK := Lib.hid hk; clear hk
  go_enter Try.func8, Try.ntmps8
  go_upto_region 1 with fail
  have q1 : Q3 (W.alloc (.cells #[.int .i64 w, .int .i64 h, .slice A n c] 24)) W.heap.size (.int .i64 w) (.int .i64 h) (.slice A n c) := by
    refine ⟨?_, ?_, ?_⟩ <;> (rw [World.cell?_alloc_new]; rfl)
  have bb := al1 W (.cells #[.int .i64 w, .int .i64 h, .slice A n c] 24)
  have zz : (W.alloc (.cells #[.int .i64 w, .int .i64 h, .slice A n c] 24)).heap.size = W.heap.size + 1 := by simp
  generalize (W.alloc (.cells #[.int .i64 w, .int .i64 h, .slice A n c] 24)) = W1 at *
  have zle : W.heap.size < W1.heap.size := by omega
  have BB : Hid (Ext W W1) := Lib.hid bb; have HB := Lib.hid q1
  clear bb zz q1
  have ec : Ext W1 W1 := Ext.refl _
  have EC := Lib.hid ec; clear ec
  go_cut [5, 6] from 15 to 22 (fun s5 s6 wx => KCut W1 0 2 s5 s6 wx)
  case first =>
    refine wp_region_noPanic ?_
    refine wp_pool 8 [some 16, some 17, some 18, some 19, some 20, some 15, some 21, some 22] [(7, 5)] [] [(fun (v : Value) (_ : World) => v = .slice A0 n0 c0), (fun (v : Value) (X : World) => ∃ A' n' c', v = .slice A' n' c' ∧ Ml X (.slice A' n' c') Gl), (fun (v : Value) (_ : World) => v = .agg #[.int .i64 w, .int .i64 h, .slice A n c]), (fun (v : Value) (X : World) => ∃ A' n' c', v = .agg #[.int .i64 w, .int .i64 h, .slice A' n' c'] ∧ Il X (.slice A' n' c') L), (fun (v : Value) (_ : World) => v = .tuple #[.slice none 0 0, .int .i64 2]), (fun (v : Value) (_ : World) => v = .tuple #[.slice none 0 0, .int .i64 2]), (fun (v : Value) (_ : World) => v = .slice none 0 0), (fun (v : Value) (_ : World) => v = .int .i64 2)] [noF, noF, noF, noF, noF, noF, noF, noF] (by kernel_rfl) (by kernel_rfl) (by kernel_rfl) (by kernel_rfl) (by kernel_rfl) (by kernel_rfl) (by kernel_rfl) (by kernel_rfl) (fun _ _ _ _ h => h) ⟨Stays.pure _, (fun _ _ _ e ⟨A', n', c', h1, h2⟩ => ⟨A', n', c', h1, h2.ext e⟩), Stays.pure _, (fun _ _ _ e ⟨A', n', c', h1, h2⟩ => ⟨A', n', c', h1, h2.below e⟩), Stays.pure _, Stays.pure _, Stays.pure _, Stays.pure _, True.intro⟩ ?steps ?done
    case steps =>
      simp only [List.take_succ_cons, List.take_zero]
      refine Steps.cons (fun (v : Value) (_ : World) => v = .slice A0 n0 c0) [] rfl (by kernel_rfl) rfl (by kernel_rfl) (fun y X ex0 hf K hK => ?_) ?_
      · clear hf
        have ex := (Ext.drw (Ext.refl _)).trans ex0
        refine Box.mk ?_
        simp only [fill, Act.put, Nat.reduceAdd, List.setIfInBounds_toArray, List.set_cons_zero, List.set_cons_succ] at hK ⊢
        go_simp
        exact hK.out _ _ rfl (Ext.refl _) (fun b hb => by cases hb)
      refine Steps.cons (fun (v : Value) (X : World) => ∃ A' n' c', v = .slice A' n' c' ∧ Ml X (.slice A' n' c') Gl) [0] rfl (by kernel_rfl) rfl (by kernel_rfl) (fun y X ex0 hf K hK => ?_) ?_
      · have h0 : ((fun (v : Value) (_ : World) => v = .slice A0 n0 c0)) (y 0) X := hf.1
        clear hf
        have ex := (Ext.drw (Ext.refl _)).trans ex0
        refine Box.mk ?_
        simp only [fill, Act.put, Nat.reduceAdd, List.setIfInBounds_toArray, List.set_cons_zero, List.set_cons_succ, h0] at hK ⊢
        go_simp
        refine (HMV.out _ (HG.out.ext (BB.out.trans (EC.out.trans ex)))).mono ?_
        rintro e V ⟨A', n', c', rfl, hil, hb⟩
        try go_wp2_with fail
        exact hK.out _ _ ⟨A', n', c', rfl, hil⟩ hb (fun b hb => by cases hb)
      refine Steps.cons (fun (v : Value) (_ : World) => v = .agg #[.int .i64 w, .int .i64 h, .slice A n c]) [] rfl (by kernel_rfl) rfl (by kernel_rfl) (fun y X ex0 hf K hK => ?_) ?_
      · clear hf
        have ex := (Ext.drw (Ext.refl _)).trans ex0
        refine Box.mk ?_
        simp only [fill, Act.put, Nat.reduceAdd, List.setIfInBounds_toArray, List.set_cons_zero, List.set_cons_succ] at hK ⊢
        obtain ⟨q0, q1, q2⟩ := Q3.ext HB.out (by omega) (EC.out.trans ex)
        go_simp
        exact hK.out _ _ rfl (Ext.refl _) (fun b hb => by cases hb)
      refine Steps.cons (fun (v : Value) (X : World) => ∃ A' n' c', v = .agg #[.int .i64 w, .int .i64 h, .slice A' n' c'] ∧ Il X (.slice A' n' c') L) [2, 1] rfl (by kernel_rfl) rfl (by kernel_rfl) (fun y X ex0 hf K hK => ?_) ?_
      · have h2 : ((fun (v : Value) (_ : World) => v = .agg #[.int .i64 w, .int .i64 h, .slice A n c])) (y 2) X := hf.1
        have hh1 : ((fun (v : Value) (X : World) => ∃ A' n' c', v = .slice A' n' c' ∧ Ml X (.slice A' n' c') Gl)) (y 1) X := hf.2.1
        refine Exists.elim hh1 (fun A1 hx1_0 => ?_)
        refine Exists.elim hx1_0 (fun n1 hx1_1 => ?_)
        refine Exists.elim hx1_1 (fun c1 hx1_2 => ?_)
        have h1 := hx1_2.1
        have il1 := hx1_2.2
        clear hh1 hx1_0 hx1_1 hx1_2
        clear hf
        have ex := (Ext.drw (Ext.refl _)).trans ex0
        refine Box.mk ?_
        simp only [fill, Act.put, Nat.reduceAdd, List.setIfInBounds_toArray, List.set_cons_zero, List.set_cons_succ, h2, h1] at hK ⊢
        go_simp
        refine (HST.out _ (HL.out.ext (BB.out.trans (EC.out.trans ex)))).mono ?_
        rintro e V ⟨A', n', c', rfl, hil, hfr, hb⟩
        try go_wp2_with fail
        exact hK.out _ _ ⟨A', n', c', rfl, hil⟩ hb (fun b hb => by cases hb)
      refine Steps.cons (fun (v : Value) (_ : World) => v = .tuple #[.slice none 0 0, .int .i64 2]) [1, 3] rfl (by kernel_rfl) rfl (by kernel_rfl) (fun y X ex0 hf K hK => ?_) ?_
      · have hh1 : ((fun (v : Value) (X : World) => ∃ A' n' c', v = .slice A' n' c' ∧ Ml X (.slice A' n' c') Gl)) (y 1) X := hf.1
        refine Exists.elim hh1 (fun A1 hx1_0 => ?_)
        refine Exists.elim hx1_0 (fun n1 hx1_1 => ?_)
        refine Exists.elim hx1_1 (fun c1 hx1_2 => ?_)
        have h1 := hx1_2.1
        have il1 := hx1_2.2
        clear hh1 hx1_0 hx1_1 hx1_2
        have hh3 : ((fun (v : Value) (X : World) => ∃ A' n' c', v = .agg #[.int .i64 w, .int .i64 h, .slice A' n' c'] ∧ Il X (.slice A' n' c') L)) (y 3) X := hf.2.1
        refine Exists.elim hh3 (fun A3 hx3_0 => ?_)
        refine Exists.elim hx3_0 (fun n3 hx3_1 => ?_)
        refine Exists.elim hx3_1 (fun c3 hx3_2 => ?_)
        have h3 := hx3_2.1
        have il3 := hx3_2.2
        clear hh3 hx3_0 hx3_1 hx3_2
        clear hf
        have ex := (Ext.drw (Ext.refl _)).trans ex0
        refine Box.mk ?_
        simp only [fill, Act.put, Nat.reduceAdd, List.setIfInBounds_toArray, List.set_cons_zero, List.set_cons_succ, h1, h3] at hK ⊢
        go_simp
        refine (HK.out _ A3 n3 c3 A1 n1 c1 il3 il1).mono ?_
        rintro e V ⟨rfl, hb⟩
        try go_wp2_with fail
        exact hK.out _ _ rfl hb (fun b hb => by cases hb)
      refine Steps.cons (fun (v : Value) (_ : World) => v = .tuple #[.slice none 0 0, .int .i64 2]) [4] rfl (by kernel_rfl) rfl (by kernel_rfl) (fun y X ex0 hf K hK => ?_) ?_
      · have h4 : ((fun (v : Value) (_ : World) => v = .tuple #[.slice none 0 0, .int .i64 2])) (y 4) X := hf.1
        clear hf
        have ex := (Ext.drw (Ext.refl _)).trans ex0
        refine Box.mk ?_
        simp only [fill, Act.put, Nat.reduceAdd, List.setIfInBounds_toArray, List.set_cons_zero, List.set_cons_succ, h4] at hK ⊢
        go_simp
        exact hK.out _ _ rfl (Ext.refl _) (fun b hb => by cases hb)
      refine Steps.cons (fun (v : Value) (_ : World) => v = .slice none 0 0) [5] rfl (by kernel_rfl) rfl (by kernel_rfl) (fun y X ex0 hf K hK => ?_) ?_
      · have h5 : ((fun (v : Value) (_ : World) => v = .tuple #[.slice none 0 0, .int .i64 2])) (y 5) X := hf.1
        clear hf
        have ex := (Ext.drw (Ext.refl _)).trans ex0
        refine Box.mk ?_
        simp only [fill, Act.put, Nat.reduceAdd, List.setIfInBounds_toArray, List.set_cons_zero, List.set_cons_succ, h5] at hK ⊢
        go_simp
        exact hK.out _ _ rfl (Ext.refl _) (fun b hb => by cases hb)
      refine Steps.flw (fun (v : Value) (_ : World) => v = .int .i64 2) [5] rfl (by kernel_rfl) (by kernel_rfl) (fun _ => rfl) (fun y X ex0 hf => ?_) ?_
      · have h5 : ((fun (v : Value) (_ : World) => v = .tuple #[.slice none 0 0, .int .i64 2])) (y 5) X := hf.1
        clear hf
        simp only [fill, Act.put, Nat.reduceAdd, List.setIfInBounds_toArray, List.set_cons_zero, List.set_cons_succ, h5]
        exact ⟨_, ⟨by rfl, fun w => by go_simp⟩, rfl⟩
      exact Steps.nil
    case done =>
      intro y X ex hf hlt hsep
      have h0 : ((fun (v : Value) (_ : World) => v = .slice A0 n0 c0)) (y 0) X := hf.1
      have hh1 : ((fun (v : Value) (X : World) => ∃ A' n' c', v = .slice A' n' c' ∧ Ml X (.slice A' n' c') Gl)) (y 1) X := hf.2.1
      refine Exists.elim hh1 (fun A1 hx1_0 => ?_)
      refine Exists.elim hx1_0 (fun n1 hx1_1 => ?_)
      refine Exists.elim hx1_1 (fun c1 hx1_2 => ?_)
      have h1 := hx1_2.1
      have il1 := hx1_2.2
      clear hh1 hx1_0 hx1_1 hx1_2
      have h2 : ((fun (v : Value) (_ : World) => v = .agg #[.int .i64 w, .int .i64 h, .slice A n c])) (y 2) X := hf.2.2.1
      have hh3 : ((fun (v : Value) (X : World) => ∃ A' n' c', v = .agg #[.int .i64 w, .int .i64 h, .slice A' n' c'] ∧ Il X (.slice A' n' c') L)) (y 3) X := hf.2.2.2.1
      refine Exists.elim hh3 (fun A3 hx3_0 => ?_)
      refine Exists.elim hx3_0 (fun n3 hx3_1 => ?_)
      refine Exists.elim hx3_1 (fun c3 hx3_2 => ?_)
      have h3 := hx3_2.1
      have il3 := hx3_2.2
      clear hh3 hx3_0 hx3_1 hx3_2
      have h4 : ((fun (v : Value) (_ : World) => v = .tuple #[.slice none 0 0, .int .i64 2])) (y 4) X := hf.2.2.2.2.1
      have h5 : ((fun (v : Value) (_ : World) => v = .tuple #[.slice none 0 0, .int .i64 2])) (y 5) X := hf.2.2.2.2.2.1
      have h6 : ((fun (v : Value) (_ : World) => v = .slice none 0 0)) (y 6) X := hf.2.2.2.2.2.2.1
      have h7 : ((fun (v : Value) (_ : World) => v = .int .i64 2)) (y 7) X := hf.2.2.2.2.2.2.2.1
      clear hf
      clear hsep hlt
      refine Box.mk ?_
      simp only [List.drop_succ_cons, List.drop_zero, fill, Act.put, Nat.reduceAdd, List.setIfInBounds_toArray, List.set_cons_zero, List.set_cons_succ, h0, h1, h2, h3, h4, h5, h6, h7]
      clear h0 h1 h2 h3 h4 h5 h6 h7
      have EX := Lib.hid ex; clear ex
      go_wp2_with fail
      refine NoPanic.normal ?_
      go_wp2_with fail
      go_meet
      exact ⟨⟨none, 0, rfl⟩, rfl, EX.out⟩
  case rest =>
    obtain ⟨⟨A5, c5, rfl⟩, rfl, ex⟩ := hcut
    have E5 := Lib.hid ex; clear ex EC
    go_wp2_with fail
    refine (awake_any _).mono ?_
    rintro e w3 ⟨rfl, hb⟩
    have E6 := Lib.hid (E5.out.trans hb); clear hb
    go_wp2
    go_ret
    exact ⟨rfl, BB.out.trans E6.out⟩

set_option maxHeartbeats 8000000 in
set_option maxRecDepth 100000 in
theorem stab_ok (A0 : Option Addr) (n0 c0 : Nat) (G0 Gl : List Mv) (w h : Nat) (A : Option Addr) (n c : Nat) (l L : List Int) (W : World) (hg : Ml W (.slice A0 n0 c0) G0) (hl : Ins W A n c l) (hGl : Gl = G0.take 521) (hL : L = l.take 70) (N : Nat) (hN : N = w * h) (hs : okSize w h = true) (hv : vst w h L = true) (hLN : L.length = N) (hG : IsG w h Gl) (h0 : n0 = Gl.length)
    (kn : Nat) (hkn : kn = (Gl.filter (fun m => kpm w h m L)).length)
    (hk : ∀ X A' n' c' Ag ng cg, Il X (.slice A' n' c') L → Ml X (.slice Ag ng cg) Gl → Calls Try.prog 36 #[.slice Ag ng cg, .agg #[.int .i64 w, .int .i64 h, .slice A' n' c']] X fun e Y => ∃ A' c', e = .returned (.tuple #[.slice A' kn c', .int .i64 0]) ∧ Ext X Y)
    (ho : ∀ X A' n' c' Ag ng cg, Il X (.slice A' n' c') L → Ml X (.slice Ag ng cg) Gl → Calls Try.prog 37 #[.slice Ag ng cg, .agg #[.int .i64 w, .int .i64 h, .slice A' n' c']] X fun e Y => ∃ gf cap ne es, e = .returned (.tuple #[.slice (some ⟨gf, 0, none⟩) ne cap, .int .i64 0]) ∧ OS Y w h N L Gl gf cap ne es ∧ Ext X Y)
    (hle : ∀ X l' A' n' c' Ag ng cg, vst w h l' = true → Il X (.slice A' n' c') l' → Ml X (.slice Ag ng cg) Gl → Calls Try.prog 38 #[.slice Ag ng cg, .agg #[.int .i64 w, .int .i64 h, .slice A' n' c']] X fun e Y => ∃ b K, e = .returned (.tuple #[.agg #[.int .i64 w, .int .i64 h, .slice (some ⟨b, 0, none⟩) N N], .int .i64 0]) ∧ LS Y w h N l' Gl b K ∧ Ext X Y) :
    Calls Try.prog 8 #[.slice A0 n0 c0, .agg #[.int .i64 w, .int .i64 h, .slice A n c]] W fun e W' => e = .returned (.bool true) ∧ Ext W W' := by
  have hmv : ∀ X, Ml X (.slice A0 n0 c0) G0 → Calls Try.prog 31 #[.slice A0 n0 c0] X fun e Y => ∃ A' n' c', e = .returned (.slice A' n' c') ∧ Ml Y (.slice A' n' c') Gl ∧ Ext X Y := fun X hX => (moves_any A0 n0 c0 G0 X hX).mono (fun e Y ⟨v, e1, hm, hx⟩ => by
    rw [← hGl] at hm
    have hm' := hm
    obtain ⟨A', c', rfl, -⟩ := hm
    exact ⟨A', _, c', e1, hm', hx⟩)
  have hst : ∀ X, Ins X A n c l → Calls Try.prog 15 #[.agg #[.int .i64 w, .int .i64 h, .slice A n c]] X fun e Y => ∃ A' n' c', e = .returned (.agg #[.int .i64 w, .int .i64 h, .slice A' n' c']) ∧ Il Y (.slice A' n' c') L ∧ Fr X.heap.size (.slice A' n' c') ∧ Ext X Y := fun X hX => by
    rw [hL]; exact stamps_any w h A n c l X hX
  have hNN : N ≤ 64 := by
    have hs' := okSize_iff.1 hs
    have : w * h ≤ 8 * 8 := Nat.mul_le_mul (by omega) (by omega)
    omega
  have hcnt := fun es => Orb.count (L := es) hs hN hLN hG
  have hmv2 := fun (K : List (List Int)) (hK : Orb w h N L Gl K) a ha => Orb.move hs hN hLN hG hK (a := a) ha
  have hva := fun m (hm : m ∈ Gl) => vst_apl (w := w) (h := h) hv hN hLN (hG.has m hm)
  have hkb : kn ≤ n0 := by rw [hkn, h0]; exact List.length_filter_le _ _
  have hn0 : n0 ≤ 521 := by rw [h0, hGl, List.length_take]; omega
  simp only [← hkn, ← h0] at hcnt
  have HCNT := Lib.hid hcnt; have HMOV := Lib.hid hmv2; have HVA := Lib.hid hva; have HV := Lib.hid hv; have HK := Lib.hid hk; have HO := Lib.hid ho; have HLE := Lib.hid hle
  clear hcnt hmv2 hva hkn h0 hv hk ho hle hs hN hLN hG
  have HMV := Lib.hid hmv; have HST := Lib.hid hst; have HG := Lib.hid hg; have HL := Lib.hid hl; clear hmv hst hg hl hGl hL
  go_enter Try.func8, Try.ntmps8
  go_upto_region 1 with fail
  have q1 : Q3 (W.alloc (.cells #[.int .i64 w, .int .i64 h, .slice A n c] 24)) W.heap.size (.int .i64 w) (.int .i64 h) (.slice A n c) := by
    refine ⟨?_, ?_, ?_⟩ <;> (rw [World.cell?_alloc_new]; rfl)
  have bb := al1 W (.cells #[.int .i64 w, .int .i64 h, .slice A n c] 24)
  have zz : (W.alloc (.cells #[.int .i64 w, .int .i64 h, .slice A n c] 24)).heap.size = W.heap.size + 1 := by simp
  generalize (W.alloc (.cells #[.int .i64 w, .int .i64 h, .slice A n c] 24)) = W1 at *
  have zle : W.heap.size < W1.heap.size := by omega
  have BB : Hid (Ext W W1) := Lib.hid bb; have HB := Lib.hid q1
  clear bb zz q1
  have ec : Ext W1 W1 := Ext.refl _
  have EC := Lib.hid ec; clear ec
  go_cut [5, 6] from 15 to 22 (fun s5 s6 wx => KCut W1 kn 0 s5 s6 wx)
  case first =>
    refine wp_region_noPanic ?_
    refine wp_pool 8 [some 16, some 17, some 18, some 19, some 20, some 15, some 21, some 22] [(7, 5)] [] [(fun (v : Value) (_ : World) => v = .slice A0 n0 c0), (fun (v : Value) (X : World) => ∃ A' n' c', v = .slice A' n' c' ∧ Ml X (.slice A' n' c') Gl), (fun (v : Value) (_ : World) => v = .agg #[.int .i64 w, .int .i64 h, .slice A n c]), (fun (v : Value) (X : World) => ∃ A' n' c', v = .agg #[.int .i64 w, .int .i64 h, .slice A' n' c'] ∧ Il X (.slice A' n' c') L), (fun (v : Value) (X : World) => ∃ A' c', v = (.tuple #[(.slice A' kn c'), .int .i64 0])), (fun (v : Value) (X : World) => ∃ A' c', v = (.tuple #[(.slice A' kn c'), .int .i64 0])), (fun (v : Value) (X : World) => ∃ A' c', v = (.slice A' kn c')), (fun (v : Value) (_ : World) => v = .int .i64 0)] [noF, noF, noF, noF, noF, noF, noF, noF] (by kernel_rfl) (by kernel_rfl) (by kernel_rfl) (by kernel_rfl) (by kernel_rfl) (by kernel_rfl) (by kernel_rfl) (by kernel_rfl) (fun _ _ _ _ h => h) ⟨Stays.pure _, (fun _ _ _ e ⟨A', n', c', h1, h2⟩ => ⟨A', n', c', h1, h2.ext e⟩), Stays.pure _, (fun _ _ _ e ⟨A', n', c', h1, h2⟩ => ⟨A', n', c', h1, h2.below e⟩), Stays.pure _, Stays.pure _, Stays.pure _, Stays.pure _, True.intro⟩ ?steps ?done
    case steps =>
      simp only [List.take_succ_cons, List.take_zero]
      refine Steps.cons (fun (v : Value) (_ : World) => v = .slice A0 n0 c0) [] rfl (by kernel_rfl) rfl (by kernel_rfl) (fun y X ex0 hf K hK => ?_) ?_
      · clear hf
        have ex := (Ext.drw (Ext.refl _)).trans ex0
        refine Box.mk ?_
        simp only [fill, Act.put, Nat.reduceAdd, List.setIfInBounds_toArray, List.set_cons_zero, List.set_cons_succ] at hK ⊢
        go_simp
        exact hK.out _ _ rfl (Ext.refl _) (fun b hb => by cases hb)
      refine Steps.cons (fun (v : Value) (X : World) => ∃ A' n' c', v = .slice A' n' c' ∧ Ml X (.slice A' n' c') Gl) [0] rfl (by kernel_rfl) rfl (by kernel_rfl) (fun y X ex0 hf K hK => ?_) ?_
      · have h0 : ((fun (v : Value) (_ : World) => v = .slice A0 n0 c0)) (y 0) X := hf.1
        clear hf
        have ex := (Ext.drw (Ext.refl _)).trans ex0
        refine Box.mk ?_
        simp only [fill, Act.put, Nat.reduceAdd, List.setIfInBounds_toArray, List.set_cons_zero, List.set_cons_succ, h0] at hK ⊢
        go_simp
        refine (HMV.out _ (HG.out.ext (BB.out.trans (EC.out.trans ex)))).mono ?_
        rintro e V ⟨A', n', c', rfl, hil, hb⟩
        try go_wp2_with fail
        exact hK.out _ _ ⟨A', n', c', rfl, hil⟩ hb (fun b hb => by cases hb)
      refine Steps.cons (fun (v : Value) (_ : World) => v = .agg #[.int .i64 w, .int .i64 h, .slice A n c]) [] rfl (by kernel_rfl) rfl (by kernel_rfl) (fun y X ex0 hf K hK => ?_) ?_
      · clear hf
        have ex := (Ext.drw (Ext.refl _)).trans ex0
        refine Box.mk ?_
        simp only [fill, Act.put, Nat.reduceAdd, List.setIfInBounds_toArray, List.set_cons_zero, List.set_cons_succ] at hK ⊢
        obtain ⟨q0, q1, q2⟩ := Q3.ext HB.out (by omega) (EC.out.trans ex)
        go_simp
        exact hK.out _ _ rfl (Ext.refl _) (fun b hb => by cases hb)
      refine Steps.cons (fun (v : Value) (X : World) => ∃ A' n' c', v = .agg #[.int .i64 w, .int .i64 h, .slice A' n' c'] ∧ Il X (.slice A' n' c') L) [2, 1] rfl (by kernel_rfl) rfl (by kernel_rfl) (fun y X ex0 hf K hK => ?_) ?_
      · have h2 : ((fun (v : Value) (_ : World) => v = .agg #[.int .i64 w, .int .i64 h, .slice A n c])) (y 2) X := hf.1
        have hh1 : ((fun (v : Value) (X : World) => ∃ A' n' c', v = .slice A' n' c' ∧ Ml X (.slice A' n' c') Gl)) (y 1) X := hf.2.1
        refine Exists.elim hh1 (fun A1 hx1_0 => ?_)
        refine Exists.elim hx1_0 (fun n1 hx1_1 => ?_)
        refine Exists.elim hx1_1 (fun c1 hx1_2 => ?_)
        have h1 := hx1_2.1
        have il1 := hx1_2.2
        clear hh1 hx1_0 hx1_1 hx1_2
        clear hf
        have ex := (Ext.drw (Ext.refl _)).trans ex0
        refine Box.mk ?_
        simp only [fill, Act.put, Nat.reduceAdd, List.setIfInBounds_toArray, List.set_cons_zero, List.set_cons_succ, h2, h1] at hK ⊢
        go_simp
        refine (HST.out _ (HL.out.ext (BB.out.trans (EC.out.trans ex)))).mono ?_
        rintro e V ⟨A', n', c', rfl, hil, hfr, hb⟩
        try go_wp2_with fail
        exact hK.out _ _ ⟨A', n', c', rfl, hil⟩ hb (fun b hb => by cases hb)
      refine Steps.cons (fun (v : Value) (X : World) => ∃ A' c', v = (.tuple #[(.slice A' kn c'), .int .i64 0])) [1, 3] rfl (by kernel_rfl) rfl (by kernel_rfl) (fun y X ex0 hf K hK => ?_) ?_
      · have hh1 : ((fun (v : Value) (X : World) => ∃ A' n' c', v = .slice A' n' c' ∧ Ml X (.slice A' n' c') Gl)) (y 1) X := hf.1
        refine Exists.elim hh1 (fun A1 hx1_0 => ?_)
        refine Exists.elim hx1_0 (fun n1 hx1_1 => ?_)
        refine Exists.elim hx1_1 (fun c1 hx1_2 => ?_)
        have h1 := hx1_2.1
        have il1 := hx1_2.2
        clear hh1 hx1_0 hx1_1 hx1_2
        have hh3 : ((fun (v : Value) (X : World) => ∃ A' n' c', v = .agg #[.int .i64 w, .int .i64 h, .slice A' n' c'] ∧ Il X (.slice A' n' c') L)) (y 3) X := hf.2.1
        refine Exists.elim hh3 (fun A3 hx3_0 => ?_)
        refine Exists.elim hx3_0 (fun n3 hx3_1 => ?_)
        refine Exists.elim hx3_1 (fun c3 hx3_2 => ?_)
        have h3 := hx3_2.1
        have il3 := hx3_2.2
        clear hh3 hx3_0 hx3_1 hx3_2
        clear hf
        have ex := (Ext.drw (Ext.refl _)).trans ex0
        refine Box.mk ?_
        simp only [fill, Act.put, Nat.reduceAdd, List.setIfInBounds_toArray, List.set_cons_zero, List.set_cons_succ, h1, h3] at hK ⊢
        go_simp
        refine (HK.out _ A3 n3 c3 A1 n1 c1 il3 il1).mono ?_
        rintro e V ⟨A', c'9, rfl, hb⟩
        try go_wp2_with fail
        exact hK.out _ _ ⟨_, _, rfl⟩ hb (fun b hb => by cases hb)
      refine Steps.cons (fun (v : Value) (X : World) => ∃ A' c', v = (.tuple #[(.slice A' kn c'), .int .i64 0])) [4] rfl (by kernel_rfl) rfl (by kernel_rfl) (fun y X ex0 hf K hK => ?_) ?_
      · have hh4 : ((fun (v : Value) (X : World) => ∃ A' c', v = (.tuple #[(.slice A' kn c'), .int .i64 0]))) (y 4) X := hf.1
        refine Exists.elim hh4 (fun A4 hx4_0 => ?_)
        refine Exists.elim hx4_0 (fun c4 hx4_1 => ?_)
        have h4 := hx4_1
        clear hh4 hx4_0 hx4_1
        clear hf
        have ex := (Ext.drw (Ext.refl _)).trans ex0
        refine Box.mk ?_
        simp only [fill, Act.put, Nat.reduceAdd, List.setIfInBounds_toArray, List.set_cons_zero, List.set_cons_succ, h4] at hK ⊢
        go_simp
        exact hK.out _ _ ⟨_, _, rfl⟩ (Ext.refl _) (fun b hb => by cases hb)
      refine Steps.cons (fun (v : Value) (X : World) => ∃ A' c', v = (.slice A' kn c')) [5] rfl (by kernel_rfl) rfl (by kernel_rfl) (fun y X ex0 hf K hK => ?_) ?_
      · have hh5 : ((fun (v : Value) (X : World) => ∃ A' c', v = (.tuple #[(.slice A' kn c'), .int .i64 0]))) (y 5) X := hf.1
        refine Exists.elim hh5 (fun A5 hx5_0 => ?_)
        refine Exists.elim hx5_0 (fun c5 hx5_1 => ?_)
        have h5 := hx5_1
        clear hh5 hx5_0 hx5_1
        clear hf
        have ex := (Ext.drw (Ext.refl _)).trans ex0
        refine Box.mk ?_
        simp only [fill, Act.put, Nat.reduceAdd, List.setIfInBounds_toArray, List.set_cons_zero, List.set_cons_succ, h5] at hK ⊢
        go_simp
        exact hK.out _ _ ⟨_, _, rfl⟩ (Ext.refl _) (fun b hb => by cases hb)
      refine Steps.flw (fun (v : Value) (_ : World) => v = .int .i64 0) [5] rfl (by kernel_rfl) (by kernel_rfl) (fun _ => rfl) (fun y X ex0 hf => ?_) ?_
      · have hh5 : ((fun (v : Value) (X : World) => ∃ A' c', v = (.tuple #[(.slice A' kn c'), .int .i64 0]))) (y 5) X := hf.1
        refine Exists.elim hh5 (fun A5 hx5_0 => ?_)
        refine Exists.elim hx5_0 (fun c5 hx5_1 => ?_)
        have h5 := hx5_1
        clear hh5 hx5_0 hx5_1
        clear hf
        simp only [fill, Act.put, Nat.reduceAdd, List.setIfInBounds_toArray, List.set_cons_zero, List.set_cons_succ, h5]
        exact ⟨_, ⟨by rfl, fun w => by go_simp⟩, rfl⟩
      exact Steps.nil
    case done =>
      intro y X ex hf hlt hsep
      have h0 : ((fun (v : Value) (_ : World) => v = .slice A0 n0 c0)) (y 0) X := hf.1
      have hh1 : ((fun (v : Value) (X : World) => ∃ A' n' c', v = .slice A' n' c' ∧ Ml X (.slice A' n' c') Gl)) (y 1) X := hf.2.1
      refine Exists.elim hh1 (fun A1 hx1_0 => ?_)
      refine Exists.elim hx1_0 (fun n1 hx1_1 => ?_)
      refine Exists.elim hx1_1 (fun c1 hx1_2 => ?_)
      have h1 := hx1_2.1
      have il1 := hx1_2.2
      clear hh1 hx1_0 hx1_1 hx1_2
      have h2 : ((fun (v : Value) (_ : World) => v = .agg #[.int .i64 w, .int .i64 h, .slice A n c])) (y 2) X := hf.2.2.1
      have hh3 : ((fun (v : Value) (X : World) => ∃ A' n' c', v = .agg #[.int .i64 w, .int .i64 h, .slice A' n' c'] ∧ Il X (.slice A' n' c') L)) (y 3) X := hf.2.2.2.1
      refine Exists.elim hh3 (fun A3 hx3_0 => ?_)
      refine Exists.elim hx3_0 (fun n3 hx3_1 => ?_)
      refine Exists.elim hx3_1 (fun c3 hx3_2 => ?_)
      have h3 := hx3_2.1
      have il3 := hx3_2.2
      clear hh3 hx3_0 hx3_1 hx3_2
      have hh4 : ((fun (v : Value) (X : World) => ∃ A' c', v = (.tuple #[(.slice A' kn c'), .int .i64 0]))) (y 4) X := hf.2.2.2.2.1
      refine Exists.elim hh4 (fun A4 hx4_0 => ?_)
      refine Exists.elim hx4_0 (fun c4 hx4_1 => ?_)
      have h4 := hx4_1
      clear hh4 hx4_0 hx4_1
      have hh5 : ((fun (v : Value) (X : World) => ∃ A' c', v = (.tuple #[(.slice A' kn c'), .int .i64 0]))) (y 5) X := hf.2.2.2.2.2.1
      refine Exists.elim hh5 (fun A5 hx5_0 => ?_)
      refine Exists.elim hx5_0 (fun c5 hx5_1 => ?_)
      have h5 := hx5_1
      clear hh5 hx5_0 hx5_1
      have hh6 : ((fun (v : Value) (X : World) => ∃ A' c', v = (.slice A' kn c'))) (y 6) X := hf.2.2.2.2.2.2.1
      refine Exists.elim hh6 (fun A6 hx6_0 => ?_)
      refine Exists.elim hx6_0 (fun c6 hx6_1 => ?_)
      have h6 := hx6_1
      clear hh6 hx6_0 hx6_1
      have h7 : ((fun (v : Value) (_ : World) => v = .int .i64 0)) (y 7) X := hf.2.2.2.2.2.2.2.1
      clear hf
      clear hsep hlt
      refine Box.mk ?_
      simp only [List.drop_succ_cons, List.drop_zero, fill, Act.put, Nat.reduceAdd, List.setIfInBounds_toArray, List.set_cons_zero, List.set_cons_succ, h0, h1, h2, h3, h4, h5, h6, h7]
      clear h0 h1 h2 h3 h4 h5 h6 h7
      have EX := Lib.hid ex; clear ex
      go_wp2_with fail
      refine NoPanic.normal ?_
      go_wp2_with fail
      go_meet
      exact ⟨⟨A6, c6, rfl⟩, rfl, EX.out⟩
  case rest =>
    obtain ⟨⟨A5, c5, rfl⟩, rfl, ex⟩ := hcut
    have E5 := Lib.hid ex; clear ex EC HK
    go_upto_region 4 with fail
    go_cut [7, 8] from 30 to 37 (fun s7 s8 wx => OCut wc w h N L Gl s7 s8 wx)
    case first =>
      refine wp_region_noPanic ?_
      refine wp_pool 8 [some 31, some 32, some 33, some 34, some 35, some 30, some 36, some 37] [(7, 5)] [] [(fun (v : Value) (_ : World) => v = .slice A0 n0 c0), (fun (v : Value) (X : World) => ∃ A' n' c', v = .slice A' n' c' ∧ Ml X (.slice A' n' c') Gl), (fun (v : Value) (_ : World) => v = .agg #[.int .i64 w, .int .i64 h, .slice A n c]), (fun (v : Value) (X : World) => ∃ A' n' c', v = .agg #[.int .i64 w, .int .i64 h, .slice A' n' c'] ∧ Il X (.slice A' n' c') L), (fun (v : Value) (X : World) => ∃ gf cap ne es, v = (.tuple #[(.slice (some ⟨gf, 0, none⟩) ne cap), .int .i64 0]) ∧ OS X w h N L Gl gf cap ne es), (fun (v : Value) (X : World) => ∃ gf cap ne es, v = (.tuple #[(.slice (some ⟨gf, 0, none⟩) ne cap), .int .i64 0]) ∧ OS X w h N L Gl gf cap ne es), (fun (v : Value) (X : World) => ∃ gf cap ne es, v = (.slice (some ⟨gf, 0, none⟩) ne cap) ∧ OS X w h N L Gl gf cap ne es), (fun (v : Value) (_ : World) => v = .int .i64 0)] [noF, noF, noF, noF, noF, noF, noF, noF] (by kernel_rfl) (by kernel_rfl) (by kernel_rfl) (by kernel_rfl) (by kernel_rfl) (by kernel_rfl) (by kernel_rfl) (by kernel_rfl) (fun _ _ _ _ h => h) ⟨Stays.pure _, (fun _ _ _ e ⟨A', n', c', h1, h2⟩ => ⟨A', n', c', h1, h2.ext e⟩), Stays.pure _, (fun _ _ _ e ⟨A', n', c', h1, h2⟩ => ⟨A', n', c', h1, h2.below e⟩), (fun _ _ _ e ⟨gf, cap, ne, es, h1, h2⟩ => ⟨gf, cap, ne, es, h1, h2.ext e⟩), (fun _ _ _ e ⟨gf, cap, ne, es, h1, h2⟩ => ⟨gf, cap, ne, es, h1, h2.ext e⟩), (fun _ _ _ e ⟨gf, cap, ne, es, h1, h2⟩ => ⟨gf, cap, ne, es, h1, h2.ext e⟩), Stays.pure _, True.intro⟩ ?steps ?done
      case steps =>
        simp only [List.take_succ_cons, List.take_zero]
        refine Steps.cons (fun (v : Value) (_ : World) => v = .slice A0 n0 c0) [] rfl (by kernel_rfl) rfl (by kernel_rfl) (fun y X ex0 hf K hK => ?_) ?_
        · clear hf
          have ex := (Ext.drw (Ext.refl _)).trans ex0
          refine Box.mk ?_
          simp only [fill, Act.put, Nat.reduceAdd, List.setIfInBounds_toArray, List.set_cons_zero, List.set_cons_succ] at hK ⊢
          go_simp
          exact hK.out _ _ rfl (Ext.refl _) (fun b hb => by cases hb)
        refine Steps.cons (fun (v : Value) (X : World) => ∃ A' n' c', v = .slice A' n' c' ∧ Ml X (.slice A' n' c') Gl) [0] rfl (by kernel_rfl) rfl (by kernel_rfl) (fun y X ex0 hf K hK => ?_) ?_
        · have h0 : ((fun (v : Value) (_ : World) => v = .slice A0 n0 c0)) (y 0) X := hf.1
          clear hf
          have ex := (Ext.drw (Ext.refl _)).trans ex0
          refine Box.mk ?_
          simp only [fill, Act.put, Nat.reduceAdd, List.setIfInBounds_toArray, List.set_cons_zero, List.set_cons_succ, h0] at hK ⊢
          go_simp
          refine (HMV.out _ (HG.out.ext (BB.out.trans (E5.out.trans ex)))).mono ?_
          rintro e V ⟨A', n', c', rfl, hil, hb⟩
          try go_wp2_with fail
          exact hK.out _ _ ⟨A', n', c', rfl, hil⟩ hb (fun b hb => by cases hb)
        refine Steps.cons (fun (v : Value) (_ : World) => v = .agg #[.int .i64 w, .int .i64 h, .slice A n c]) [] rfl (by kernel_rfl) rfl (by kernel_rfl) (fun y X ex0 hf K hK => ?_) ?_
        · clear hf
          have ex := (Ext.drw (Ext.refl _)).trans ex0
          refine Box.mk ?_
          simp only [fill, Act.put, Nat.reduceAdd, List.setIfInBounds_toArray, List.set_cons_zero, List.set_cons_succ] at hK ⊢
          obtain ⟨q0, q1, q2⟩ := Q3.ext HB.out (by omega) (E5.out.trans ex)
          go_simp
          exact hK.out _ _ rfl (Ext.refl _) (fun b hb => by cases hb)
        refine Steps.cons (fun (v : Value) (X : World) => ∃ A' n' c', v = .agg #[.int .i64 w, .int .i64 h, .slice A' n' c'] ∧ Il X (.slice A' n' c') L) [2, 1] rfl (by kernel_rfl) rfl (by kernel_rfl) (fun y X ex0 hf K hK => ?_) ?_
        · have h2 : ((fun (v : Value) (_ : World) => v = .agg #[.int .i64 w, .int .i64 h, .slice A n c])) (y 2) X := hf.1
          have hh1 : ((fun (v : Value) (X : World) => ∃ A' n' c', v = .slice A' n' c' ∧ Ml X (.slice A' n' c') Gl)) (y 1) X := hf.2.1
          refine Exists.elim hh1 (fun A1 hx1_0 => ?_)
          refine Exists.elim hx1_0 (fun n1 hx1_1 => ?_)
          refine Exists.elim hx1_1 (fun c1 hx1_2 => ?_)
          have h1 := hx1_2.1
          have il1 := hx1_2.2
          clear hh1 hx1_0 hx1_1 hx1_2
          clear hf
          have ex := (Ext.drw (Ext.refl _)).trans ex0
          refine Box.mk ?_
          simp only [fill, Act.put, Nat.reduceAdd, List.setIfInBounds_toArray, List.set_cons_zero, List.set_cons_succ, h2, h1] at hK ⊢
          go_simp
          refine (HST.out _ (HL.out.ext (BB.out.trans (E5.out.trans ex)))).mono ?_
          rintro e V ⟨A', n', c', rfl, hil, hfr, hb⟩
          try go_wp2_with fail
          exact hK.out _ _ ⟨A', n', c', rfl, hil⟩ hb (fun b hb => by cases hb)
        refine Steps.cons (fun (v : Value) (X : World) => ∃ gf cap ne es, v = (.tuple #[(.slice (some ⟨gf, 0, none⟩) ne cap), .int .i64 0]) ∧ OS X w h N L Gl gf cap ne es) [1, 3] rfl (by kernel_rfl) rfl (by kernel_rfl) (fun y X ex0 hf K hK => ?_) ?_
        · have hh1 : ((fun (v : Value) (X : World) => ∃ A' n' c', v = .slice A' n' c' ∧ Ml X (.slice A' n' c') Gl)) (y 1) X := hf.1
          refine Exists.elim hh1 (fun A1 hx1_0 => ?_)
          refine Exists.elim hx1_0 (fun n1 hx1_1 => ?_)
          refine Exists.elim hx1_1 (fun c1 hx1_2 => ?_)
          have h1 := hx1_2.1
          have il1 := hx1_2.2
          clear hh1 hx1_0 hx1_1 hx1_2
          have hh3 : ((fun (v : Value) (X : World) => ∃ A' n' c', v = .agg #[.int .i64 w, .int .i64 h, .slice A' n' c'] ∧ Il X (.slice A' n' c') L)) (y 3) X := hf.2.1
          refine Exists.elim hh3 (fun A3 hx3_0 => ?_)
          refine Exists.elim hx3_0 (fun n3 hx3_1 => ?_)
          refine Exists.elim hx3_1 (fun c3 hx3_2 => ?_)
          have h3 := hx3_2.1
          have il3 := hx3_2.2
          clear hh3 hx3_0 hx3_1 hx3_2
          clear hf
          have ex := (Ext.drw (Ext.refl _)).trans ex0
          refine Box.mk ?_
          simp only [fill, Act.put, Nat.reduceAdd, List.setIfInBounds_toArray, List.set_cons_zero, List.set_cons_succ, h1, h3] at hK ⊢
          go_simp
          refine (HO.out _ A3 n3 c3 A1 n1 c1 il3 il1).mono ?_
          rintro e V ⟨gf9, cap9, ne9, es9, rfl, hos, hb⟩
          try go_wp2_with fail
          exact hK.out _ _ ⟨_, _, _, _, rfl, hos⟩ hb (fun b hb => by cases hb)
        refine Steps.cons (fun (v : Value) (X : World) => ∃ gf cap ne es, v = (.tuple #[(.slice (some ⟨gf, 0, none⟩) ne cap), .int .i64 0]) ∧ OS X w h N L Gl gf cap ne es) [4] rfl (by kernel_rfl) rfl (by kernel_rfl) (fun y X ex0 hf K hK => ?_) ?_
        · have hh4 : ((fun (v : Value) (X : World) => ∃ gf cap ne es, v = (.tuple #[(.slice (some ⟨gf, 0, none⟩) ne cap), .int .i64 0]) ∧ OS X w h N L Gl gf cap ne es)) (y 4) X := hf.1
          refine Exists.elim hh4 (fun gf4 hx4_0 => ?_)
          refine Exists.elim hx4_0 (fun cap4 hx4_1 => ?_)
          refine Exists.elim hx4_1 (fun ne4 hx4_2 => ?_)
          refine Exists.elim hx4_2 (fun es4 hx4_3 => ?_)
          have h4 := hx4_3.1
          have os4 := hx4_3.2
          clear hh4 hx4_0 hx4_1 hx4_2 hx4_3
          clear hf
          have ex := (Ext.drw (Ext.refl _)).trans ex0
          refine Box.mk ?_
          simp only [fill, Act.put, Nat.reduceAdd, List.setIfInBounds_toArray, List.set_cons_zero, List.set_cons_succ, h4] at hK ⊢
          go_simp
          exact hK.out _ _ ⟨_, _, _, _, rfl, os4⟩ (Ext.refl _) (fun b hb => by cases hb)
        refine Steps.cons (fun (v : Value) (X : World) => ∃ gf cap ne es, v = (.slice (some ⟨gf, 0, none⟩) ne cap) ∧ OS X w h N L Gl gf cap ne es) [5] rfl (by kernel_rfl) rfl (by kernel_rfl) (fun y X ex0 hf K hK => ?_) ?_
        · have hh5 : ((fun (v : Value) (X : World) => ∃ gf cap ne es, v = (.tuple #[(.slice (some ⟨gf, 0, none⟩) ne cap), .int .i64 0]) ∧ OS X w h N L Gl gf cap ne es)) (y 5) X := hf.1
          refine Exists.elim hh5 (fun gf5 hx5_0 => ?_)
          refine Exists.elim hx5_0 (fun cap5 hx5_1 => ?_)
          refine Exists.elim hx5_1 (fun ne5 hx5_2 => ?_)
          refine Exists.elim hx5_2 (fun es5 hx5_3 => ?_)
          have h5 := hx5_3.1
          have os5 := hx5_3.2
          clear hh5 hx5_0 hx5_1 hx5_2 hx5_3
          clear hf
          have ex := (Ext.drw (Ext.refl _)).trans ex0
          refine Box.mk ?_
          simp only [fill, Act.put, Nat.reduceAdd, List.setIfInBounds_toArray, List.set_cons_zero, List.set_cons_succ, h5] at hK ⊢
          go_simp
          exact hK.out _ _ ⟨_, _, _, _, rfl, os5⟩ (Ext.refl _) (fun b hb => by cases hb)
        refine Steps.flw (fun (v : Value) (_ : World) => v = .int .i64 0) [5] rfl (by kernel_rfl) (by kernel_rfl) (fun _ => rfl) (fun y X ex0 hf => ?_) ?_
        · have hh5 : ((fun (v : Value) (X : World) => ∃ gf cap ne es, v = (.tuple #[(.slice (some ⟨gf, 0, none⟩) ne cap), .int .i64 0]) ∧ OS X w h N L Gl gf cap ne es)) (y 5) X := hf.1
          refine Exists.elim hh5 (fun gf5 hx5_0 => ?_)
          refine Exists.elim hx5_0 (fun cap5 hx5_1 => ?_)
          refine Exists.elim hx5_1 (fun ne5 hx5_2 => ?_)
          refine Exists.elim hx5_2 (fun es5 hx5_3 => ?_)
          have h5 := hx5_3.1
          have os5 := hx5_3.2
          clear hh5 hx5_0 hx5_1 hx5_2 hx5_3
          clear hf
          simp only [fill, Act.put, Nat.reduceAdd, List.setIfInBounds_toArray, List.set_cons_zero, List.set_cons_succ, h5]
          exact ⟨_, ⟨by rfl, fun w => by go_simp⟩, rfl⟩
        exact Steps.nil
      case done =>
        intro y X ex hf hlt hsep
        have h0 : ((fun (v : Value) (_ : World) => v = .slice A0 n0 c0)) (y 0) X := hf.1
        have hh1 : ((fun (v : Value) (X : World) => ∃ A' n' c', v = .slice A' n' c' ∧ Ml X (.slice A' n' c') Gl)) (y 1) X := hf.2.1
        refine Exists.elim hh1 (fun A1 hx1_0 => ?_)
        refine Exists.elim hx1_0 (fun n1 hx1_1 => ?_)
        refine Exists.elim hx1_1 (fun c1 hx1_2 => ?_)
        have h1 := hx1_2.1
        have il1 := hx1_2.2
        clear hh1 hx1_0 hx1_1 hx1_2
        have h2 : ((fun (v : Value) (_ : World) => v = .agg #[.int .i64 w, .int .i64 h, .slice A n c])) (y 2) X := hf.2.2.1
        have hh3 : ((fun (v : Value) (X : World) => ∃ A' n' c', v = .agg #[.int .i64 w, .int .i64 h, .slice A' n' c'] ∧ Il X (.slice A' n' c') L)) (y 3) X := hf.2.2.2.1
        refine Exists.elim hh3 (fun A3 hx3_0 => ?_)
        refine Exists.elim hx3_0 (fun n3 hx3_1 => ?_)
        refine Exists.elim hx3_1 (fun c3 hx3_2 => ?_)
        have h3 := hx3_2.1
        have il3 := hx3_2.2
        clear hh3 hx3_0 hx3_1 hx3_2
        have hh4 : ((fun (v : Value) (X : World) => ∃ gf cap ne es, v = (.tuple #[(.slice (some ⟨gf, 0, none⟩) ne cap), .int .i64 0]) ∧ OS X w h N L Gl gf cap ne es)) (y 4) X := hf.2.2.2.2.1
        refine Exists.elim hh4 (fun gf4 hx4_0 => ?_)
        refine Exists.elim hx4_0 (fun cap4 hx4_1 => ?_)
        refine Exists.elim hx4_1 (fun ne4 hx4_2 => ?_)
        refine Exists.elim hx4_2 (fun es4 hx4_3 => ?_)
        have h4 := hx4_3.1
        have os4 := hx4_3.2
        clear hh4 hx4_0 hx4_1 hx4_2 hx4_3
        have hh5 : ((fun (v : Value) (X : World) => ∃ gf cap ne es, v = (.tuple #[(.slice (some ⟨gf, 0, none⟩) ne cap), .int .i64 0]) ∧ OS X w h N L Gl gf cap ne es)) (y 5) X := hf.2.2.2.2.2.1
        refine Exists.elim hh5 (fun gf5 hx5_0 => ?_)
        refine Exists.elim hx5_0 (fun cap5 hx5_1 => ?_)
        refine Exists.elim hx5_1 (fun ne5 hx5_2 => ?_)
        refine Exists.elim hx5_2 (fun es5 hx5_3 => ?_)
        have h5 := hx5_3.1
        have os5 := hx5_3.2
        clear hh5 hx5_0 hx5_1 hx5_2 hx5_3
        have hh6 : ((fun (v : Value) (X : World) => ∃ gf cap ne es, v = (.slice (some ⟨gf, 0, none⟩) ne cap) ∧ OS X w h N L Gl gf cap ne es)) (y 6) X := hf.2.2.2.2.2.2.1
        refine Exists.elim hh6 (fun gf6 hx6_0 => ?_)
        refine Exists.elim hx6_0 (fun cap6 hx6_1 => ?_)
        refine Exists.elim hx6_1 (fun ne6 hx6_2 => ?_)
        refine Exists.elim hx6_2 (fun es6 hx6_3 => ?_)
        have h6 := hx6_3.1
        have os6 := hx6_3.2
        clear hh6 hx6_0 hx6_1 hx6_2 hx6_3
        have h7 : ((fun (v : Value) (_ : World) => v = .int .i64 0)) (y 7) X := hf.2.2.2.2.2.2.2.1
        clear hf
        clear hsep hlt
        refine Box.mk ?_
        simp only [List.drop_succ_cons, List.drop_zero, fill, Act.put, Nat.reduceAdd, List.setIfInBounds_toArray, List.set_cons_zero, List.set_cons_succ, h0, h1, h2, h3, h4, h5, h6, h7]
        clear h0 h1 h2 h3 h4 h5 h6 h7
        have EX := Lib.hid ex; clear ex
        go_wp2_with fail
        refine NoPanic.normal ?_
        go_wp2_with fail
        go_meet
        exact ⟨gf6, cap6, ne6, es6, rfl, rfl, os6, EX.out⟩
    case rest =>
      obtain ⟨gf, cap, ne, es, rfl, rfl, hos, ex⟩ := hcut
      have E7 := Lib.hid (E5.out.trans ex); have HOS := Lib.hid hos; clear ex E5 HO hos
      go_upto_region 5 with fail
      go_cut [9, 10] from 38 to 45 (fun s9 s10 wx => LCut wc w h N L Gl s9 s10 wx)
      case first =>
        refine wp_region_noPanic ?_
        refine wp_pool 9 [some 39, some 40, some 41, some 42, some 43, some 38, some 44, some 45, some 9] [(7, 5)] [8] [(fun (v : Value) (_ : World) => v = .slice A0 n0 c0), (fun (v : Value) (X : World) => ∃ A' n' c', v = .slice A' n' c' ∧ Ml X (.slice A' n' c') Gl), (fun (v : Value) (_ : World) => v = .agg #[.int .i64 w, .int .i64 h, .slice A n c]), (fun (v : Value) (X : World) => ∃ A' n' c', v = .agg #[.int .i64 w, .int .i64 h, .slice A' n' c'] ∧ Il X (.slice A' n' c') L), (fun (v : Value) (X : World) => ∃ b K, v = (.tuple #[(.agg #[.int .i64 w, .int .i64 h, .slice (some ⟨b, 0, none⟩) N N]), .int .i64 0]) ∧ LS X w h N L Gl b K), (fun (v : Value) (X : World) => ∃ b K, v = (.tuple #[(.agg #[.int .i64 w, .int .i64 h, .slice (some ⟨b, 0, none⟩) N N]), .int .i64 0]) ∧ LS X w h N L Gl b K), (fun (v : Value) (X : World) => ∃ b K, v = (.agg #[.int .i64 w, .int .i64 h, .slice (some ⟨b, 0, none⟩) N N]) ∧ LS X w h N L Gl b K), (fun (v : Value) (_ : World) => v = .int .i64 0), (fun (v : Value) (X : World) => ∃ g, v = .pointer (some ⟨g, 0, none⟩) ∧ wc.heap.size ≤ g ∧ T27 X g)] [noF, noF, noF, noF, noF, noF, noF, noF, ptrF] (by kernel_rfl) (by kernel_rfl) (by kernel_rfl) (by kernel_rfl) (by kernel_rfl) (by kernel_rfl) (by kernel_rfl) (by kernel_rfl) (fun _ _ _ _ h => h) ⟨Stays.pure _, (fun _ _ _ e ⟨A', n', c', h1, h2⟩ => ⟨A', n', c', h1, h2.ext e⟩), Stays.pure _, (fun _ _ _ e ⟨A', n', c', h1, h2⟩ => ⟨A', n', c', h1, h2.below e⟩), (fun _ _ _ e ⟨b, K, h1, h2⟩ => ⟨b, K, h1, h2.ext e⟩), (fun _ _ _ e ⟨b, K, h1, h2⟩ => ⟨b, K, h1, h2.ext e⟩), (fun _ _ _ e ⟨b, K, h1, h2⟩ => ⟨b, K, h1, h2.ext e⟩), Stays.pure _, (fun _ _ _ e ⟨g, h1, h2, h3⟩ => ⟨g, h1, h2, h3.ext e⟩), True.intro⟩ ?steps ?done
        case steps =>
          simp only [List.take_succ_cons, List.take_zero]
          refine Steps.cons (fun (v : Value) (_ : World) => v = .slice A0 n0 c0) [] rfl (by kernel_rfl) rfl (by kernel_rfl) (fun y X ex0 hf K hK => ?_) ?_
          · clear hf
            have ex := (Ext.drw (Ext.refl _)).trans ex0
            refine Box.mk ?_
            simp only [fill, Act.put, Nat.reduceAdd, List.setIfInBounds_toArray, List.set_cons_zero, List.set_cons_succ] at hK ⊢
            go_simp
            exact hK.out _ _ rfl (Ext.refl _) (fun b hb => by cases hb)
          refine Steps.cons (fun (v : Value) (X : World) => ∃ A' n' c', v = .slice A' n' c' ∧ Ml X (.slice A' n' c') Gl) [0] rfl (by kernel_rfl) rfl (by kernel_rfl) (fun y X ex0 hf K hK => ?_) ?_
          · have h0 : ((fun (v : Value) (_ : World) => v = .slice A0 n0 c0)) (y 0) X := hf.1
            clear hf
            have ex := (Ext.drw (Ext.refl _)).trans ex0
            refine Box.mk ?_
            simp only [fill, Act.put, Nat.reduceAdd, List.setIfInBounds_toArray, List.set_cons_zero, List.set_cons_succ, h0] at hK ⊢
            go_simp
            refine (HMV.out _ (HG.out.ext (BB.out.trans (E7.out.trans ex)))).mono ?_
            rintro e V ⟨A', n', c', rfl, hil, hb⟩
            try go_wp2_with fail
            exact hK.out _ _ ⟨A', n', c', rfl, hil⟩ hb (fun b hb => by cases hb)
          refine Steps.cons (fun (v : Value) (_ : World) => v = .agg #[.int .i64 w, .int .i64 h, .slice A n c]) [] rfl (by kernel_rfl) rfl (by kernel_rfl) (fun y X ex0 hf K hK => ?_) ?_
          · clear hf
            have ex := (Ext.drw (Ext.refl _)).trans ex0
            refine Box.mk ?_
            simp only [fill, Act.put, Nat.reduceAdd, List.setIfInBounds_toArray, List.set_cons_zero, List.set_cons_succ] at hK ⊢
            obtain ⟨q0, q1, q2⟩ := Q3.ext HB.out (by omega) (E7.out.trans ex)
            go_simp
            exact hK.out _ _ rfl (Ext.refl _) (fun b hb => by cases hb)
          refine Steps.cons (fun (v : Value) (X : World) => ∃ A' n' c', v = .agg #[.int .i64 w, .int .i64 h, .slice A' n' c'] ∧ Il X (.slice A' n' c') L) [2, 1] rfl (by kernel_rfl) rfl (by kernel_rfl) (fun y X ex0 hf K hK => ?_) ?_
          · have h2 : ((fun (v : Value) (_ : World) => v = .agg #[.int .i64 w, .int .i64 h, .slice A n c])) (y 2) X := hf.1
            have hh1 : ((fun (v : Value) (X : World) => ∃ A' n' c', v = .slice A' n' c' ∧ Ml X (.slice A' n' c') Gl)) (y 1) X := hf.2.1
            refine Exists.elim hh1 (fun A1 hx1_0 => ?_)
            refine Exists.elim hx1_0 (fun n1 hx1_1 => ?_)
            refine Exists.elim hx1_1 (fun c1 hx1_2 => ?_)
            have h1 := hx1_2.1
            have il1 := hx1_2.2
            clear hh1 hx1_0 hx1_1 hx1_2
            clear hf
            have ex := (Ext.drw (Ext.refl _)).trans ex0
            refine Box.mk ?_
            simp only [fill, Act.put, Nat.reduceAdd, List.setIfInBounds_toArray, List.set_cons_zero, List.set_cons_succ, h2, h1] at hK ⊢
            go_simp
            refine (HST.out _ (HL.out.ext (BB.out.trans (E7.out.trans ex)))).mono ?_
            rintro e V ⟨A', n', c', rfl, hil, hfr, hb⟩
            try go_wp2_with fail
            exact hK.out _ _ ⟨A', n', c', rfl, hil⟩ hb (fun b hb => by cases hb)
          refine Steps.cons (fun (v : Value) (X : World) => ∃ b K, v = (.tuple #[(.agg #[.int .i64 w, .int .i64 h, .slice (some ⟨b, 0, none⟩) N N]), .int .i64 0]) ∧ LS X w h N L Gl b K) [1, 3] rfl (by kernel_rfl) rfl (by kernel_rfl) (fun y X ex0 hf K hK => ?_) ?_
          · have hh1 : ((fun (v : Value) (X : World) => ∃ A' n' c', v = .slice A' n' c' ∧ Ml X (.slice A' n' c') Gl)) (y 1) X := hf.1
            refine Exists.elim hh1 (fun A1 hx1_0 => ?_)
            refine Exists.elim hx1_0 (fun n1 hx1_1 => ?_)
            refine Exists.elim hx1_1 (fun c1 hx1_2 => ?_)
            have h1 := hx1_2.1
            have il1 := hx1_2.2
            clear hh1 hx1_0 hx1_1 hx1_2
            have hh3 : ((fun (v : Value) (X : World) => ∃ A' n' c', v = .agg #[.int .i64 w, .int .i64 h, .slice A' n' c'] ∧ Il X (.slice A' n' c') L)) (y 3) X := hf.2.1
            refine Exists.elim hh3 (fun A3 hx3_0 => ?_)
            refine Exists.elim hx3_0 (fun n3 hx3_1 => ?_)
            refine Exists.elim hx3_1 (fun c3 hx3_2 => ?_)
            have h3 := hx3_2.1
            have il3 := hx3_2.2
            clear hh3 hx3_0 hx3_1 hx3_2
            clear hf
            have ex := (Ext.drw (Ext.refl _)).trans ex0
            refine Box.mk ?_
            simp only [fill, Act.put, Nat.reduceAdd, List.setIfInBounds_toArray, List.set_cons_zero, List.set_cons_succ, h1, h3] at hK ⊢
            go_simp
            refine (HLE.out _ L A3 n3 c3 A1 n1 c1 HV.out il3 il1).mono ?_
            rintro e V ⟨b9, K9, rfl, hos, hb⟩
            try go_wp2_with fail
            exact hK.out _ _ ⟨_, _, rfl, hos⟩ hb (fun b hb => by cases hb)
          refine Steps.cons (fun (v : Value) (X : World) => ∃ b K, v = (.tuple #[(.agg #[.int .i64 w, .int .i64 h, .slice (some ⟨b, 0, none⟩) N N]), .int .i64 0]) ∧ LS X w h N L Gl b K) [4] rfl (by kernel_rfl) rfl (by kernel_rfl) (fun y X ex0 hf K hK => ?_) ?_
          · have hh4 : ((fun (v : Value) (X : World) => ∃ b K, v = (.tuple #[(.agg #[.int .i64 w, .int .i64 h, .slice (some ⟨b, 0, none⟩) N N]), .int .i64 0]) ∧ LS X w h N L Gl b K)) (y 4) X := hf.1
            refine Exists.elim hh4 (fun b4 hx4_0 => ?_)
            refine Exists.elim hx4_0 (fun K4 hx4_1 => ?_)
            have h4 := hx4_1.1
            have ls4 := hx4_1.2
            clear hh4 hx4_0 hx4_1
            clear hf
            have ex := (Ext.drw (Ext.refl _)).trans ex0
            refine Box.mk ?_
            simp only [fill, Act.put, Nat.reduceAdd, List.setIfInBounds_toArray, List.set_cons_zero, List.set_cons_succ, h4] at hK ⊢
            go_simp
            exact hK.out _ _ ⟨_, _, rfl, ls4⟩ (Ext.refl _) (fun b hb => by cases hb)
          refine Steps.cons (fun (v : Value) (X : World) => ∃ b K, v = (.agg #[.int .i64 w, .int .i64 h, .slice (some ⟨b, 0, none⟩) N N]) ∧ LS X w h N L Gl b K) [5] rfl (by kernel_rfl) rfl (by kernel_rfl) (fun y X ex0 hf K hK => ?_) ?_
          · have hh5 : ((fun (v : Value) (X : World) => ∃ b K, v = (.tuple #[(.agg #[.int .i64 w, .int .i64 h, .slice (some ⟨b, 0, none⟩) N N]), .int .i64 0]) ∧ LS X w h N L Gl b K)) (y 5) X := hf.1
            refine Exists.elim hh5 (fun b5 hx5_0 => ?_)
            refine Exists.elim hx5_0 (fun K5 hx5_1 => ?_)
            have h5 := hx5_1.1
            have ls5 := hx5_1.2
            clear hh5 hx5_0 hx5_1
            clear hf
            have ex := (Ext.drw (Ext.refl _)).trans ex0
            refine Box.mk ?_
            simp only [fill, Act.put, Nat.reduceAdd, List.setIfInBounds_toArray, List.set_cons_zero, List.set_cons_succ, h5] at hK ⊢
            go_simp
            exact hK.out _ _ ⟨_, _, rfl, ls5⟩ (Ext.refl _) (fun b hb => by cases hb)
          refine Steps.flw (fun (v : Value) (_ : World) => v = .int .i64 0) [5] rfl (by kernel_rfl) (by kernel_rfl) (fun _ => rfl) (fun y X ex0 hf => ?_) ?_
          · have hh5 : ((fun (v : Value) (X : World) => ∃ b K, v = (.tuple #[(.agg #[.int .i64 w, .int .i64 h, .slice (some ⟨b, 0, none⟩) N N]), .int .i64 0]) ∧ LS X w h N L Gl b K)) (y 5) X := hf.1
            refine Exists.elim hh5 (fun b5 hx5_0 => ?_)
            refine Exists.elim hx5_0 (fun K5 hx5_1 => ?_)
            have h5 := hx5_1.1
            have ls5 := hx5_1.2
            clear hh5 hx5_0 hx5_1
            clear hf
            simp only [fill, Act.put, Nat.reduceAdd, List.setIfInBounds_toArray, List.set_cons_zero, List.set_cons_succ, h5]
            exact ⟨_, ⟨by rfl, fun w => by go_simp⟩, rfl⟩
          refine Steps.cons (fun (v : Value) (X : World) => ∃ g, v = .pointer (some ⟨g, 0, none⟩) ∧ wc.heap.size ≤ g ∧ T27 X g) [] rfl (by kernel_rfl) rfl (by kernel_rfl) (fun y X ex0 hf K hK => ?_) ?_
          · clear hf
            have ex := (Ext.drw (Ext.refl _)).trans ex0
            refine Box.mk ?_
            simp only [fill, Act.put, Nat.reduceAdd, List.setIfInBounds_toArray, List.set_cons_zero, List.set_cons_succ] at hK ⊢
            go_simp
            exact hK.out _ _ ⟨X.heap.size, rfl, ex.size, ⟨_, _, _, heap_alloc_new X (.cells #[.int .i64 0, .int .i64 0, .slice none 0 0] 27)⟩⟩ (Ext.alc (Ext.refl X) (.cells #[.int .i64 0, .int .i64 0, .slice none 0 0] 27)) (New.ptr (Nat.le_refl _) (by simp))
          exact Steps.nil
        case done =>
          intro y X ex hf hlt hsep
          have h0 : ((fun (v : Value) (_ : World) => v = .slice A0 n0 c0)) (y 0) X := hf.1
          have hh1 : ((fun (v : Value) (X : World) => ∃ A' n' c', v = .slice A' n' c' ∧ Ml X (.slice A' n' c') Gl)) (y 1) X := hf.2.1
          refine Exists.elim hh1 (fun A1 hx1_0 => ?_)
          refine Exists.elim hx1_0 (fun n1 hx1_1 => ?_)
          refine Exists.elim hx1_1 (fun c1 hx1_2 => ?_)
          have h1 := hx1_2.1
          have il1 := hx1_2.2
          clear hh1 hx1_0 hx1_1 hx1_2
          have h2 : ((fun (v : Value) (_ : World) => v = .agg #[.int .i64 w, .int .i64 h, .slice A n c])) (y 2) X := hf.2.2.1
          have hh3 : ((fun (v : Value) (X : World) => ∃ A' n' c', v = .agg #[.int .i64 w, .int .i64 h, .slice A' n' c'] ∧ Il X (.slice A' n' c') L)) (y 3) X := hf.2.2.2.1
          refine Exists.elim hh3 (fun A3 hx3_0 => ?_)
          refine Exists.elim hx3_0 (fun n3 hx3_1 => ?_)
          refine Exists.elim hx3_1 (fun c3 hx3_2 => ?_)
          have h3 := hx3_2.1
          have il3 := hx3_2.2
          clear hh3 hx3_0 hx3_1 hx3_2
          have hh4 : ((fun (v : Value) (X : World) => ∃ b K, v = (.tuple #[(.agg #[.int .i64 w, .int .i64 h, .slice (some ⟨b, 0, none⟩) N N]), .int .i64 0]) ∧ LS X w h N L Gl b K)) (y 4) X := hf.2.2.2.2.1
          refine Exists.elim hh4 (fun b4 hx4_0 => ?_)
          refine Exists.elim hx4_0 (fun K4 hx4_1 => ?_)
          have h4 := hx4_1.1
          have ls4 := hx4_1.2
          clear hh4 hx4_0 hx4_1
          have hh5 : ((fun (v : Value) (X : World) => ∃ b K, v = (.tuple #[(.agg #[.int .i64 w, .int .i64 h, .slice (some ⟨b, 0, none⟩) N N]), .int .i64 0]) ∧ LS X w h N L Gl b K)) (y 5) X := hf.2.2.2.2.2.1
          refine Exists.elim hh5 (fun b5 hx5_0 => ?_)
          refine Exists.elim hx5_0 (fun K5 hx5_1 => ?_)
          have h5 := hx5_1.1
          have ls5 := hx5_1.2
          clear hh5 hx5_0 hx5_1
          have hh6 : ((fun (v : Value) (X : World) => ∃ b K, v = (.agg #[.int .i64 w, .int .i64 h, .slice (some ⟨b, 0, none⟩) N N]) ∧ LS X w h N L Gl b K)) (y 6) X := hf.2.2.2.2.2.2.1
          refine Exists.elim hh6 (fun b6 hx6_0 => ?_)
          refine Exists.elim hx6_0 (fun K6 hx6_1 => ?_)
          have h6 := hx6_1.1
          have ls6 := hx6_1.2
          clear hh6 hx6_0 hx6_1
          have h7 : ((fun (v : Value) (_ : World) => v = .int .i64 0)) (y 7) X := hf.2.2.2.2.2.2.2.1
          have hh8 : ((fun (v : Value) (X : World) => ∃ g, v = .pointer (some ⟨g, 0, none⟩) ∧ wc.heap.size ≤ g ∧ T27 X g)) (y 8) X := hf.2.2.2.2.2.2.2.2.1
          refine Exists.elim hh8 (fun g8 hx8_0 => ?_)
          have h8 := hx8_0.1
          have z8 := hx8_0.2.1
          have q8 := hx8_0.2.2
          clear hh8 hx8_0
          clear hf
          clear hsep hlt
          refine Box.mk ?_
          simp only [List.drop_succ_cons, List.drop_zero, fill, Act.put, Nat.reduceAdd, List.setIfInBounds_toArray, List.set_cons_zero, List.set_cons_succ, h0, h1, h2, h3, h4, h5, h6, h7, h8]
          clear h0 h1 h2 h3 h4 h5 h6 h7 h8
          obtain ⟨⟨_, _, _, k0, k1, k2⟩, k4⟩ := q8.tb.facts
          have hne := q8.ne ls6.2.2.1
          have QT := Lib.hid q8; have LL := Lib.hid ls6; have hlt := q8.lt; clear q8 ls6
          have EX := Lib.hid ex; clear ex
          go_wp2_with fail
          refine NoPanic.normal ?_
          go_wp2_with fail
          go_meet
          exact ⟨g8, b6, K6, rfl, rfl, T27.put QT.out _ _ _, by simp [World.setCell]; omega, ⟨LL.out.1, LL.out.2.1, ((LL.out.2.2.1.far hne).far hne).far hne, LL.out.2.2.2⟩, z8, ((EX.out.sc z8).sc z8).sc z8⟩
      case rest =>
        obtain ⟨g9, b9, K9, rfl, rfl, hq9, hlt9, hls9, hg9, ex⟩ := hcut
        have OSX := HOS.out.ext ex
        obtain ⟨z1, z2, z3, z4, z5, zr, za, zo⟩ := OSX
        have hprod : kn * ne = n0 := by rw [z1, ← List.length_map (f := Sd.l)]; exact HCNT.out _ zo
        have hprodi : (kn : Int) * (ne : Int) = (n0 : Int) := by rw [← hprod]; simp
        have hbt : kn * ne ≤ 521 := by omega
        have E9 := Lib.hid (E7.out.trans ex); have HQ9 := Lib.hid hq9; have HL9 := Lib.hid hls9; have ZR := Lib.hid zr; have ZA := Lib.hid za; have ZO := Lib.hid zo; have Z1 := Lib.hid z1
        clear ex hq9 hls9 zr za zo z1 HOS E7 HCNT
        go_upto_region 8 with fail
        go_wp2_with fail
        go_loopw [64] (fun i wr => ∃ k : Nat, i = .int .i64 k ∧ k ≤ ne ∧ Ext wc wr) (fun i _ => ne - (intOf i).toNat)
        case atStart => exact ⟨0, rfl, by omega, Ext.refl _⟩
        case round =>
          obtain ⟨k, rfl, hk, hx⟩ := hrel
          have ER := Lib.hid hx; have lwr := hx.size; clear hx
          by_cases hlt : k < ne
          · obtain ⟨x, hxe⟩ : ∃ x, es[k]? = some x := ⟨es[k]'(by rw [← Z1.out]; exact hlt), List.getElem?_eq_getElem _⟩
            obtain ⟨d0, d1, d2⟩ := (ZR.out.ext ER.out).2.1 k x hxe
            have hxm := List.mem_of_getElem? hxe
            by_cases h20 : 20 < k
            · have hd : decide (20 < k) = true := decide_eq_true h20
              have hdi : decide ((20 : Int) < (k : Int)) = true := decide_eq_true (by omega)
              have EB : Hid (Ext W1 (wr.alloc (.cells #[.int .i64 w, .int .i64 h, .slice (some ⟨x.b, 0, none⟩) N N] 27))) := Lib.hid (E9.out.trans (ER.out.alc _))
              go_wp2_with fail
              refine (awake_any _).mono ?_
              rintro e w9 ⟨rfl, hb⟩
              have EF := Lib.hid (EB.out.trans hb); clear hb
              go_wp2
              go_ret
              exact ⟨rfl, BB.out.trans EF.out⟩
            · have hd : decide (20 < k) = false := decide_eq_false h20
              have hdi : decide ((20 : Int) < (k : Int)) = false := decide_eq_false (by omega)
              have q8 : Q3 (wr.alloc (.cells #[.int .i64 w, .int .i64 h, .slice (some ⟨x.b, 0, none⟩) N N] 27)) wr.heap.size (.int .i64 w) (.int .i64 h) (.slice (some ⟨x.b, 0, none⟩) N N) := by
                refine ⟨?_, ?_, ?_⟩ <;> (rw [World.cell?_alloc_new]; rfl)
              have e8 : Ext wr (wr.alloc (.cells #[.int .i64 w, .int .i64 h, .slice (some ⟨x.b, 0, none⟩) N N] 27)) := (Ext.refl wr).alc _
              have s8 : wr.heap.size < (wr.alloc (.cells #[.int .i64 w, .int .i64 h, .slice (some ⟨x.b, 0, none⟩) N N] 27)).heap.size := by simp
              go_upto_region 12 with fail
              generalize (wr.alloc (.cells #[.int .i64 w, .int .i64 h, .slice (some ⟨x.b, 0, none⟩) N N] 27)) = W8 at *
              have E8 := Lib.hid (ER.out.trans e8); have HQ8 := Lib.hid q8
              clear q8 d0 d1 d2 hd hdi
              obtain ⟨m, hm, hml⟩ := (ZO.out.2 x.l).1 (List.mem_map_of_mem hxm)
              have hvx : vst w h x.l = true := by rw [hml]; exact HVA.out m hm
              have hax := (ZA.out x hxm).1.ext (ER.out.trans e8)
              have hxl := (ZA.out x hxm).2
              have hmo : ∀ K, Orb w h N L Gl K → Orb w h N x.l Gl K := fun K hK => by rw [hml]; exact HMOV.out K hK m hm
              have hil := il_N hax hxl (by omega)
              have HAX := Lib.hid hil; have HVX := Lib.hid hvx; have HMO := Lib.hid hmo
              clear hax hil hvx hmo hml hm hxm hxe e8
              go_cut [13, 14] from 71 to 77 (fun s13 s14 wx => LCut W8 w h N x.l Gl s13 s14 wx)
              case first =>
                refine wp_region_noPanic ?_
                refine wp_pool 8 [some 72, some 73, some 74, some 75, some 71, some 76, some 77, some 13] [(6, 4)] [7] [(fun (v : Value) (_ : World) => v = .slice A0 n0 c0), (fun (v : Value) (X : World) => ∃ A' n' c', v = .slice A' n' c' ∧ Ml X (.slice A' n' c') Gl), (fun (v : Value) (_ : World) => v = .agg #[.int .i64 w, .int .i64 h, .slice (some ⟨x.b, 0, none⟩) N N]), (fun (v : Value) (X : World) => ∃ b K, v = (.tuple #[(.agg #[.int .i64 w, .int .i64 h, .slice (some ⟨b, 0, none⟩) N N]), .int .i64 0]) ∧ LS X w h N x.l Gl b K), (fun (v : Value) (X : World) => ∃ b K, v = (.tuple #[(.agg #[.int .i64 w, .int .i64 h, .slice (some ⟨b, 0, none⟩) N N]), .int .i64 0]) ∧ LS X w h N x.l Gl b K), (fun (v : Value) (X : World) => ∃ b K, v = (.agg #[.int .i64 w, .int .i64 h, .slice (some ⟨b, 0, none⟩) N N]) ∧ LS X w h N x.l Gl b K), (fun (v : Value) (_ : World) => v = .int .i64 0), (fun (v : Value) (X : World) => ∃ g, v = .pointer (some ⟨g, 0, none⟩) ∧ W8.heap.size ≤ g ∧ T27 X g)] [noF, noF, noF, noF, noF, noF, noF, ptrF] (by kernel_rfl) (by kernel_rfl) (by kernel_rfl) (by kernel_rfl) (by kernel_rfl) (by kernel_rfl) (by kernel_rfl) (by kernel_rfl) (fun _ _ _ _ h => h) ⟨Stays.pure _, (fun _ _ _ e ⟨A', n', c', h1, h2⟩ => ⟨A', n', c', h1, h2.ext e⟩), Stays.pure _, (fun _ _ _ e ⟨b, K, h1, h2⟩ => ⟨b, K, h1, h2.ext e⟩), (fun _ _ _ e ⟨b, K, h1, h2⟩ => ⟨b, K, h1, h2.ext e⟩), (fun _ _ _ e ⟨b, K, h1, h2⟩ => ⟨b, K, h1, h2.ext e⟩), Stays.pure _, (fun _ _ _ e ⟨g, h1, h2, h3⟩ => ⟨g, h1, h2, h3.ext e⟩), True.intro⟩ ?steps ?done
                case steps =>
                  simp only [List.take_succ_cons, List.take_zero]
                  refine Steps.cons (fun (v : Value) (_ : World) => v = .slice A0 n0 c0) [] rfl (by kernel_rfl) rfl (by kernel_rfl) (fun y X ex0 hf K hK => ?_) ?_
                  · clear hf
                    have ex := (Ext.drw (Ext.refl _)).trans ex0
                    refine Box.mk ?_
                    simp only [fill, Act.put, Nat.reduceAdd, List.setIfInBounds_toArray, List.set_cons_zero, List.set_cons_succ] at hK ⊢
                    go_simp
                    exact hK.out _ _ rfl (Ext.refl _) (fun b hb => by cases hb)
                  refine Steps.cons (fun (v : Value) (X : World) => ∃ A' n' c', v = .slice A' n' c' ∧ Ml X (.slice A' n' c') Gl) [0] rfl (by kernel_rfl) rfl (by kernel_rfl) (fun y X ex0 hf K hK => ?_) ?_
                  · have h0 : ((fun (v : Value) (_ : World) => v = .slice A0 n0 c0)) (y 0) X := hf.1
                    clear hf
                    have ex := (Ext.drw (Ext.refl _)).trans ex0
                    refine Box.mk ?_
                    simp only [fill, Act.put, Nat.reduceAdd, List.setIfInBounds_toArray, List.set_cons_zero, List.set_cons_succ, h0] at hK ⊢
                    go_simp
                    refine (HMV.out _ (HG.out.ext (BB.out.trans (E9.out.trans (E8.out.trans ex))))).mono ?_
                    rintro e V ⟨A', n', c', rfl, hil, hb⟩
                    try go_wp2_with fail
                    exact hK.out _ _ ⟨A', n', c', rfl, hil⟩ hb (fun b hb => by cases hb)
                  refine Steps.cons (fun (v : Value) (_ : World) => v = .agg #[.int .i64 w, .int .i64 h, .slice (some ⟨x.b, 0, none⟩) N N]) [] rfl (by kernel_rfl) rfl (by kernel_rfl) (fun y X ex0 hf K hK => ?_) ?_
                  · clear hf
                    have ex := (Ext.drw (Ext.refl _)).trans ex0
                    refine Box.mk ?_
                    simp only [fill, Act.put, Nat.reduceAdd, List.setIfInBounds_toArray, List.set_cons_zero, List.set_cons_succ] at hK ⊢
                    obtain ⟨q0, q1, q2⟩ := Q3.ext HQ8.out (by omega) ex
                    go_simp
                    exact hK.out _ _ rfl (Ext.refl _) (fun b hb => by cases hb)
                  refine Steps.cons (fun (v : Value) (X : World) => ∃ b K, v = (.tuple #[(.agg #[.int .i64 w, .int .i64 h, .slice (some ⟨b, 0, none⟩) N N]), .int .i64 0]) ∧ LS X w h N x.l Gl b K) [1, 2] rfl (by kernel_rfl) rfl (by kernel_rfl) (fun y X ex0 hf K hK => ?_) ?_
                  · have hh1 : ((fun (v : Value) (X : World) => ∃ A' n' c', v = .slice A' n' c' ∧ Ml X (.slice A' n' c') Gl)) (y 1) X := hf.1
                    refine Exists.elim hh1 (fun A1 hx1_0 => ?_)
                    refine Exists.elim hx1_0 (fun n1 hx1_1 => ?_)
                    refine Exists.elim hx1_1 (fun c1 hx1_2 => ?_)
                    have h1 := hx1_2.1
                    have il1 := hx1_2.2
                    clear hh1 hx1_0 hx1_1 hx1_2
                    have h2 : ((fun (v : Value) (_ : World) => v = .agg #[.int .i64 w, .int .i64 h, .slice (some ⟨x.b, 0, none⟩) N N])) (y 2) X := hf.2.1
                    clear hf
                    have ex := (Ext.drw (Ext.refl _)).trans ex0
                    refine Box.mk ?_
                    simp only [fill, Act.put, Nat.reduceAdd, List.setIfInBounds_toArray, List.set_cons_zero, List.set_cons_succ, h1, h2] at hK ⊢
                    go_simp
                    refine (HLE.out _ x.l (some ⟨x.b, 0, none⟩) N N A1 n1 c1 HVX.out (HAX.out.below ex) il1).mono ?_
                    rintro e V ⟨b9, K9, rfl, hos, hb⟩
                    try go_wp2_with fail
                    exact hK.out _ _ ⟨_, _, rfl, hos⟩ hb (fun b hb => by cases hb)
                  refine Steps.cons (fun (v : Value) (X : World) => ∃ b K, v = (.tuple #[(.agg #[.int .i64 w, .int .i64 h, .slice (some ⟨b, 0, none⟩) N N]), .int .i64 0]) ∧ LS X w h N x.l Gl b K) [3] rfl (by kernel_rfl) rfl (by kernel_rfl) (fun y X ex0 hf K hK => ?_) ?_
                  · have hh3 : ((fun (v : Value) (X : World) => ∃ b K, v = (.tuple #[(.agg #[.int .i64 w, .int .i64 h, .slice (some ⟨b, 0, none⟩) N N]), .int .i64 0]) ∧ LS X w h N x.l Gl b K)) (y 3) X := hf.1
                    refine Exists.elim hh3 (fun b3 hx3_0 => ?_)
                    refine Exists.elim hx3_0 (fun K3 hx3_1 => ?_)
                    have h3 := hx3_1.1
                    have ls3 := hx3_1.2
                    clear hh3 hx3_0 hx3_1
                    clear hf
                    have ex := (Ext.drw (Ext.refl _)).trans ex0
                    refine Box.mk ?_
                    simp only [fill, Act.put, Nat.reduceAdd, List.setIfInBounds_toArray, List.set_cons_zero, List.set_cons_succ, h3] at hK ⊢
                    go_simp
                    exact hK.out _ _ ⟨_, _, rfl, ls3⟩ (Ext.refl _) (fun b hb => by cases hb)
                  refine Steps.cons (fun (v : Value) (X : World) => ∃ b K, v = (.agg #[.int .i64 w, .int .i64 h, .slice (some ⟨b, 0, none⟩) N N]) ∧ LS X w h N x.l Gl b K) [4] rfl (by kernel_rfl) rfl (by kernel_rfl) (fun y X ex0 hf K hK => ?_) ?_
                  · have hh4 : ((fun (v : Value) (X : World) => ∃ b K, v = (.tuple #[(.agg #[.int .i64 w, .int .i64 h, .slice (some ⟨b, 0, none⟩) N N]), .int .i64 0]) ∧ LS X w h N x.l Gl b K)) (y 4) X := hf.1
                    refine Exists.elim hh4 (fun b4 hx4_0 => ?_)
                    refine Exists.elim hx4_0 (fun K4 hx4_1 => ?_)
                    have h4 := hx4_1.1
                    have ls4 := hx4_1.2
                    clear hh4 hx4_0 hx4_1
                    clear hf
                    have ex := (Ext.drw (Ext.refl _)).trans ex0
                    refine Box.mk ?_
                    simp only [fill, Act.put, Nat.reduceAdd, List.setIfInBounds_toArray, List.set_cons_zero, List.set_cons_succ, h4] at hK ⊢
                    go_simp
                    exact hK.out _ _ ⟨_, _, rfl, ls4⟩ (Ext.refl _) (fun b hb => by cases hb)
                  refine Steps.flw (fun (v : Value) (_ : World) => v = .int .i64 0) [4] rfl (by kernel_rfl) (by kernel_rfl) (fun _ => rfl) (fun y X ex0 hf => ?_) ?_
                  · have hh4 : ((fun (v : Value) (X : World) => ∃ b K, v = (.tuple #[(.agg #[.int .i64 w, .int .i64 h, .slice (some ⟨b, 0, none⟩) N N]), .int .i64 0]) ∧ LS X w h N x.l Gl b K)) (y 4) X := hf.1
                    refine Exists.elim hh4 (fun b4 hx4_0 => ?_)
                    refine Exists.elim hx4_0 (fun K4 hx4_1 => ?_)
                    have h4 := hx4_1.1
                    have ls4 := hx4_1.2
                    clear hh4 hx4_0 hx4_1
                    clear hf
                    simp only [fill, Act.put, Nat.reduceAdd, List.setIfInBounds_toArray, List.set_cons_zero, List.set_cons_succ, h4]
                    exact ⟨_, ⟨by rfl, fun w => by go_simp⟩, rfl⟩
                  refine Steps.cons (fun (v : Value) (X : World) => ∃ g, v = .pointer (some ⟨g, 0, none⟩) ∧ W8.heap.size ≤ g ∧ T27 X g) [] rfl (by kernel_rfl) rfl (by kernel_rfl) (fun y X ex0 hf K hK => ?_) ?_
                  · clear hf
                    have ex := (Ext.drw (Ext.refl _)).trans ex0
                    refine Box.mk ?_
                    simp only [fill, Act.put, Nat.reduceAdd, List.setIfInBounds_toArray, List.set_cons_zero, List.set_cons_succ] at hK ⊢
                    go_simp
                    exact hK.out _ _ ⟨X.heap.size, rfl, ex.size, ⟨_, _, _, heap_alloc_new X (.cells #[.int .i64 0, .int .i64 0, .slice none 0 0] 27)⟩⟩ (Ext.alc (Ext.refl X) (.cells #[.int .i64 0, .int .i64 0, .slice none 0 0] 27)) (New.ptr (Nat.le_refl _) (by simp))
                  exact Steps.nil
                case done =>
                  intro y X ex hf hlt hsep
                  have h0 : ((fun (v : Value) (_ : World) => v = .slice A0 n0 c0)) (y 0) X := hf.1
                  have hh1 : ((fun (v : Value) (X : World) => ∃ A' n' c', v = .slice A' n' c' ∧ Ml X (.slice A' n' c') Gl)) (y 1) X := hf.2.1
                  refine Exists.elim hh1 (fun A1 hx1_0 => ?_)
                  refine Exists.elim hx1_0 (fun n1 hx1_1 => ?_)
                  refine Exists.elim hx1_1 (fun c1 hx1_2 => ?_)
                  have h1 := hx1_2.1
                  have il1 := hx1_2.2
                  clear hh1 hx1_0 hx1_1 hx1_2
                  have h2 : ((fun (v : Value) (_ : World) => v = .agg #[.int .i64 w, .int .i64 h, .slice (some ⟨x.b, 0, none⟩) N N])) (y 2) X := hf.2.2.1
                  have hh3 : ((fun (v : Value) (X : World) => ∃ b K, v = (.tuple #[(.agg #[.int .i64 w, .int .i64 h, .slice (some ⟨b, 0, none⟩) N N]), .int .i64 0]) ∧ LS X w h N x.l Gl b K)) (y 3) X := hf.2.2.2.1
                  refine Exists.elim hh3 (fun b3 hx3_0 => ?_)
                  refine Exists.elim hx3_0 (fun K3 hx3_1 => ?_)
                  have h3 := hx3_1.1
                  have ls3 := hx3_1.2
                  clear hh3 hx3_0 hx3_1
                  have hh4 : ((fun (v : Value) (X : World) => ∃ b K, v = (.tuple #[(.agg #[.int .i64 w, .int .i64 h, .slice (some ⟨b, 0, none⟩) N N]), .int .i64 0]) ∧ LS X w h N x.l Gl b K)) (y 4) X := hf.2.2.2.2.1
                  refine Exists.elim hh4 (fun b4 hx4_0 => ?_)
                  refine Exists.elim hx4_0 (fun K4 hx4_1 => ?_)
                  have h4 := hx4_1.1
                  have ls4 := hx4_1.2
                  clear hh4 hx4_0 hx4_1
                  have hh5 : ((fun (v : Value) (X : World) => ∃ b K, v = (.agg #[.int .i64 w, .int .i64 h, .slice (some ⟨b, 0, none⟩) N N]) ∧ LS X w h N x.l Gl b K)) (y 5) X := hf.2.2.2.2.2.1
                  refine Exists.elim hh5 (fun b5 hx5_0 => ?_)
                  refine Exists.elim hx5_0 (fun K5 hx5_1 => ?_)
                  have h5 := hx5_1.1
                  have ls5 := hx5_1.2
                  clear hh5 hx5_0 hx5_1
                  have h6 : ((fun (v : Value) (_ : World) => v = .int .i64 0)) (y 6) X := hf.2.2.2.2.2.2.1
                  have hh7 : ((fun (v : Value) (X : World) => ∃ g, v = .pointer (some ⟨g, 0, none⟩) ∧ W8.heap.size ≤ g ∧ T27 X g)) (y 7) X := hf.2.2.2.2.2.2.2.1
                  refine Exists.elim hh7 (fun g7 hx7_0 => ?_)
                  have h7 := hx7_0.1
                  have z7 := hx7_0.2.1
                  have q7 := hx7_0.2.2
                  clear hh7 hx7_0
                  clear hf
                  clear hsep hlt
                  refine Box.mk ?_
                  simp only [List.drop_succ_cons, List.drop_zero, fill, Act.put, Nat.reduceAdd, List.setIfInBounds_toArray, List.set_cons_zero, List.set_cons_succ, h0, h1, h2, h3, h4, h5, h6, h7]
                  clear h0 h1 h2 h3 h4 h5 h6 h7
                  obtain ⟨⟨_, _, _, k0, k1, k2⟩, k4⟩ := q7.tb.facts
                  have hne := q7.ne ls5.2.2.1
                  have QT := Lib.hid q7; have LL := Lib.hid ls5; have hlt := q7.lt; clear q7 ls5
                  have EX := Lib.hid ex; clear ex
                  go_wp2_with fail
                  refine NoPanic.normal ?_
                  go_wp2_with fail
                  go_meet
                  exact ⟨g7, b5, K5, rfl, rfl, T27.put QT.out _ _ _, by simp [World.setCell]; omega, ⟨LL.out.1, LL.out.2.1, ((LL.out.2.2.1.far hne).far hne).far hne, LL.out.2.2.2⟩, z7, ((EX.out.sc z7).sc z7).sc z7⟩
              case rest =>
                obtain ⟨g13, b13, K13, rfl, rfl, hq13, hlt13, hls13, hg13, ex⟩ := hcut
                have hKK : K13 = K9 := Orb.uniq hls13.2.1 (HMO.out _ HL9.out.2.1)
                subst hKK
                have ls9 := HL9.out.ext (E8.out.trans ex)
                have hq9 := HQ9.out.ext hlt9 (E8.out.trans ex)
                have lw9 : g9 < wc.heap.size := Nat.lt_of_lt_of_le hlt9 (E8.out.trans ex).size
                have hsame : ∀ X, Ext wc X → Calls Try.prog 20 #[.agg #[.int .i64 w, .int .i64 h, .slice (some ⟨b13, 0, none⟩) N N], .agg #[.int .i64 w, .int .i64 h, .slice (some ⟨b9, 0, none⟩) N N]] X fun e Y => e = .returned (.bool true) ∧ Ext X Y := fun X hX => by
                  have := same_eq w h (some ⟨b13, 0, none⟩) (some ⟨b9, 0, none⟩) N N N N _ _ X (il_N (hls13.2.2.1.ext hX) hls13.2.2.2 (by omega)) (il_N (ls9.2.2.1.ext hX) ls9.2.2.2 (by omega)) (by omega) (by omega)
                  rwa [decide_eq_true (rfl : K13.getD 0 [] = K13.getD 0 [])] at this
                have HSM := Lib.hid hsame; have HQ13 := Lib.hid hq13; have HQ9b := Lib.hid hq9; have E13 := Lib.hid ((E8.out.trans ex)); clear hsame hq13 hq9 ls9 hls13 ex
                go_upto_region 13 with fail
                go_cut [87] (fun s wx => s = .bool false ∧ Ext wc wx)
                case first =>
                  refine wp_region_noPanic ?_
                  refine wp_pool 10 [some 78, some 79, some 80, some 81, some 82, some 83, some 84, some 85, some 86, some 87] [] [] [(fun (v : Value) (_ : World) => v = .int .i64 0), (fun (v : Value) (_ : World) => v = .bool false), (fun (v : Value) (_ : World) => v = .bool false), (fun (v : Value) (_ : World) => v = .agg #[.int .i64 w, .int .i64 h, .slice (some ⟨b13, 0, none⟩) N N]), (fun (v : Value) (_ : World) => v = .agg #[.int .i64 w, .int .i64 h, .slice (some ⟨b13, 0, none⟩) N N]), (fun (v : Value) (_ : World) => v = .agg #[.int .i64 w, .int .i64 h, .slice (some ⟨b9, 0, none⟩) N N]), (fun (v : Value) (_ : World) => v = .agg #[.int .i64 w, .int .i64 h, .slice (some ⟨b9, 0, none⟩) N N]), (fun (v : Value) (_ : World) => v = .bool true), (fun (v : Value) (_ : World) => v = .bool false), (fun (v : Value) (_ : World) => v = .bool false)] [noF, noF, noF, noF, noF, noF, noF, noF, noF, noF] (by kernel_rfl) (by kernel_rfl) (by kernel_rfl) (by kernel_rfl) (by kernel_rfl) (by kernel_rfl) (by kernel_rfl) (by kernel_rfl) (fun _ _ _ _ h => h) ⟨Stays.pure _, Stays.pure _, Stays.pure _, Stays.pure _, Stays.pure _, Stays.pure _, Stays.pure _, Stays.pure _, Stays.pure _, Stays.pure _, True.intro⟩ ?steps ?done
                  case steps =>
                    simp only [List.take_succ_cons, List.take_zero]
                    refine Steps.cons (fun (v : Value) (_ : World) => v = .int .i64 0) [] rfl (by kernel_rfl) rfl (by kernel_rfl) (fun y X ex0 hf K hK => ?_) ?_
                    · clear hf
                      have ex := (Ext.drw (Ext.refl _)).trans ex0
                      refine Box.mk ?_
                      simp only [fill, Act.put, Nat.reduceAdd, List.setIfInBounds_toArray, List.set_cons_zero, List.set_cons_succ] at hK ⊢
                      go_simp
                      exact hK.out _ _ rfl (Ext.refl _) (fun b hb => by cases hb)
                    refine Steps.cons (fun (v : Value) (_ : World) => v = .bool false) [0] rfl (by kernel_rfl) rfl (by kernel_rfl) (fun y X ex0 hf K hK => ?_) ?_
                    · have h0 : ((fun (v : Value) (_ : World) => v = .int .i64 0)) (y 0) X := hf.1
                      clear hf
                      have ex := (Ext.drw (Ext.refl _)).trans ex0
                      refine Box.mk ?_
                      simp only [fill, Act.put, Nat.reduceAdd, List.setIfInBounds_toArray, List.set_cons_zero, List.set_cons_succ, h0] at hK ⊢
                      go_simp
                      exact hK.out _ _ rfl (Ext.refl _) (fun b hb => by cases hb)
                    refine Steps.cons (fun (v : Value) (_ : World) => v = .bool false) [1] rfl (by kernel_rfl) rfl (by kernel_rfl) (fun y X ex0 hf K hK => ?_) ?_
                    · have h1 : ((fun (v : Value) (_ : World) => v = .bool false)) (y 1) X := hf.1
                      clear hf
                      have ex := (Ext.drw (Ext.refl _)).trans ex0
                      refine Box.mk ?_
                      simp only [fill, Act.put, Nat.reduceAdd, List.setIfInBounds_toArray, List.set_cons_zero, List.set_cons_succ, h1] at hK ⊢
                      go_simp
                      exact hK.out _ _ rfl (Ext.refl _) (fun b hb => by cases hb)
                    refine Steps.cons (fun (v : Value) (_ : World) => v = .agg #[.int .i64 w, .int .i64 h, .slice (some ⟨b13, 0, none⟩) N N]) [2] rfl (by kernel_rfl) rfl (by kernel_rfl) (fun y X ex0 hf K hK => ?_) ?_
                    · have h2 : ((fun (v : Value) (_ : World) => v = .bool false)) (y 2) X := hf.1
                      clear hf
                      have ex := (Ext.drw (Ext.refl _)).trans ex0
                      refine Box.mk ?_
                      simp only [fill, Act.put, Nat.reduceAdd, List.setIfInBounds_toArray, List.set_cons_zero, List.set_cons_succ, h2] at hK ⊢
                      obtain ⟨t0, t1, t2⟩ := HQ13.out.ext hlt13 ex
                      go_simp
                      exact hK.out _ _ rfl (Ext.refl _) (fun b hb => by cases hb)
                    refine Steps.cons (fun (v : Value) (_ : World) => v = .agg #[.int .i64 w, .int .i64 h, .slice (some ⟨b13, 0, none⟩) N N]) [3, 2] rfl (by kernel_rfl) rfl (by kernel_rfl) (fun y X ex0 hf K hK => ?_) ?_
                    · have h3 : ((fun (v : Value) (_ : World) => v = .agg #[.int .i64 w, .int .i64 h, .slice (some ⟨b13, 0, none⟩) N N])) (y 3) X := hf.1
                      have h2 : ((fun (v : Value) (_ : World) => v = .bool false)) (y 2) X := hf.2.1
                      clear hf
                      have ex := (Ext.drw (Ext.refl _)).trans ex0
                      refine Box.mk ?_
                      simp only [fill, Act.put, Nat.reduceAdd, List.setIfInBounds_toArray, List.set_cons_zero, List.set_cons_succ, h3, h2] at hK ⊢
                      go_simp
                      refine (own_any w h _ N N _).mono ?_
                      rintro e V ⟨rfl, hb⟩
                      try go_wp2_with fail
                      exact hK.out _ _ rfl hb (fun b hb => by cases hb)
                    refine Steps.cons (fun (v : Value) (_ : World) => v = .agg #[.int .i64 w, .int .i64 h, .slice (some ⟨b9, 0, none⟩) N N]) [2] rfl (by kernel_rfl) rfl (by kernel_rfl) (fun y X ex0 hf K hK => ?_) ?_
                    · have h2 : ((fun (v : Value) (_ : World) => v = .bool false)) (y 2) X := hf.1
                      clear hf
                      have ex := (Ext.drw (Ext.refl _)).trans ex0
                      refine Box.mk ?_
                      simp only [fill, Act.put, Nat.reduceAdd, List.setIfInBounds_toArray, List.set_cons_zero, List.set_cons_succ, h2] at hK ⊢
                      obtain ⟨t0, t1, t2⟩ := HQ9b.out.ext lw9 ex
                      go_simp
                      exact hK.out _ _ rfl (Ext.refl _) (fun b hb => by cases hb)
                    refine Steps.cons (fun (v : Value) (_ : World) => v = .agg #[.int .i64 w, .int .i64 h, .slice (some ⟨b9, 0, none⟩) N N]) [5, 4, 2] rfl (by kernel_rfl) rfl (by kernel_rfl) (fun y X ex0 hf K hK => ?_) ?_
                    · have h5 : ((fun (v : Value) (_ : World) => v = .agg #[.int .i64 w, .int .i64 h, .slice (some ⟨b9, 0, none⟩) N N])) (y 5) X := hf.1
                      have h4 : ((fun (v : Value) (_ : World) => v = .agg #[.int .i64 w, .int .i64 h, .slice (some ⟨b13, 0, none⟩) N N])) (y 4) X := hf.2.1
                      have h2 : ((fun (v : Value) (_ : World) => v = .bool false)) (y 2) X := hf.2.2.1
                      clear hf
                      have ex := (Ext.drw (Ext.refl _)).trans ex0
                      refine Box.mk ?_
                      simp only [fill, Act.put, Nat.reduceAdd, List.setIfInBounds_toArray, List.set_cons_zero, List.set_cons_succ, h5, h4, h2] at hK ⊢
                      go_simp
                      refine (own_any w h _ N N _).mono ?_
                      rintro e V ⟨rfl, hb⟩
                      try go_wp2_with fail
                      exact hK.out _ _ rfl hb (fun b hb => by cases hb)
                    refine Steps.cons (fun (v : Value) (_ : World) => v = .bool true) [4, 6, 2] rfl (by kernel_rfl) rfl (by kernel_rfl) (fun y X ex0 hf K hK => ?_) ?_
                    · have h4 : ((fun (v : Value) (_ : World) => v = .agg #[.int .i64 w, .int .i64 h, .slice (some ⟨b13, 0, none⟩) N N])) (y 4) X := hf.1
                      have h6 : ((fun (v : Value) (_ : World) => v = .agg #[.int .i64 w, .int .i64 h, .slice (some ⟨b9, 0, none⟩) N N])) (y 6) X := hf.2.1
                      have h2 : ((fun (v : Value) (_ : World) => v = .bool false)) (y 2) X := hf.2.2.1
                      clear hf
                      have ex := (Ext.drw (Ext.refl _)).trans ex0
                      refine Box.mk ?_
                      simp only [fill, Act.put, Nat.reduceAdd, List.setIfInBounds_toArray, List.set_cons_zero, List.set_cons_succ, h4, h6, h2] at hK ⊢
                      go_simp
                      refine (HSM.out _ ex).mono ?_
                      rintro e V ⟨rfl, hb⟩
                      try go_wp2_with fail
                      exact hK.out _ _ rfl hb (fun b hb => by cases hb)
                    refine Steps.cons (fun (v : Value) (_ : World) => v = .bool false) [7, 2] rfl (by kernel_rfl) rfl (by kernel_rfl) (fun y X ex0 hf K hK => ?_) ?_
                    · have h7 : ((fun (v : Value) (_ : World) => v = .bool true)) (y 7) X := hf.1
                      have h2 : ((fun (v : Value) (_ : World) => v = .bool false)) (y 2) X := hf.2.1
                      clear hf
                      have ex := (Ext.drw (Ext.refl _)).trans ex0
                      refine Box.mk ?_
                      simp only [fill, Act.put, Nat.reduceAdd, List.setIfInBounds_toArray, List.set_cons_zero, List.set_cons_succ, h7, h2] at hK ⊢
                      go_simp
                      exact hK.out _ _ rfl (Ext.refl _) (fun b hb => by cases hb)
                    refine Steps.cons (fun (v : Value) (_ : World) => v = .bool false) [2, 8] rfl (by kernel_rfl) rfl (by kernel_rfl) (fun y X ex0 hf K hK => ?_) ?_
                    · have h2 : ((fun (v : Value) (_ : World) => v = .bool false)) (y 2) X := hf.1
                      have h8 : ((fun (v : Value) (_ : World) => v = .bool false)) (y 8) X := hf.2.1
                      clear hf
                      have ex := (Ext.drw (Ext.refl _)).trans ex0
                      refine Box.mk ?_
                      simp only [fill, Act.put, Nat.reduceAdd, List.setIfInBounds_toArray, List.set_cons_zero, List.set_cons_succ, h2, h8] at hK ⊢
                      go_simp
                      exact hK.out _ _ rfl (Ext.refl _) (fun b hb => by cases hb)
                    exact Steps.nil
                  case done =>
                    intro y X ex hf hlt hsep
                    have h0 : ((fun (v : Value) (_ : World) => v = .int .i64 0)) (y 0) X := hf.1
                    have h1 : ((fun (v : Value) (_ : World) => v = .bool false)) (y 1) X := hf.2.1
                    have h2 : ((fun (v : Value) (_ : World) => v = .bool false)) (y 2) X := hf.2.2.1
                    have h3 : ((fun (v : Value) (_ : World) => v = .agg #[.int .i64 w, .int .i64 h, .slice (some ⟨b13, 0, none⟩) N N])) (y 3) X := hf.2.2.2.1
                    have h4 : ((fun (v : Value) (_ : World) => v = .agg #[.int .i64 w, .int .i64 h, .slice (some ⟨b13, 0, none⟩) N N])) (y 4) X := hf.2.2.2.2.1
                    have h5 : ((fun (v : Value) (_ : World) => v = .agg #[.int .i64 w, .int .i64 h, .slice (some ⟨b9, 0, none⟩) N N])) (y 5) X := hf.2.2.2.2.2.1
                    have h6 : ((fun (v : Value) (_ : World) => v = .agg #[.int .i64 w, .int .i64 h, .slice (some ⟨b9, 0, none⟩) N N])) (y 6) X := hf.2.2.2.2.2.2.1
                    have h7 : ((fun (v : Value) (_ : World) => v = .bool true)) (y 7) X := hf.2.2.2.2.2.2.2.1
                    have h8 : ((fun (v : Value) (_ : World) => v = .bool false)) (y 8) X := hf.2.2.2.2.2.2.2.2.1
                    have h9 : ((fun (v : Value) (_ : World) => v = .bool false)) (y 9) X := hf.2.2.2.2.2.2.2.2.2.1
                    clear hf
                    clear hsep hlt
                    refine Box.mk ?_
                    simp only [List.drop_succ_cons, List.drop_zero, fill, Act.put, Nat.reduceAdd, List.setIfInBounds_toArray, List.set_cons_zero, List.set_cons_succ, h0, h1, h2, h3, h4, h5, h6, h7, h8, h9]
                    clear h0 h1 h2 h3 h4 h5 h6 h7 h8 h9
                    have EX := Lib.hid ex; clear ex
                    go_wp2_with fail
                    refine NoPanic.normal ?_
                    go_wp2_with fail
                    go_meet
                    exact ⟨rfl, EX.out⟩
                case rest =>
                  obtain ⟨rfl, ex⟩ := hcut
                  have F3 := Lib.hid (E13.out.trans ex); clear ex
                  go_wp2_with fail
                  go_roundw
                  case rel => exact ⟨k + 1, by go_num, by omega, F3.out⟩
                  case measure => simp [intOf]; omega
          · obtain rfl : k = ne := by omega
            have EB := Lib.hid (E9.out.trans ER.out)
            go_wp2_with fail
            refine (awake_any _).mono ?_
            rintro e w9 ⟨rfl, hb⟩
            have EF := Lib.hid (EB.out.trans hb); clear hb
            go_wp2
            go_ret
            exact ⟨rfl, BB.out.trans EF.out⟩
end Go.Proofs.Ytgjanbgehbpciaa
