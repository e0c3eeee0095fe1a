/- Walks: Keeps, Orbit, Least. -/
import Derived.Test.YtgjanbgehbpciaaK1
import Derived.Laws.EntriesVeiled
namespace Go.Proofs.Ytgjanbgehbpciaa
open Go.RowKit

/-- block g is a stamp that may be written -/
def T27 (W : World) (g : Nat) : Prop := ∃ a b c, W.heap[g]? = some (.cells #[a, b, c] 27 (0, 0))
theorem T27.lt {W : World} {g : Nat} (h : T27 W g) : g < W.heap.size := by obtain ⟨a, b, c, h⟩ := h; exact (Array.getElem?_eq_some_iff.1 h).1
theorem T27.ext {X Y : World} {g : Nat} (h : T27 X g) (e : Ext X Y) : T27 Y g := by
  have hl := h.lt
  obtain ⟨a, b, c, h⟩ := h
  exact ⟨a, b, c, (Below.block e g hl).trans h⟩
theorem T27.tb {W : World} {g : Nat} (h : T27 W g) : TB W g := by obtain ⟨a, b, c, h⟩ := h; exact ⟨a, b, c, 27, h⟩
theorem T27.ne {W : World} {g b : Nat} {l : List Int} (h : T27 W g) (ha : Ar3 W b l) : b ≠ g := by
  rintro rfl
  obtain ⟨x, y, z, h⟩ := h
  unfold Ar3 at ha
  rw [h] at ha
  injection ha with ha
  injection ha with _ ha
  cases ha

set_option maxHeartbeats 1000000 in
set_option maxRecDepth 100000 in
theorem patternOf_c (w h : Nat) (A : Option Addr) (n c : Nat) (W : World) :
    Calls Try.prog 66 #[.agg #[.int .i64 w, .int .i64 h, .slice A n c]] W fun e W' => ∃ Bs Bz, e = .returned (.agg #[.int .i64 w, .int .i64 h, .func (.func 88) #[] #[.pointer (some ⟨Bs, 0, none⟩), .pointer (some ⟨Bz, 0, none⟩)]]) ∧ Bs < W'.heap.size ∧ Bz < W'.heap.size ∧ Q3 W' Bs (.int .i64 w) (.int .i64 h) (.slice A n c) ∧ C2 W' Bz (.int .i64 w) (.int .i64 h) ∧ Ext W W' := by
  go_enter Try.func66, Try.ntmps66
  go_upto_region 1 with fail
  have q1 : Q3 ((W.alloc (.cells #[.int .i64 w, .int .i64 h, .slice A n c] 27)).alloc (.cells #[.int .i64 0, .int .i64 0, .nilFunc] 107)) W.heap.size (.int .i64 w) (.int .i64 h) (.slice A n c) := by
    refine ⟨?_, ?_, ?_⟩ <;> (rw [World.cell?_alloc_past _ _ _ (by simp), World.cell?_alloc_new]; rfl)
  have q2 : TB ((W.alloc (.cells #[.int .i64 w, .int .i64 h, .slice A n c] 27)).alloc (.cells #[.int .i64 0, .int .i64 0, .nilFunc] 107)) (W.heap.size + 1) := by
    have := heap_alloc_new (W.alloc (.cells #[.int .i64 w, .int .i64 h, .slice A n c] 27)) (.cells #[.int .i64 0, .int .i64 0, .nilFunc] 107)
    simp only [World.size_alloc] at this
    exact ⟨_, _, _, _, this⟩
  have bb := al2 W (.cells #[.int .i64 w, .int .i64 h, .slice A n c] 27) (.cells #[.int .i64 0, .int .i64 0, .nilFunc] 107)
  have zz : ((W.alloc (.cells #[.int .i64 w, .int .i64 h, .slice A n c] 27)).alloc (.cells #[.int .i64 0, .int .i64 0, .nilFunc] 107)).heap.size = W.heap.size + 1 + 1 := by simp
  generalize ((W.alloc (.cells #[.int .i64 w, .int .i64 h, .slice A n c] 27)).alloc (.cells #[.int .i64 0, .int .i64 0, .nilFunc] 107)) = W2 at *
  have zle : W.heap.size + 1 + 1 ≤ W2.heap.size := by omega
  have BB : Hid (Ext W W2) := Lib.hid bb; have H1 := Lib.hid q1; have H2 := Lib.hid q2
  clear bb zz q2
  obtain ⟨p0, p1, p2⟩ := q1
  go_wp2_with fail
  refine (sizeOf_any w h _ A n c _ rfl).mono ?_
  rintro e V ⟨rfl, hx⟩
  have HV : Hid (Ext W2 V) := Lib.hid (Ext.of hx)
  have h1v := H1.out.ext (by omega) HV.out
  have h2v := (H2.out.ext HV.out).ext (Ext.alc (Ext.refl V) (.cells #[.int .i64 w, .int .i64 h] 84))
  have hvs : W.heap.size + 1 + 1 ≤ V.heap.size := Nat.le_trans zle HV.out.size
  have H1V := Lib.hid h1v
  obtain ⟨⟨_, _, _, r0, r1, r2⟩, rf⟩ := h2v.facts
  have hq2 : C2 (V.alloc (.cells #[.int .i64 w, .int .i64 h] 84)) V.heap.size (.int .i64 w) (.int .i64 h) := by
    refine ⟨?_, ?_⟩ <;> (rw [World.cell?_alloc_new]; rfl)
  have HQ2 := Lib.hid hq2
  clear hx p0 p1 p2 h1v hq2
  go_wp2_with fail
  have far : ∀ {X : World} {g i j : Nat} {v : Value}, g ≠ W.heap.size + 1 → (X.setCell ⟨W.heap.size + 1, j, none⟩ v).cell? ⟨g, i, none⟩ = X.cell? ⟨g, i, none⟩ := fun {X g i j v} hg => World.cell?_setCell_other _ _ _ _ (by intro e; injection e with e1; exact hg e1.symm)
  have hfin1 : Q3 ((((V.alloc (.cells #[.int .i64 w, .int .i64 h] 84)).setCell ⟨W.heap.size + 1, 0, none⟩ (.int .i64 w)).setCell ⟨W.heap.size + 1, 1, none⟩ (.int .i64 h)).setCell ⟨W.heap.size + 1, 2, none⟩ (.func (.func 88) #[] #[.pointer (some ⟨W.heap.size, 0, none⟩), .pointer (some ⟨V.heap.size, 0, none⟩)])) W.heap.size (.int .i64 w) (.int .i64 h) (.slice A n c) := by
    have := H1V.out.ext (by omega) (Ext.alc (Ext.refl V) (.cells #[.int .i64 w, .int .i64 h] 84))
    obtain ⟨a, b, cc⟩ := this
    refine ⟨?_, ?_, ?_⟩ <;> (rw [far (by omega), far (by omega), far (by omega)]; assumption)
  have hfin2 : C2 ((((V.alloc (.cells #[.int .i64 w, .int .i64 h] 84)).setCell ⟨W.heap.size + 1, 0, none⟩ (.int .i64 w)).setCell ⟨W.heap.size + 1, 1, none⟩ (.int .i64 h)).setCell ⟨W.heap.size + 1, 2, none⟩ (.func (.func 88) #[] #[.pointer (some ⟨W.heap.size, 0, none⟩), .pointer (some ⟨V.heap.size, 0, none⟩)])) V.heap.size (.int .i64 w) (.int .i64 h) := by
    obtain ⟨a, b⟩ := HQ2.out
    refine ⟨?_, ?_⟩ <;> (rw [far (by omega), far (by omega), far (by omega)]; assumption)
  refine bodyPost_ret (v := .agg #[.int .i64 w, .int .i64 h, .func (.func 88) #[] #[.pointer (some ⟨W.heap.size, 0, none⟩), .pointer (some ⟨V.heap.size, 0, none⟩)]]) (by simp [results, Try.results66, go_sem, r0, r1, r2]) rfl ⟨W.heap.size, V.heap.size, rfl, ?_, ?_, hfin1, hfin2, ?_⟩
  · simp [World.setCell]; omega
  · simp [World.setCell]
  · exact sc (sc (sc ((BB.out.trans HV.out).alc _) (by omega) _) (by omega) _) (by omega) _

set_option maxHeartbeats 1000000 in
set_option maxRecDepth 100000 in
theorem keepsS_v (w h : Int) (G A : Option Addr) (ng cg n c : Nat) (l : List Int) (W : World) (hl : Il W (.slice A n c) l) (hv : vst w h l = false) :
    Calls Try.prog 36 #[.slice G ng cg, .agg #[.int .i64 w, .int .i64 h, .slice A n c]] W fun e W' => e = .returned (.tuple #[.slice none 0 0, .int .i64 2]) ∧ Ext W W' := by
  have hvv := fun X (hX : Il X (.slice A n c) l) => validS_any w h A n c l X hX
  rw [hv] at hvv
  have HVV := Lib.hid hvv; have HIL := Lib.hid hl; clear hvv hl hv
  go_enter Try.func36, Try.ntmps36
  go_upto_region 1 with fail
  have q1 : Q3 (W.alloc (.cells #[.int .i64 w, .int .i64 h, .slice A n c] 27)) W.heap.size (.int .i64 w) (.int .i64 h) (.slice A n c) := by
    refine ⟨?_, ?_, ?_⟩ <;> (rw [World.cell?_alloc_new]; rfl)
  have bb := al1 W (.cells #[.int .i64 w, .int .i64 h, .slice A n c] 27)
  have zz : (W.alloc (.cells #[.int .i64 w, .int .i64 h, .slice A n c] 27)).heap.size = W.heap.size + 1 := by simp
  generalize (W.alloc (.cells #[.int .i64 w, .int .i64 h, .slice A n c] 27)) = W1 at *
  have zle : W.heap.size + 1 ≤ W1.heap.size := by omega
  have BB : Hid (Ext W W1) := Lib.hid bb; have H1 := Lib.hid q1
  clear bb zz
  obtain ⟨p0, p1, p2⟩ := q1
  go_wp2_with fail
  refine (HVV.out _ (HIL.out.below BB.out)).mono ?_
  rintro e V ⟨rfl, hx⟩
  have E : Hid (Ext W1 V) := Lib.hid (Ext.of hx)
  clear hx p0 p1 p2
  go_wp2
  go_ret2
  exact ⟨rfl, BB.out.trans E.out⟩

set_option maxHeartbeats 1000000 in
set_option maxRecDepth 100000 in
theorem keepsS_g (w h : Nat) (G A : Option Addr) (ng cg n c : Nat) (l : List Int) (g : List Mv) (W : World) (hl : Il W (.slice A n c) l) (hv : vst w h l = true) (hg : Ml W (.slice G ng cg) g) (hng : ng ≤ 1000) (hgr : grpB w h g = false) :
    Calls Try.prog 36 #[.slice G ng cg, .agg #[.int .i64 w, .int .i64 h, .slice A n c]] W fun e W' => e = .returned (.tuple #[.slice none 0 0, .int .i64 2]) ∧ Ext W W' := by
  have hs : okSize w h = true := by unfold vst at hv; simp only [Bool.and_eq_true] at hv; exact hv.1.1
  have hvv := fun X (hX : Il X (.slice A n c) l) => validS_any w h A n c l X hX
  rw [hv] at hvv
  have hhg := fun X (hX : Ml X (.slice G ng cg) g) => hasGroup_c w h G ng cg g X hs hX hng
  rw [hgr] at hhg
  have HVV := Lib.hid hvv; have HIL := Lib.hid hl; have HHG := Lib.hid hhg; have HML := Lib.hid hg; clear hvv hl hv hhg hg hs hgr
  go_enter Try.func36, Try.ntmps36
  go_upto_region 1 with fail
  have q1 : Q3 (W.alloc (.cells #[.int .i64 w, .int .i64 h, .slice A n c] 27)) W.heap.size (.int .i64 w) (.int .i64 h) (.slice A n c) := by
    refine ⟨?_, ?_, ?_⟩ <;> (rw [World.cell?_alloc_new]; rfl)
  have bb := al1 W (.cells #[.int .i64 w, .int .i64 h, .slice A n c] 27)
  have zz : (W.alloc (.cells #[.int .i64 w, .int .i64 h, .slice A n c] 27)).heap.size = W.heap.size + 1 := by simp
  generalize (W.alloc (.cells #[.int .i64 w, .int .i64 h, .slice A n c] 27)) = W1 at *
  have zle : W.heap.size + 1 ≤ W1.heap.size := by omega
  have BB : Hid (Ext W W1) := Lib.hid bb; have H1 := Lib.hid q1
  clear bb zz
  obtain ⟨p0, p1, p2⟩ := q1
  go_wp2_with fail
  refine (HVV.out _ (HIL.out.below BB.out)).mono ?_
  rintro e V ⟨rfl, hx⟩
  have E1 : Hid (Ext W1 V) := Lib.hid (Ext.of hx)
  clear hx p0 p1 p2
  obtain ⟨p0, p1, p2⟩ := H1.out.ext (by omega) E1.out
  go_wp2_with fail
  refine (sizeOf_any w h _ A n c _ rfl).mono ?_
  rintro e V2 ⟨rfl, hx⟩
  have E2 : Hid (Ext W1 V2) := Lib.hid (E1.out.trans (Ext.of hx))
  clear hx p0 p1 p2
  go_wp2_with fail
  refine (HHG.out _ (HML.out.ext (BB.out.trans E2.out))).mono ?_
  rintro e V3 ⟨rfl, hx⟩
  have E : Hid (Ext W1 V3) := Lib.hid (E2.out.trans hx)
  clear hx
  go_wp2
  go_ret2
  exact ⟨rfl, BB.out.trans E.out⟩

set_option maxHeartbeats 1000000 in
set_option maxRecDepth 100000 in
theorem orbitS_v (w h : Int) (G A : Option Addr) (ng cg n c : Nat) (l : List Int) (W : World) (hl : Il W (.slice A n c) l) (hv : vst w h l = false) :
    Calls Try.prog 37 #[.slice G ng cg, .agg #[.int .i64 w, .int .i64 h, .slice A n c]] W fun e W' => e = .returned (.tuple #[.slice none 0 0, .int .i64 2]) ∧ Ext W W' := by
  have hvv := fun X (hX : Il X (.slice A n c) l) => validS_any w h A n c l X hX
  rw [hv] at hvv
  have HVV := Lib.hid hvv; have HIL := Lib.hid hl; clear hvv hl hv
  go_enter Try.func37, Try.ntmps37
  go_upto_region 1 with fail
  have q1 : Q3 (W.alloc (.cells #[.int .i64 w, .int .i64 h, .slice A n c] 27)) W.heap.size (.int .i64 w) (.int .i64 h) (.slice A n c) := by
    refine ⟨?_, ?_, ?_⟩ <;> (rw [World.cell?_alloc_new]; rfl)
  have bb := al1 W (.cells #[.int .i64 w, .int .i64 h, .slice A n c] 27)
  have zz : (W.alloc (.cells #[.int .i64 w, .int .i64 h, .slice A n c] 27)).heap.size = W.heap.size + 1 := by simp
  generalize (W.alloc (.cells #[.int .i64 w, .int .i64 h, .slice A n c] 27)) = W1 at *
  have zle : W.heap.size + 1 ≤ W1.heap.size := by omega
  have BB : Hid (Ext W W1) := Lib.hid bb; have H1 := Lib.hid q1
  clear bb zz
  obtain ⟨p0, p1, p2⟩ := q1
  go_wp2_with fail
  refine (HVV.out _ (HIL.out.below BB.out)).mono ?_
  rintro e V ⟨rfl, hx⟩
  have E : Hid (Ext W1 V) := Lib.hid (Ext.of hx)
  clear hx p0 p1 p2
  go_wp2
  go_ret2
  exact ⟨rfl, BB.out.trans E.out⟩

set_option maxHeartbeats 1000000 in
set_option maxRecDepth 100000 in
theorem orbitS_g (w h : Nat) (G A : Option Addr) (ng cg n c : Nat) (l : List Int) (g : List Mv) (W : World) (hl : Il W (.slice A n c) l) (hv : vst w h l = true) (hg : Ml W (.slice G ng cg) g) (hng : ng ≤ 1000) (hgr : grpB w h g = false) :
    Calls Try.prog 37 #[.slice G ng cg, .agg #[.int .i64 w, .int .i64 h, .slice A n c]] W fun e W' => e = .returned (.tuple #[.slice none 0 0, .int .i64 2]) ∧ Ext W W' := by
  have hs : okSize w h = true := by unfold vst at hv; simp only [Bool.and_eq_true] at hv; exact hv.1.1
  have hvv := fun X (hX : Il X (.slice A n c) l) => validS_any w h A n c l X hX
  rw [hv] at hvv
  have hhg := fun X (hX : Ml X (.slice G ng cg) g) => hasGroup_c w h G ng cg g X hs hX hng
  rw [hgr] at hhg
  have HVV := Lib.hid hvv; have HIL := Lib.hid hl; have HHG := Lib.hid hhg; have HML := Lib.hid hg; clear hvv hl hv hhg hg hs hgr
  go_enter Try.func37, Try.ntmps37
  go_upto_region 1 with fail
  have q1 : Q3 (W.alloc (.cells #[.int .i64 w, .int .i64 h, .slice A n c] 27)) W.heap.size (.int .i64 w) (.int .i64 h) (.slice A n c) := by
    refine ⟨?_, ?_, ?_⟩ <;> (rw [World.cell?_alloc_new]; rfl)
  have bb := al1 W (.cells #[.int .i64 w, .int .i64 h, .slice A n c] 27)
  have zz : (W.alloc (.cells #[.int .i64 w, .int .i64 h, .slice A n c] 27)).heap.size = W.heap.size + 1 := by simp
  generalize (W.alloc (.cells #[.int .i64 w, .int .i64 h, .slice A n c] 27)) = W1 at *
  have zle : W.heap.size + 1 ≤ W1.heap.size := by omega
  have BB : Hid (Ext W W1) := Lib.hid bb; have H1 := Lib.hid q1
  clear bb zz
  obtain ⟨p0, p1, p2⟩ := q1
  go_wp2_with fail
  refine (HVV.out _ (HIL.out.below BB.out)).mono ?_
  rintro e V ⟨rfl, hx⟩
  have E1 : Hid (Ext W1 V) := Lib.hid (Ext.of hx)
  clear hx p0 p1 p2
  obtain ⟨p0, p1, p2⟩ := H1.out.ext (by omega) E1.out
  go_wp2_with fail
  refine (sizeOf_any w h _ A n c _ rfl).mono ?_
  rintro e V2 ⟨rfl, hx⟩
  have E2 : Hid (Ext W1 V2) := Lib.hid (E1.out.trans (Ext.of hx))
  clear hx p0 p1 p2
  go_wp2_with fail
  refine (HHG.out _ (HML.out.ext (BB.out.trans E2.out))).mono ?_
  rintro e V3 ⟨rfl, hx⟩
  have E : Hid (Ext W1 V3) := Lib.hid (E2.out.trans hx)
  clear hx
  go_wp2
  go_ret2
  exact ⟨rfl, BB.out.trans E.out⟩

set_option maxHeartbeats 1000000 in
set_option maxRecDepth 100000 in
theorem leastS_v (w h : Int) (G A : Option Addr) (ng cg n c : Nat) (l : List Int) (W : World) (hl : Il W (.slice A n c) l) (hv : vst w h l = false) :
    Calls Try.prog 38 #[.slice G ng cg, .agg #[.int .i64 w, .int .i64 h, .slice A n c]] W fun e W' => e = .returned (.tuple #[.agg #[.int .i64 0, .int .i64 0, .slice none 0 0], .int .i64 2]) ∧ Ext W W' := by
  have hvv := fun X (hX : Il X (.slice A n c) l) => validS_any w h A n c l X hX
  rw [hv] at hvv
  have HVV := Lib.hid hvv; have HIL := Lib.hid hl; clear hvv hl hv
  go_enter Try.func38, Try.ntmps38
  go_upto_region 1 with fail
  have q1 : Q3 ((W.alloc (.cells #[.int .i64 w, .int .i64 h, .slice A n c] 27)).alloc (.cells #[.int .i64 0, .int .i64 0, .slice none 0 0] 27)) W.heap.size (.int .i64 w) (.int .i64 h) (.slice A n c) := by
    refine ⟨?_, ?_, ?_⟩ <;> (rw [World.cell?_alloc_past _ _ _ (by simp), World.cell?_alloc_new]; rfl)
  have qt : T27 ((W.alloc (.cells #[.int .i64 w, .int .i64 h, .slice A n c] 27)).alloc (.cells #[.int .i64 0, .int .i64 0, .slice none 0 0] 27)) (W.heap.size + 1) := by
    have := heap_alloc_new (W.alloc (.cells #[.int .i64 w, .int .i64 h, .slice A n c] 27)) (.cells #[.int .i64 0, .int .i64 0, .slice none 0 0] 27)
    simp only [World.size_alloc] at this
    exact ⟨_, _, _, this⟩
  have bb := al2 W (.cells #[.int .i64 w, .int .i64 h, .slice A n c] 27) (.cells #[.int .i64 0, .int .i64 0, .slice none 0 0] 27)
  have zz : ((W.alloc (.cells #[.int .i64 w, .int .i64 h, .slice A n c] 27)).alloc (.cells #[.int .i64 0, .int .i64 0, .slice none 0 0] 27)).heap.size = W.heap.size + 1 + 1 := by simp
  generalize ((W.alloc (.cells #[.int .i64 w, .int .i64 h, .slice A n c] 27)).alloc (.cells #[.int .i64 0, .int .i64 0, .slice none 0 0] 27)) = W1 at *
  have zle : W.heap.size + 1 + 1 ≤ W1.heap.size := by omega
  have HT := Lib.hid qt; clear qt
  have BB : Hid (Ext W W1) := Lib.hid bb; have H1 := Lib.hid q1
  clear bb zz
  obtain ⟨p0, p1, p2⟩ := q1
  go_wp2_with fail
  refine (HVV.out _ (HIL.out.below BB.out)).mono ?_
  rintro e V ⟨rfl, hx⟩
  have E : Hid (Ext W1 V) := Lib.hid (Ext.of hx)
  clear hx p0 p1 p2
  obtain ⟨⟨_, _, _, r0, r1, r2⟩, rf⟩ := (HT.out.ext E.out).tb.facts
  go_wp2
  exact bodyPost_ret (v := .tuple #[.agg #[.int .i64 0, .int .i64 0, .slice none 0 0], .int .i64 2]) (by simp [results, Try.results38, go_sem, r0, r1, r2]) rfl ⟨rfl, sc (sc (sc (BB.out.trans E.out) (by omega) _) (by omega) _) (by omega) _⟩

set_option maxHeartbeats 1000000 in
set_option maxRecDepth 100000 in
theorem leastS_g (w h : Nat) (G A : Option Addr) (ng cg n c : Nat) (l : List Int) (g : List Mv) (W : World) (hl : Il W (.slice A n c) l) (hv : vst w h l = true) (hg : Ml W (.slice G ng cg) g) (hng : ng ≤ 1000) (hgr : grpB w h g = false) :
    Calls Try.prog 38 #[.slice G ng cg, .agg #[.int .i64 w, .int .i64 h, .slice A n c]] W fun e W' => e = .returned (.tuple #[.agg #[.int .i64 0, .int .i64 0, .slice none 0 0], .int .i64 2]) ∧ Ext W W' := by
  have hs : okSize w h = true := by unfold vst at hv; simp only [Bool.and_eq_true] at hv; exact hv.1.1
  have hvv := fun X (hX : Il X (.slice A n c) l) => validS_any w h A n c l X hX
  rw [hv] at hvv
  have hhg := fun X (hX : Ml X (.slice G ng cg) g) => hasGroup_c w h G ng cg g X hs hX hng
  rw [hgr] at hhg
  have HVV := Lib.hid hvv; have HIL := Lib.hid hl; have HHG := Lib.hid hhg; have HML := Lib.hid hg; clear hvv hl hv hhg hg hs hgr
  go_enter Try.func38, Try.ntmps38
  go_upto_region 1 with fail
  have q1 : Q3 ((W.alloc (.cells #[.int .i64 w, .int .i64 h, .slice A n c] 27)).alloc (.cells #[.int .i64 0, .int .i64 0, .slice none 0 0] 27)) W.heap.size (.int .i64 w) (.int .i64 h) (.slice A n c) := by
    refine ⟨?_, ?_, ?_⟩ <;> (rw [World.cell?_alloc_past _ _ _ (by simp), World.cell?_alloc_new]; rfl)
  have qt : T27 ((W.alloc (.cells #[.int .i64 w, .int .i64 h, .slice A n c] 27)).alloc (.cells #[.int .i64 0, .int .i64 0, .slice none 0 0] 27)) (W.heap.size + 1) := by
    have := heap_alloc_new (W.alloc (.cells #[.int .i64 w, .int .i64 h, .slice A n c] 27)) (.cells #[.int .i64 0, .int .i64 0, .slice none 0 0] 27)
    simp only [World.size_alloc] at this
    exact ⟨_, _, _, this⟩
  have bb := al2 W (.cells #[.int .i64 w, .int .i64 h, .slice A n c] 27) (.cells #[.int .i64 0, .int .i64 0, .slice none 0 0] 27)
  have zz : ((W.alloc (.cells #[.int .i64 w, .int .i64 h, .slice A n c] 27)).alloc (.cells #[.int .i64 0, .int .i64 0, .slice none 0 0] 27)).heap.size = W.heap.size + 1 + 1 := by simp
  generalize ((W.alloc (.cells #[.int .i64 w, .int .i64 h, .slice A n c] 27)).alloc (.cells #[.int .i64 0, .int .i64 0, .slice none 0 0] 27)) = W1 at *
  have zle : W.heap.size + 1 + 1 ≤ W1.heap.size := by omega
  have HT := Lib.hid qt; clear qt
  have BB : Hid (Ext W W1) := Lib.hid bb; have H1 := Lib.hid q1
  clear bb zz
  obtain ⟨p0, p1, p2⟩ := q1
  go_wp2_with fail
  refine (HVV.out _ (HIL.out.below BB.out)).mono ?_
  rintro e V ⟨rfl, hx⟩
  have E1 : Hid (Ext W1 V) := Lib.hid (Ext.of hx)
  clear hx p0 p1 p2
  obtain ⟨p0, p1, p2⟩ := H1.out.ext (by omega) E1.out
  go_wp2_with fail
  refine (sizeOf_any w h _ A n c _ rfl).mono ?_
  rintro e V2 ⟨rfl, hx⟩
  have E2 : Hid (Ext W1 V2) := Lib.hid (E1.out.trans (Ext.of hx))
  clear hx p0 p1 p2
  go_wp2_with fail
  refine (HHG.out _ (HML.out.ext (BB.out.trans E2.out))).mono ?_
  rintro e V3 ⟨rfl, hx⟩
  have E : Hid (Ext W1 V3) := Lib.hid (E2.out.trans hx)
  clear hx
  obtain ⟨⟨_, _, _, r0, r1, r2⟩, rf⟩ := (HT.out.ext E.out).tb.facts
  go_wp2
  exact bodyPost_ret (v := .tuple #[.agg #[.int .i64 0, .int .i64 0, .slice none 0 0], .int .i64 2]) (by simp [results, Try.results38, go_sem, r0, r1, r2]) rfl ⟨rfl, sc (sc (sc (BB.out.trans E.out) (by omega) _) (by omega) _) (by omega) _⟩


set_option maxHeartbeats 4000000 in
set_option maxRecDepth 100000 in
theorem orbitS_t (w h : Nat) (G A : Option Addr) (ng cg n c : Nat) (l : List Int) (g : List Mv) (W : World) (hl : Il W (.slice A n c) l) (hv : vst w h l = true) (hg : Ml W (.slice G ng cg) g) (hng : ng ≤ 1000) (hgr : grpB w h g = true) :
    Calls Try.prog 37 #[.slice G ng cg, .agg #[.int .i64 w, .int .i64 h, .slice A n c]] W fun e W' => ∃ gf cap es, e = .returned (.tuple #[.slice (some ⟨gf, 0, none⟩) es.length cap, .int .i64 0]) ∧ es.length ≤ cap ∧ cap ≤ 9223372036854775807 ∧ 1 ≤ es.length ∧ es.length ≤ 1000 ∧ Rw W' w h n gf es ∧ (∀ x ∈ es, Ar3 W' x.b x.l ∧ x.l.length = n ∧ x.b ≠ gf) ∧ Orb w h n l g (es.map Sd.l) ∧ Ext W W' := by
  have hs : okSize w h = true := by unfold vst at hv; simp only [Bool.and_eq_true] at hv; exact hv.1.1
  have hnl : (n : Int) = (w : Int) * h := by
    have := hl.len
    unfold vst at hv; simp only [Bool.and_eq_true, decide_eq_true_eq] at hv; rw [this]; exact hv.1.2
  have hN : n = w * h := by have e : ((w * h : Nat) : Int) = (w : Int) * h := by simp
                            omega
  have hvv := fun X (hX : Il X (.slice A n c) l) => validS_any w h A n c l X hX
  rw [hv] at hvv
  have hhg := fun X (hX : Ml X (.slice G ng cg) g) => hasGroup_c w h G ng cg g X hs hX hng
  rw [hgr] at hhg
  have hG := grpB_iff.1 hgr
  have hn1 : 1 ≤ n := by
    have := area_in hs
    omega
  have hlen := hl.len
  have hll := hl
  obtain ⟨A', c', e, -, -, hcc⟩ := hll
  injection e with e1 e2 e3
  obtain ⟨bs, os, e4, hbs, hcells⟩ := hcc (by omega)
  rw [e4] at e1
  subst e1
  clear e2 e3 hcc e4
  have hcs : ∀ j, j < n → W.cell? ⟨bs, os + j, none⟩ = some (.int .i64 (l.getD j 0)) := fun j hj => hcells j (by omega)
  clear hcells
  have hng1 : 1 ≤ ng := by
    have := List.length_pos_of_mem (hG.gen _ .one)
    have := hg.len
    omega
  have hor := fun X (hX : Ext W X) => orbit_c w h G ng cg g bs os c l n X hs hG.has (hg.ext hX) hng1 hng hN (Nat.lt_of_lt_of_le hbs hX.size) (fun j hj => keepAt hX hbs (hcs j hj))
  have HVV := Lib.hid hvv; have HIL := Lib.hid hl; have HHG := Lib.hid hhg; have HML := Lib.hid hg; have HOR := Lib.hid hor; clear hvv hl hv hhg hg hs hgr hor hcs hG hN hnl hlen
  go_enter Try.func37, Try.ntmps37
  go_upto_region 1 with fail
  have q1 : Q3 (W.alloc (.cells #[.int .i64 w, .int .i64 h, .slice (some ⟨bs, os, none⟩) n c] 27)) W.heap.size (.int .i64 w) (.int .i64 h) (.slice (some ⟨bs, os, none⟩) n c) := by
    refine ⟨?_, ?_, ?_⟩ <;> (rw [World.cell?_alloc_new]; rfl)
  have bb := al1 W (.cells #[.int .i64 w, .int .i64 h, .slice (some ⟨bs, os, none⟩) n c] 27)
  have zz : (W.alloc (.cells #[.int .i64 w, .int .i64 h, .slice (some ⟨bs, os, none⟩) n c] 27)).heap.size = W.heap.size + 1 := by simp
  generalize (W.alloc (.cells #[.int .i64 w, .int .i64 h, .slice (some ⟨bs, os, none⟩) n c] 27)) = W1 at *
  have zle : W.heap.size + 1 ≤ W1.heap.size := by omega
  have BB : Hid (Ext W W1) := Lib.hid bb; have H1 := Lib.hid q1
  clear bb zz
  obtain ⟨p0, p1, p2⟩ := q1
  go_wp2_with fail
  refine (HVV.out _ (HIL.out.below BB.out)).mono ?_
  rintro e V ⟨rfl, hx⟩
  have E1 : Hid (Ext W1 V) := Lib.hid (Ext.of hx)
  clear hx p0 p1 p2
  obtain ⟨p0, p1, p2⟩ := H1.out.ext (by omega) E1.out
  go_wp2_with fail
  refine (sizeOf_any w h _ _ n c _ rfl).mono ?_
  rintro e V2 ⟨rfl, hx⟩
  have E2 : Hid (Ext W1 V2) := Lib.hid (E1.out.trans (Ext.of hx))
  clear hx p0 p1 p2
  go_wp2_with fail
  refine (HHG.out _ (HML.out.ext (BB.out.trans E2.out))).mono ?_
  rintro e V3 ⟨rfl, hx⟩
  have E3 : Hid (Ext W1 V3) := Lib.hid (E2.out.trans hx)
  clear hx
  obtain ⟨p0, p1, p2⟩ := H1.out.ext (by omega) E3.out
  go_wp2_with fail
  refine (HOR.out _ (BB.out.trans E3.out)).mono ?_
  rintro e V4 ⟨gf, cap, es, rfl, a1, a2, a3, a4, -, hrw, har, horb, hx⟩
  have HX : Hid (Ext W V4) := Lib.hid (BB.out.trans (E3.out.trans hx))
  have HRW := Lib.hid hrw; have HAR := Lib.hid har; have HORB := Lib.hid horb
  clear hx hrw har horb p0 p1 p2
  obtain ⟨ne, hne⟩ : ∃ ne, ne = es.length := ⟨_, rfl⟩
  rw [← hne] at a1 a3 a4 ⊢
  have HNE := Lib.hid hne; clear hne
  go_wp2
  go_ret2
  exact ⟨gf, cap, es, by rw [← HNE.out]; rfl, by rw [← HNE.out]; exact a1, a2, by rw [← HNE.out]; exact a3, by rw [← HNE.out]; exact a4, HRW.out, HAR.out, HORB.out, HX.out⟩

set_option maxHeartbeats 4000000 in
set_option maxRecDepth 100000 in
theorem leastS_t (w h : Nat) (G A : Option Addr) (ng cg n c : Nat) (l : List Int) (g : List Mv) (W : World) (hl : Il W (.slice A n c) l) (hv : vst w h l = true) (hg : Ml W (.slice G ng cg) g) (hng : ng ≤ 1000) (hgr : grpB w h g = true) :
    Calls Try.prog 38 #[.slice G ng cg, .agg #[.int .i64 w, .int .i64 h, .slice A n c]] W fun e W' => ∃ b L, e = .returned (.tuple #[.agg #[.int .i64 w, .int .i64 h, .slice (some ⟨b, 0, none⟩) n n], .int .i64 0]) ∧ L ≠ [] ∧ Orb w h n l g L ∧ Ar3 W' b (L.getD 0 []) ∧ (L.getD 0 []).length = n ∧ Ext W W' := by
  have hs : okSize w h = true := by unfold vst at hv; simp only [Bool.and_eq_true] at hv; exact hv.1.1
  have hnl : (n : Int) = (w : Int) * h := by
    have := hl.len
    unfold vst at hv; simp only [Bool.and_eq_true, decide_eq_true_eq] at hv; rw [this]; exact hv.1.2
  have hN : n = w * h := by have e : ((w * h : Nat) : Int) = (w : Int) * h := by simp
                            omega
  have hvv := fun X (hX : Il X (.slice A n c) l) => validS_any w h A n c l X hX
  rw [hv] at hvv
  have hhg := fun X (hX : Ml X (.slice G ng cg) g) => hasGroup_c w h G ng cg g X hs hX hng
  rw [hgr] at hhg
  have hG := grpB_iff.1 hgr
  have hn1 : 1 ≤ n := by
    have := area_in hs
    omega
  have hlen := hl.len
  have hll := hl
  obtain ⟨A', c', e, -, -, hcc⟩ := hll
  injection e with e1 e2 e3
  obtain ⟨bs, os, e4, hbs, hcells⟩ := hcc (by omega)
  rw [e4] at e1
  subst e1
  clear e2 e3 hcc e4
  have hcs : ∀ j, j < n → W.cell? ⟨bs, os + j, none⟩ = some (.int .i64 (l.getD j 0)) := fun j hj => hcells j (by omega)
  clear hcells
  have hng1 : 1 ≤ ng := by
    have := List.length_pos_of_mem (hG.gen _ .one)
    have := hg.len
    omega
  have hor := fun X (hX : Ext W X) => orbit_c w h G ng cg g bs os c l n X hs hG.has (hg.ext hX) hng1 hng hN (Nat.lt_of_lt_of_le hbs hX.size) (fun j hj => keepAt hX hbs (hcs j hj))
  have HVV := Lib.hid hvv; have HIL := Lib.hid hl; have HHG := Lib.hid hhg; have HML := Lib.hid hg; have HOR := Lib.hid hor; clear hvv hl hv hhg hg hs hgr hor hcs hG hN hnl hlen
  go_enter Try.func38, Try.ntmps38
  go_upto_region 1 with fail
  have q1 : Q3 ((W.alloc (.cells #[.int .i64 w, .int .i64 h, .slice (some ⟨bs, os, none⟩) n c] 27)).alloc (.cells #[.int .i64 0, .int .i64 0, .slice none 0 0] 27)) W.heap.size (.int .i64 w) (.int .i64 h) (.slice (some ⟨bs, os, none⟩) n c) := by
    refine ⟨?_, ?_, ?_⟩ <;> (rw [World.cell?_alloc_past _ _ _ (by simp), World.cell?_alloc_new]; rfl)
  have qt : T27 ((W.alloc (.cells #[.int .i64 w, .int .i64 h, .slice (some ⟨bs, os, none⟩) n c] 27)).alloc (.cells #[.int .i64 0, .int .i64 0, .slice none 0 0] 27)) (W.heap.size + 1) := by
    have := heap_alloc_new (W.alloc (.cells #[.int .i64 w, .int .i64 h, .slice (some ⟨bs, os, none⟩) n c] 27)) (.cells #[.int .i64 0, .int .i64 0, .slice none 0 0] 27)
    simp only [World.size_alloc] at this
    exact ⟨_, _, _, this⟩
  have bb := al2 W (.cells #[.int .i64 w, .int .i64 h, .slice (some ⟨bs, os, none⟩) n c] 27) (.cells #[.int .i64 0, .int .i64 0, .slice none 0 0] 27)
  have zz : ((W.alloc (.cells #[.int .i64 w, .int .i64 h, .slice (some ⟨bs, os, none⟩) n c] 27)).alloc (.cells #[.int .i64 0, .int .i64 0, .slice none 0 0] 27)).heap.size = W.heap.size + 1 + 1 := by simp
  generalize ((W.alloc (.cells #[.int .i64 w, .int .i64 h, .slice (some ⟨bs, os, none⟩) n c] 27)).alloc (.cells #[.int .i64 0, .int .i64 0, .slice none 0 0] 27)) = W1 at *
  have zle : W.heap.size + 1 + 1 ≤ W1.heap.size := by omega
  have HT := Lib.hid qt; clear qt
  have BB : Hid (Ext W W1) := Lib.hid bb; have H1 := Lib.hid q1
  clear bb zz
  obtain ⟨p0, p1, p2⟩ := q1
  go_wp2_with fail
  refine (HVV.out _ (HIL.out.below BB.out)).mono ?_
  rintro e V ⟨rfl, hx⟩
  have E1 : Hid (Ext W1 V) := Lib.hid (Ext.of hx)
  clear hx p0 p1 p2
  obtain ⟨p0, p1, p2⟩ := H1.out.ext (by omega) E1.out
  go_wp2_with fail
  refine (sizeOf_any w h _ _ n c _ rfl).mono ?_
  rintro e V2 ⟨rfl, hx⟩
  have E2 : Hid (Ext W1 V2) := Lib.hid (E1.out.trans (Ext.of hx))
  clear hx p0 p1 p2
  go_wp2_with fail
  refine (HHG.out _ (HML.out.ext (BB.out.trans E2.out))).mono ?_
  rintro e V3 ⟨rfl, hx⟩
  have E3 : Hid (Ext W1 V3) := Lib.hid (E2.out.trans hx)
  clear hx
  obtain ⟨p0, p1, p2⟩ := H1.out.ext (by omega) E3.out
  go_wp2_with fail
  refine (HOR.out _ (BB.out.trans E3.out)).mono ?_
  rintro e V4 ⟨gf, cap, es, rfl, a1, a2, a3, a4, a5, hrw, har, horb, hx⟩
  obtain ⟨x, hxe⟩ : ∃ x, es[0]? = some x := ⟨es[0]'(by omega), List.getElem?_eq_getElem _⟩
  obtain ⟨c0, c1, c2⟩ := hrw.2.1 0 x hxe
  rw [Nat.zero_mul] at c0 c1 c2
  obtain ⟨b1, b2, b3⟩ := har x (List.mem_of_getElem? hxe)
  have hL : (es.map Sd.l).getD 0 [] = x.l := by rw [List.getD_eq_getElem?_getD, List.getElem?_map, hxe]; rfl
  have hLn : es.map Sd.l ≠ [] := by intro e; rw [List.map_eq_nil_iff] at e; rw [e] at a3; simp at a3
  obtain ⟨⟨_, _, _, r0, r1, r2⟩, rf⟩ := (HT.out.ext (E3.out.trans hx)).tb.facts
  have hbn : x.b ≠ W.heap.size + 1 := (HT.out.ext (E3.out.trans hx)).ne b1
  have har2 : Ar3 (((V4.setCell ⟨W.heap.size + 1, 0, none⟩ (.int .i64 w)).setCell ⟨W.heap.size + 1, 1, none⟩ (.int .i64 h)).setCell ⟨W.heap.size + 1, 2, none⟩ (.slice (some ⟨x.b, 0, none⟩) n n)) x.b x.l := ((b1.far hbn).far hbn).far hbn
  have hX : Ext W V4 := BB.out.trans (E3.out.trans hx)
  have HX := Lib.hid hX; have HL := Lib.hid hL; have HLN := Lib.hid hLn; have HO := Lib.hid horb; have HA2 := Lib.hid har2; have HB2 := Lib.hid b2
  clear hX hL hLn horb har2 b1 b2 b3 hx hrw har p0 p1 p2 hxe
  obtain ⟨ne, hne⟩ : ∃ ne, ne = es.length := ⟨_, rfl⟩
  rw [← hne] at a1 a3 a4 ⊢
  clear hne
  go_wp2
  refine bodyPost_ret (v := .tuple #[.agg #[.int .i64 w, .int .i64 h, .slice (some ⟨x.b, 0, none⟩) n n], .int .i64 0]) (by simp [results, Try.results38, go_sem, r0, r1, r2]) rfl ⟨x.b, es.map Sd.l, rfl, HLN.out, HO.out, ?_, ?_, ?_⟩
  · rw [HL.out]; exact HA2.out
  · rw [HL.out]; exact HB2.out
  · exact sc (sc (sc HX.out (by omega) _) (by omega) _) (by omega) _

/-- the first moves that keep the cells -/
def kf (w h : Nat) (l : List Int) (g : List Mv) (k : Nat) : List Mv := (g.take k).filter (fun m => kpm w h m l)
theorem kf_yes {w h k : Nat} {l : List Int} {g : List Mv} {m : Mv} (hm : g[k]? = some m) (hb : kpm w h m l = true) : kf w h l g (k + 1) = kf w h l g k ++ [m] := by
  unfold kf
  have : List.filter (fun m => kpm w h m l) [m] = [m] := by rw [List.filter_cons, if_pos hb]; rfl
  rw [List.take_add_one, hm, List.filter_append]
  exact congrArg _ this
theorem kf_no {w h k : Nat} {l : List Int} {g : List Mv} {m : Mv} (hm : g[k]? = some m) (hb : kpm w h m l = false) : kf w h l g (k + 1) = kf w h l g k := by
  unfold kf
  have : List.filter (fun m => kpm w h m l) [m] = [] := by rw [List.filter_cons, if_neg (by rw [hb]; decide)]; rfl
  rw [List.take_add_one, hm, List.filter_append]
  exact (congrArg (_ ++ ·) this).trans (List.append_nil _)
theorem kf_len (w h : Nat) (l : List Int) (g : List Mv) (k : Nat) : (kf w h l g k).length ≤ k := by
  unfold kf
  exact Nat.le_trans (List.length_filter_le _ _) (by rw [List.length_take]; omega)
def KR (W6 : World) (w h : Nat) (l : List Int) (g : List Mv) (k : Nat) (v : Value) (wr : World) : Prop := wr.ownsRow W6.heap.size 31 4 v (kf w h l g k).length ((kf w h l g k).flatMap mc) ∧ Ext W6 wr

set_option maxHeartbeats 4000000 in
set_option maxRecDepth 100000 in
theorem keepsS_t (w h : Nat) (G A : Option Addr) (ng cg n c : Nat) (l : List Int) (g : List Mv) (W : World) (hl : Il W (.slice A n c) l) (hv : vst w h l = true) (hg : Ml W (.slice G ng cg) g) (hng : ng ≤ 1000) (hgr : grpB w h g = true) :
    Calls Try.prog 36 #[.slice G ng cg, .agg #[.int .i64 w, .int .i64 h, .slice A n c]] W fun e W' => ∃ v, e = .returned (.tuple #[v, .int .i64 0]) ∧ Ml W' v (g.filter (fun m => kpm w h m l)) ∧ Ext W W' := by
  obtain ⟨i0, hi, hz0, hz1, hz2⟩ := info_parts info31
  have hs : okSize w h = true := by unfold vst at hv; simp only [Bool.and_eq_true] at hv; exact hv.1.1
  have hnl : (n : Int) = (w : Int) * h := by
    have := hl.len
    unfold vst at hv; simp only [Bool.and_eq_true, decide_eq_true_eq] at hv; rw [this]; exact hv.1.2
  have hN : n = w * h := by have e : ((w * h : Nat) : Int) = (w : Int) * h := by simp
                            omega
  have hvv := fun X (hX : Il X (.slice A n c) l) => validS_any w h A n c l X hX
  rw [hv] at hvv
  have hhg := fun X (hX : Ml X (.slice G ng cg) g) => hasGroup_c w h G ng cg g X hs hX hng
  rw [hgr] at hhg
  have hG := grpB_iff.1 hgr
  have hn1 : 1 ≤ n := by
    have := area_in hs
    omega
  have hlen := hl.len
  have hll := hl
  obtain ⟨A', c', e, -, -, hcc⟩ := hll
  injection e with e1 e2 e3
  obtain ⟨bs, os, e4, hbs, hcells⟩ := hcc (by omega)
  rw [e4] at e1
  subst e1
  clear e2 e3 hcc e4
  have hcs : ∀ j, j < n → W.cell? ⟨bs, os + j, none⟩ = some (.int .i64 (l.getD j 0)) := fun j hj => hcells j (by omega)
  clear hcells
  have hkp := fun (Bs Bz : Nat) (m : Mv) X (hX : Ext W X) hBs hBz hq hz hm => keeps_c w h n bs os c Bs Bz l m X hs hN hBs hBz (Nat.lt_of_lt_of_le hbs hX.size) hq hz (fun j hj => keepAt hX hbs (hcs j hj)) hm
  have hall := hG.has
  have hlg := hg.len
  have HVV := Lib.hid hvv; have HIL := Lib.hid hl; have HHG := Lib.hid hhg; have HML := Lib.hid hg; have HKP := Lib.hid hkp; have HALL := Lib.hid hall; have HLEN := Lib.hid hlg; clear hvv hl hv hhg hg hs hgr hkp hcs hG hN hnl hlen hall hlg
  go_enter Try.func36, Try.ntmps36
  go_upto_region 1 with fail
  have q1 : Q3 (W.alloc (.cells #[.int .i64 w, .int .i64 h, .slice (some ⟨bs, os, none⟩) n c] 27)) W.heap.size (.int .i64 w) (.int .i64 h) (.slice (some ⟨bs, os, none⟩) n c) := by
    refine ⟨?_, ?_, ?_⟩ <;> (rw [World.cell?_alloc_new]; rfl)
  have bb := al1 W (.cells #[.int .i64 w, .int .i64 h, .slice (some ⟨bs, os, none⟩) n c] 27)
  have zz : (W.alloc (.cells #[.int .i64 w, .int .i64 h, .slice (some ⟨bs, os, none⟩) n c] 27)).heap.size = W.heap.size + 1 := by simp
  generalize (W.alloc (.cells #[.int .i64 w, .int .i64 h, .slice (some ⟨bs, os, none⟩) n c] 27)) = W1 at *
  have zle : W.heap.size + 1 ≤ W1.heap.size := by omega
  have BB : Hid (Ext W W1) := Lib.hid bb; have H1 := Lib.hid q1
  clear bb zz
  obtain ⟨p0, p1, p2⟩ := q1
  go_wp2_with fail
  refine (HVV.out _ (HIL.out.below BB.out)).mono ?_
  rintro e V ⟨rfl, hx⟩
  have E1 : Hid (Ext W1 V) := Lib.hid (Ext.of hx)
  clear hx p0 p1 p2
  obtain ⟨p0, p1, p2⟩ := H1.out.ext (by omega) E1.out
  go_wp2_with fail
  refine (sizeOf_any w h _ _ n c _ rfl).mono ?_
  rintro e V2 ⟨rfl, hx⟩
  have E2 : Hid (Ext W1 V2) := Lib.hid (E1.out.trans (Ext.of hx))
  clear hx p0 p1 p2
  go_wp2_with fail
  refine (HHG.out _ (HML.out.ext (BB.out.trans E2.out))).mono ?_
  rintro e V3 ⟨rfl, hx⟩
  have E3 : Hid (Ext W1 V3) := Lib.hid (E2.out.trans hx)
  clear hx
  obtain ⟨p0, p1, p2⟩ := H1.out.ext (by omega) E3.out
  go_wp2_with fail
  refine (patternOf_c w h (some ⟨bs, os, none⟩) n c _).mono ?_
  rintro e V4 ⟨Bs, Bz, rfl, hBs, hBz, hq, hz, hx⟩
  have hx4 : Ext W V4 := BB.out.trans (E3.out.trans hx)
  have hq6 : Q3 (V4.alloc (.cells #[.int .i64 w, .int .i64 h, .func (.func 88) #[] #[.pointer (some ⟨Bs, 0, none⟩), .pointer (some ⟨Bz, 0, none⟩)]] 107)) V4.heap.size (.int .i64 w) (.int .i64 h) (.func (.func 88) #[] #[.pointer (some ⟨Bs, 0, none⟩), .pointer (some ⟨Bz, 0, none⟩)]) := by
    refine ⟨?_, ?_, ?_⟩ <;> (rw [World.cell?_alloc_new]; rfl)
  have e6 : Ext V4 (V4.alloc (.cells #[.int .i64 w, .int .i64 h, .func (.func 88) #[] #[.pointer (some ⟨Bs, 0, none⟩), .pointer (some ⟨Bz, 0, none⟩)]] 107)) := (Ext.refl _).alc _
  have hs6 : V4.heap.size < (V4.alloc (.cells #[.int .i64 w, .int .i64 h, .func (.func 88) #[] #[.pointer (some ⟨Bs, 0, none⟩), .pointer (some ⟨Bz, 0, none⟩)]] 107)).heap.size := by simp
  have hqb := hq.ext hBs e6
  have hzb := hz.ext hBz e6
  have hx6 := hx4.trans e6
  clear p0 p1 p2
  go_upto_region 4 with fail
  generalize (V4.alloc (.cells #[.int .i64 w, .int .i64 h, .func (.func 88) #[] #[.pointer (some ⟨Bs, 0, none⟩), .pointer (some ⟨Bz, 0, none⟩)]] 107)) = W6 at *
  have hBs6 : Bs < W6.heap.size := by omega
  have hBz6 : Bz < W6.heap.size := by omega
  have HQ6 := Lib.hid hq6; have HQB := Lib.hid hqb; have HZB := Lib.hid hzb; have HX6 := Lib.hid hx6
  clear hq6 hqb hzb hx6 e6 hq hz hx hx4 BB E1 E2 E3 H1 HVV HHG
  go_wp2_with fail
  go_loopw [7, 24] (fun v i wr => ∃ k : Nat, i = .int .i64 k ∧ k ≤ ng ∧ KR W6 w h l g k v wr) (fun _ i _ => ng - (intOf i).toNat)
  case atStart => exact ⟨0, rfl, by omega, ⟨by simp [kf], .inl ⟨rfl, by simp [kf]⟩⟩, Ext.refl _⟩
  case round =>
    obtain ⟨k, rfl, hk, hkr⟩ := hrel
    have HK := Lib.hid hkr; clear hkr
    by_cases hlt : k < ng
    · obtain ⟨m, hm⟩ : ∃ m, g[k]? = some m := ⟨g[k]'(by rw [← HLEN.out]; exact hlt), List.getElem?_eq_getElem _⟩
      obtain ⟨b1, off1, rfl, hb1, hc1⟩ := HML.out.cm (by omega)
      have hxw := HX6.out.trans HK.out.2
      obtain ⟨d0, d1, d2, d3⟩ := (hc1.ext hb1 hxw) k m hm
      clear hc1
      obtain ⟨p0, p1, p2⟩ := HQ6.out.ext hs6 HK.out.2
      have hs6w : V4.heap.size < wr.heap.size := Nat.lt_of_lt_of_le hs6 HK.out.2.size
      have hkp := fun X (hX : Ext wr X) => HKP.out Bs Bz m X (hxw.trans hX) (Nat.lt_of_lt_of_le hBs6 (HK.out.2.trans hX).size) (Nat.lt_of_lt_of_le hBz6 (HK.out.2.trans hX).size) (HQB.out.ext hBs6 (HK.out.2.trans hX)) (HZB.out.ext hBz6 (HK.out.2.trans hX)) (HALL.out m (List.mem_of_getElem? hm))
      have hy := fun hb => kf_yes (w := w) (h := h) (l := l) hm hb
      have hno := fun hb => kf_no (w := w) (h := h) (l := l) hm hb
      have hq7 := q4_new wr (.int .i64 m.dx) (.int .i64 m.dy) (.int .i64 m.t) (.bool m.f) 31
      have hs7 : wr.heap.size < (wr.alloc (.cells #[.int .i64 m.dx, .int .i64 m.dy, .int .i64 m.t, .bool m.f] 31)).heap.size := by simp
      obtain ⟨d, hd⟩ : ∃ d, d = kpm w h m l := ⟨_, rfl⟩
      simp only [← hd] at hkp
      rw [← hd] at hy hno
      have HKPM := Lib.hid hkp; have HY := Lib.hid hy; have HNO := Lib.hid hno; have HQ7 := Lib.hid hq7; have HS7 := Lib.hid hs7
      clear hkp hy hno hq7 hs7 hm hd hxw
      go_wp2_with fail
      refine (HKPM.out _ ((Ext.refl _).alc _)).mono ?_
      rintro e V5 ⟨rfl, hx⟩
      have e1 : Ext wr V5 := nx ((Ext.refl wr).alc _) hx
      have hq8 := HQ7.out.ext HS7.out hx
      have hs8 : wr.heap.size < V5.heap.size := by have := Ext.size hx; have := HS7.out; omega
      have E1 := Lib.hid e1; have HQ8 := Lib.hid hq8
      clear e1 hq8 hx d0 d1 d2 d3 p0 p1 p2
      cases d with
      | false =>
        have hn := HNO.out rfl
        have HN := Lib.hid hn; clear hn
        go_wp2_with fail
        go_roundw
        case rel => exact ⟨k + 1, by go_num, by omega, by unfold KR; rw [HN.out]; exact ⟨World.ownsRow.ext HK.out.1 E1.out, HK.out.2.trans E1.out⟩⟩
        case measure => simp [intOf]; omega
      | true =>
        have hn := HY.out rfl
        have HN := Lib.hid hn; clear hn
        obtain ⟨t0, t1, t2, t3⟩ := HQ8.out
        have hown := (World.ownsRow.ext HK.out.1 E1.out).alloc (.cells #[.int .i64 m.dx, .int .i64 m.dy, .int .i64 m.t, .bool m.f] 31)
        have hbase := (HK.out.2.trans E1.out).size
        have hfl := kf_len w h l g k
        go_wp2_with (at_builtin; refine wpList_append_own _ rfl _ _ 51 rfl W6.heap.size 31 i0 (.agg #[.int .i64 0, .int .i64 0, .int .i64 0, .bool false]) 4 32 Try.underlying51 hi hz0 hz1 hz2 rfl (by decide) _ _ _ rfl hown ⟨V5.heap.size, 0, none⟩ 1 1 (mc m) rfl rfl ?c1 ?c2 ?c3 ?c4 ?c5 ?_)
        case c1 =>
          intro j u hj
          match j, hj with
          | 0, hj => simp [mc] at hj; subst hj; simp [Addr.add]
          | 1, hj => simp [mc] at hj; subst hj; simp [Addr.add]
          | 2, hj => simp [mc] at hj; subst hj; simp [Addr.add]
          | 3, hj => simp [mc] at hj; subst hj; simp [Addr.add]
          | j + 4, hj => simp [mc] at hj
        case c2 => intro u hu; simp [mc] at hu; rcases hu with rfl | rfl | rfl | rfl <;> rfl
        case c3 => unfold maxLen; omega
        case c4 => omega
        case c5 => simp; omega
        intro v' w9 hown' hgrow _
        have e9 : Ext W6 w9 := Below.grown ((HK.out.2.trans E1.out).alc (.cells #[.int .i64 m.dx, .int .i64 m.dy, .int .i64 m.t, .bool m.f] 31)) hgrow (by simp; omega) (fun k hk => by have := (hown.lt k hk).1; omega)
        have hfr : Hid (KR W6 w h l g (k + 1) v' w9) := Lib.hid (by
          unfold KR
          rw [HN.out, List.length_append, List.length_singleton, List.flatMap_append]
          exact ⟨by simpa using hown', e9⟩)
        clear e9 hown' hgrow hown t0 t1 t2 t3
        go_wp2_with fail
        go_roundw
        case rel => exact ⟨k + 1, by go_num, by omega, hfr.out⟩
        case measure => simp [intOf]; omega
    · obtain rfl : k = ng := by omega
      have hml := Ml.of_row HK.out.1
      have he : kf w h l g k = g.filter (fun m => kpm w h m l) := by unfold kf; rw [List.take_of_length_le (by rw [← HLEN.out]; exact Nat.le_refl _)]
      have HF := Lib.hid hml; have HE := Lib.hid he; clear hml he
      have hml2 := HF.out
      obtain ⟨A9, c9, rfl, -⟩ := hml2
      obtain ⟨nn, hnn⟩ : ∃ nn, nn = (kf w h l g k).length := ⟨_, rfl⟩
      rw [← hnn] at HF HK ⊢
      clear hnn
      go_wp2
      go_ret2
      exact ⟨_, rfl, by rw [← HE.out]; exact HF.out, HX6.out.trans HK.out.2⟩
end Go.Proofs.Ytgjanbgehbpciaa
