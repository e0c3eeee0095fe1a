/- Walks: the reference: Valid, Same, answer. · Walks: Cmp. · Walks: awake. · Walks: ref Add. · Walks: ref Sub. -/
import Derived.Test.YtmlopkkbgpfdnaaM12
import Derived.Test.YtmlopkkbgpfdnaaM2
import Derived.Test.YtmlopkkbgpfdnaaM11
namespace Go.Proofs.Ytmlopkkbgpfdnaa
open Go.RowKit

set_option maxHeartbeats 400000 in
set_option maxRecDepth 100000 in
/-- ref Valid -/
theorem validR_any (neg : Bool) (A : Option Addr) (n c : Nat) (l : List Nat) (w : World) (hv : Wd w (.slice A n c) l) :
    Calls Try.prog 15 #[.agg #[.bool neg, .slice A n c]] w fun e w' => e = .returned (.bool (vld neg l)) ∧ Below w.heap.size w w' := by
  have hb := below1 w (Obj.cells #[.bool neg, .slice A n c] 24)
  have Hb := Lib.hid hb; clear hb
  have hn := hv.len
  have hl := hv.len_le
  obtain ⟨A', c', he, -, -, hok, hcells⟩ := hv
  injection he with e1 e2 e3
  subst e1 e3
  rw [← e2] at hcells
  clear e2
  by_cases h0 : n = 0
  · subst h0
    have hr : vld neg l = !neg := by unfold vld; rw [if_pos hn.symm]
    have Hr := Lib.hid hr; clear hr hcells hn
    cases neg
    · go_enter Try.func15, Try.ntmps15
      go_wp2
      go_ret
      exact ⟨by rw [Hr.out]; rfl, Hb.out⟩
    · go_enter Try.func15, Try.ntmps15
      go_wp2
      go_ret
      exact ⟨by rw [Hr.out]; rfl, Hb.out⟩
  · obtain ⟨b, off, rfl, hbl, hc⟩ := hcells (by omega)
    have h1 := hc (n - 1) (by omega)
    obtain ⟨x, hx⟩ : ∃ x, x = l.getD (n - 1) 0 := ⟨_, rfl⟩
    rw [← hx] at h1
    have h1' : (w.alloc (Obj.cells #[.bool neg, .slice (some ⟨b, off, none⟩) n c] 24)).cell? ⟨b, off + (n - 1), none⟩ = some (.int .u32 x) := by rw [World.cell?_alloc_past _ _ _ hbl]; exact h1
    have hr : vld neg l = (decide (n ≤ 256) && !decide (x = 0)) := by unfold vld; rw [if_neg (by omega), ← hn, ← hx]
    have Hr := Lib.hid hr; clear hr hcells hc hx hn
    have hp : decide ((0 : Int) < (n : Int)) = true := by simp; omega
    have hpn : decide (0 < n) = true := by simp; omega
    have he0 : ((n : Int) == 0) = false := by simp; omega
    by_cases h2 : n ≤ 256
    · have h2b : decide ((n : Int) ≤ 256) = true := by simp; omega
      by_cases h3 : x = 0
      · subst h3
        go_enter Try.func15, Try.ntmps15
        go_wp2
        go_ret
        exact ⟨by rw [Hr.out]; simp [h2], Hb.out⟩
      · have h4 : ((x : Int) != 0) = true := by simp; omega
        go_enter Try.func15, Try.ntmps15
        go_wp2
        go_ret
        exact ⟨by rw [Hr.out]; simp [h2, h3], Hb.out⟩
    · have h4 : decide ((n : Int) ≤ 256) = false := by simp; omega
      go_enter Try.func15, Try.ntmps15
      go_wp2
      go_ret
      exact ⟨by rw [Hr.out]; simp [h2], Hb.out⟩

theorem same_iff {x y : Int} {p q : Bool} (hp : p = decide (x < 0)) (hq : q = decide (y < 0)) : x = y ↔ p = q ∧ x.natAbs = y.natAbs := by
  subst hp hq
  rw [decide_eq_decide]
  omega

set_option maxHeartbeats 400000 in
set_option maxRecDepth 100000 in
/-- ref Same, of numbers in their only form -/
theorem sameR_any (x y : Int) (a b : Value) (w : World) (ha : ZV w a x) (hb : ZV w b y) :
    Calls Try.prog 16 #[a, b] w fun e w' => e = .returned (.bool (decide (x = y))) ∧ Below w.heap.size w w' := by
  obtain ⟨A, n, c, rfl, hv, hn, hl⟩ := ha.open_
  obtain ⟨A', n', c', rfl, hv', hn', hl'⟩ := hb.open_
  obtain ⟨p, hp⟩ : ∃ p, p = decide (x < 0) := ⟨_, rfl⟩
  obtain ⟨q, hq⟩ : ∃ q, q = decide (y < 0) := ⟨_, rfl⟩
  rw [← hp, ← hq]
  have hs := same_iff hp hq
  have hb2 := below2 w (Obj.cells #[.bool p, .slice A n c] 24) (Obj.cells #[.bool q, .slice A' n' c'] 24)
  have Hv := Lib.hid (hv.below hb2)
  have Hv' := Lib.hid (hv'.below hb2)
  have Hb := Lib.hid hb2; clear hb2 ha hb hv hv' hp hq
  by_cases h1 : p = q
  · subst h1
    have hpp : (p == p) = true := by simp
    by_cases h2 : n = n'
    · subst h2
      have hnn : ((n : Int) == (n : Int)) = true := by simp
      have hr : decide (x = y) = (cmpN x.natAbs y.natAbs == 0) := by
        rw [Bool.eq_iff_iff]
        simp only [decide_eq_true_eq, beq_iff_eq, hs, true_and]
        constructor
        · intro h; exact cmpN_eq h
        · intro h
          rcases Nat.lt_trichotomy x.natAbs y.natAbs with h3 | h3 | h3
          · rw [cmpN_lt h3] at h; omega
          · exact h3
          · rw [cmpN_gt h3] at h; omega
      rw [hr]
      clear hr hs hn hn'
      obtain ⟨cm, hcm⟩ : ∃ cm, cm = cmpN x.natAbs y.natAbs := ⟨_, rfl⟩
      rw [← hcm]
      have Hcm := Lib.hid hcm; clear hcm
      go_enter Try.func16, Try.ntmps16
      go_wp2_with fail
      refine (orderR_any x.natAbs y.natAbs _ _ _ Hv.out Hv'.out).mono ?_
      rintro e w2 ⟨rfl, nq, rfl⟩
      rw [← Hcm.out]
      go_wp2
      go_ret
      exact ⟨rfl, Below.toDrewN Hb.out nq⟩
    · have hnn : ((n : Int) == (n' : Int)) = false := by simp; omega
      have hr : decide (x = y) = false := by
        rw [decide_eq_false_iff_not]; intro e; subst e; exact h2 (by rw [hn, hn'])
      rw [hr]
      clear hr hs hn hn'
      go_enter Try.func16, Try.ntmps16
      go_wp2
      go_ret
      exact ⟨rfl, Hb.out⟩
  · have hpq : (p == q) = false := by simpa using h1
    have hr : decide (x = y) = false := by
      rw [decide_eq_false_iff_not]; intro e; exact h1 (hs.1 e).1
    rw [hr]
    clear hr hs h1 hn hn'
    go_enter Try.func16, Try.ntmps16
    go_wp2
    go_ret
    exact ⟨rfl, Hb.out⟩

set_option maxRecDepth 100000 in
/-- ref answer -/
theorem answer_yes (z : Int) (a : Value) (w : World) (ha : ZV w a z) (hlen : (dig z.natAbs).length ≤ 256) :
    Calls Try.prog 58 #[a] w fun e w' => ∃ b A n c, e = .returned (.tuple #[.agg #[.bool b, .slice A n c], .int .i64 0]) ∧ ZV w' (.agg #[.bool b, .slice A n c]) z ∧ Below w.heap.size w w' := by
  obtain ⟨A, n, c, rfl, -, -, -⟩ := ha.open_
  obtain ⟨p, hp⟩ : ∃ p, p = decide (z < 0) := ⟨_, rfl⟩
  rw [← hp] at ha ⊢
  clear hp
  have hd : decide ((dig z.natAbs).length ≤ 256) = true := by simpa using hlen
  have Ha := Lib.hid ha; clear ha
  have Hd := Lib.hid hd; clear hd
  go_enter Try.func58, Try.ntmps58
  go_wp2_with fail
  have hb2 := below2 w (Obj.cells #[.bool p, .slice A n c] 34) (Obj.cells #[.bool false, .slice none 0 0] 24)
  have hR2 := RB.b2 w false none 0 0 24 (Obj.cells #[.bool p, .slice A n c] 34)
  refine (fitsR_any z _ _ (Ha.out.below hb2)).mono ?_
  rintro e w1 ⟨rfl, hb1⟩
  rw [Hd.out]
  have z1 : w.heap.size + 1 + 1 ≤ w1.heap.size := by have := hb1.size; simpa using this
  have q0 : w1.cell? ⟨w.heap.size, 0, none⟩ = some (.bool p) := keepAt hb1 (by simp <;> omega) (by rw [World.cell?_alloc_past _ _ _ (by simp), World.cell?_alloc_new]; rfl)
  have q1 : w1.cell? ⟨w.heap.size, 1, none⟩ = some (.slice A n c) := keepAt hb1 (by simp <;> omega) (by rw [World.cell?_alloc_past _ _ _ (by simp), World.cell?_alloc_new]; rfl)
  have hR1 := Lib.hid (hR2.below hb1 (by simp))
  have ha1 := Lib.hid (Ha.out.below (hb2.trans (hb1.mono (by simp; omega))))
  have hb01 := Lib.hid (hb2.trans (hb1.mono (by simp; omega)))
  clear hb1 hb2 hR2
  go_wp2_with fail
  refine (int_any p A n c _).mono ?_
  rintro e w2 ⟨rfl, hb3⟩
  have hR := hR1.out.below hb3 (by omega)
  obtain ⟨a0, A0, n0, c0, k10, k11, k20, k21⟩ := hR.facts
  have s0 := hR.set0 p (.slice A n c)
  have s1 := hR.set1 p (.slice A n c)
  have fin := And.intro ((ha1.out.below hb3).rb hR (.bool p) (.slice A n c)) (below_set2 (g := w.heap.size + 1) (i := 0) (j := 1) (hb01.out.trans (hb3.mono hb01.out.size)) (by omega) (.bool p) (.slice A n c))
  have Fin := Lib.hid fin; clear fin hb3 hR
  go_wp2
  exact bodyPost_ret (v := .tuple #[.agg #[.bool p, .slice A n c], .int .i64 0]) (by simp [results, Try.results58, go_sem, s0, s1]) rfl ⟨p, A, n, c, rfl, Fin.out.1, Fin.out.2⟩

set_option maxRecDepth 100000 in
theorem answer_no (z : Int) (a : Value) (w : World) (ha : ZV w a z) (hlen : 256 < (dig z.natAbs).length) :
    Calls Try.prog 58 #[a] w fun e w' => e = .returned (.tuple #[.agg #[.bool false, .slice none 0 0], .int .i64 5]) ∧ Below w.heap.size w w' := by
  obtain ⟨A, n, c, rfl, -, -, -⟩ := ha.open_
  obtain ⟨p, hp⟩ : ∃ p, p = decide (z < 0) := ⟨_, rfl⟩
  rw [← hp] at ha ⊢
  clear hp
  have hd : decide ((dig z.natAbs).length ≤ 256) = false := by simp; omega
  have Ha := Lib.hid ha; clear ha
  have Hd := Lib.hid hd; clear hd
  go_enter Try.func58, Try.ntmps58
  go_wp2_with fail
  have hb2 := below2 w (Obj.cells #[.bool p, .slice A n c] 34) (Obj.cells #[.bool false, .slice none 0 0] 24)
  have hR2 := RB.b2 w false none 0 0 24 (Obj.cells #[.bool p, .slice A n c] 34)
  refine (fitsR_any z _ _ (Ha.out.below hb2)).mono ?_
  rintro e w1 ⟨rfl, hb1⟩
  rw [Hd.out]
  have hR := hR2.below hb1 (by simp)
  obtain ⟨a0, A0, n0, c0, k10, k11, k20, k21⟩ := hR.facts
  have s0 := hR.set0 false (.slice none 0 0)
  have s1 := hR.set1 false (.slice none 0 0)
  have fin := below_set2 (g := w.heap.size + 1) (i := 0) (j := 1) (hb2.trans (hb1.mono (by simp; omega))) (by omega) (.bool false) (.slice none 0 0)
  have Fin := Lib.hid fin; clear fin hb1 hb2 hR hR2
  go_wp2
  exact bodyPost_ret (v := .tuple #[.agg #[.bool false, .slice none 0 0], .int .i64 5]) (by simp [results, Try.results58, go_sem, s0, s1]) rfl ⟨rfl, Fin.out⟩
end Go.Proofs.Ytmlopkkbgpfdnaa
namespace Go.Proofs.Ytmlopkkbgpfdnaa
open Go.RowKit

theorem two1 {w : World} {c1 : Array Value} {t1 : TypeId} {o2 : Obj} (i : Nat) : ((w.alloc (.cells c1 t1)).alloc o2).cell? ⟨w.heap.size, i, none⟩ = c1[i]? := by
  rw [World.cell?_alloc_past _ _ _ (by simp), World.cell?_alloc_new]
theorem two2 {w : World} {c2 : Array Value} {t2 : TypeId} {o1 : Obj} (i : Nat) : ((w.alloc o1).alloc (.cells c2 t2)).cell? ⟨w.heap.size + 1, i, none⟩ = c2[i]? := by
  rw [World.cell?_alloc_at _ _ _ _ (by simp)]

set_option maxRecDepth 100000 in
theorem exactCmp_no (p q : Bool) (A A' : Option Addr) (n c n' c' : Nat) (l l' : List Nat) (w : World) (hx : Wd w (.slice A n c) l) (hy : Wd w (.slice A' n' c') l') (hno : (vld p l && vld q l') = false) :
    Calls Try.prog 20 #[.agg #[.bool p, .slice A n c], .agg #[.bool q, .slice A' n' c']] w fun e w' => e = .returned (.tuple #[.int .i64 0, .int .i64 2]) ∧ Below w.heap.size w w' := by
  have Hx := Lib.hid hx; clear hx
  have Hy := Lib.hid hy; clear hy
  have Hno := Lib.hid hno; clear hno
  go_enter Try.func20, Try.ntmps20
  go_wp2_with fail
  have hb3 := below3 w (Obj.cells #[.bool p, .slice A n c] 24) (Obj.cells #[.bool q, .slice A' n' c'] 24) (Obj.cells #[.bool p, .slice A n c, .bool q, .slice A' n' c'] 24)
  refine (allValid_two p q A A' n c n' c' l l' w _ _ (by have := heap_alloc_new ((w.alloc (Obj.cells #[.bool p, .slice A n c] 24)).alloc (Obj.cells #[.bool q, .slice A' n' c'] 24)) (Obj.cells #[.bool p, .slice A n c, .bool q, .slice A' n' c'] 24); simpa using this) (Hx.out.below hb3) (Hy.out.below hb3)).mono ?_
  rintro e w1 ⟨rfl, hb1⟩
  rw [Hno.out]
  have Hb := Lib.hid (hb3.trans (hb1.mono (by simp <;> omega)))
  clear hb1 hb3
  go_wp2
  go_ret2
  exact ⟨rfl, Hb.out⟩

set_option maxHeartbeats 800000 in
set_option maxRecDepth 100000 in
theorem exactCmp_yes (x y : Int) (p q : Bool) (A A' : Option Addr) (n c n' c' : Nat) (l l' : List Nat) (w : World) (hx : Wd w (.slice A n c) l) (hy : Wd w (.slice A' n' c') l') (hp : vld p l = true) (hq : vld q l' = true) (ex : x = numOf p l) (ey : y = numOf q l') :
    Calls Try.prog 20 #[.agg #[.bool p, .slice A n c], .agg #[.bool q, .slice A' n' c']] w fun e w' => e = .returned (.tuple #[.int .i64 (x - y).sign, .int .i64 0]) ∧ Below w.heap.size w w' := by
  have zx := vld_zv hx hp
  have zy := vld_zv hy hq
  have lx : (dig x.natAbs).length ≤ 256 := by rw [ex, vld_dig hx.ok hp]; exact vld_len hp
  have ly : (dig y.natAbs).length ≤ 256 := by rw [ey, vld_dig hy.ok hq]; exact vld_len hq
  rw [← ex] at zx
  rw [← ey] at zy
  have hyes : (vld p l && vld q l') = true := by rw [hp, hq]; rfl
  have Hx := Lib.hid hx; clear hx
  have Hy := Lib.hid hy; clear hy
  have Zx := Lib.hid zx; clear zx
  have Zy := Lib.hid zy; clear zy
  have Hyes := Lib.hid hyes; clear hyes hp hq ex ey
  obtain ⟨sg, hsg⟩ : ∃ sg, sg = (x - y).sign := ⟨_, rfl⟩
  rw [← hsg]
  have Hsg := Lib.hid hsg; clear hsg
  go_enter Try.func20, Try.ntmps20
  go_wp2_with fail
  have hb3 := below3 w (Obj.cells #[.bool p, .slice A n c] 24) (Obj.cells #[.bool q, .slice A' n' c'] 24) (Obj.cells #[.bool p, .slice A n c, .bool q, .slice A' n' c'] 24)
  refine (allValid_two p q A A' n c n' c' l l' w _ _ (by have := heap_alloc_new ((w.alloc (Obj.cells #[.bool p, .slice A n c] 24)).alloc (Obj.cells #[.bool q, .slice A' n' c'] 24)) (Obj.cells #[.bool p, .slice A n c, .bool q, .slice A' n' c'] 24); simpa using this) (Hx.out.below hb3) (Hy.out.below hb3)).mono ?_
  rintro e w1 ⟨rfl, hb1⟩
  rw [Hyes.out]
  have z1 : w.heap.size + 1 + 1 + 1 ≤ w1.heap.size := by have := hb1.size; simpa using this
  have m10 : w1.cell? ⟨w.heap.size, 0, none⟩ = some (.bool p) := keepAt hb1 (by simp <;> omega) (old1 0)
  have m11 : w1.cell? ⟨w.heap.size, 1, none⟩ = some (.slice A n c) := keepAt hb1 (by simp <;> omega) (old1 1)
  have m20 : w1.cell? ⟨w.heap.size + 1, 0, none⟩ = some (.bool q) := keepAt hb1 (by simp <;> omega) (old2 0)
  have m21 : w1.cell? ⟨w.heap.size + 1, 1, none⟩ = some (.slice A' n' c') := keepAt hb1 (by simp <;> omega) (old2 1)
  have hb0 : Below w.heap.size w w1 := hb3.trans (hb1.mono (by simp <;> omega))
  clear hb3 hb1
  have Zx1 := Lib.hid (Zx.out.below hb0)
  have Zy1 := Lib.hid (Zy.out.below hb0)
  have Hb0 := Lib.hid hb0; clear hb0
  have tk0 : True := trivial
  go_wp2_with fail
  go_region_held3 (fun w' => w'.cell? ⟨w.heap.size, 0, none⟩ = some (.bool p) ∧ w'.cell? ⟨w.heap.size, 1, none⟩ = some (.slice A n c) ∧ w'.cell? ⟨w.heap.size + 1, 0, none⟩ = some (.bool q) ∧ w'.cell? ⟨w.heap.size + 1, 1, none⟩ = some (.slice A' n' c'))
    (first | exact ⟨m10, m11, m20, m21⟩ | (go_split_ands; exact ⟨by assumption, by assumption, by assumption, by assumption⟩) | (go_split_ands; exact ⟨keepAt hb2 (by show _ < w1.heap.size; omega) (by assumption), keepAt hb2 (by show _ < w1.heap.size; omega) (by assumption), keepAt hb2 (by show _ < w1.heap.size; omega) (by assumption), keepAt hb2 (by show _ < w1.heap.size; omega) (by assumption)⟩) | (go_split_ands; exact ⟨keepAt hb4 (by omega) (by assumption), keepAt hb4 (by omega) (by assumption), keepAt hb4 (by omega) (by assumption), keepAt hb4 (by omega) (by assumption)⟩) | (go_split_ands; exact ⟨keepAt hb5 (by omega) (by assumption), keepAt hb5 (by omega) (by assumption), keepAt hb5 (by omega) (by assumption), keepAt hb5 (by omega) (by assumption)⟩))
    (first | (go_at_call 49; have _t := tk0; refine (wholeOf_any p A n c _).mono ?_; rintro e w2 ⟨rfl, hb2⟩; clear tk0; have tk1 : True := trivial; have z2 : w1.heap.size ≤ w2.heap.size := (undrew hb2).size; have zx2 := Zx1.out.below (undrew hb2); have zy2 := Zy1.out.below (undrew hb2)) | (go_at_call 49; have _t := tk1; refine (wholeOf_any q A' n' c' _).mono ?_; rintro e w4 ⟨rfl, hb4⟩; have z4 := hb4.size; have zx4 := zx2.below hb4; have zy4 := zy2.below hb4) | (go_at_call 50; refine (compareZ_any x y _ _ _ zx4 zy4 (by omega) (by omega)).mono ?_; rintro e w5 ⟨rfl, hb5⟩; have z5 := hb5.size))
  rw [← Hsg.out]
  have Hb := Lib.hid (((Hb0.out.trans ((undrew hb2).mono (by show _ ≤ w1.heap.size; omega))).trans (hb4.mono (by omega))).trans (hb5.mono (by omega)))
  go_wp2
  go_ret2
  exact ⟨rfl, Hb.out⟩

set_option maxRecDepth 100000 in
theorem refCmp_noa (p q : Bool) (A A' : Option Addr) (n c n' c' : Nat) (l l' : List Nat) (w : World) (hx : Wd w (.slice A n c) l) (hy : Wd w (.slice A' n' c') l') (hno : vld p l = false) :
    Calls Try.prog 21 #[.agg #[.bool p, .slice A n c], .agg #[.bool q, .slice A' n' c']] w fun e w' => e = .returned (.tuple #[.int .i64 0, .int .i64 2]) ∧ Below w.heap.size w w' := by
  have Hx := Lib.hid hx; clear hx
  have Hy := Lib.hid hy; clear hy
  have Hno := Lib.hid hno; clear hno
  go_enter Try.func21, Try.ntmps21
  go_wp2_with fail
  have hb2 := below2 w (Obj.cells #[.bool p, .slice A n c] 24) (Obj.cells #[.bool q, .slice A' n' c'] 24)
  refine (validR_any p A n c l _ (Hx.out.below hb2)).mono ?_
  rintro e w1 ⟨rfl, hb1⟩
  rw [Hno.out]
  have Hb := Lib.hid (hb2.trans (hb1.mono (by simp <;> omega)))
  clear hb1 hb2
  go_wp2
  go_ret2
  exact ⟨rfl, Hb.out⟩

set_option maxRecDepth 100000 in
theorem refCmp_nob (p q : Bool) (A A' : Option Addr) (n c n' c' : Nat) (l l' : List Nat) (w : World) (hx : Wd w (.slice A n c) l) (hy : Wd w (.slice A' n' c') l') (hyes : vld p l = true) (hno : vld q l' = false) :
    Calls Try.prog 21 #[.agg #[.bool p, .slice A n c], .agg #[.bool q, .slice A' n' c']] w fun e w' => e = .returned (.tuple #[.int .i64 0, .int .i64 2]) ∧ Below w.heap.size w w' := by
  have Hx := Lib.hid hx; clear hx
  have Hy := Lib.hid hy; clear hy
  have Hno := Lib.hid hno; clear hno
  have Hyes := Lib.hid hyes; clear hyes
  go_enter Try.func21, Try.ntmps21
  go_wp2_with fail
  have hb2 := below2 w (Obj.cells #[.bool p, .slice A n c] 24) (Obj.cells #[.bool q, .slice A' n' c'] 24)
  refine (validR_any p A n c l _ (Hx.out.below hb2)).mono ?_
  rintro e w1 ⟨rfl, hb1⟩
  rw [Hyes.out]
  have q0 : w1.cell? ⟨w.heap.size + 1, 0, none⟩ = some (.bool q) := keepAt hb1 (by simp <;> omega) (two2 0)
  have q1 : w1.cell? ⟨w.heap.size + 1, 1, none⟩ = some (.slice A' n' c') := keepAt hb1 (by simp <;> omega) (two2 1)
  have hb01 := hb2.trans (hb1.mono (by simp <;> omega))
  have Hy1 := Lib.hid (Hy.out.below hb01)
  have Hb01 := Lib.hid hb01
  clear hb1 hb2 hb01
  go_wp2_with fail
  refine (validR_any q A' n' c' l' _ Hy1.out).mono ?_
  rintro e w2 ⟨rfl, hb2⟩
  rw [Hno.out]
  have Hb := Lib.hid (Hb01.out.trans (hb2.mono Hb01.out.size))
  clear hb2
  go_wp2
  go_ret2
  exact ⟨rfl, Hb.out⟩

set_option maxHeartbeats 800000 in
set_option maxRecDepth 100000 in
theorem refCmp_yes (x y : Int) (p q : Bool) (A A' : Option Addr) (n c n' c' : Nat) (l l' : List Nat) (w : World) (hx : Wd w (.slice A n c) l) (hy : Wd w (.slice A' n' c') l') (hp : vld p l = true) (hq : vld q l' = true) (ex : x = numOf p l) (ey : y = numOf q l') :
    Calls Try.prog 21 #[.agg #[.bool p, .slice A n c], .agg #[.bool q, .slice A' n' c']] w fun e w' => e = .returned (.tuple #[.int .i64 (x - y).sign, .int .i64 0]) ∧ Below w.heap.size w w' := by
  have zx := vld_zv hx hp
  have zy := vld_zv hy hq
  have lx : (dig x.natAbs).length ≤ 256 := by rw [ex, vld_dig hx.ok hp]; exact vld_len hp
  have ly : (dig y.natAbs).length ≤ 256 := by rw [ey, vld_dig hy.ok hq]; exact vld_len hq
  rw [← ex] at zx
  rw [← ey] at zy
  have Hx := Lib.hid hx; clear hx
  have Hy := Lib.hid hy; clear hy
  have Zx := Lib.hid zx; clear zx
  have Zy := Lib.hid zy; clear zy
  have Hp := Lib.hid hp; clear hp
  have Hq := Lib.hid hq; clear hq ex ey
  obtain ⟨sg, hsg⟩ : ∃ sg, sg = (x - y).sign := ⟨_, rfl⟩
  rw [← hsg]
  have Hsg := Lib.hid hsg; clear hsg
  go_enter Try.func21, Try.ntmps21
  go_wp2_with fail
  have hb2 := below2 w (Obj.cells #[.bool p, .slice A n c] 24) (Obj.cells #[.bool q, .slice A' n' c'] 24)
  refine (validR_any p A n c l _ (Hx.out.below hb2)).mono ?_
  rintro e w1 ⟨rfl, hb1⟩
  rw [Hp.out]
  have q00 : w1.cell? ⟨w.heap.size, 0, none⟩ = some (.bool p) := keepAt hb1 (by simp <;> omega) (two1 0)
  have q01 : w1.cell? ⟨w.heap.size, 1, none⟩ = some (.slice A n c) := keepAt hb1 (by simp <;> omega) (two1 1)
  have q0 : w1.cell? ⟨w.heap.size + 1, 0, none⟩ = some (.bool q) := keepAt hb1 (by simp <;> omega) (two2 0)
  have q1 : w1.cell? ⟨w.heap.size + 1, 1, none⟩ = some (.slice A' n' c') := keepAt hb1 (by simp <;> omega) (two2 1)
  have z1 : w.heap.size + 1 + 1 ≤ w1.heap.size := by have := hb1.size; simpa using this
  have hb01 := hb2.trans (hb1.mono (by simp <;> omega))
  have Hy1 := Lib.hid (Hy.out.below hb01)
  have Hb01 := Lib.hid hb01
  clear hb1 hb2 hb01
  go_wp2_with fail
  refine (validR_any q A' n' c' l' _ Hy1.out).mono ?_
  rintro e w2 ⟨rfl, hb2⟩
  rw [Hq.out]
  have m10 := keepAt hb2 (by omega) q00
  have m11 := keepAt hb2 (by omega) q01
  have m20 := keepAt hb2 (by omega) q0
  have m21 := keepAt hb2 (by omega) q1
  have z2 : w.heap.size + 1 + 1 ≤ w2.heap.size := Nat.le_trans z1 hb2.size
  have Hb0 := Lib.hid (Hb01.out.trans (hb2.mono Hb01.out.size))
  have Zx1 := Lib.hid (Zx.out.below Hb0.out)
  have Zy1 := Lib.hid (Zy.out.below Hb0.out)
  clear hb2 q00 q01 q0 q1 Hb01 z1
  have tk0 : True := trivial
  go_wp2_with fail
  go_region_held3 (fun w' => w'.cell? ⟨w.heap.size, 0, none⟩ = some (.bool p) ∧ w'.cell? ⟨w.heap.size, 1, none⟩ = some (.slice A n c) ∧ w'.cell? ⟨w.heap.size + 1, 0, none⟩ = some (.bool q) ∧ w'.cell? ⟨w.heap.size + 1, 1, none⟩ = some (.slice A' n' c'))
    (first | exact ⟨m10, m11, m20, m21⟩ | (go_split_ands; exact ⟨by assumption, by assumption, by assumption, by assumption⟩) | (go_split_ands; exact ⟨keepAt hb3 (by show _ < w2.heap.size; omega) (by assumption), keepAt hb3 (by show _ < w2.heap.size; omega) (by assumption), keepAt hb3 (by show _ < w2.heap.size; omega) (by assumption), keepAt hb3 (by show _ < w2.heap.size; omega) (by assumption)⟩) | (go_split_ands; exact ⟨keepAt hb4 (by omega) (by assumption), keepAt hb4 (by omega) (by assumption), keepAt hb4 (by omega) (by assumption), keepAt hb4 (by omega) (by assumption)⟩) | (go_split_ands; exact ⟨keepAt hb5 (by omega) (by assumption), keepAt hb5 (by omega) (by assumption), keepAt hb5 (by omega) (by assumption), keepAt hb5 (by omega) (by assumption)⟩))
    (first | (go_at_call 36; have _t := tk0; refine (of_any p A n c _).mono ?_; rintro e w3 ⟨rfl, hb3⟩; clear tk0; have tk1 : True := trivial; have z3 : w2.heap.size ≤ w3.heap.size := (undrew hb3).size; have zx2 := Zx1.out.below (undrew hb3); have zy2 := Zy1.out.below (undrew hb3)) | (go_at_call 36; have _t := tk1; refine (of_any q A' n' c' _).mono ?_; rintro e w4 ⟨rfl, hb4⟩; have z4 := hb4.size; have zx4 := zx2.below hb4; have zy4 := zy2.below hb4) | (go_at_call 37; refine (orderRZ_any x y _ _ _ zx4 zy4 (by omega) (by omega)).mono ?_; rintro e w5 ⟨rfl, hb5⟩; have z5 := hb5.size))
  rw [← Hsg.out]
  have Hb := Lib.hid (((Hb0.out.trans ((undrew hb3).mono (by show _ ≤ w2.heap.size; omega))).trans (hb4.mono (by omega))).trans (hb5.mono (by omega)))
  go_wp2
  go_ret2
  exact ⟨rfl, Hb.out⟩

end Go.Proofs.Ytmlopkkbgpfdnaa
namespace Go.Proofs.Ytmlopkkbgpfdnaa
open Go.RowKit

theorem aw_ok : Ok [0, 1] := by intro x hx; simp at hx; omega
theorem aw_vld : vld false [0, 1] = true := by decide
theorem aw_ok3 : Ok [0, 0, 1] := by intro x hx; simp at hx; omega
theorem aw_vld3 : vld false [0, 0, 1] = true := by decide
theorem aw_mul : numOf false [0, 1] * numOf false [0, 1] = numOf false [0, 0, 1] := by decide
theorem aw_fit : (dig (numOf false [0, 1] * numOf false [0, 1]).natAbs).length ≤ 256 := by
  rw [aw_mul, vld_dig aw_ok3 aw_vld3]; simp

set_option maxHeartbeats 400000 in
set_option maxRecDepth 100000 in
theorem awake_any (w : World) : Calls Try.prog 19 #[] w fun e w' => e = .returned (.bool true) ∧ Below w.heap.size w w' := by
  obtain ⟨x, hx⟩ : ∃ x, x = numOf false [0, 1] := ⟨_, rfl⟩
  have hfit := aw_fit
  have hmul := aw_mul
  rw [← hx] at hfit hmul
  have Hx := Lib.hid hx; clear hx
  have Hm := Lib.hid hmul; clear hmul
  have Hfit := Lib.hid hfit; clear hfit
  go_enter Try.func19, Try.ntmps19
  go_wp2_with fail
  have hw := (Wd.new w [0, 1] aw_ok #[.int .u32 0, .int .u32 1] 66 2 2 rfl (by omega) (by omega) (by
    intro j hj
    match j, hj with
    | 0, _ => rfl
    | 1, _ => rfl)).below (below1 _ (Obj.cells #[.bool false, .slice (some ⟨w.heap.size, 0, none⟩) 2 2] 24))
  have hb2 := below2 w (Obj.cells #[.int .u32 0, .int .u32 1] 66) (Obj.cells #[.bool false, .slice (some ⟨w.heap.size, 0, none⟩) 2 2] 24)
  refine (exactMul_yes x x false false _ _ 2 2 2 2 [0, 1] [0, 1] _ hw hw aw_vld aw_vld Hx.out Hx.out Hfit.out).mono ?_
  rintro e w1 ⟨b, A, n, c, rfl, hr, hb1⟩
  have hb01 := hb2.trans (hb1.mono (by simp <;> omega))
  have Hb := Lib.hid hb01
  have Hr := Lib.hid hr
  clear hw hb2 hb1 hr hb01
  go_wp2_with fail
  have hr2 := Hr.out.below (below2 w1 (Obj.cells #[.bool b, .slice A n c] 24) (Obj.cells #[.int .u32 0, .int .u32 0, .int .u32 1] 66))
  have hw3 := (Wd.new (w1.alloc (Obj.cells #[.bool b, .slice A n c] 24)) [0, 0, 1] aw_ok3 #[.int .u32 0, .int .u32 0, .int .u32 1] 66 3 3 rfl (by omega) (by omega) (by
    intro j hj
    match j, hj with
    | 0, _ => rfl
    | 1, _ => rfl
    | 2, _ => rfl))
  rw [World.size_alloc] at hw3
  refine (sameR_any (x * x) (x * x) _ _ _ hr2 (by rw [Hm.out]; exact vld_zv hw3 aw_vld3)).mono ?_
  rintro e w2 ⟨rfl, hb2⟩
  have hb := Hb.out.trans (((below2 w1 _ _).trans (hb2.mono (by simp <;> omega))).mono Hb.out.size)
  have Hbf := Lib.hid hb
  have ht : decide (x * x = x * x) = true := by simp
  rw [ht]
  clear ht hb hb2 hr2 hw3
  go_wp2
  go_ret
  exact ⟨rfl, Hbf.out⟩
end Go.Proofs.Ytmlopkkbgpfdnaa
namespace Go.Proofs.Ytmlopkkbgpfdnaa
open Go.RowKit

set_option maxHeartbeats 400000 in
set_option maxRecDepth 100000 in
theorem refAdd_noa (p q : Bool) (A A' : Option Addr) (n c n' c' : Nat) (l l' : List Nat) (w : World) (hx : Wd w (.slice A n c) l) (hy : Wd w (.slice A' n' c') l') (hno : vld p l = false) :
    Calls Try.prog 23 #[.agg #[.bool p, .slice A n c], .agg #[.bool q, .slice A' n' c']] w fun e w' => e = .returned (.tuple #[.agg #[.bool false, .slice none 0 0], .int .i64 2]) ∧ Below w.heap.size w w' := by
  have Hx := Lib.hid hx; clear hx
  have Hy := Lib.hid hy; clear hy
  have Hno := Lib.hid hno; clear hno
  go_enter Try.func23, Try.ntmps23
  go_wp2_with fail
  have hb3 := below3 w (Obj.cells #[.bool p, .slice A n c] 24) (Obj.cells #[.bool q, .slice A' n' c'] 24) (Obj.cells #[.bool false, .slice none 0 0] 24)
  have hR3 := RB.a3 w false none 0 0 24 (Obj.cells #[.bool p, .slice A n c] 24) (Obj.cells #[.bool q, .slice A' n' c'] 24)
  refine (validR_any p A n c l _ (Hx.out.below hb3)).mono ?_
  rintro e w1 ⟨rfl, hb1⟩
  rw [Hno.out]
  have hR := hR3.below hb1 (by simp <;> omega)
  have hbf := hb3.trans (hb1.mono (by simp <;> omega))
  obtain ⟨a0, A0, n0, c0, k10, k11, k20, k21⟩ := hR.facts
  have s0 := hR.set0 false (.slice none 0 0)
  have s1 := hR.set1 false (.slice none 0 0)
  have fin := below_set2 (g := w.heap.size + 1 + 1) (i := 0) (j := 1) hbf (by omega) (.bool false) (.slice none 0 0)
  have Fin := Lib.hid fin; clear fin hR hbf
  go_wp2
  exact bodyPost_ret (v := .tuple #[.agg #[.bool false, .slice none 0 0], .int .i64 2]) (by simp [results, Try.results23, go_sem, s0, s1]) rfl ⟨rfl, Fin.out⟩

set_option maxHeartbeats 400000 in
set_option maxRecDepth 100000 in
theorem refAdd_nob (p q : Bool) (A A' : Option Addr) (n c n' c' : Nat) (l l' : List Nat) (w : World) (hx : Wd w (.slice A n c) l) (hy : Wd w (.slice A' n' c') l') (hyes : vld p l = true) (hno : vld q l' = false) :
    Calls Try.prog 23 #[.agg #[.bool p, .slice A n c], .agg #[.bool q, .slice A' n' c']] w fun e w' => e = .returned (.tuple #[.agg #[.bool false, .slice none 0 0], .int .i64 2]) ∧ Below w.heap.size w w' := by
  have Hx := Lib.hid hx; clear hx
  have Hy := Lib.hid hy; clear hy
  have Hno := Lib.hid hno; clear hno
  have Hyes := Lib.hid hyes; clear hyes
  go_enter Try.func23, Try.ntmps23
  go_wp2_with fail
  have hb3 := below3 w (Obj.cells #[.bool p, .slice A n c] 24) (Obj.cells #[.bool q, .slice A' n' c'] 24) (Obj.cells #[.bool false, .slice none 0 0] 24)
  have hR3 := RB.a3 w false none 0 0 24 (Obj.cells #[.bool p, .slice A n c] 24) (Obj.cells #[.bool q, .slice A' n' c'] 24)
  refine (validR_any p A n c l _ (Hx.out.below hb3)).mono ?_
  rintro e w1 ⟨rfl, hb1⟩
  rw [Hyes.out]
  have q0 : w1.cell? ⟨w.heap.size + 1, 0, none⟩ = some (.bool q) := keepAt hb1 (by simp <;> omega) (old2 0)
  have q1 : w1.cell? ⟨w.heap.size + 1, 1, none⟩ = some (.slice A' n' c') := keepAt hb1 (by simp <;> omega) (old2 1)
  have z1 : w.heap.size + 1 + 1 + 1 ≤ w1.heap.size := by have := hb1.size; simpa using this
  have hR1 := Lib.hid (hR3.below hb1 (by simp <;> omega))
  have hb01 := hb3.trans (hb1.mono (by simp <;> omega))
  have Hy1 := Lib.hid (Hy.out.below hb01)
  have Hb01 := Lib.hid hb01
  clear hb1 hb3 hR3 hb01
  go_wp2_with fail
  refine (validR_any q A' n' c' l' _ Hy1.out).mono ?_
  rintro e w2 ⟨rfl, hb2⟩
  rw [Hno.out]
  have hR := hR1.out.below hb2 (by omega)
  have hbf := Hb01.out.trans (hb2.mono Hb01.out.size)
  obtain ⟨a0, A0, n0, c0, k10, k11, k20, k21⟩ := hR.facts
  have s0 := hR.set0 false (.slice none 0 0)
  have s1 := hR.set1 false (.slice none 0 0)
  have fin := below_set2 (g := w.heap.size + 1 + 1) (i := 0) (j := 1) hbf (by omega) (.bool false) (.slice none 0 0)
  have Fin := Lib.hid fin; clear fin hR hbf
  go_wp2
  exact bodyPost_ret (v := .tuple #[.agg #[.bool false, .slice none 0 0], .int .i64 2]) (by simp [results, Try.results23, go_sem, s0, s1]) rfl ⟨rfl, Fin.out⟩

set_option maxHeartbeats 800000 in
set_option maxRecDepth 100000 in
theorem refAdd_yes (x y : Int) (p q : Bool) (A A' : Option Addr) (n c n' c' : Nat) (l l' : List Nat) (w : World) (hx : Wd w (.slice A n c) l) (hy : Wd w (.slice A' n' c') l') (hp : vld p l = true) (hq : vld q l' = true)
    (ex : x = numOf p l) (ey : y = numOf q l') (hfit : (dig (x + y).natAbs).length ≤ 256) :
    Calls Try.prog 23 #[.agg #[.bool p, .slice A n c], .agg #[.bool q, .slice A' n' c']] w fun e w' => ∃ b A n c, e = .returned (.tuple #[.agg #[.bool b, .slice A n c], .int .i64 0]) ∧ ZV w' (.agg #[.bool b, .slice A n c]) (x + y) ∧ Below w.heap.size w w' := by
  have zx := vld_zv hx hp
  have zy := vld_zv hy hq
  have lx : (dig x.natAbs).length ≤ 256 := by rw [ex, vld_dig hx.ok hp]; exact vld_len hp
  have ly : (dig y.natAbs).length ≤ 256 := by rw [ey, vld_dig hy.ok hq]; exact vld_len hq
  rw [← ex] at zx
  rw [← ey] at zy
  have Hx := Lib.hid hx; clear hx
  have Hy := Lib.hid hy; clear hy
  have Zx := Lib.hid zx; clear zx
  have Zy := Lib.hid zy; clear zy
  have Hp := Lib.hid hp; clear hp
  have Hq := Lib.hid hq; clear hq ex ey
  go_enter Try.func23, Try.ntmps23
  go_wp2_with fail
  have hb3 := below3 w (Obj.cells #[.bool p, .slice A n c] 24) (Obj.cells #[.bool q, .slice A' n' c'] 24) (Obj.cells #[.bool false, .slice none 0 0] 24)
  have hR3 := RB.a3 w false none 0 0 24 (Obj.cells #[.bool p, .slice A n c] 24) (Obj.cells #[.bool q, .slice A' n' c'] 24)
  refine (validR_any p A n c l _ (Hx.out.below hb3)).mono ?_
  rintro e w1 ⟨rfl, hb1⟩
  rw [Hp.out]
  have q00 : w1.cell? ⟨w.heap.size, 0, none⟩ = some (.bool p) := keepAt hb1 (by simp <;> omega) (old1 0)
  have q01 : w1.cell? ⟨w.heap.size, 1, none⟩ = some (.slice A n c) := keepAt hb1 (by simp <;> omega) (old1 1)
  have q0 : w1.cell? ⟨w.heap.size + 1, 0, none⟩ = some (.bool q) := keepAt hb1 (by simp <;> omega) (old2 0)
  have q1 : w1.cell? ⟨w.heap.size + 1, 1, none⟩ = some (.slice A' n' c') := keepAt hb1 (by simp <;> omega) (old2 1)
  have z1 : w.heap.size + 1 + 1 + 1 ≤ w1.heap.size := by have := hb1.size; simpa using this
  have hR1 := Lib.hid (hR3.below hb1 (by simp <;> omega))
  have hb01 := hb3.trans (hb1.mono (by simp <;> omega))
  have Hy1 := Lib.hid (Hy.out.below hb01)
  have Hb01 := Lib.hid hb01
  clear hb1 hb3 hR3 hb01
  go_wp2_with fail
  refine (validR_any q A' n' c' l' _ Hy1.out).mono ?_
  rintro e w2 ⟨rfl, hb2⟩
  rw [Hq.out]
  have m10 := keepAt hb2 (by omega) q00
  have m11 := keepAt hb2 (by omega) q01
  have m20 := keepAt hb2 (by omega) q0
  have m21 := keepAt hb2 (by omega) q1
  have z2 : w.heap.size + 1 + 1 + 1 ≤ w2.heap.size := Nat.le_trans z1 hb2.size
  have HR2 := Lib.hid (hR1.out.below hb2 (by omega))
  have Hb0 := Lib.hid (Hb01.out.trans (hb2.mono Hb01.out.size))
  have Zx1 := Lib.hid (Zx.out.below Hb0.out)
  have Zy1 := Lib.hid (Zy.out.below Hb0.out)
  clear hb2 q00 q01 q0 q1 hR1 Hb01 z1
  have tk0 : True := trivial
  go_wp2_with fail
  go_region_held3 (fun w' => w'.cell? ⟨w.heap.size, 0, none⟩ = some (.bool p) ∧ w'.cell? ⟨w.heap.size, 1, none⟩ = some (.slice A n c) ∧ w'.cell? ⟨w.heap.size + 1, 0, none⟩ = some (.bool q) ∧ w'.cell? ⟨w.heap.size + 1, 1, none⟩ = some (.slice A' n' c'))
    (first | exact ⟨m10, m11, m20, m21⟩ | (go_split_ands; exact ⟨(far2 (by omega)).trans (by assumption), (far2 (by omega)).trans (by assumption), (far2 (by omega)).trans (by assumption), (far2 (by omega)).trans (by assumption)⟩) | (go_split_ands; exact ⟨keepAt hb3 (by show _ < w2.heap.size; omega) (by assumption), keepAt hb3 (by show _ < w2.heap.size; omega) (by assumption), keepAt hb3 (by show _ < w2.heap.size; omega) (by assumption), keepAt hb3 (by show _ < w2.heap.size; omega) (by assumption)⟩) | (go_split_ands; exact ⟨keepAt hb4 (by omega) (by assumption), keepAt hb4 (by omega) (by assumption), keepAt hb4 (by omega) (by assumption), keepAt hb4 (by omega) (by assumption)⟩) | (go_split_ands; exact ⟨keepAt hb6 (by omega) (by assumption), keepAt hb6 (by omega) (by assumption), keepAt hb6 (by omega) (by assumption), keepAt hb6 (by omega) (by assumption)⟩) | (go_split_ands; exact ⟨keepAt hb7 (by omega) (by assumption), keepAt hb7 (by omega) (by assumption), keepAt hb7 (by omega) (by assumption), keepAt hb7 (by omega) (by assumption)⟩))
    (first | (go_at_call 36; have _t := tk0; refine (of_any p A n c _).mono ?_; rintro e w3 ⟨rfl, hb3⟩; clear tk0; have tk1 : True := trivial; have z3 : w2.heap.size ≤ w3.heap.size := (undrew hb3).size; have zx3 := Zx1.out.below (undrew hb3); have zy3 := Zy1.out.below (undrew hb3); have hR3 := HR2.out.below (undrew hb3) (by show _ < w2.heap.size; omega)) | (go_at_call 36; have _t := tk1; refine (of_any q A' n' c' _).mono ?_; rintro e w4 ⟨rfl, hb4⟩; have z4 := hb4.size; have zx4 := zx3.below hb4; have zy4 := zy3.below hb4; have hR4 := hR3.below hb4 (by omega)) | (go_at_call 34; refine (asAgg (plusRZ_any x y _ _ _ zx4 zy4 (by omega) (by omega))).mono ?_; rintro e w6 ⟨b4, A4, n4, c4, rfl, hr, hb6⟩; have z6 := hb6.size; have hR6 := hR4.below hb6 (by omega)) | (go_at_call 58; refine (answer_yes _ _ _ hr hfit).mono ?_; rintro e w7 ⟨b6, A6, n6, c6, rfl, hr6, hb7⟩; have z7 := hb7.size; have hR := hR6.below hb7 (by omega); obtain ⟨a0, A0, n0, c0, k10, k11, k20, k21⟩ := hR.facts))
  have s0 := hR.set0 b6 (.slice A6 n6 c6)
  have s1 := hR.set1 b6 (.slice A6 n6 c6)
  have fin := And.intro (hr6.rb hR (.bool b6) (.slice A6 n6 c6)) (below_set2 (g := w.heap.size + 1 + 1) (i := 0) (j := 1) ((((Hb0.out.trans ((undrew hb3).mono (by show _ ≤ w2.heap.size; omega))).trans (hb4.mono (by omega))).trans (hb6.mono (by omega))).trans (hb7.mono (by omega))) (by omega) (.bool b6) (.slice A6 n6 c6))
  have Fin := Lib.hid fin; clear fin
  go_wp2
  exact bodyPost_ret (v := .tuple #[.agg #[.bool b6, .slice A6 n6 c6], .int .i64 0]) (by simp [results, Try.results23, go_sem, s0, s1]) rfl ⟨b6, A6, n6, c6, rfl, Fin.out.1, Fin.out.2⟩

set_option maxHeartbeats 800000 in
set_option maxRecDepth 100000 in
theorem refAdd_big (x y : Int) (p q : Bool) (A A' : Option Addr) (n c n' c' : Nat) (l l' : List Nat) (w : World) (hx : Wd w (.slice A n c) l) (hy : Wd w (.slice A' n' c') l') (hp : vld p l = true) (hq : vld q l' = true)
    (ex : x = numOf p l) (ey : y = numOf q l') (hfit : 256 < (dig (x + y).natAbs).length) :
    Calls Try.prog 23 #[.agg #[.bool p, .slice A n c], .agg #[.bool q, .slice A' n' c']] w fun e w' => e = .returned (.tuple #[.agg #[.bool false, .slice none 0 0], .int .i64 5]) ∧ Below w.heap.size w w' := by
  have zx := vld_zv hx hp
  have zy := vld_zv hy hq
  have lx : (dig x.natAbs).length ≤ 256 := by rw [ex, vld_dig hx.ok hp]; exact vld_len hp
  have ly : (dig y.natAbs).length ≤ 256 := by rw [ey, vld_dig hy.ok hq]; exact vld_len hq
  rw [← ex] at zx
  rw [← ey] at zy
  have Hx := Lib.hid hx; clear hx
  have Hy := Lib.hid hy; clear hy
  have Zx := Lib.hid zx; clear zx
  have Zy := Lib.hid zy; clear zy
  have Hp := Lib.hid hp; clear hp
  have Hq := Lib.hid hq; clear hq ex ey
  go_enter Try.func23, Try.ntmps23
  go_wp2_with fail
  have hb3 := below3 w (Obj.cells #[.bool p, .slice A n c] 24) (Obj.cells #[.bool q, .slice A' n' c'] 24) (Obj.cells #[.bool false, .slice none 0 0] 24)
  have hR3 := RB.a3 w false none 0 0 24 (Obj.cells #[.bool p, .slice A n c] 24) (Obj.cells #[.bool q, .slice A' n' c'] 24)
  refine (validR_any p A n c l _ (Hx.out.below hb3)).mono ?_
  rintro e w1 ⟨rfl, hb1⟩
  rw [Hp.out]
  have q00 : w1.cell? ⟨w.heap.size, 0, none⟩ = some (.bool p) := keepAt hb1 (by simp <;> omega) (old1 0)
  have q01 : w1.cell? ⟨w.heap.size, 1, none⟩ = some (.slice A n c) := keepAt hb1 (by simp <;> omega) (old1 1)
  have q0 : w1.cell? ⟨w.heap.size + 1, 0, none⟩ = some (.bool q) := keepAt hb1 (by simp <;> omega) (old2 0)
  have q1 : w1.cell? ⟨w.heap.size + 1, 1, none⟩ = some (.slice A' n' c') := keepAt hb1 (by simp <;> omega) (old2 1)
  have z1 : w.heap.size + 1 + 1 + 1 ≤ w1.heap.size := by have := hb1.size; simpa using this
  have hR1 := Lib.hid (hR3.below hb1 (by simp <;> omega))
  have hb01 := hb3.trans (hb1.mono (by simp <;> omega))
  have Hy1 := Lib.hid (Hy.out.below hb01)
  have Hb01 := Lib.hid hb01
  clear hb1 hb3 hR3 hb01
  go_wp2_with fail
  refine (validR_any q A' n' c' l' _ Hy1.out).mono ?_
  rintro e w2 ⟨rfl, hb2⟩
  rw [Hq.out]
  have m10 := keepAt hb2 (by omega) q00
  have m11 := keepAt hb2 (by omega) q01
  have m20 := keepAt hb2 (by omega) q0
  have m21 := keepAt hb2 (by omega) q1
  have z2 : w.heap.size + 1 + 1 + 1 ≤ w2.heap.size := Nat.le_trans z1 hb2.size
  have HR2 := Lib.hid (hR1.out.below hb2 (by omega))
  have Hb0 := Lib.hid (Hb01.out.trans (hb2.mono Hb01.out.size))
  have Zx1 := Lib.hid (Zx.out.below Hb0.out)
  have Zy1 := Lib.hid (Zy.out.below Hb0.out)
  clear hb2 q00 q01 q0 q1 hR1 Hb01 z1
  have tk0 : True := trivial
  go_wp2_with fail
  go_region_held3 (fun w' => w'.cell? ⟨w.heap.size, 0, none⟩ = some (.bool p) ∧ w'.cell? ⟨w.heap.size, 1, none⟩ = some (.slice A n c) ∧ w'.cell? ⟨w.heap.size + 1, 0, none⟩ = some (.bool q) ∧ w'.cell? ⟨w.heap.size + 1, 1, none⟩ = some (.slice A' n' c'))
    (first | exact ⟨m10, m11, m20, m21⟩ | (go_split_ands; exact ⟨(far2 (by omega)).trans (by assumption), (far2 (by omega)).trans (by assumption), (far2 (by omega)).trans (by assumption), (far2 (by omega)).trans (by assumption)⟩) | (go_split_ands; exact ⟨keepAt hb3 (by show _ < w2.heap.size; omega) (by assumption), keepAt hb3 (by show _ < w2.heap.size; omega) (by assumption), keepAt hb3 (by show _ < w2.heap.size; omega) (by assumption), keepAt hb3 (by show _ < w2.heap.size; omega) (by assumption)⟩) | (go_split_ands; exact ⟨keepAt hb4 (by omega) (by assumption), keepAt hb4 (by omega) (by assumption), keepAt hb4 (by omega) (by assumption), keepAt hb4 (by omega) (by assumption)⟩) | (go_split_ands; exact ⟨keepAt hb6 (by omega) (by assumption), keepAt hb6 (by omega) (by assumption), keepAt hb6 (by omega) (by assumption), keepAt hb6 (by omega) (by assumption)⟩) | (go_split_ands; exact ⟨keepAt hb7 (by omega) (by assumption), keepAt hb7 (by omega) (by assumption), keepAt hb7 (by omega) (by assumption), keepAt hb7 (by omega) (by assumption)⟩))
    (first | (go_at_call 36; have _t := tk0; refine (of_any p A n c _).mono ?_; rintro e w3 ⟨rfl, hb3⟩; clear tk0; have tk1 : True := trivial; have z3 : w2.heap.size ≤ w3.heap.size := (undrew hb3).size; have zx3 := Zx1.out.below (undrew hb3); have zy3 := Zy1.out.below (undrew hb3); have hR3 := HR2.out.below (undrew hb3) (by show _ < w2.heap.size; omega)) | (go_at_call 36; have _t := tk1; refine (of_any q A' n' c' _).mono ?_; rintro e w4 ⟨rfl, hb4⟩; have z4 := hb4.size; have zx4 := zx3.below hb4; have zy4 := zy3.below hb4; have hR4 := hR3.below hb4 (by omega)) | (go_at_call 34; refine (asAgg (plusRZ_any x y _ _ _ zx4 zy4 (by omega) (by omega))).mono ?_; rintro e w6 ⟨b4, A4, n4, c4, rfl, hr, hb6⟩; have z6 := hb6.size; have hR6 := hR4.below hb6 (by omega)) | (go_at_call 58; refine (answer_no _ _ _ hr hfit).mono ?_; rintro e w7 ⟨rfl, hb7⟩; have z7 := hb7.size; have hR := hR6.below hb7 (by omega); obtain ⟨a0, A0, n0, c0, k10, k11, k20, k21⟩ := hR.facts))
  have s0 := hR.set0 false (.slice none 0 0)
  have s1 := hR.set1 false (.slice none 0 0)
  have fin := (below_set2 (g := w.heap.size + 1 + 1) (i := 0) (j := 1) ((((Hb0.out.trans ((undrew hb3).mono (by show _ ≤ w2.heap.size; omega))).trans (hb4.mono (by omega))).trans (hb6.mono (by omega))).trans (hb7.mono (by omega))) (by omega) (.bool false) (.slice none 0 0))
  have Fin := Lib.hid fin; clear fin
  go_wp2
  exact bodyPost_ret (v := .tuple #[.agg #[.bool false, .slice none 0 0], .int .i64 5]) (by simp [results, Try.results23, go_sem, s0, s1]) rfl ⟨rfl, Fin.out⟩

end Go.Proofs.Ytmlopkkbgpfdnaa
namespace Go.Proofs.Ytmlopkkbgpfdnaa
open Go.RowKit

set_option maxHeartbeats 400000 in
set_option maxRecDepth 100000 in
theorem refSub_noa (p q : Bool) (A A' : Option Addr) (n c n' c' : Nat) (l l' : List Nat) (w : World) (hx : Wd w (.slice A n c) l) (hy : Wd w (.slice A' n' c') l') (hno : vld p l = false) :
    Calls Try.prog 25 #[.agg #[.bool p, .slice A n c], .agg #[.bool q, .slice A' n' c']] w fun e w' => e = .returned (.tuple #[.agg #[.bool false, .slice none 0 0], .int .i64 2]) ∧ Below w.heap.size w w' := by
  have Hx := Lib.hid hx; clear hx
  have Hy := Lib.hid hy; clear hy
  have Hno := Lib.hid hno; clear hno
  go_enter Try.func25, Try.ntmps25
  go_wp2_with fail
  have hb3 := below3 w (Obj.cells #[.bool p, .slice A n c] 24) (Obj.cells #[.bool q, .slice A' n' c'] 24) (Obj.cells #[.bool false, .slice none 0 0] 24)
  have hR3 := RB.a3 w false none 0 0 24 (Obj.cells #[.bool p, .slice A n c] 24) (Obj.cells #[.bool q, .slice A' n' c'] 24)
  refine (validR_any p A n c l _ (Hx.out.below hb3)).mono ?_
  rintro e w1 ⟨rfl, hb1⟩
  rw [Hno.out]
  have hR := hR3.below hb1 (by simp <;> omega)
  have hbf := hb3.trans (hb1.mono (by simp <;> omega))
  obtain ⟨a0, A0, n0, c0, k10, k11, k20, k21⟩ := hR.facts
  have s0 := hR.set0 false (.slice none 0 0)
  have s1 := hR.set1 false (.slice none 0 0)
  have fin := below_set2 (g := w.heap.size + 1 + 1) (i := 0) (j := 1) hbf (by omega) (.bool false) (.slice none 0 0)
  have Fin := Lib.hid fin; clear fin hR hbf
  go_wp2
  exact bodyPost_ret (v := .tuple #[.agg #[.bool false, .slice none 0 0], .int .i64 2]) (by simp [results, Try.results25, go_sem, s0, s1]) rfl ⟨rfl, Fin.out⟩

set_option maxHeartbeats 400000 in
set_option maxRecDepth 100000 in
theorem refSub_nob (p q : Bool) (A A' : Option Addr) (n c n' c' : Nat) (l l' : List Nat) (w : World) (hx : Wd w (.slice A n c) l) (hy : Wd w (.slice A' n' c') l') (hyes : vld p l = true) (hno : vld q l' = false) :
    Calls Try.prog 25 #[.agg #[.bool p, .slice A n c], .agg #[.bool q, .slice A' n' c']] w fun e w' => e = .returned (.tuple #[.agg #[.bool false, .slice none 0 0], .int .i64 2]) ∧ Below w.heap.size w w' := by
  have Hx := Lib.hid hx; clear hx
  have Hy := Lib.hid hy; clear hy
  have Hno := Lib.hid hno; clear hno
  have Hyes := Lib.hid hyes; clear hyes
  go_enter Try.func25, Try.ntmps25
  go_wp2_with fail
  have hb3 := below3 w (Obj.cells #[.bool p, .slice A n c] 24) (Obj.cells #[.bool q, .slice A' n' c'] 24) (Obj.cells #[.bool false, .slice none 0 0] 24)
  have hR3 := RB.a3 w false none 0 0 24 (Obj.cells #[.bool p, .slice A n c] 24) (Obj.cells #[.bool q, .slice A' n' c'] 24)
  refine (validR_any p A n c l _ (Hx.out.below hb3)).mono ?_
  rintro e w1 ⟨rfl, hb1⟩
  rw [Hyes.out]
  have q0 : w1.cell? ⟨w.heap.size + 1, 0, none⟩ = some (.bool q) := keepAt hb1 (by simp <;> omega) (old2 0)
  have q1 : w1.cell? ⟨w.heap.size + 1, 1, none⟩ = some (.slice A' n' c') := keepAt hb1 (by simp <;> omega) (old2 1)
  have z1 : w.heap.size + 1 + 1 + 1 ≤ w1.heap.size := by have := hb1.size; simpa using this
  have hR1 := Lib.hid (hR3.below hb1 (by simp <;> omega))
  have hb01 := hb3.trans (hb1.mono (by simp <;> omega))
  have Hy1 := Lib.hid (Hy.out.below hb01)
  have Hb01 := Lib.hid hb01
  clear hb1 hb3 hR3 hb01
  go_wp2_with fail
  refine (validR_any q A' n' c' l' _ Hy1.out).mono ?_
  rintro e w2 ⟨rfl, hb2⟩
  rw [Hno.out]
  have hR := hR1.out.below hb2 (by omega)
  have hbf := Hb01.out.trans (hb2.mono Hb01.out.size)
  obtain ⟨a0, A0, n0, c0, k10, k11, k20, k21⟩ := hR.facts
  have s0 := hR.set0 false (.slice none 0 0)
  have s1 := hR.set1 false (.slice none 0 0)
  have fin := below_set2 (g := w.heap.size + 1 + 1) (i := 0) (j := 1) hbf (by omega) (.bool false) (.slice none 0 0)
  have Fin := Lib.hid fin; clear fin hR hbf
  go_wp2
  exact bodyPost_ret (v := .tuple #[.agg #[.bool false, .slice none 0 0], .int .i64 2]) (by simp [results, Try.results25, go_sem, s0, s1]) rfl ⟨rfl, Fin.out⟩

set_option maxHeartbeats 800000 in
set_option maxRecDepth 100000 in
theorem refSub_yes (x y : Int) (p q : Bool) (A A' : Option Addr) (n c n' c' : Nat) (l l' : List Nat) (w : World) (hx : Wd w (.slice A n c) l) (hy : Wd w (.slice A' n' c') l') (hp : vld p l = true) (hq : vld q l' = true)
    (ex : x = numOf p l) (ey : y = numOf q l') (hfit : (dig (x - y).natAbs).length ≤ 256) :
    Calls Try.prog 25 #[.agg #[.bool p, .slice A n c], .agg #[.bool q, .slice A' n' c']] w fun e w' => ∃ b A n c, e = .returned (.tuple #[.agg #[.bool b, .slice A n c], .int .i64 0]) ∧ ZV w' (.agg #[.bool b, .slice A n c]) (x - y) ∧ Below w.heap.size w w' := by
  have zx := vld_zv hx hp
  have zy := vld_zv hy hq
  have lx : (dig x.natAbs).length ≤ 256 := by rw [ex, vld_dig hx.ok hp]; exact vld_len hp
  have ly : (dig y.natAbs).length ≤ 256 := by rw [ey, vld_dig hy.ok hq]; exact vld_len hq
  rw [← ex] at zx
  rw [← ey] at zy
  have Hx := Lib.hid hx; clear hx
  have Hy := Lib.hid hy; clear hy
  have Zx := Lib.hid zx; clear zx
  have Zy := Lib.hid zy; clear zy
  have Hp := Lib.hid hp; clear hp
  have Hq := Lib.hid hq; clear hq ex ey
  go_enter Try.func25, Try.ntmps25
  go_wp2_with fail
  have hb3 := below3 w (Obj.cells #[.bool p, .slice A n c] 24) (Obj.cells #[.bool q, .slice A' n' c'] 24) (Obj.cells #[.bool false, .slice none 0 0] 24)
  have hR3 := RB.a3 w false none 0 0 24 (Obj.cells #[.bool p, .slice A n c] 24) (Obj.cells #[.bool q, .slice A' n' c'] 24)
  refine (validR_any p A n c l _ (Hx.out.below hb3)).mono ?_
  rintro e w1 ⟨rfl, hb1⟩
  rw [Hp.out]
  have q00 : w1.cell? ⟨w.heap.size, 0, none⟩ = some (.bool p) := keepAt hb1 (by simp <;> omega) (old1 0)
  have q01 : w1.cell? ⟨w.heap.size, 1, none⟩ = some (.slice A n c) := keepAt hb1 (by simp <;> omega) (old1 1)
  have q0 : w1.cell? ⟨w.heap.size + 1, 0, none⟩ = some (.bool q) := keepAt hb1 (by simp <;> omega) (old2 0)
  have q1 : w1.cell? ⟨w.heap.size + 1, 1, none⟩ = some (.slice A' n' c') := keepAt hb1 (by simp <;> omega) (old2 1)
  have z1 : w.heap.size + 1 + 1 + 1 ≤ w1.heap.size := by have := hb1.size; simpa using this
  have hR1 := Lib.hid (hR3.below hb1 (by simp <;> omega))
  have hb01 := hb3.trans (hb1.mono (by simp <;> omega))
  have Hy1 := Lib.hid (Hy.out.below hb01)
  have Hb01 := Lib.hid hb01
  clear hb1 hb3 hR3 hb01
  go_wp2_with fail
  refine (validR_any q A' n' c' l' _ Hy1.out).mono ?_
  rintro e w2 ⟨rfl, hb2⟩
  rw [Hq.out]
  have m10 := keepAt hb2 (by omega) q00
  have m11 := keepAt hb2 (by omega) q01
  have m20 := keepAt hb2 (by omega) q0
  have m21 := keepAt hb2 (by omega) q1
  have z2 : w.heap.size + 1 + 1 + 1 ≤ w2.heap.size := Nat.le_trans z1 hb2.size
  have HR2 := Lib.hid (hR1.out.below hb2 (by omega))
  have Hb0 := Lib.hid (Hb01.out.trans (hb2.mono Hb01.out.size))
  have Zx1 := Lib.hid (Zx.out.below Hb0.out)
  have Zy1 := Lib.hid (Zy.out.below Hb0.out)
  clear hb2 q00 q01 q0 q1 hR1 Hb01 z1
  have tk0 : True := trivial
  go_wp2_with fail
  go_region_held3 (fun w' => w'.cell? ⟨w.heap.size, 0, none⟩ = some (.bool p) ∧ w'.cell? ⟨w.heap.size, 1, none⟩ = some (.slice A n c) ∧ w'.cell? ⟨w.heap.size + 1, 0, none⟩ = some (.bool q) ∧ w'.cell? ⟨w.heap.size + 1, 1, none⟩ = some (.slice A' n' c'))
    (first | exact ⟨m10, m11, m20, m21⟩ | (go_split_ands; exact ⟨(far2 (by omega)).trans (by assumption), (far2 (by omega)).trans (by assumption), (far2 (by omega)).trans (by assumption), (far2 (by omega)).trans (by assumption)⟩) | (go_split_ands; exact ⟨keepAt hb3 (by show _ < w2.heap.size; omega) (by assumption), keepAt hb3 (by show _ < w2.heap.size; omega) (by assumption), keepAt hb3 (by show _ < w2.heap.size; omega) (by assumption), keepAt hb3 (by show _ < w2.heap.size; omega) (by assumption)⟩) | (go_split_ands; exact ⟨keepAt hb4 (by omega) (by assumption), keepAt hb4 (by omega) (by assumption), keepAt hb4 (by omega) (by assumption), keepAt hb4 (by omega) (by assumption)⟩) | (go_split_ands; exact ⟨keepAt hb6 (by omega) (by assumption), keepAt hb6 (by omega) (by assumption), keepAt hb6 (by omega) (by assumption), keepAt hb6 (by omega) (by assumption)⟩) | (go_split_ands; exact ⟨keepAt hb7 (by omega) (by assumption), keepAt hb7 (by omega) (by assumption), keepAt hb7 (by omega) (by assumption), keepAt hb7 (by omega) (by assumption)⟩))
    (first | (go_at_call 36; have _t := tk0; refine (of_any p A n c _).mono ?_; rintro e w3 ⟨rfl, hb3⟩; clear tk0; have tk1 : True := trivial; have z3 : w2.heap.size ≤ w3.heap.size := (undrew hb3).size; have zx3 := Zx1.out.below (undrew hb3); have zy3 := Zy1.out.below (undrew hb3); have hR3 := HR2.out.below (undrew hb3) (by show _ < w2.heap.size; omega)) | (go_at_call 36; have _t := tk1; refine (of_any q A' n' c' _).mono ?_; rintro e w4 ⟨rfl, hb4⟩; have z4 := hb4.size; have zx4 := zx3.below hb4; have zy4 := zy3.below hb4; have hR4 := hR3.below hb4 (by omega)) | (go_at_call 60; refine (asAgg (lessRZ_any x y _ _ _ zx4 zy4 (by omega) (by omega))).mono ?_; rintro e w6 ⟨b4, A4, n4, c4, rfl, hr, hb6⟩; have z6 := hb6.size; have hR6 := hR4.below hb6 (by omega)) | (go_at_call 58; refine (answer_yes _ _ _ hr hfit).mono ?_; rintro e w7 ⟨b6, A6, n6, c6, rfl, hr6, hb7⟩; have z7 := hb7.size; have hR := hR6.below hb7 (by omega); obtain ⟨a0, A0, n0, c0, k10, k11, k20, k21⟩ := hR.facts))
  have s0 := hR.set0 b6 (.slice A6 n6 c6)
  have s1 := hR.set1 b6 (.slice A6 n6 c6)
  have fin := And.intro (hr6.rb hR (.bool b6) (.slice A6 n6 c6)) (below_set2 (g := w.heap.size + 1 + 1) (i := 0) (j := 1) ((((Hb0.out.trans ((undrew hb3).mono (by show _ ≤ w2.heap.size; omega))).trans (hb4.mono (by omega))).trans (hb6.mono (by omega))).trans (hb7.mono (by omega))) (by omega) (.bool b6) (.slice A6 n6 c6))
  have Fin := Lib.hid fin; clear fin
  go_wp2
  exact bodyPost_ret (v := .tuple #[.agg #[.bool b6, .slice A6 n6 c6], .int .i64 0]) (by simp [results, Try.results25, go_sem, s0, s1]) rfl ⟨b6, A6, n6, c6, rfl, Fin.out.1, Fin.out.2⟩

set_option maxHeartbeats 800000 in
set_option maxRecDepth 100000 in
theorem refSub_big (x y : Int) (p q : Bool) (A A' : Option Addr) (n c n' c' : Nat) (l l' : List Nat) (w : World) (hx : Wd w (.slice A n c) l) (hy : Wd w (.slice A' n' c') l') (hp : vld p l = true) (hq : vld q l' = true)
    (ex : x = numOf p l) (ey : y = numOf q l') (hfit : 256 < (dig (x - y).natAbs).length) :
    Calls Try.prog 25 #[.agg #[.bool p, .slice A n c], .agg #[.bool q, .slice A' n' c']] w fun e w' => e = .returned (.tuple #[.agg #[.bool false, .slice none 0 0], .int .i64 5]) ∧ Below w.heap.size w w' := by
  have zx := vld_zv hx hp
  have zy := vld_zv hy hq
  have lx : (dig x.natAbs).length ≤ 256 := by rw [ex, vld_dig hx.ok hp]; exact vld_len hp
  have ly : (dig y.natAbs).length ≤ 256 := by rw [ey, vld_dig hy.ok hq]; exact vld_len hq
  rw [← ex] at zx
  rw [← ey] at zy
  have Hx := Lib.hid hx; clear hx
  have Hy := Lib.hid hy; clear hy
  have Zx := Lib.hid zx; clear zx
  have Zy := Lib.hid zy; clear zy
  have Hp := Lib.hid hp; clear hp
  have Hq := Lib.hid hq; clear hq ex ey
  go_enter Try.func25, Try.ntmps25
  go_wp2_with fail
  have hb3 := below3 w (Obj.cells #[.bool p, .slice A n c] 24) (Obj.cells #[.bool q, .slice A' n' c'] 24) (Obj.cells #[.bool false, .slice none 0 0] 24)
  have hR3 := RB.a3 w false none 0 0 24 (Obj.cells #[.bool p, .slice A n c] 24) (Obj.cells #[.bool q, .slice A' n' c'] 24)
  refine (validR_any p A n c l _ (Hx.out.below hb3)).mono ?_
  rintro e w1 ⟨rfl, hb1⟩
  rw [Hp.out]
  have q00 : w1.cell? ⟨w.heap.size, 0, none⟩ = some (.bool p) := keepAt hb1 (by simp <;> omega) (old1 0)
  have q01 : w1.cell? ⟨w.heap.size, 1, none⟩ = some (.slice A n c) := keepAt hb1 (by simp <;> omega) (old1 1)
  have q0 : w1.cell? ⟨w.heap.size + 1, 0, none⟩ = some (.bool q) := keepAt hb1 (by simp <;> omega) (old2 0)
  have q1 : w1.cell? ⟨w.heap.size + 1, 1, none⟩ = some (.slice A' n' c') := keepAt hb1 (by simp <;> omega) (old2 1)
  have z1 : w.heap.size + 1 + 1 + 1 ≤ w1.heap.size := by have := hb1.size; simpa using this
  have hR1 := Lib.hid (hR3.below hb1 (by simp <;> omega))
  have hb01 := hb3.trans (hb1.mono (by simp <;> omega))
  have Hy1 := Lib.hid (Hy.out.below hb01)
  have Hb01 := Lib.hid hb01
  clear hb1 hb3 hR3 hb01
  go_wp2_with fail
  refine (validR_any q A' n' c' l' _ Hy1.out).mono ?_
  rintro e w2 ⟨rfl, hb2⟩
  rw [Hq.out]
  have m10 := keepAt hb2 (by omega) q00
  have m11 := keepAt hb2 (by omega) q01
  have m20 := keepAt hb2 (by omega) q0
  have m21 := keepAt hb2 (by omega) q1
  have z2 : w.heap.size + 1 + 1 + 1 ≤ w2.heap.size := Nat.le_trans z1 hb2.size
  have HR2 := Lib.hid (hR1.out.below hb2 (by omega))
  have Hb0 := Lib.hid (Hb01.out.trans (hb2.mono Hb01.out.size))
  have Zx1 := Lib.hid (Zx.out.below Hb0.out)
  have Zy1 := Lib.hid (Zy.out.below Hb0.out)
  clear hb2 q00 q01 q0 q1 hR1 Hb01 z1
  have tk0 : True := trivial
  go_wp2_with fail
  go_region_held3 (fun w' => w'.cell? ⟨w.heap.size, 0, none⟩ = some (.bool p) ∧ w'.cell? ⟨w.heap.size, 1, none⟩ = some (.slice A n c) ∧ w'.cell? ⟨w.heap.size + 1, 0, none⟩ = some (.bool q) ∧ w'.cell? ⟨w.heap.size + 1, 1, none⟩ = some (.slice A' n' c'))
    (first | exact ⟨m10, m11, m20, m21⟩ | (go_split_ands; exact ⟨(far2 (by omega)).trans (by assumption), (far2 (by omega)).trans (by assumption), (far2 (by omega)).trans (by assumption), (far2 (by omega)).trans (by assumption)⟩) | (go_split_ands; exact ⟨keepAt hb3 (by show _ < w2.heap.size; omega) (by assumption), keepAt hb3 (by show _ < w2.heap.size; omega) (by assumption), keepAt hb3 (by show _ < w2.heap.size; omega) (by assumption), keepAt hb3 (by show _ < w2.heap.size; omega) (by assumption)⟩) | (go_split_ands; exact ⟨keepAt hb4 (by omega) (by assumption), keepAt hb4 (by omega) (by assumption), keepAt hb4 (by omega) (by assumption), keepAt hb4 (by omega) (by assumption)⟩) | (go_split_ands; exact ⟨keepAt hb6 (by omega) (by assumption), keepAt hb6 (by omega) (by assumption), keepAt hb6 (by omega) (by assumption), keepAt hb6 (by omega) (by assumption)⟩) | (go_split_ands; exact ⟨keepAt hb7 (by omega) (by assumption), keepAt hb7 (by omega) (by assumption), keepAt hb7 (by omega) (by assumption), keepAt hb7 (by omega) (by assumption)⟩))
    (first | (go_at_call 36; have _t := tk0; refine (of_any p A n c _).mono ?_; rintro e w3 ⟨rfl, hb3⟩; clear tk0; have tk1 : True := trivial; have z3 : w2.heap.size ≤ w3.heap.size := (undrew hb3).size; have zx3 := Zx1.out.below (undrew hb3); have zy3 := Zy1.out.below (undrew hb3); have hR3 := HR2.out.below (undrew hb3) (by show _ < w2.heap.size; omega)) | (go_at_call 36; have _t := tk1; refine (of_any q A' n' c' _).mono ?_; rintro e w4 ⟨rfl, hb4⟩; have z4 := hb4.size; have zx4 := zx3.below hb4; have zy4 := zy3.below hb4; have hR4 := hR3.below hb4 (by omega)) | (go_at_call 60; refine (asAgg (lessRZ_any x y _ _ _ zx4 zy4 (by omega) (by omega))).mono ?_; rintro e w6 ⟨b4, A4, n4, c4, rfl, hr, hb6⟩; have z6 := hb6.size; have hR6 := hR4.below hb6 (by omega)) | (go_at_call 58; refine (answer_no _ _ _ hr hfit).mono ?_; rintro e w7 ⟨rfl, hb7⟩; have z7 := hb7.size; have hR := hR6.below hb7 (by omega); obtain ⟨a0, A0, n0, c0, k10, k11, k20, k21⟩ := hR.facts))
  have s0 := hR.set0 false (.slice none 0 0)
  have s1 := hR.set1 false (.slice none 0 0)
  have fin := (below_set2 (g := w.heap.size + 1 + 1) (i := 0) (j := 1) ((((Hb0.out.trans ((undrew hb3).mono (by show _ ≤ w2.heap.size; omega))).trans (hb4.mono (by omega))).trans (hb6.mono (by omega))).trans (hb7.mono (by omega))) (by omega) (.bool false) (.slice none 0 0))
  have Fin := Lib.hid fin; clear fin
  go_wp2
  exact bodyPost_ret (v := .tuple #[.agg #[.bool false, .slice none 0 0], .int .i64 5]) (by simp [results, Try.results25, go_sem, s0, s1]) rfl ⟨rfl, Fin.out⟩

end Go.Proofs.Ytmlopkkbgpfdnaa
