/- Walks: the reference: Valid, Same, answer. -/
import Derived.Test.YtmlopkkbgpfdnaaR6
import Derived.Test.YtmlopkkbgpfdnaaW12
namespace Go.Proofs.Ytmlopkkbgpfdnaa
open Go.RowKit

set_option maxHeartbeats 400000 in
set_option maxRecDepth 100000 in
/-- ref Valid -/
theorem validR_any (neg : Bool) (A : Option Addr) (n c : Nat) (l : List Nat) (w : World) (hv : Wd w (.slice A n c) l) :
    Calls Try.prog 15 #[.agg #[.bool neg, .slice A n c]] w fun e w' => e = .returned (.bool (vld neg l)) ∧ Below w.heap.size w w' := by
  have hb := below1 w (Obj.cells #[.bool neg, .slice A n c] 24)
  have Hb := Lib.hid hb; clear hb
  have hn := hv.len
  have hl := hv.len_le
  obtain ⟨A', c', he, -, -, hok, hcells⟩ := hv
  injection he with e1 e2 e3
  subst e1 e3
  rw [← e2] at hcells
  clear e2
  by_cases h0 : n = 0
  · subst h0
    have hr : vld neg l = !neg := by unfold vld; rw [if_pos hn.symm]
    have Hr := Lib.hid hr; clear hr hcells hn
    cases neg
    · go_enter Try.func15, Try.ntmps15
      go_wp2
      go_ret
      exact ⟨by rw [Hr.out]; rfl, Hb.out⟩
    · go_enter Try.func15, Try.ntmps15
      go_wp2
      go_ret
      exact ⟨by rw [Hr.out]; rfl, Hb.out⟩
  · obtain ⟨b, off, rfl, hbl, hc⟩ := hcells (by omega)
    have h1 := hc (n - 1) (by omega)
    obtain ⟨x, hx⟩ : ∃ x, x = l.getD (n - 1) 0 := ⟨_, rfl⟩
    rw [← hx] at h1
    have h1' : (w.alloc (Obj.cells #[.bool neg, .slice (some ⟨b, off, none⟩) n c] 24)).cell? ⟨b, off + (n - 1), none⟩ = some (.int .u32 x) := by rw [World.cell?_alloc_past _ _ _ hbl]; exact h1
    have hr : vld neg l = (decide (n ≤ 256) && !decide (x = 0)) := by unfold vld; rw [if_neg (by omega), ← hn, ← hx]
    have Hr := Lib.hid hr; clear hr hcells hc hx hn
    have hp : decide ((0 : Int) < (n : Int)) = true := by simp; omega
    have hpn : decide (0 < n) = true := by simp; omega
    have he0 : ((n : Int) == 0) = false := by simp; omega
    by_cases h2 : n ≤ 256
    · have h2b : decide ((n : Int) ≤ 256) = true := by simp; omega
      by_cases h3 : x = 0
      · subst h3
        go_enter Try.func15, Try.ntmps15
        go_wp2
        go_ret
        exact ⟨by rw [Hr.out]; simp [h2], Hb.out⟩
      · have h4 : ((x : Int) != 0) = true := by simp; omega
        go_enter Try.func15, Try.ntmps15
        go_wp2
        go_ret
        exact ⟨by rw [Hr.out]; simp [h2, h3], Hb.out⟩
    · have h4 : decide ((n : Int) ≤ 256) = false := by simp; omega
      go_enter Try.func15, Try.ntmps15
      go_wp2
      go_ret
      exact ⟨by rw [Hr.out]; simp [h2], Hb.out⟩

theorem same_iff {x y : Int} {p q : Bool} (hp : p = decide (x < 0)) (hq : q = decide (y < 0)) : x = y ↔ p = q ∧ x.natAbs = y.natAbs := by
  subst hp hq
  rw [decide_eq_decide]
  omega

set_option maxHeartbeats 400000 in
set_option maxRecDepth 100000 in
/-- ref Same, of numbers in their only form -/
theorem sameR_any (x y : Int) (a b : Value) (w : World) (ha : ZV w a x) (hb : ZV w b y) :
    Calls Try.prog 16 #[a, b] w fun e w' => e = .returned (.bool (decide (x = y))) ∧ Below w.heap.size w w' := by
  obtain ⟨A, n, c, rfl, hv, hn, hl⟩ := ha.open_
  obtain ⟨A', n', c', rfl, hv', hn', hl'⟩ := hb.open_
  obtain ⟨p, hp⟩ : ∃ p, p = decide (x < 0) := ⟨_, rfl⟩
  obtain ⟨q, hq⟩ : ∃ q, q = decide (y < 0) := ⟨_, rfl⟩
  rw [← hp, ← hq]
  have hs := same_iff hp hq
  have hb2 := below2 w (Obj.cells #[.bool p, .slice A n c] 24) (Obj.cells #[.bool q, .slice A' n' c'] 24)
  have Hv := Lib.hid (hv.below hb2)
  have Hv' := Lib.hid (hv'.below hb2)
  have Hb := Lib.hid hb2; clear hb2 ha hb hv hv' hp hq
  by_cases h1 : p = q
  · subst h1
    have hpp : (p == p) = true := by simp
    by_cases h2 : n = n'
    · subst h2
      have hnn : ((n : Int) == (n : Int)) = true := by simp
      have hr : decide (x = y) = (cmpN x.natAbs y.natAbs == 0) := by
        rw [Bool.eq_iff_iff]
        simp only [decide_eq_true_eq, beq_iff_eq, hs, true_and]
        constructor
        · intro h; exact cmpN_eq h
        · intro h
          rcases Nat.lt_trichotomy x.natAbs y.natAbs with h3 | h3 | h3
          · rw [cmpN_lt h3] at h; omega
          · exact h3
          · rw [cmpN_gt h3] at h; omega
      rw [hr]
      clear hr hs hn hn'
      obtain ⟨cm, hcm⟩ : ∃ cm, cm = cmpN x.natAbs y.natAbs := ⟨_, rfl⟩
      rw [← hcm]
      have Hcm := Lib.hid hcm; clear hcm
      go_enter Try.func16, Try.ntmps16
      go_wp2_with fail
      refine (orderR_any x.natAbs y.natAbs _ _ _ Hv.out Hv'.out).mono ?_
      rintro e w2 ⟨rfl, nq, rfl⟩
      rw [← Hcm.out]
      go_wp2
      go_ret
      exact ⟨rfl, Below.toDrewN Hb.out nq⟩
    · have hnn : ((n : Int) == (n' : Int)) = false := by simp; omega
      have hr : decide (x = y) = false := by
        rw [decide_eq_false_iff_not]; intro e; subst e; exact h2 (by rw [hn, hn'])
      rw [hr]
      clear hr hs hn hn'
      go_enter Try.func16, Try.ntmps16
      go_wp2
      go_ret
      exact ⟨rfl, Hb.out⟩
  · have hpq : (p == q) = false := by simpa using h1
    have hr : decide (x = y) = false := by
      rw [decide_eq_false_iff_not]; intro e; exact h1 (hs.1 e).1
    rw [hr]
    clear hr hs h1 hn hn'
    go_enter Try.func16, Try.ntmps16
    go_wp2
    go_ret
    exact ⟨rfl, Hb.out⟩

set_option maxRecDepth 100000 in
/-- ref answer -/
theorem answer_yes (z : Int) (a : Value) (w : World) (ha : ZV w a z) (hlen : (dig z.natAbs).length ≤ 256) :
    Calls Try.prog 58 #[a] w fun e w' => ∃ b A n c, e = .returned (.tuple #[.agg #[.bool b, .slice A n c], .int .i64 0]) ∧ ZV w' (.agg #[.bool b, .slice A n c]) z ∧ Below w.heap.size w w' := by
  obtain ⟨A, n, c, rfl, -, -, -⟩ := ha.open_
  obtain ⟨p, hp⟩ : ∃ p, p = decide (z < 0) := ⟨_, rfl⟩
  rw [← hp] at ha ⊢
  clear hp
  have hd : decide ((dig z.natAbs).length ≤ 256) = true := by simpa using hlen
  have Ha := Lib.hid ha; clear ha
  have Hd := Lib.hid hd; clear hd
  go_enter Try.func58, Try.ntmps58
  go_wp2_with fail
  have hb2 := below2 w (Obj.cells #[.bool p, .slice A n c] 34) (Obj.cells #[.bool false, .slice none 0 0] 24)
  have hR2 := RB.b2 w false none 0 0 24 (Obj.cells #[.bool p, .slice A n c] 34)
  refine (fitsR_any z _ _ (Ha.out.below hb2)).mono ?_
  rintro e w1 ⟨rfl, hb1⟩
  rw [Hd.out]
  have z1 : w.heap.size + 1 + 1 ≤ w1.heap.size := by have := hb1.size; simpa using this
  have q0 : w1.cell? ⟨w.heap.size, 0, none⟩ = some (.bool p) := keepAt hb1 (by simp <;> omega) (by rw [World.cell?_alloc_past _ _ _ (by simp), World.cell?_alloc_new]; rfl)
  have q1 : w1.cell? ⟨w.heap.size, 1, none⟩ = some (.slice A n c) := keepAt hb1 (by simp <;> omega) (by rw [World.cell?_alloc_past _ _ _ (by simp), World.cell?_alloc_new]; rfl)
  have hR1 := Lib.hid (hR2.below hb1 (by simp))
  have ha1 := Lib.hid (Ha.out.below (hb2.trans (hb1.mono (by simp; omega))))
  have hb01 := Lib.hid (hb2.trans (hb1.mono (by simp; omega)))
  clear hb1 hb2 hR2
  go_wp2_with fail
  refine (int_any p A n c _).mono ?_
  rintro e w2 ⟨rfl, hb3⟩
  have hR := hR1.out.below hb3 (by omega)
  obtain ⟨a0, A0, n0, c0, k10, k11, k20, k21⟩ := hR.facts
  have s0 := hR.set0 p (.slice A n c)
  have s1 := hR.set1 p (.slice A n c)
  have fin := And.intro ((ha1.out.below hb3).rb hR (.bool p) (.slice A n c)) (below_set2 (g := w.heap.size + 1) (i := 0) (j := 1) (hb01.out.trans (hb3.mono hb01.out.size)) (by omega) (.bool p) (.slice A n c))
  have Fin := Lib.hid fin; clear fin hb3 hR
  go_wp2
  exact bodyPost_ret (v := .tuple #[.agg #[.bool p, .slice A n c], .int .i64 0]) (by simp [results, Try.results58, go_sem, s0, s1]) rfl ⟨p, A, n, c, rfl, Fin.out.1, Fin.out.2⟩

set_option maxRecDepth 100000 in
theorem answer_no (z : Int) (a : Value) (w : World) (ha : ZV w a z) (hlen : 256 < (dig z.natAbs).length) :
    Calls Try.prog 58 #[a] w fun e w' => e = .returned (.tuple #[.agg #[.bool false, .slice none 0 0], .int .i64 5]) ∧ Below w.heap.size w w' := by
  obtain ⟨A, n, c, rfl, -, -, -⟩ := ha.open_
  obtain ⟨p, hp⟩ : ∃ p, p = decide (z < 0) := ⟨_, rfl⟩
  rw [← hp] at ha ⊢
  clear hp
  have hd : decide ((dig z.natAbs).length ≤ 256) = false := by simp; omega
  have Ha := Lib.hid ha; clear ha
  have Hd := Lib.hid hd; clear hd
  go_enter Try.func58, Try.ntmps58
  go_wp2_with fail
  have hb2 := below2 w (Obj.cells #[.bool p, .slice A n c] 34) (Obj.cells #[.bool false, .slice none 0 0] 24)
  have hR2 := RB.b2 w false none 0 0 24 (Obj.cells #[.bool p, .slice A n c] 34)
  refine (fitsR_any z _ _ (Ha.out.below hb2)).mono ?_
  rintro e w1 ⟨rfl, hb1⟩
  rw [Hd.out]
  have hR := hR2.below hb1 (by simp)
  obtain ⟨a0, A0, n0, c0, k10, k11, k20, k21⟩ := hR.facts
  have s0 := hR.set0 false (.slice none 0 0)
  have s1 := hR.set1 false (.slice none 0 0)
  have fin := below_set2 (g := w.heap.size + 1) (i := 0) (j := 1) (hb2.trans (hb1.mono (by simp; omega))) (by omega) (.bool false) (.slice none 0 0)
  have Fin := Lib.hid fin; clear fin hb1 hb2 hR hR2
  go_wp2
  exact bodyPost_ret (v := .tuple #[.agg #[.bool false, .slice none 0 0], .int .i64 5]) (by simp [results, Try.results58, go_sem, s0, s1]) rfl ⟨rfl, Fin.out⟩
end Go.Proofs.Ytmlopkkbgpfdnaa
