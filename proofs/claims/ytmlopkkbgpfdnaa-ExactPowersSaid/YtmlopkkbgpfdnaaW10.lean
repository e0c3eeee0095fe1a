/- Walks: minus, compare, times of whole numbers. -/
import Derived.Test.YtmlopkkbgpfdnaaW9
namespace Go.Proofs.Ytmlopkkbgpfdnaa
open Go.RowKit

theorem World.size_drewN' (w : World) (k : Nat) : (w.drewN k).heap.size = w.heap.size := rfl

set_option maxHeartbeats 400000 in
set_option maxRecDepth 100000 in
/-- whole.minus -/
theorem minusZ_any (x y : Int) (u v : Value) (w : World) (hx : ZV w u x) (hy : ZV w v y) (lx : (dig x.natAbs).length ≤ 1000000) (ly : (dig y.natAbs).length ≤ 1000000) :
    Calls Try.prog 59 #[u, v] w (RetZ w (x - y)) := by
  obtain ⟨A, n, c, rfl, -, -, -⟩ := hx.open_
  obtain ⟨A', n', c', rfl, -, -, -⟩ := hy.open_
  obtain ⟨p, hp⟩ : ∃ p, p = decide (x < 0) := ⟨_, rfl⟩
  obtain ⟨q, hq⟩ : ∃ q, q = decide (y < 0) := ⟨_, rfl⟩
  rw [← hp] at hx ⊢
  rw [← hq] at hy ⊢
  clear hp hq
  have Hx := Lib.hid hx; clear hx
  have Hy := Lib.hid hy; clear hy
  go_enter Try.func59, Try.ntmps59
  go_wp2_with fail
  have hb3 := below3 w (Obj.cells #[.bool p, .slice A n c] 60) (Obj.cells #[.bool q, .slice A' n' c'] 60) (Obj.cells #[.bool false, .slice none 0 0] 60)
  have Hx3 := Lib.hid (Hx.out.below hb3)
  have Hy3 := Lib.hid (Hy.out.below hb3)
  have Hb3 := Lib.hid hb3; clear hb3
  have HR := Lib.hid (RB.a3 w false none 0 0 60 (Obj.cells #[.bool p, .slice A n c] 60) (Obj.cells #[.bool q, .slice A' n' c'] 60))
  go_region_held3 (fun w' => w'.cell? ⟨w.heap.size, 0, none⟩ = some (.bool p) ∧ w'.cell? ⟨w.heap.size, 1, none⟩ = some (.slice A n c) ∧ w'.cell? ⟨w.heap.size + 1, 0, none⟩ = some (.bool q) ∧ w'.cell? ⟨w.heap.size + 1, 1, none⟩ = some (.slice A' n' c'))
    (first | exact ⟨old1 0, old1 1, old2 0, old2 1⟩ | (go_split_ands; exact ⟨(far2 (by omega)).trans (by assumption), (far2 (by omega)).trans (by assumption), (far2 (by omega)).trans (by assumption), (far2 (by omega)).trans (by assumption)⟩) | (go_split_ands; exact ⟨keepAt hb1 (by simp <;> omega) (by assumption), keepAt hb1 (by simp <;> omega) (by assumption), keepAt hb1 (by simp <;> omega) (by assumption), keepAt hb1 (by simp <;> omega) (by assumption)⟩) | (go_split_ands; exact ⟨keepAt hb2 (by omega) (by assumption), keepAt hb2 (by omega) (by assumption), keepAt hb2 (by omega) (by assumption), keepAt hb2 (by omega) (by assumption)⟩))
    (first | (go_at_call 89; refine (asAgg (oppositeZ_any y _ _ (by exact Hy3.out))).mono ?_; rintro e w1 ⟨b4, A4, n4, c4, rfl, hr, hb1⟩; have z1 : w.heap.size + 1 + 1 + 1 ≤ w1.heap.size := (by have h := (undrew hb1).size; simp at h; omega); have hR1 := HR.out.below (undrew hb1) (by simp <;> omega); have hx1 := Hx3.out.below (undrew hb1)) | (go_at_call 57; refine (asAgg (plusZ_any x (-y) _ _ _ hx1 hr lx (by rw [Int.natAbs_neg]; exact ly))).mono ?_; rintro e w2 ⟨b5, A5, n5, c5, rfl, hr5, hb2⟩; have z2 := hb2.size; have hR := hR1.below hb2 (by omega); obtain ⟨a0, A0, n0, c0, k10, k11, k20, k21⟩ := hR.facts))
  have s0 := hR.set0 b5 (.slice A5 n5 c5)
  have s1 := hR.set1 b5 (.slice A5 n5 c5)
  have fin := And.intro (hr5.rb hR (.bool b5) (.slice A5 n5 c5)) (below_set2 (g := w.heap.size + 1 + 1) (i := 0) (j := 1) ((Hb3.out.trans ((undrew hb1).mono (by simp <;> omega))).trans (hb2.mono (by omega))) (by omega) (.bool b5) (.slice A5 n5 c5))
  have Fin := Lib.hid fin; clear fin
  go_wp2
  exact bodyPost_ret (v := .agg #[.bool b5, .slice A5 n5 c5]) (by simp [results, Try.results59, go_sem, s0, s1]) rfl ⟨_, rfl, by rw [Int.sub_eq_add_neg]; exact Fin.out.1, Fin.out.2⟩

theorem len_add {x y : Int} {k : Nat} (lx : (dig x.natAbs).length ≤ k) (ly : (dig y.natAbs).length ≤ k) : (dig (x + y).natAbs).length ≤ k + 1 := by
  have h1 := lt_of_dig_len lx
  have h2 := lt_of_dig_len ly
  apply dig_len_le
  rw [Nat.pow_succ]
  have : (x + y).natAbs ≤ x.natAbs + y.natAbs := Int.natAbs_add_le x y
  omega
theorem len_mul {x y : Int} {k l : Nat} (lx : (dig x.natAbs).length ≤ k) (ly : (dig y.natAbs).length ≤ l) : (dig (x * y).natAbs).length ≤ k + l := by
  have h1 := lt_of_dig_len lx
  have h2 := lt_of_dig_len ly
  apply dig_len_le
  rw [Int.natAbs_mul, Nat.pow_add]
  exact Nat.mul_lt_mul'' h1 h2

set_option maxRecDepth 100000 in
/-- whole.compare -/
theorem compareZ_any (x y : Int) (u v : Value) (w : World) (hx : ZV w u x) (hy : ZV w v y) (lx : (dig x.natAbs).length ≤ 1000000) (ly : (dig y.natAbs).length ≤ 1000000) :
    Calls Try.prog 50 #[u, v] w fun e w' => e = .returned (.int .i64 (x - y).sign) ∧ Below w.heap.size w w' := by
  obtain ⟨A, n, c, rfl, -, -, -⟩ := hx.open_
  obtain ⟨A', n', c', rfl, -, -, -⟩ := hy.open_
  obtain ⟨p, hp⟩ : ∃ p, p = decide (x < 0) := ⟨_, rfl⟩
  obtain ⟨q, hq⟩ : ∃ q, q = decide (y < 0) := ⟨_, rfl⟩
  rw [← hp] at hx ⊢
  rw [← hq] at hy ⊢
  clear hp hq
  have Hx := Lib.hid hx; clear hx
  have Hy := Lib.hid hy; clear hy
  go_enter Try.func50, Try.ntmps50
  go_wp2_with fail
  have hb2 := below2 w (Obj.cells #[.bool p, .slice A n c] 60) (Obj.cells #[.bool q, .slice A' n' c'] 60)
  refine (asAgg (minusZ_any x y _ _ _ (Hx.out.below hb2) (Hy.out.below hb2) lx ly)).mono ?_
  rintro e w1 ⟨b4, A4, n4, c4, rfl, hr, hb1⟩
  have hb := hb2.trans (hb1.mono (by simp; omega))
  clear hb1 hb2
  have Hr := Lib.hid hr; clear hr
  have Hb := Lib.hid hb; clear hb
  go_wp2_with fail
  refine (signZ_any (x - y) _ _ Hr.out).mono ?_
  rintro e w2 ⟨rfl, hb2⟩
  have hb := Hb.out.trans (hb2.mono Hb.out.size)
  obtain ⟨sg, hsg⟩ : ∃ sg, sg = (x - y).sign := ⟨_, rfl⟩
  rw [← hsg]
  have Hsg := Lib.hid hsg; clear hsg
  go_wp2
  go_ret
  exact ⟨by rw [← Hsg.out]; rfl, hb⟩

set_option maxHeartbeats 400000 in
set_option maxRecDepth 100000 in
/-- whole.times -/
theorem timesZ_any (x y : Int) (u v : Value) (w : World) (hx : ZV w u x) (hy : ZV w v y) (lx : (dig x.natAbs).length ≤ 1000000) (ly : (dig y.natAbs).length ≤ 1000000) :
    Calls Try.prog 61 #[u, v] w (RetZ w (x * y)) := by
  obtain ⟨A, n, c, rfl, hx0, -, -⟩ := hx.open_
  obtain ⟨A', n', c', rfl, hy0, -, -⟩ := hy.open_
  obtain ⟨p, hp⟩ : ∃ p, p = decide (x < 0) := ⟨_, rfl⟩
  obtain ⟨q, hq⟩ : ∃ q, q = decide (y < 0) := ⟨_, rfl⟩
  rw [← hp, ← hq]
  obtain ⟨sg, hsg⟩ : ∃ sg, sg = (p == q) := ⟨_, rfl⟩
  have hsg' : (p == q) = sg := hsg.symm
  have Hp := Lib.hid hp; clear hp
  have Hq := Lib.hid hq; clear hq
  have Hsg := Lib.hid hsg; clear hsg hx hy
  have Hx := Lib.hid hx0; clear hx0
  have Hy := Lib.hid hy0; clear hy0
  go_enter Try.func61, Try.ntmps61
  go_wp2_with fail
  have hb3 := below3 w (Obj.cells #[.bool p, .slice A n c] 60) (Obj.cells #[.bool q, .slice A' n' c'] 60) (Obj.cells #[.bool false, .slice none 0 0] 60)
  have Hx3 := Lib.hid (Hx.out.below hb3)
  have Hy3 := Lib.hid (Hy.out.below hb3)
  have Hb3 := Lib.hid hb3; clear hb3
  have HR := Lib.hid (RB.a3 w false none 0 0 60 (Obj.cells #[.bool p, .slice A n c] 60) (Obj.cells #[.bool q, .slice A' n' c'] 60))
  go_region_held3 (fun w' => w'.cell? ⟨w.heap.size, 0, none⟩ = some (.bool p) ∧ w'.cell? ⟨w.heap.size, 1, none⟩ = some (.slice A n c) ∧ w'.cell? ⟨w.heap.size + 1, 0, none⟩ = some (.bool q) ∧ w'.cell? ⟨w.heap.size + 1, 1, none⟩ = some (.slice A' n' c'))
    (first | exact ⟨old1 0, old1 1, old2 0, old2 1⟩ | (go_split_ands; exact ⟨(far2 (by omega)).trans (by assumption), (far2 (by omega)).trans (by assumption), (far2 (by omega)).trans (by assumption), (far2 (by omega)).trans (by assumption)⟩) | (go_split_ands; exact ⟨keepAt hb1 (by simp <;> omega) (by assumption), keepAt hb1 (by simp <;> omega) (by assumption), keepAt hb1 (by simp <;> omega) (by assumption), keepAt hb1 (by simp <;> omega) (by assumption)⟩) | (go_split_ands; exact ⟨keepAt hb2 (by omega) (by assumption), keepAt hb2 (by omega) (by assumption), keepAt hb2 (by omega) (by assumption), keepAt hb2 (by omega) (by assumption)⟩))
    (first | (go_at_call 90; refine (asSlice (timesE_any _ _ _ _ _ (by exact Hx3.out) (by exact Hy3.out) lx ly)).mono ?_; rintro e w1 ⟨A5, n5, c5, rfl, hr, hb1⟩; have z1 : w.heap.size + 1 + 1 + 1 ≤ w1.heap.size := (by have h := (undrew hb1).size; simp at h; omega); have hl5 := hr.len_le; have hR1 := HR.out.below (undrew hb1) (by simp <;> omega)) | (go_at_call 78; refine (signed_any (!sg) A5 n5 c5 _ hl5).mono ?_; rintro e w2 ⟨rfl, hb2⟩; have z2 := hb2.size; have hR := hR1.below hb2 (by omega); obtain ⟨a0, A0, n0, c0, k10, k11, k20, k21⟩ := hR.facts))
  have s0 := hR.set0 (!sg && decide (0 < n5)) (.slice A5 n5 c5)
  have s1 := hR.set1 (!sg && decide (0 < n5)) (.slice A5 n5 c5)
  have fin := And.intro ((hr.below hb2).rb hR (.bool (!sg && decide (0 < n5))) (.slice A5 n5 c5)) (below_set2 (g := w.heap.size + 1 + 1) (i := 0) (j := 1) ((Hb3.out.trans ((undrew hb1).mono (by simp <;> omega))).trans (hb2.mono (by omega))) (by omega) (.bool (!sg && decide (0 < n5))) (.slice A5 n5 c5))
  have Fin := Lib.hid fin; clear fin
  have hn5 := hr.len
  have Hn5 := Lib.hid hn5; clear hn5
  go_wp2
  refine bodyPost_ret (v := .agg #[.bool (!sg && decide (0 < n5)), .slice A5 n5 c5]) (by simp [results, Try.results61, go_sem, s0, s1]) rfl ⟨_, rfl, ZV.mk ?_ ?_, Fin.out.2⟩
  · rw [Hsg.out, Hp.out, Hq.out, Hn5.out, Bool.eq_iff_iff]
    simp only [Bool.and_eq_true, Bool.not_eq_true', beq_eq_false_iff_ne, ne_eq, decide_eq_decide, decide_eq_true_eq, dig_len_pos]
    rcases Int.lt_trichotomy x 0 with hx | hx | hx <;> rcases Int.lt_trichotomy y 0 with hy | hy | hy
    · have := Int.mul_pos_of_neg_of_neg hx hy; have h2 : 0 < x.natAbs * y.natAbs := Nat.mul_pos (by omega) (by omega); omega
    · subst hy; simp
    · have := Int.mul_neg_of_neg_of_pos hx hy; have h2 : 0 < x.natAbs * y.natAbs := Nat.mul_pos (by omega) (by omega); omega
    · subst hx; simp
    · subst hx; simp
    · subst hx; simp
    · have := Int.mul_neg_of_pos_of_neg hx hy; have h2 : 0 < x.natAbs * y.natAbs := Nat.mul_pos (by omega) (by omega); omega
    · subst hy; simp
    · have := Int.mul_pos hx hy; have h2 : 0 < x.natAbs * y.natAbs := Nat.mul_pos (by omega) (by omega); omega
  · rw [Int.natAbs_mul]; exact Fin.out.1
end Go.Proofs.Ytmlopkkbgpfdnaa
