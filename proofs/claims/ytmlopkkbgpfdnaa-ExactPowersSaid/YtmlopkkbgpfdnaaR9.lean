/- Walks: the reference's whole numbers. -/
import Derived.Test.YtmlopkkbgpfdnaaR6
namespace Go.Proofs.Ytmlopkkbgpfdnaa
open Go.RowKit

set_option maxHeartbeats 400000 in
set_option maxRecDepth 100000 in
/-- ref Times -/
theorem timesRZ_any (x y : Int) (u v : Value) (w : World) (hx : ZV w u x) (hy : ZV w v y) (lx : (dig x.natAbs).length ≤ 1000000) (ly : (dig y.natAbs).length ≤ 1000000) :
    Calls Try.prog 35 #[u, v] w (RetZ w (x * y)) := by
  obtain ⟨A, n, c, rfl, hx0, -, -⟩ := hx.open_
  obtain ⟨A', n', c', rfl, hy0, -, -⟩ := hy.open_
  obtain ⟨p, hp⟩ : ∃ p, p = decide (x < 0) := ⟨_, rfl⟩
  obtain ⟨q, hq⟩ : ∃ q, q = decide (y < 0) := ⟨_, rfl⟩
  rw [← hp, ← hq]
  obtain ⟨sg, hsg⟩ : ∃ sg, sg = (p == q) := ⟨_, rfl⟩
  have hsg' : (p == q) = sg := hsg.symm
  have Hp := Lib.hid hp; clear hp
  have Hq := Lib.hid hq; clear hq
  have Hsg := Lib.hid hsg; clear hsg hx hy
  have Hx := Lib.hid hx0; clear hx0
  have Hy := Lib.hid hy0; clear hy0
  go_enter Try.func35, Try.ntmps35
  go_wp2_with fail
  have hb3 := below3 w (Obj.cells #[.bool p, .slice A n c] 34) (Obj.cells #[.bool q, .slice A' n' c'] 34) (Obj.cells #[.bool false, .slice none 0 0] 34)
  have Hx3 := Lib.hid (Hx.out.below hb3)
  have Hy3 := Lib.hid (Hy.out.below hb3)
  have Hb3 := Lib.hid hb3; clear hb3
  have HR := Lib.hid (RB.a3 w false none 0 0 34 (Obj.cells #[.bool p, .slice A n c] 34) (Obj.cells #[.bool q, .slice A' n' c'] 34))
  go_region_held3 (fun w' => w'.cell? ⟨w.heap.size, 0, none⟩ = some (.bool p) ∧ w'.cell? ⟨w.heap.size, 1, none⟩ = some (.slice A n c) ∧ w'.cell? ⟨w.heap.size + 1, 0, none⟩ = some (.bool q) ∧ w'.cell? ⟨w.heap.size + 1, 1, none⟩ = some (.slice A' n' c'))
    (first | exact ⟨old1 0, old1 1, old2 0, old2 1⟩ | (go_split_ands; exact ⟨(far2 (by omega)).trans (by assumption), (far2 (by omega)).trans (by assumption), (far2 (by omega)).trans (by assumption), (far2 (by omega)).trans (by assumption)⟩) | (go_split_ands; exact ⟨keepAt hb1 (by simp <;> omega) (by assumption), keepAt hb1 (by simp <;> omega) (by assumption), keepAt hb1 (by simp <;> omega) (by assumption), keepAt hb1 (by simp <;> omega) (by assumption)⟩) | (go_split_ands; exact ⟨keepAt hb2 (by omega) (by assumption), keepAt hb2 (by omega) (by assumption), keepAt hb2 (by omega) (by assumption), keepAt hb2 (by omega) (by assumption)⟩))
    (first | (go_at_call 74; refine (asSlice (timesR_any _ _ _ _ _ (by exact Hx3.out) (by exact Hy3.out) lx ly)).mono ?_; rintro e w1 ⟨A5, n5, c5, rfl, hr, hb1⟩; have z1 : w.heap.size + 1 + 1 + 1 ≤ w1.heap.size := (by have h := (undrew hb1).size; simp at h; omega); have hl5 := hr.len_le; have hR1 := HR.out.below (undrew hb1) (by simp <;> omega)) | (go_at_call 70; refine (signedR_any (!sg) A5 n5 c5 _ hl5).mono ?_; rintro e w2 ⟨rfl, hb2⟩; have z2 := hb2.size; have hR := hR1.below hb2 (by omega); obtain ⟨a0, A0, n0, c0, k10, k11, k20, k21⟩ := hR.facts))
  have s0 := hR.set0 (!sg && decide (0 < n5)) (.slice A5 n5 c5)
  have s1 := hR.set1 (!sg && decide (0 < n5)) (.slice A5 n5 c5)
  have fin := And.intro ((hr.below hb2).rb hR (.bool (!sg && decide (0 < n5))) (.slice A5 n5 c5)) (below_set2 (g := w.heap.size + 1 + 1) (i := 0) (j := 1) ((Hb3.out.trans ((undrew hb1).mono (by simp <;> omega))).trans (hb2.mono (by omega))) (by omega) (.bool (!sg && decide (0 < n5))) (.slice A5 n5 c5))
  have Fin := Lib.hid fin; clear fin
  have hn5 := hr.len
  have Hn5 := Lib.hid hn5; clear hn5
  go_wp2
  refine bodyPost_ret (v := .agg #[.bool (!sg && decide (0 < n5)), .slice A5 n5 c5]) (by simp [results, Try.results35, go_sem, s0, s1]) rfl ⟨_, rfl, ZV.mk ?_ ?_, Fin.out.2⟩
  · rw [Hsg.out, Hp.out, Hq.out, Hn5.out, Bool.eq_iff_iff]
    simp only [Bool.and_eq_true, Bool.not_eq_true', beq_eq_false_iff_ne, ne_eq, decide_eq_decide, decide_eq_true_eq, dig_len_pos]
    rcases Int.lt_trichotomy x 0 with hx | hx | hx <;> rcases Int.lt_trichotomy y 0 with hy | hy | hy
    · have := Int.mul_pos_of_neg_of_neg hx hy; have h2 : 0 < x.natAbs * y.natAbs := Nat.mul_pos (by omega) (by omega); omega
    · subst hy; simp
    · have := Int.mul_neg_of_neg_of_pos hx hy; have h2 : 0 < x.natAbs * y.natAbs := Nat.mul_pos (by omega) (by omega); omega
    · subst hx; simp
    · subst hx; simp
    · subst hx; simp
    · have := Int.mul_neg_of_pos_of_neg hx hy; have h2 : 0 < x.natAbs * y.natAbs := Nat.mul_pos (by omega) (by omega); omega
    · subst hy; simp
    · have := Int.mul_pos hx hy; have h2 : 0 < x.natAbs * y.natAbs := Nat.mul_pos (by omega) (by omega); omega
  · rw [Int.natAbs_mul]; exact Fin.out.1
end Go.Proofs.Ytmlopkkbgpfdnaa
