/- Walks: the reference's whole numbers. · Walks: the reference's whole numbers. · Walks: the reference: Valid, Same, answer. · Walks: the reference: Whole. -/
import Derived.Test.YtmlopkkbgpfdnabGreatM17
import Derived.Test.YtmlopkkbgpfdnabGreatM2
import Derived.Test.YtmlopkkbgpfdnabGreatM5
namespace Go.Proofs.YtmlopkkbgpfdnabGreat
open Go.RowKit

set_option maxHeartbeats 400000 in
set_option maxRecDepth 100000 in
theorem plusRZ_same (x y : Nat) (p q : Bool) (u v : Value) (w : World) (hpq : (p == q) = true) (hx : Wd w u (dig x)) (hy : Wd w v (dig y)) (lx : (dig x).length ≤ 1000000) (ly : (dig y).length ≤ 1000000) :
    Calls Tryz.prog 104 #[.agg #[.bool p, u], .agg #[.bool q, v]] w fun e w' => ∃ r, e = .returned (.agg #[.bool (p && decide (0 < (dig (x + y)).length)), r]) ∧ Wd w' r (dig (x + y)) ∧ Below w.heap.size w w' := by
  have Hx := Lib.hid hx
  have Hy := Lib.hid hy
  obtain ⟨A, n, c, rfl⟩ := hx.slice_
  obtain ⟨A', n', c', rfl⟩ := hy.slice_
  clear hx hy
  go_enter Tryz.func104, Tryz.ntmps104
  go_wp2_with fail
  have hb3 := below3 w (Obj.cells #[.bool p, .slice A n c] 53) (Obj.cells #[.bool q, .slice A' n' c'] 53) (Obj.cells #[.bool false, .slice none 0 0] 53)
  have Hx3 := Lib.hid (Hx.out.below hb3)
  have Hy3 := Lib.hid (Hy.out.below hb3)
  have nq0 : True := trivial
  have f1 : (((w.alloc (Obj.cells #[.bool p, .slice A n c] 53)).alloc (Obj.cells #[.bool q, .slice A' n' c'] 53)).alloc (Obj.cells #[.bool false, .slice none 0 0] 53)).cell? ⟨w.heap.size, 0, none⟩ = some (.bool p) := old1 0
  have f2 : (((w.alloc (Obj.cells #[.bool p, .slice A n c] 53)).alloc (Obj.cells #[.bool q, .slice A' n' c'] 53)).alloc (Obj.cells #[.bool false, .slice none 0 0] 53)).cell? ⟨w.heap.size, 1, none⟩ = some (.slice A n c) := old1 1
  have f3 : (((w.alloc (Obj.cells #[.bool p, .slice A n c] 53)).alloc (Obj.cells #[.bool q, .slice A' n' c'] 53)).alloc (Obj.cells #[.bool false, .slice none 0 0] 53)).cell? ⟨w.heap.size + 1, 1, none⟩ = some (.slice A' n' c') := old2 1
  have HRx : RB (((w.alloc (Obj.cells #[.bool p, .slice A n c] 53)).alloc (Obj.cells #[.bool q, .slice A' n' c'] 53)).alloc (Obj.cells #[.bool false, .slice none 0 0] 53)) (w.heap.size + 1 + 1) := RB.a3 w false none 0 0 53 _ _
  have hx4 : Wd (((w.alloc (Obj.cells #[.bool p, .slice A n c] 53)).alloc (Obj.cells #[.bool q, .slice A' n' c'] 53)).alloc (Obj.cells #[.bool false, .slice none 0 0] 53)) (.slice A n c) (dig x) := Hx3.out
  have hy4 : Wd (((w.alloc (Obj.cells #[.bool p, .slice A n c] 53)).alloc (Obj.cells #[.bool q, .slice A' n' c'] 53)).alloc (Obj.cells #[.bool false, .slice none 0 0] 53)) (.slice A' n' c') (dig y) := Hy3.out
  have hb4 : Below w.heap.size w (((w.alloc (Obj.cells #[.bool p, .slice A n c] 53)).alloc (Obj.cells #[.bool q, .slice A' n' c'] 53)).alloc (Obj.cells #[.bool false, .slice none 0 0] 53)) := hb3
  have z0 : w.heap.size + 1 + 1 + 1 ≤ (((w.alloc (Obj.cells #[.bool p, .slice A n c] 53)).alloc (Obj.cells #[.bool q, .slice A' n' c'] 53)).alloc (Obj.cells #[.bool false, .slice none 0 0] 53)).heap.size := by simp
  clear Hx3 Hy3 hb3 Hx Hy
  generalize (((w.alloc (Obj.cells #[.bool p, .slice A n c] 53)).alloc (Obj.cells #[.bool q, .slice A' n' c'] 53)).alloc (Obj.cells #[.bool false, .slice none 0 0] 53)) = W3 at *
  have Hx3 := Lib.hid hx4; clear hx4
  have Hy3 := Lib.hid hy4; clear hy4
  have Hb3 := Lib.hid hb4; clear hb4
  have HR := Lib.hid HRx; clear HRx
  go_region_held3 (fun w' => w'.cell? ⟨w.heap.size, 0, none⟩ = some (.bool p) ∧ w'.cell? ⟨w.heap.size, 1, none⟩ = some (.slice A n c) ∧ w'.cell? ⟨w.heap.size + 1, 1, none⟩ = some (.slice A' n' c'))
    (first | exact ⟨f1, f2, f3⟩ | (go_split_ands; exact ⟨(far2 (by omega)).trans (by assumption), (far2 (by omega)).trans (by assumption), (far2 (by omega)).trans (by assumption)⟩) | (go_split_ands; exact ⟨keepAt hb1 (by simp <;> omega) (by assumption), keepAt hb1 (by simp <;> omega) (by assumption), keepAt hb1 (by simp <;> omega) (by assumption)⟩) | (go_split_ands; exact ⟨keepAt hb2 (by omega) (by assumption), keepAt hb2 (by omega) (by assumption), keepAt hb2 (by omega) (by assumption)⟩))
    (first | (go_at_call 130; refine (asSlice (plusR_any x y _ _ _ (by exact Hx3.out) (by exact Hy3.out) lx ly)).mono ?_; rintro e w1 ⟨A5, n5, c5, rfl, hr, hb1⟩; have z1 : w.heap.size + 1 + 1 + 1 ≤ w1.heap.size := (by have h := (hb1).size; have h0 := z0; simp at h h0; omega); have hl5 := hr.len_le; have hR1 := HR.out.below (undrew hb1) (by simp <;> omega)) | (go_at_call 115; refine (signedR_any p A5 n5 c5 _ hl5).mono ?_; rintro e w2 ⟨rfl, hb2⟩; have z2 := hb2.size; have hR := hR1.below hb2 (by omega); obtain ⟨a0, A0, n0, c0, k10, k11, k20, k21⟩ := hR.facts))
  have s0 := hR.set0 (p && decide (0 < n5)) (.slice A5 n5 c5)
  have s1 := hR.set1 (p && decide (0 < n5)) (.slice A5 n5 c5)
  have fin : Wd ((w2.setCell ⟨w.heap.size + 1 + 1, 0, none⟩ (.bool (p && decide (0 < n5)))).setCell ⟨w.heap.size + 1 + 1, 1, none⟩ (.slice A5 n5 c5)) (.slice A5 n5 c5) (dig (x + y)) ∧ Below w.heap.size w ((w2.setCell ⟨w.heap.size + 1 + 1, 0, none⟩ (.bool (p && decide (0 < n5)))).setCell ⟨w.heap.size + 1 + 1, 1, none⟩ (.slice A5 n5 c5)) :=
    ⟨(hr.below hb2).rb hR _ _, below_set2 ((Hb3.out.trans ((undrew hb1).mono (by simp <;> omega))).trans (hb2.mono (by omega))) (by omega) _ _⟩
  have Fin := Lib.hid fin; clear fin
  have hn5 := hr.len
  have Hn5 := Lib.hid hn5; clear hn5
  go_wp2
  exact bodyPost_ret (v := .agg #[.bool (p && decide (0 < n5)), .slice A5 n5 c5]) (by simp [results, Tryz.results104, go_sem, s0, s1]) rfl ⟨.slice A5 n5 c5, by rw [← Hn5.out], Fin.out.1, Fin.out.2⟩

set_option maxHeartbeats 400000 in
set_option maxRecDepth 100000 in
theorem plusRZ_big (x y : Nat) (p q : Bool) (u v : Value) (w : World) (hpq : (p == q) = false) (hx : Wd w u (dig x)) (hy : Wd w v (dig y)) (lx : (dig x).length ≤ 1000000) (hyx : y ≤ x) :
    Calls Tryz.prog 104 #[.agg #[.bool p, u], .agg #[.bool q, v]] w fun e w' => ∃ r, e = .returned (.agg #[.bool (p && decide (0 < (dig (x - y)).length)), r]) ∧ Wd w' r (dig (x - y)) ∧ Below w.heap.size w w' := by
  have Hx := Lib.hid hx
  have Hy := Lib.hid hy
  obtain ⟨A, n, c, rfl⟩ := hx.slice_
  obtain ⟨A', n', c', rfl⟩ := hy.slice_
  clear hx hy
  go_enter Tryz.func104, Tryz.ntmps104
  go_wp2_with fail
  have hb3 := below3 w (Obj.cells #[.bool p, .slice A n c] 53) (Obj.cells #[.bool q, .slice A' n' c'] 53) (Obj.cells #[.bool false, .slice none 0 0] 53)
  have Hx3 := Lib.hid (Hx.out.below hb3)
  have Hy3 := Lib.hid (Hy.out.below hb3)
  have hcm : cmpN x y = 0 ∨ cmpN x y = 1 := by
    rcases Nat.lt_or_ge y x with h | h
    · right; exact cmpN_gt h
    · left; exact cmpN_eq (by omega)
  refine (orderR_any x y _ _ _ Hx3.out Hy3.out).mono ?_
  rintro e w2 ⟨rfl, nq, rfl⟩
  obtain ⟨cm, hcme, hcm0⟩ : ∃ cm : Int, cm = cmpN x y ∧ 0 ≤ cm := ⟨_, rfl, by omega⟩
  rw [← hcme]
  clear hcme hcm
  go_wp2_with fail
  have f1 : ((((w.alloc (Obj.cells #[.bool p, .slice A n c] 53)).alloc (Obj.cells #[.bool q, .slice A' n' c'] 53)).alloc (Obj.cells #[.bool false, .slice none 0 0] 53)).drewN nq).cell? ⟨w.heap.size, 0, none⟩ = some (.bool p) := old1 0
  have f2 : ((((w.alloc (Obj.cells #[.bool p, .slice A n c] 53)).alloc (Obj.cells #[.bool q, .slice A' n' c'] 53)).alloc (Obj.cells #[.bool false, .slice none 0 0] 53)).drewN nq).cell? ⟨w.heap.size, 1, none⟩ = some (.slice A n c) := old1 1
  have f3 : ((((w.alloc (Obj.cells #[.bool p, .slice A n c] 53)).alloc (Obj.cells #[.bool q, .slice A' n' c'] 53)).alloc (Obj.cells #[.bool false, .slice none 0 0] 53)).drewN nq).cell? ⟨w.heap.size + 1, 1, none⟩ = some (.slice A' n' c') := old2 1
  have HRx : RB ((((w.alloc (Obj.cells #[.bool p, .slice A n c] 53)).alloc (Obj.cells #[.bool q, .slice A' n' c'] 53)).alloc (Obj.cells #[.bool false, .slice none 0 0] 53)).drewN nq) (w.heap.size + 1 + 1) := RB.a3 w false none 0 0 53 _ _
  have hx4 : Wd ((((w.alloc (Obj.cells #[.bool p, .slice A n c] 53)).alloc (Obj.cells #[.bool q, .slice A' n' c'] 53)).alloc (Obj.cells #[.bool false, .slice none 0 0] 53)).drewN nq) (.slice A n c) (dig x) := Hx3.out
  have hy4 : Wd ((((w.alloc (Obj.cells #[.bool p, .slice A n c] 53)).alloc (Obj.cells #[.bool q, .slice A' n' c'] 53)).alloc (Obj.cells #[.bool false, .slice none 0 0] 53)).drewN nq) (.slice A' n' c') (dig y) := Hy3.out
  have hb4 : Below w.heap.size w ((((w.alloc (Obj.cells #[.bool p, .slice A n c] 53)).alloc (Obj.cells #[.bool q, .slice A' n' c'] 53)).alloc (Obj.cells #[.bool false, .slice none 0 0] 53)).drewN nq) := Below.toDrewN hb3 nq
  have z0 : w.heap.size + 1 + 1 + 1 ≤ ((((w.alloc (Obj.cells #[.bool p, .slice A n c] 53)).alloc (Obj.cells #[.bool q, .slice A' n' c'] 53)).alloc (Obj.cells #[.bool false, .slice none 0 0] 53)).drewN nq).heap.size := by simp [World.drewN]
  clear Hx3 Hy3 hb3 Hx Hy
  generalize ((((w.alloc (Obj.cells #[.bool p, .slice A n c] 53)).alloc (Obj.cells #[.bool q, .slice A' n' c'] 53)).alloc (Obj.cells #[.bool false, .slice none 0 0] 53)).drewN nq) = W3 at *
  have Hx3 := Lib.hid hx4; clear hx4
  have Hy3 := Lib.hid hy4; clear hy4
  have Hb3 := Lib.hid hb4; clear hb4
  have HR := Lib.hid HRx; clear HRx
  go_region_held3 (fun w' => w'.cell? ⟨w.heap.size, 0, none⟩ = some (.bool p) ∧ w'.cell? ⟨w.heap.size, 1, none⟩ = some (.slice A n c) ∧ w'.cell? ⟨w.heap.size + 1, 1, none⟩ = some (.slice A' n' c'))
    (first | exact ⟨f1, f2, f3⟩ | (go_split_ands; exact ⟨(far2 (by omega)).trans (by assumption), (far2 (by omega)).trans (by assumption), (far2 (by omega)).trans (by assumption)⟩) | (go_split_ands; exact ⟨keepAt hb1 (by simp <;> omega) (by assumption), keepAt hb1 (by simp <;> omega) (by assumption), keepAt hb1 (by simp <;> omega) (by assumption)⟩) | (go_split_ands; exact ⟨keepAt hb2 (by omega) (by assumption), keepAt hb2 (by omega) (by assumption), keepAt hb2 (by omega) (by assumption)⟩))
    (first | (go_at_call 131; refine (asSlice (lessR_any x y _ _ _ (by exact Hx3.out) (by exact Hy3.out) lx hyx)).mono ?_; rintro e w1 ⟨A5, n5, c5, rfl, hr, hb1⟩; have z1 : w.heap.size + 1 + 1 + 1 ≤ w1.heap.size := (by have h := (hb1).size; have h0 := z0; simp at h h0; omega); have hl5 := hr.len_le; have hR1 := HR.out.below (undrew hb1) (by simp <;> omega)) | (go_at_call 115; refine (signedR_any p A5 n5 c5 _ hl5).mono ?_; rintro e w2 ⟨rfl, hb2⟩; have z2 := hb2.size; have hR := hR1.below hb2 (by omega); obtain ⟨a0, A0, n0, c0, k10, k11, k20, k21⟩ := hR.facts))
  have s0 := hR.set0 (p && decide (0 < n5)) (.slice A5 n5 c5)
  have s1 := hR.set1 (p && decide (0 < n5)) (.slice A5 n5 c5)
  have fin : Wd ((w2.setCell ⟨w.heap.size + 1 + 1, 0, none⟩ (.bool (p && decide (0 < n5)))).setCell ⟨w.heap.size + 1 + 1, 1, none⟩ (.slice A5 n5 c5)) (.slice A5 n5 c5) (dig (x - y)) ∧ Below w.heap.size w ((w2.setCell ⟨w.heap.size + 1 + 1, 0, none⟩ (.bool (p && decide (0 < n5)))).setCell ⟨w.heap.size + 1 + 1, 1, none⟩ (.slice A5 n5 c5)) :=
    ⟨(hr.below hb2).rb hR _ _, below_set2 ((Hb3.out.trans ((undrew hb1).mono (by simp <;> omega))).trans (hb2.mono (by omega))) (by omega) _ _⟩
  have Fin := Lib.hid fin; clear fin
  have hn5 := hr.len
  have Hn5 := Lib.hid hn5; clear hn5
  go_wp2
  exact bodyPost_ret (v := .agg #[.bool (p && decide (0 < n5)), .slice A5 n5 c5]) (by simp [results, Tryz.results104, go_sem, s0, s1]) rfl ⟨.slice A5 n5 c5, by rw [← Hn5.out], Fin.out.1, Fin.out.2⟩

set_option maxHeartbeats 400000 in
set_option maxRecDepth 100000 in
theorem plusRZ_small (x y : Nat) (p q : Bool) (u v : Value) (w : World) (hpq : (p == q) = false) (hx : Wd w u (dig x)) (hy : Wd w v (dig y)) (lx : (dig y).length ≤ 1000000) (hxy : x < y) :
    Calls Tryz.prog 104 #[.agg #[.bool p, u], .agg #[.bool q, v]] w fun e w' => ∃ r, e = .returned (.agg #[.bool (q && decide (0 < (dig (y - x)).length)), r]) ∧ Wd w' r (dig (y - x)) ∧ Below w.heap.size w w' := by
  have Hx := Lib.hid hx
  have Hy := Lib.hid hy
  obtain ⟨A, n, c, rfl⟩ := hx.slice_
  obtain ⟨A', n', c', rfl⟩ := hy.slice_
  clear hx hy
  go_enter Tryz.func104, Tryz.ntmps104
  go_wp2_with fail
  have hb3 := below3 w (Obj.cells #[.bool p, .slice A n c] 53) (Obj.cells #[.bool q, .slice A' n' c'] 53) (Obj.cells #[.bool false, .slice none 0 0] 53)
  have Hx3 := Lib.hid (Hx.out.below hb3)
  have Hy3 := Lib.hid (Hy.out.below hb3)
  have hcm : cmpN x y = -1 := cmpN_lt hxy
  refine (orderR_any x y _ _ _ Hx3.out Hy3.out).mono ?_
  rintro e w2 ⟨rfl, nq, rfl⟩
  rw [hcm]
  clear hcm
  go_wp2_with fail
  have f1 : ((((w.alloc (Obj.cells #[.bool p, .slice A n c] 53)).alloc (Obj.cells #[.bool q, .slice A' n' c'] 53)).alloc (Obj.cells #[.bool false, .slice none 0 0] 53)).drewN nq).cell? ⟨w.heap.size + 1, 0, none⟩ = some (.bool q) := old2 0
  have f2 : ((((w.alloc (Obj.cells #[.bool p, .slice A n c] 53)).alloc (Obj.cells #[.bool q, .slice A' n' c'] 53)).alloc (Obj.cells #[.bool false, .slice none 0 0] 53)).drewN nq).cell? ⟨w.heap.size + 1, 1, none⟩ = some (.slice A' n' c') := old2 1
  have f3 : ((((w.alloc (Obj.cells #[.bool p, .slice A n c] 53)).alloc (Obj.cells #[.bool q, .slice A' n' c'] 53)).alloc (Obj.cells #[.bool false, .slice none 0 0] 53)).drewN nq).cell? ⟨w.heap.size, 1, none⟩ = some (.slice A n c) := old1 1
  have HRx : RB ((((w.alloc (Obj.cells #[.bool p, .slice A n c] 53)).alloc (Obj.cells #[.bool q, .slice A' n' c'] 53)).alloc (Obj.cells #[.bool false, .slice none 0 0] 53)).drewN nq) (w.heap.size + 1 + 1) := RB.a3 w false none 0 0 53 _ _
  have hx4 : Wd ((((w.alloc (Obj.cells #[.bool p, .slice A n c] 53)).alloc (Obj.cells #[.bool q, .slice A' n' c'] 53)).alloc (Obj.cells #[.bool false, .slice none 0 0] 53)).drewN nq) (.slice A n c) (dig x) := Hx3.out
  have hy4 : Wd ((((w.alloc (Obj.cells #[.bool p, .slice A n c] 53)).alloc (Obj.cells #[.bool q, .slice A' n' c'] 53)).alloc (Obj.cells #[.bool false, .slice none 0 0] 53)).drewN nq) (.slice A' n' c') (dig y) := Hy3.out
  have hb4 : Below w.heap.size w ((((w.alloc (Obj.cells #[.bool p, .slice A n c] 53)).alloc (Obj.cells #[.bool q, .slice A' n' c'] 53)).alloc (Obj.cells #[.bool false, .slice none 0 0] 53)).drewN nq) := Below.toDrewN hb3 nq
  have z0 : w.heap.size + 1 + 1 + 1 ≤ ((((w.alloc (Obj.cells #[.bool p, .slice A n c] 53)).alloc (Obj.cells #[.bool q, .slice A' n' c'] 53)).alloc (Obj.cells #[.bool false, .slice none 0 0] 53)).drewN nq).heap.size := by simp [World.drewN]
  clear Hx3 Hy3 hb3 Hx Hy
  generalize ((((w.alloc (Obj.cells #[.bool p, .slice A n c] 53)).alloc (Obj.cells #[.bool q, .slice A' n' c'] 53)).alloc (Obj.cells #[.bool false, .slice none 0 0] 53)).drewN nq) = W3 at *
  have Hx3 := Lib.hid hx4; clear hx4
  have Hy3 := Lib.hid hy4; clear hy4
  have Hb3 := Lib.hid hb4; clear hb4
  have HR := Lib.hid HRx; clear HRx
  go_region_held3 (fun w' => w'.cell? ⟨w.heap.size + 1, 0, none⟩ = some (.bool q) ∧ w'.cell? ⟨w.heap.size + 1, 1, none⟩ = some (.slice A' n' c') ∧ w'.cell? ⟨w.heap.size, 1, none⟩ = some (.slice A n c))
    (first | exact ⟨f1, f2, f3⟩ | (go_split_ands; exact ⟨(far2 (by omega)).trans (by assumption), (far2 (by omega)).trans (by assumption), (far2 (by omega)).trans (by assumption)⟩) | (go_split_ands; exact ⟨keepAt hb1 (by simp <;> omega) (by assumption), keepAt hb1 (by simp <;> omega) (by assumption), keepAt hb1 (by simp <;> omega) (by assumption)⟩) | (go_split_ands; exact ⟨keepAt hb2 (by omega) (by assumption), keepAt hb2 (by omega) (by assumption), keepAt hb2 (by omega) (by assumption)⟩))
    (first | (go_at_call 131; refine (asSlice (lessR_any y x _ _ _ (by exact Hy3.out) (by exact Hx3.out) lx (Nat.le_of_lt hxy))).mono ?_; rintro e w1 ⟨A5, n5, c5, rfl, hr, hb1⟩; have z1 : w.heap.size + 1 + 1 + 1 ≤ w1.heap.size := (by have h := (hb1).size; have h0 := z0; simp at h h0; omega); have hl5 := hr.len_le; have hR1 := HR.out.below (undrew hb1) (by simp <;> omega)) | (go_at_call 115; refine (signedR_any q A5 n5 c5 _ hl5).mono ?_; rintro e w2 ⟨rfl, hb2⟩; have z2 := hb2.size; have hR := hR1.below hb2 (by omega); obtain ⟨a0, A0, n0, c0, k10, k11, k20, k21⟩ := hR.facts))
  have s0 := hR.set0 (q && decide (0 < n5)) (.slice A5 n5 c5)
  have s1 := hR.set1 (q && decide (0 < n5)) (.slice A5 n5 c5)
  have fin : Wd ((w2.setCell ⟨w.heap.size + 1 + 1, 0, none⟩ (.bool (q && decide (0 < n5)))).setCell ⟨w.heap.size + 1 + 1, 1, none⟩ (.slice A5 n5 c5)) (.slice A5 n5 c5) (dig (y - x)) ∧ Below w.heap.size w ((w2.setCell ⟨w.heap.size + 1 + 1, 0, none⟩ (.bool (q && decide (0 < n5)))).setCell ⟨w.heap.size + 1 + 1, 1, none⟩ (.slice A5 n5 c5)) :=
    ⟨(hr.below hb2).rb hR _ _, below_set2 ((Hb3.out.trans ((undrew hb1).mono (by simp <;> omega))).trans (hb2.mono (by omega))) (by omega) _ _⟩
  have Fin := Lib.hid fin; clear fin
  have hn5 := hr.len
  have Hn5 := Lib.hid hn5; clear hn5
  go_wp2
  exact bodyPost_ret (v := .agg #[.bool (q && decide (0 < n5)), .slice A5 n5 c5]) (by simp [results, Tryz.results104, go_sem, s0, s1]) rfl ⟨.slice A5 n5 c5, by rw [← Hn5.out], Fin.out.1, Fin.out.2⟩

/-- the sum of two whole numbers, in the reference -/
theorem plusRZ_any (x y : Int) (u v : Value) (w : World) (hx : ZV w u x) (hy : ZV w v y) (lx : (dig x.natAbs).length ≤ 1000000) (ly : (dig y.natAbs).length ≤ 1000000) :
    Calls Tryz.prog 104 #[u, v] w (RetZ w (x + y)) := by
  obtain ⟨u, rfl, hu⟩ := hx
  obtain ⟨v, rfl, hv⟩ := hy
  by_cases h : decide (x < 0) = decide (y < 0)
  · have hpq : (decide (x < 0) == decide (y < 0)) = true := by simpa using h
    refine (plusRZ_same _ _ _ _ u v w hpq hu hv lx ly).mono ?_
    rintro e w' ⟨r, rfl, hr, hb⟩
    have e2 : (x + y).natAbs = x.natAbs + y.natAbs := by simp at h; omega
    refine ⟨_, rfl, ⟨r, ?_, by rw [e2]; exact hr⟩, hb⟩
    congr 4
    rw [Bool.eq_iff_iff]
    simp only [Bool.and_eq_true, decide_eq_true_eq, dig_len_pos]
    simp at h; omega
  · have hpq : (decide (x < 0) == decide (y < 0)) = false := by simpa using h
    rcases Nat.lt_or_ge x.natAbs y.natAbs with hl | hl
    · refine (plusRZ_small _ _ _ _ u v w hpq hu hv ly hl).mono ?_
      rintro e w' ⟨r, rfl, hr, hb⟩
      have e2 : (x + y).natAbs = y.natAbs - x.natAbs := by simp at h; omega
      refine ⟨_, rfl, ⟨r, ?_, by rw [e2]; exact hr⟩, hb⟩
      congr 4
      rw [Bool.eq_iff_iff]
      simp only [Bool.and_eq_true, decide_eq_true_eq, dig_len_pos]
      simp at h; omega
    · refine (plusRZ_big _ _ _ _ u v w hpq hu hv lx hl).mono ?_
      rintro e w' ⟨r, rfl, hr, hb⟩
      have e2 : (x + y).natAbs = x.natAbs - y.natAbs := by simp at h; omega
      refine ⟨_, rfl, ⟨r, ?_, by rw [e2]; exact hr⟩, hb⟩
      congr 4
      rw [Bool.eq_iff_iff]
      simp only [Bool.and_eq_true, decide_eq_true_eq, dig_len_pos]
      simp at h; omega

end Go.Proofs.YtmlopkkbgpfdnabGreat
namespace Go.Proofs.YtmlopkkbgpfdnabGreat
open Go.RowKit

set_option maxHeartbeats 400000 in
set_option maxRecDepth 100000 in
/-- ref Less -/
theorem lessRZ_any (x y : Int) (u v : Value) (w : World) (hx : ZV w u x) (hy : ZV w v y) (lx : (dig x.natAbs).length ≤ 1000000) (ly : (dig y.natAbs).length ≤ 1000000) :
    Calls Tryz.prog 121 #[u, v] w (RetZ w (x - y)) := by
  obtain ⟨A, n, c, rfl, -, -, -⟩ := hx.open_
  obtain ⟨A', n', c', rfl, -, -, -⟩ := hy.open_
  obtain ⟨p, hp⟩ : ∃ p, p = decide (x < 0) := ⟨_, rfl⟩
  obtain ⟨q, hq⟩ : ∃ q, q = decide (y < 0) := ⟨_, rfl⟩
  rw [← hp] at hx ⊢
  rw [← hq] at hy ⊢
  clear hp hq
  have Hx := Lib.hid hx; clear hx
  have Hy := Lib.hid hy; clear hy
  go_enter Tryz.func121, Tryz.ntmps121
  go_wp2_with fail
  have hb3 := below3 w (Obj.cells #[.bool p, .slice A n c] 53) (Obj.cells #[.bool q, .slice A' n' c'] 53) (Obj.cells #[.bool false, .slice none 0 0] 53)
  have Hx3 := Lib.hid (Hx.out.below hb3)
  have Hy3 := Lib.hid (Hy.out.below hb3)
  have Hb3 := Lib.hid hb3; clear hb3
  have HR := Lib.hid (RB.a3 w false none 0 0 53 (Obj.cells #[.bool p, .slice A n c] 53) (Obj.cells #[.bool q, .slice A' n' c'] 53))
  go_region_held3 (fun w' => w'.cell? ⟨w.heap.size, 0, none⟩ = some (.bool p) ∧ w'.cell? ⟨w.heap.size, 1, none⟩ = some (.slice A n c) ∧ w'.cell? ⟨w.heap.size + 1, 0, none⟩ = some (.bool q) ∧ w'.cell? ⟨w.heap.size + 1, 1, none⟩ = some (.slice A' n' c'))
    (first | exact ⟨old1 0, old1 1, old2 0, old2 1⟩ | (go_split_ands; exact ⟨(far2 (by omega)).trans (by assumption), (far2 (by omega)).trans (by assumption), (far2 (by omega)).trans (by assumption), (far2 (by omega)).trans (by assumption)⟩) | (go_split_ands; exact ⟨keepAt hb1 (by simp <;> omega) (by assumption), keepAt hb1 (by simp <;> omega) (by assumption), keepAt hb1 (by simp <;> omega) (by assumption), keepAt hb1 (by simp <;> omega) (by assumption)⟩) | (go_split_ands; exact ⟨keepAt hb2 (by omega) (by assumption), keepAt hb2 (by omega) (by assumption), keepAt hb2 (by omega) (by assumption), keepAt hb2 (by omega) (by assumption)⟩))
    (first | (go_at_call 83; refine (asAgg (minusR_any y _ _ (by exact Hy3.out))).mono ?_; rintro e w1 ⟨b4, A4, n4, c4, rfl, hr, hb1⟩; have z1 : w.heap.size + 1 + 1 + 1 ≤ w1.heap.size := (by have h := (undrew hb1).size; simp at h; omega); have hR1 := HR.out.below (undrew hb1) (by simp <;> omega); have hx1 := Hx3.out.below (undrew hb1)) | (go_at_call 104; refine (asAgg (plusRZ_any x (-y) _ _ _ hx1 hr lx (by rw [Int.natAbs_neg]; exact ly))).mono ?_; rintro e w2 ⟨b5, A5, n5, c5, rfl, hr5, hb2⟩; have z2 := hb2.size; have hR := hR1.below hb2 (by omega); obtain ⟨a0, A0, n0, c0, k10, k11, k20, k21⟩ := hR.facts))
  have s0 := hR.set0 b5 (.slice A5 n5 c5)
  have s1 := hR.set1 b5 (.slice A5 n5 c5)
  have fin := And.intro (hr5.rb hR (.bool b5) (.slice A5 n5 c5)) (below_set2 (g := w.heap.size + 1 + 1) (i := 0) (j := 1) ((Hb3.out.trans ((undrew hb1).mono (by simp <;> omega))).trans (hb2.mono (by omega))) (by omega) (.bool b5) (.slice A5 n5 c5))
  have Fin := Lib.hid fin; clear fin
  go_wp2
  exact bodyPost_ret (v := .agg #[.bool b5, .slice A5 n5 c5]) (by simp [results, Tryz.results121, go_sem, s0, s1]) rfl ⟨_, rfl, by rw [Int.sub_eq_add_neg]; exact Fin.out.1, Fin.out.2⟩

set_option maxRecDepth 100000 in
/-- ref Order -/
theorem orderRZ_any (x y : Int) (u v : Value) (w : World) (hx : ZV w u x) (hy : ZV w v y) (lx : (dig x.natAbs).length ≤ 1000000) (ly : (dig y.natAbs).length ≤ 1000000) :
    Calls Tryz.prog 92 #[u, v] w fun e w' => e = .returned (.int .i64 (x - y).sign) ∧ Below w.heap.size w w' := by
  obtain ⟨A, n, c, rfl, -, -, -⟩ := hx.open_
  obtain ⟨A', n', c', rfl, -, -, -⟩ := hy.open_
  obtain ⟨p, hp⟩ : ∃ p, p = decide (x < 0) := ⟨_, rfl⟩
  obtain ⟨q, hq⟩ : ∃ q, q = decide (y < 0) := ⟨_, rfl⟩
  rw [← hp] at hx ⊢
  rw [← hq] at hy ⊢
  clear hp hq
  have Hx := Lib.hid hx; clear hx
  have Hy := Lib.hid hy; clear hy
  go_enter Tryz.func92, Tryz.ntmps92
  go_wp2_with fail
  have hb2 := below2 w (Obj.cells #[.bool p, .slice A n c] 53) (Obj.cells #[.bool q, .slice A' n' c'] 53)
  refine (asAgg (lessRZ_any x y _ _ _ (Hx.out.below hb2) (Hy.out.below hb2) lx ly)).mono ?_
  rintro e w1 ⟨b4, A4, n4, c4, rfl, hr, hb1⟩
  have hb := hb2.trans (hb1.mono (by simp; omega))
  clear hb1 hb2
  have Hr := Lib.hid hr; clear hr
  have Hb := Lib.hid hb; clear hb
  go_wp2_with fail
  refine (signR_any (x - y) _ _ Hr.out).mono ?_
  rintro e w2 ⟨rfl, hb2⟩
  have hb := Hb.out.trans (hb2.mono Hb.out.size)
  obtain ⟨sg, hsg⟩ : ∃ sg, sg = (x - y).sign := ⟨_, rfl⟩
  rw [← hsg]
  have Hsg := Lib.hid hsg; clear hsg
  go_wp2
  go_ret
  exact ⟨by rw [← Hsg.out]; rfl, hb⟩

end Go.Proofs.YtmlopkkbgpfdnabGreat
namespace Go.Proofs.YtmlopkkbgpfdnabGreat
open Go.RowKit

set_option maxHeartbeats 400000 in
set_option maxRecDepth 100000 in
/-- ref Valid -/
theorem validR_any (neg : Bool) (A : Option Addr) (n c : Nat) (l : List Nat) (w : World) (hv : Wd w (.slice A n c) l) :
    Calls Tryz.prog 95 #[.agg #[.bool neg, .slice A n c]] w fun e w' => e = .returned (.bool (vld neg l)) ∧ Below w.heap.size w w' := by
  have hb := below1 w (Obj.cells #[.bool neg, .slice A n c] 24)
  have Hb := Lib.hid hb; clear hb
  have hn := hv.len
  have hl := hv.len_le
  obtain ⟨A', c', he, -, -, hok, hcells⟩ := hv
  injection he with e1 e2 e3
  subst e1 e3
  rw [← e2] at hcells
  clear e2
  by_cases h0 : n = 0
  · subst h0
    have hr : vld neg l = !neg := by unfold vld; rw [if_pos hn.symm]
    have Hr := Lib.hid hr; clear hr hcells hn
    cases neg
    · go_enter Tryz.func95, Tryz.ntmps95
      go_wp2
      go_ret
      exact ⟨by rw [Hr.out]; rfl, Hb.out⟩
    · go_enter Tryz.func95, Tryz.ntmps95
      go_wp2
      go_ret
      exact ⟨by rw [Hr.out]; rfl, Hb.out⟩
  · obtain ⟨b, off, rfl, hbl, hc⟩ := hcells (by omega)
    have h1 := hc (n - 1) (by omega)
    obtain ⟨x, hx⟩ : ∃ x, x = l.getD (n - 1) 0 := ⟨_, rfl⟩
    rw [← hx] at h1
    have h1' : (w.alloc (Obj.cells #[.bool neg, .slice (some ⟨b, off, none⟩) n c] 24)).cell? ⟨b, off + (n - 1), none⟩ = some (.int .u32 x) := by rw [World.cell?_alloc_past _ _ _ hbl]; exact h1
    have hr : vld neg l = (decide (n ≤ 256) && !decide (x = 0)) := by unfold vld; rw [if_neg (by omega), ← hn, ← hx]
    have Hr := Lib.hid hr; clear hr hcells hc hx hn
    have hp : decide ((0 : Int) < (n : Int)) = true := by simp; omega
    have hpn : decide (0 < n) = true := by simp; omega
    have he0 : ((n : Int) == 0) = false := by simp; omega
    by_cases h2 : n ≤ 256
    · have h2b : decide ((n : Int) ≤ 256) = true := by simp; omega
      by_cases h3 : x = 0
      · subst h3
        go_enter Tryz.func95, Tryz.ntmps95
        go_wp2
        go_ret
        exact ⟨by rw [Hr.out]; simp [h2], Hb.out⟩
      · have h4 : ((x : Int) != 0) = true := by simp; omega
        go_enter Tryz.func95, Tryz.ntmps95
        go_wp2
        go_ret
        exact ⟨by rw [Hr.out]; simp [h2, h3], Hb.out⟩
    · have h4 : decide ((n : Int) ≤ 256) = false := by simp; omega
      go_enter Tryz.func95, Tryz.ntmps95
      go_wp2
      go_ret
      exact ⟨by rw [Hr.out]; simp [h2], Hb.out⟩

theorem same_iff {x y : Int} {p q : Bool} (hp : p = decide (x < 0)) (hq : q = decide (y < 0)) : x = y ↔ p = q ∧ x.natAbs = y.natAbs := by
  subst hp hq
  rw [decide_eq_decide]
  omega

set_option maxHeartbeats 400000 in
set_option maxRecDepth 100000 in
/-- ref Same, of numbers in their only form -/
theorem sameR_any (x y : Int) (a b : Value) (w : World) (ha : ZV w a x) (hb : ZV w b y) :
    Calls Tryz.prog 49 #[a, b] w fun e w' => e = .returned (.bool (decide (x = y))) ∧ Below w.heap.size w w' := by
  obtain ⟨A, n, c, rfl, hv, hn, hl⟩ := ha.open_
  obtain ⟨A', n', c', rfl, hv', hn', hl'⟩ := hb.open_
  obtain ⟨p, hp⟩ : ∃ p, p = decide (x < 0) := ⟨_, rfl⟩
  obtain ⟨q, hq⟩ : ∃ q, q = decide (y < 0) := ⟨_, rfl⟩
  rw [← hp, ← hq]
  have hs := same_iff hp hq
  have hb2 := below2 w (Obj.cells #[.bool p, .slice A n c] 24) (Obj.cells #[.bool q, .slice A' n' c'] 24)
  have Hv := Lib.hid (hv.below hb2)
  have Hv' := Lib.hid (hv'.below hb2)
  have Hb := Lib.hid hb2; clear hb2 ha hb hv hv' hp hq
  by_cases h1 : p = q
  · subst h1
    have hpp : (p == p) = true := by simp
    by_cases h2 : n = n'
    · subst h2
      have hnn : ((n : Int) == (n : Int)) = true := by simp
      have hr : decide (x = y) = (cmpN x.natAbs y.natAbs == 0) := by
        rw [Bool.eq_iff_iff]
        simp only [decide_eq_true_eq, beq_iff_eq, hs, true_and]
        constructor
        · intro h; exact cmpN_eq h
        · intro h
          rcases Nat.lt_trichotomy x.natAbs y.natAbs with h3 | h3 | h3
          · rw [cmpN_lt h3] at h; omega
          · exact h3
          · rw [cmpN_gt h3] at h; omega
      rw [hr]
      clear hr hs hn hn'
      obtain ⟨cm, hcm⟩ : ∃ cm, cm = cmpN x.natAbs y.natAbs := ⟨_, rfl⟩
      rw [← hcm]
      have Hcm := Lib.hid hcm; clear hcm
      go_enter Tryz.func49, Tryz.ntmps49
      go_wp2_with fail
      refine (orderR_any x.natAbs y.natAbs _ _ _ Hv.out Hv'.out).mono ?_
      rintro e w2 ⟨rfl, nq, rfl⟩
      rw [← Hcm.out]
      go_wp2
      go_ret
      exact ⟨rfl, Below.toDrewN Hb.out nq⟩
    · have hnn : ((n : Int) == (n' : Int)) = false := by simp; omega
      have hr : decide (x = y) = false := by
        rw [decide_eq_false_iff_not]; intro e; subst e; exact h2 (by rw [hn, hn'])
      rw [hr]
      clear hr hs hn hn'
      go_enter Tryz.func49, Tryz.ntmps49
      go_wp2
      go_ret
      exact ⟨rfl, Hb.out⟩
  · have hpq : (p == q) = false := by simpa using h1
    have hr : decide (x = y) = false := by
      rw [decide_eq_false_iff_not]; intro e; exact h1 (hs.1 e).1
    rw [hr]
    clear hr hs h1 hn hn'
    go_enter Tryz.func49, Tryz.ntmps49
    go_wp2
    go_ret
    exact ⟨rfl, Hb.out⟩

end Go.Proofs.YtmlopkkbgpfdnabGreat
namespace Go.Proofs.YtmlopkkbgpfdnabGreat
open Go.RowKit

set_option maxRecDepth 100000 in
/-- ref Whole -/
theorem wholeR_any (n : Int) (w : World) (h1 : -9223372036854775808 ≤ n) (h2 : n ≤ 9223372036854775807) : Calls Tryz.prog 77 #[.int .i64 n] w (RetZ w n) := by
  have hw : n.natAbs < 18446744073709551616 := by omega
  by_cases h : n < 0
  · have Hn := Lib.hid (show (n.natAbs : Int) = -(n + 1) + 1 by omega)
    go_enter Tryz.func77, Tryz.ntmps77
    go_wp2_with fail
    have hb0 := below1 w (Obj.cells #[.bool false, .slice none 0 0] 53)
    refine (asSlice (by have := naturalR_any n.natAbs hw (w.alloc (Obj.cells #[.bool false, .slice none 0 0] 53)); rwa [Hn.out] at this)).mono ?_
    rintro e w1 ⟨A5, n5, c5, rfl, hr, hb1⟩
    have hR := (RB.c1 w false none 0 0 53).below hb1 (by simp)
    obtain ⟨a0, A0, n0, c0, k10, k11, k20, k21⟩ := hR.facts
    have s0 := hR.set0 true (.slice A5 n5 c5)
    have s1 := hR.set1 true (.slice A5 n5 c5)
    have fin := And.intro (hr.rb hR (.bool true) (.slice A5 n5 c5)) (below_set2 (g := w.heap.size) (i := 0) (j := 1) (hb0.trans (hb1.mono (by simp))) (Nat.le_refl _) (.bool true) (.slice A5 n5 c5))
    have Fin := Lib.hid fin; clear fin hb1 hb0 hR
    go_wp2
    exact bodyPost_ret (v := .agg #[.bool true, .slice A5 n5 c5]) (by simp [results, Tryz.results77, go_sem, s0, s1]) rfl ⟨_, rfl, ZV.mk (by simp; omega) Fin.out.1, Fin.out.2⟩
  · have h0 : 0 ≤ n := by omega
    have Hn := Lib.hid (show (n.natAbs : Int) = n by omega)
    go_enter Tryz.func77, Tryz.ntmps77
    go_wp2_with fail
    have hb0 := below1 w (Obj.cells #[.bool false, .slice none 0 0] 53)
    refine (asSlice (by have := naturalR_any n.natAbs hw (w.alloc (Obj.cells #[.bool false, .slice none 0 0] 53)); rwa [Hn.out] at this)).mono ?_
    rintro e w1 ⟨A5, n5, c5, rfl, hr, hb1⟩
    have hR := (RB.c1 w false none 0 0 53).below hb1 (by simp)
    obtain ⟨a0, A0, n0, c0, k10, k11, k20, k21⟩ := hR.facts
    have s0 := hR.set0 false (.slice A5 n5 c5)
    have s1 := hR.set1 false (.slice A5 n5 c5)
    have fin := And.intro (hr.rb hR (.bool false) (.slice A5 n5 c5)) (below_set2 (g := w.heap.size) (i := 0) (j := 1) (hb0.trans (hb1.mono (by simp))) (Nat.le_refl _) (.bool false) (.slice A5 n5 c5))
    have Fin := Lib.hid fin; clear fin hb1 hb0 hR
    go_wp2
    exact bodyPost_ret (v := .agg #[.bool false, .slice A5 n5 c5]) (by simp [results, Tryz.results77, go_sem, s0, s1]) rfl ⟨_, rfl, ZV.mk (by simp; omega) Fin.out.1, Fin.out.2⟩
end Go.Proofs.YtmlopkkbgpfdnabGreat
