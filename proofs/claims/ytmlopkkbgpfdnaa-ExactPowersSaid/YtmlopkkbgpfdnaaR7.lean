/- Walks: the reference's whole numbers. -/
import Derived.Test.YtmlopkkbgpfdnaaR6
namespace Go.Proofs.Ytmlopkkbgpfdnaa
open Go.RowKit

set_option maxHeartbeats 400000 in
set_option maxRecDepth 100000 in
theorem plusRZ_same (x y : Nat) (p q : Bool) (u v : Value) (w : World) (hpq : (p == q) = true) (hx : Wd w u (dig x)) (hy : Wd w v (dig y)) (lx : (dig x).length ≤ 1000000) (ly : (dig y).length ≤ 1000000) :
    Calls Try.prog 34 #[.agg #[.bool p, u], .agg #[.bool q, v]] w fun e w' => ∃ r, e = .returned (.agg #[.bool (p && decide (0 < (dig (x + y)).length)), r]) ∧ Wd w' r (dig (x + y)) ∧ Below w.heap.size w w' := by
  have Hx := Lib.hid hx
  have Hy := Lib.hid hy
  obtain ⟨A, n, c, rfl⟩ := hx.slice_
  obtain ⟨A', n', c', rfl⟩ := hy.slice_
  clear hx hy
  go_enter Try.func34, Try.ntmps34
  go_wp2_with fail
  have hb3 := below3 w (Obj.cells #[.bool p, .slice A n c] 34) (Obj.cells #[.bool q, .slice A' n' c'] 34) (Obj.cells #[.bool false, .slice none 0 0] 34)
  have Hx3 := Lib.hid (Hx.out.below hb3)
  have Hy3 := Lib.hid (Hy.out.below hb3)
  have nq0 : True := trivial
  have f1 : (((w.alloc (Obj.cells #[.bool p, .slice A n c] 34)).alloc (Obj.cells #[.bool q, .slice A' n' c'] 34)).alloc (Obj.cells #[.bool false, .slice none 0 0] 34)).cell? ⟨w.heap.size, 0, none⟩ = some (.bool p) := old1 0
  have f2 : (((w.alloc (Obj.cells #[.bool p, .slice A n c] 34)).alloc (Obj.cells #[.bool q, .slice A' n' c'] 34)).alloc (Obj.cells #[.bool false, .slice none 0 0] 34)).cell? ⟨w.heap.size, 1, none⟩ = some (.slice A n c) := old1 1
  have f3 : (((w.alloc (Obj.cells #[.bool p, .slice A n c] 34)).alloc (Obj.cells #[.bool q, .slice A' n' c'] 34)).alloc (Obj.cells #[.bool false, .slice none 0 0] 34)).cell? ⟨w.heap.size + 1, 1, none⟩ = some (.slice A' n' c') := old2 1
  have HRx : RB (((w.alloc (Obj.cells #[.bool p, .slice A n c] 34)).alloc (Obj.cells #[.bool q, .slice A' n' c'] 34)).alloc (Obj.cells #[.bool false, .slice none 0 0] 34)) (w.heap.size + 1 + 1) := RB.a3 w false none 0 0 34 _ _
  have hx4 : Wd (((w.alloc (Obj.cells #[.bool p, .slice A n c] 34)).alloc (Obj.cells #[.bool q, .slice A' n' c'] 34)).alloc (Obj.cells #[.bool false, .slice none 0 0] 34)) (.slice A n c) (dig x) := Hx3.out
  have hy4 : Wd (((w.alloc (Obj.cells #[.bool p, .slice A n c] 34)).alloc (Obj.cells #[.bool q, .slice A' n' c'] 34)).alloc (Obj.cells #[.bool false, .slice none 0 0] 34)) (.slice A' n' c') (dig y) := Hy3.out
  have hb4 : Below w.heap.size w (((w.alloc (Obj.cells #[.bool p, .slice A n c] 34)).alloc (Obj.cells #[.bool q, .slice A' n' c'] 34)).alloc (Obj.cells #[.bool false, .slice none 0 0] 34)) := hb3
  have z0 : w.heap.size + 1 + 1 + 1 ≤ (((w.alloc (Obj.cells #[.bool p, .slice A n c] 34)).alloc (Obj.cells #[.bool q, .slice A' n' c'] 34)).alloc (Obj.cells #[.bool false, .slice none 0 0] 34)).heap.size := by simp
  clear Hx3 Hy3 hb3 Hx Hy
  generalize (((w.alloc (Obj.cells #[.bool p, .slice A n c] 34)).alloc (Obj.cells #[.bool q, .slice A' n' c'] 34)).alloc (Obj.cells #[.bool false, .slice none 0 0] 34)) = W3 at *
  have Hx3 := Lib.hid hx4; clear hx4
  have Hy3 := Lib.hid hy4; clear hy4
  have Hb3 := Lib.hid hb4; clear hb4
  have HR := Lib.hid HRx; clear HRx
  go_region_held3 (fun w' => w'.cell? ⟨w.heap.size, 0, none⟩ = some (.bool p) ∧ w'.cell? ⟨w.heap.size, 1, none⟩ = some (.slice A n c) ∧ w'.cell? ⟨w.heap.size + 1, 1, none⟩ = some (.slice A' n' c'))
    (first | exact ⟨f1, f2, f3⟩ | (go_split_ands; exact ⟨(far2 (by omega)).trans (by assumption), (far2 (by omega)).trans (by assumption), (far2 (by omega)).trans (by assumption)⟩) | (go_split_ands; exact ⟨keepAt hb1 (by simp <;> omega) (by assumption), keepAt hb1 (by simp <;> omega) (by assumption), keepAt hb1 (by simp <;> omega) (by assumption)⟩) | (go_split_ands; exact ⟨keepAt hb2 (by omega) (by assumption), keepAt hb2 (by omega) (by assumption), keepAt hb2 (by omega) (by assumption)⟩))
    (first | (go_at_call 72; refine (asSlice (plusR_any x y _ _ _ (by exact Hx3.out) (by exact Hy3.out) lx ly)).mono ?_; rintro e w1 ⟨A5, n5, c5, rfl, hr, hb1⟩; have z1 : w.heap.size + 1 + 1 + 1 ≤ w1.heap.size := (by have h := (hb1).size; have h0 := z0; simp at h h0; omega); have hl5 := hr.len_le; have hR1 := HR.out.below (undrew hb1) (by simp <;> omega)) | (go_at_call 70; refine (signedR_any p A5 n5 c5 _ hl5).mono ?_; rintro e w2 ⟨rfl, hb2⟩; have z2 := hb2.size; have hR := hR1.below hb2 (by omega); obtain ⟨a0, A0, n0, c0, k10, k11, k20, k21⟩ := hR.facts))
  have s0 := hR.set0 (p && decide (0 < n5)) (.slice A5 n5 c5)
  have s1 := hR.set1 (p && decide (0 < n5)) (.slice A5 n5 c5)
  have fin : Wd ((w2.setCell ⟨w.heap.size + 1 + 1, 0, none⟩ (.bool (p && decide (0 < n5)))).setCell ⟨w.heap.size + 1 + 1, 1, none⟩ (.slice A5 n5 c5)) (.slice A5 n5 c5) (dig (x + y)) ∧ Below w.heap.size w ((w2.setCell ⟨w.heap.size + 1 + 1, 0, none⟩ (.bool (p && decide (0 < n5)))).setCell ⟨w.heap.size + 1 + 1, 1, none⟩ (.slice A5 n5 c5)) :=
    ⟨(hr.below hb2).rb hR _ _, below_set2 ((Hb3.out.trans ((undrew hb1).mono (by simp <;> omega))).trans (hb2.mono (by omega))) (by omega) _ _⟩
  have Fin := Lib.hid fin; clear fin
  have hn5 := hr.len
  have Hn5 := Lib.hid hn5; clear hn5
  go_wp2
  exact bodyPost_ret (v := .agg #[.bool (p && decide (0 < n5)), .slice A5 n5 c5]) (by simp [results, Try.results34, go_sem, s0, s1]) rfl ⟨.slice A5 n5 c5, by rw [← Hn5.out], Fin.out.1, Fin.out.2⟩

set_option maxHeartbeats 400000 in
set_option maxRecDepth 100000 in
theorem plusRZ_big (x y : Nat) (p q : Bool) (u v : Value) (w : World) (hpq : (p == q) = false) (hx : Wd w u (dig x)) (hy : Wd w v (dig y)) (lx : (dig x).length ≤ 1000000) (hyx : y ≤ x) :
    Calls Try.prog 34 #[.agg #[.bool p, u], .agg #[.bool q, v]] w fun e w' => ∃ r, e = .returned (.agg #[.bool (p && decide (0 < (dig (x - y)).length)), r]) ∧ Wd w' r (dig (x - y)) ∧ Below w.heap.size w w' := by
  have Hx := Lib.hid hx
  have Hy := Lib.hid hy
  obtain ⟨A, n, c, rfl⟩ := hx.slice_
  obtain ⟨A', n', c', rfl⟩ := hy.slice_
  clear hx hy
  go_enter Try.func34, Try.ntmps34
  go_wp2_with fail
  have hb3 := below3 w (Obj.cells #[.bool p, .slice A n c] 34) (Obj.cells #[.bool q, .slice A' n' c'] 34) (Obj.cells #[.bool false, .slice none 0 0] 34)
  have Hx3 := Lib.hid (Hx.out.below hb3)
  have Hy3 := Lib.hid (Hy.out.below hb3)
  have hcm : cmpN x y = 0 ∨ cmpN x y = 1 := by
    rcases Nat.lt_or_ge y x with h | h
    · right; exact cmpN_gt h
    · left; exact cmpN_eq (by omega)
  refine (orderR_any x y _ _ _ Hx3.out Hy3.out).mono ?_
  rintro e w2 ⟨rfl, nq, rfl⟩
  obtain ⟨cm, hcme, hcm0⟩ : ∃ cm : Int, cm = cmpN x y ∧ 0 ≤ cm := ⟨_, rfl, by omega⟩
  rw [← hcme]
  clear hcme hcm
  go_wp2_with fail
  have f1 : ((((w.alloc (Obj.cells #[.bool p, .slice A n c] 34)).alloc (Obj.cells #[.bool q, .slice A' n' c'] 34)).alloc (Obj.cells #[.bool false, .slice none 0 0] 34)).drewN nq).cell? ⟨w.heap.size, 0, none⟩ = some (.bool p) := old1 0
  have f2 : ((((w.alloc (Obj.cells #[.bool p, .slice A n c] 34)).alloc (Obj.cells #[.bool q, .slice A' n' c'] 34)).alloc (Obj.cells #[.bool false, .slice none 0 0] 34)).drewN nq).cell? ⟨w.heap.size, 1, none⟩ = some (.slice A n c) := old1 1
  have f3 : ((((w.alloc (Obj.cells #[.bool p, .slice A n c] 34)).alloc (Obj.cells #[.bool q, .slice A' n' c'] 34)).alloc (Obj.cells #[.bool false, .slice none 0 0] 34)).drewN nq).cell? ⟨w.heap.size + 1, 1, none⟩ = some (.slice A' n' c') := old2 1
  have HRx : RB ((((w.alloc (Obj.cells #[.bool p, .slice A n c] 34)).alloc (Obj.cells #[.bool q, .slice A' n' c'] 34)).alloc (Obj.cells #[.bool false, .slice none 0 0] 34)).drewN nq) (w.heap.size + 1 + 1) := RB.a3 w false none 0 0 34 _ _
  have hx4 : Wd ((((w.alloc (Obj.cells #[.bool p, .slice A n c] 34)).alloc (Obj.cells #[.bool q, .slice A' n' c'] 34)).alloc (Obj.cells #[.bool false, .slice none 0 0] 34)).drewN nq) (.slice A n c) (dig x) := Hx3.out
  have hy4 : Wd ((((w.alloc (Obj.cells #[.bool p, .slice A n c] 34)).alloc (Obj.cells #[.bool q, .slice A' n' c'] 34)).alloc (Obj.cells #[.bool false, .slice none 0 0] 34)).drewN nq) (.slice A' n' c') (dig y) := Hy3.out
  have hb4 : Below w.heap.size w ((((w.alloc (Obj.cells #[.bool p, .slice A n c] 34)).alloc (Obj.cells #[.bool q, .slice A' n' c'] 34)).alloc (Obj.cells #[.bool false, .slice none 0 0] 34)).drewN nq) := Below.toDrewN hb3 nq
  have z0 : w.heap.size + 1 + 1 + 1 ≤ ((((w.alloc (Obj.cells #[.bool p, .slice A n c] 34)).alloc (Obj.cells #[.bool q, .slice A' n' c'] 34)).alloc (Obj.cells #[.bool false, .slice none 0 0] 34)).drewN nq).heap.size := by simp [World.drewN]
  clear Hx3 Hy3 hb3 Hx Hy
  generalize ((((w.alloc (Obj.cells #[.bool p, .slice A n c] 34)).alloc (Obj.cells #[.bool q, .slice A' n' c'] 34)).alloc (Obj.cells #[.bool false, .slice none 0 0] 34)).drewN nq) = W3 at *
  have Hx3 := Lib.hid hx4; clear hx4
  have Hy3 := Lib.hid hy4; clear hy4
  have Hb3 := Lib.hid hb4; clear hb4
  have HR := Lib.hid HRx; clear HRx
  go_region_held3 (fun w' => w'.cell? ⟨w.heap.size, 0, none⟩ = some (.bool p) ∧ w'.cell? ⟨w.heap.size, 1, none⟩ = some (.slice A n c) ∧ w'.cell? ⟨w.heap.size + 1, 1, none⟩ = some (.slice A' n' c'))
    (first | exact ⟨f1, f2, f3⟩ | (go_split_ands; exact ⟨(far2 (by omega)).trans (by assumption), (far2 (by omega)).trans (by assumption), (far2 (by omega)).trans (by assumption)⟩) | (go_split_ands; exact ⟨keepAt hb1 (by simp <;> omega) (by assumption), keepAt hb1 (by simp <;> omega) (by assumption), keepAt hb1 (by simp <;> omega) (by assumption)⟩) | (go_split_ands; exact ⟨keepAt hb2 (by omega) (by assumption), keepAt hb2 (by omega) (by assumption), keepAt hb2 (by omega) (by assumption)⟩))
    (first | (go_at_call 73; refine (asSlice (lessR_any x y _ _ _ (by exact Hx3.out) (by exact Hy3.out) lx hyx)).mono ?_; rintro e w1 ⟨A5, n5, c5, rfl, hr, hb1⟩; have z1 : w.heap.size + 1 + 1 + 1 ≤ w1.heap.size := (by have h := (hb1).size; have h0 := z0; simp at h h0; omega); have hl5 := hr.len_le; have hR1 := HR.out.below (undrew hb1) (by simp <;> omega)) | (go_at_call 70; refine (signedR_any p A5 n5 c5 _ hl5).mono ?_; rintro e w2 ⟨rfl, hb2⟩; have z2 := hb2.size; have hR := hR1.below hb2 (by omega); obtain ⟨a0, A0, n0, c0, k10, k11, k20, k21⟩ := hR.facts))
  have s0 := hR.set0 (p && decide (0 < n5)) (.slice A5 n5 c5)
  have s1 := hR.set1 (p && decide (0 < n5)) (.slice A5 n5 c5)
  have fin : Wd ((w2.setCell ⟨w.heap.size + 1 + 1, 0, none⟩ (.bool (p && decide (0 < n5)))).setCell ⟨w.heap.size + 1 + 1, 1, none⟩ (.slice A5 n5 c5)) (.slice A5 n5 c5) (dig (x - y)) ∧ Below w.heap.size w ((w2.setCell ⟨w.heap.size + 1 + 1, 0, none⟩ (.bool (p && decide (0 < n5)))).setCell ⟨w.heap.size + 1 + 1, 1, none⟩ (.slice A5 n5 c5)) :=
    ⟨(hr.below hb2).rb hR _ _, below_set2 ((Hb3.out.trans ((undrew hb1).mono (by simp <;> omega))).trans (hb2.mono (by omega))) (by omega) _ _⟩
  have Fin := Lib.hid fin; clear fin
  have hn5 := hr.len
  have Hn5 := Lib.hid hn5; clear hn5
  go_wp2
  exact bodyPost_ret (v := .agg #[.bool (p && decide (0 < n5)), .slice A5 n5 c5]) (by simp [results, Try.results34, go_sem, s0, s1]) rfl ⟨.slice A5 n5 c5, by rw [← Hn5.out], Fin.out.1, Fin.out.2⟩

set_option maxHeartbeats 400000 in
set_option maxRecDepth 100000 in
theorem plusRZ_small (x y : Nat) (p q : Bool) (u v : Value) (w : World) (hpq : (p == q) = false) (hx : Wd w u (dig x)) (hy : Wd w v (dig y)) (lx : (dig y).length ≤ 1000000) (hxy : x < y) :
    Calls Try.prog 34 #[.agg #[.bool p, u], .agg #[.bool q, v]] w fun e w' => ∃ r, e = .returned (.agg #[.bool (q && decide (0 < (dig (y - x)).length)), r]) ∧ Wd w' r (dig (y - x)) ∧ Below w.heap.size w w' := by
  have Hx := Lib.hid hx
  have Hy := Lib.hid hy
  obtain ⟨A, n, c, rfl⟩ := hx.slice_
  obtain ⟨A', n', c', rfl⟩ := hy.slice_
  clear hx hy
  go_enter Try.func34, Try.ntmps34
  go_wp2_with fail
  have hb3 := below3 w (Obj.cells #[.bool p, .slice A n c] 34) (Obj.cells #[.bool q, .slice A' n' c'] 34) (Obj.cells #[.bool false, .slice none 0 0] 34)
  have Hx3 := Lib.hid (Hx.out.below hb3)
  have Hy3 := Lib.hid (Hy.out.below hb3)
  have hcm : cmpN x y = -1 := cmpN_lt hxy
  refine (orderR_any x y _ _ _ Hx3.out Hy3.out).mono ?_
  rintro e w2 ⟨rfl, nq, rfl⟩
  rw [hcm]
  clear hcm
  go_wp2_with fail
  have f1 : ((((w.alloc (Obj.cells #[.bool p, .slice A n c] 34)).alloc (Obj.cells #[.bool q, .slice A' n' c'] 34)).alloc (Obj.cells #[.bool false, .slice none 0 0] 34)).drewN nq).cell? ⟨w.heap.size + 1, 0, none⟩ = some (.bool q) := old2 0
  have f2 : ((((w.alloc (Obj.cells #[.bool p, .slice A n c] 34)).alloc (Obj.cells #[.bool q, .slice A' n' c'] 34)).alloc (Obj.cells #[.bool false, .slice none 0 0] 34)).drewN nq).cell? ⟨w.heap.size + 1, 1, none⟩ = some (.slice A' n' c') := old2 1
  have f3 : ((((w.alloc (Obj.cells #[.bool p, .slice A n c] 34)).alloc (Obj.cells #[.bool q, .slice A' n' c'] 34)).alloc (Obj.cells #[.bool false, .slice none 0 0] 34)).drewN nq).cell? ⟨w.heap.size, 1, none⟩ = some (.slice A n c) := old1 1
  have HRx : RB ((((w.alloc (Obj.cells #[.bool p, .slice A n c] 34)).alloc (Obj.cells #[.bool q, .slice A' n' c'] 34)).alloc (Obj.cells #[.bool false, .slice none 0 0] 34)).drewN nq) (w.heap.size + 1 + 1) := RB.a3 w false none 0 0 34 _ _
  have hx4 : Wd ((((w.alloc (Obj.cells #[.bool p, .slice A n c] 34)).alloc (Obj.cells #[.bool q, .slice A' n' c'] 34)).alloc (Obj.cells #[.bool false, .slice none 0 0] 34)).drewN nq) (.slice A n c) (dig x) := Hx3.out
  have hy4 : Wd ((((w.alloc (Obj.cells #[.bool p, .slice A n c] 34)).alloc (Obj.cells #[.bool q, .slice A' n' c'] 34)).alloc (Obj.cells #[.bool false, .slice none 0 0] 34)).drewN nq) (.slice A' n' c') (dig y) := Hy3.out
  have hb4 : Below w.heap.size w ((((w.alloc (Obj.cells #[.bool p, .slice A n c] 34)).alloc (Obj.cells #[.bool q, .slice A' n' c'] 34)).alloc (Obj.cells #[.bool false, .slice none 0 0] 34)).drewN nq) := Below.toDrewN hb3 nq
  have z0 : w.heap.size + 1 + 1 + 1 ≤ ((((w.alloc (Obj.cells #[.bool p, .slice A n c] 34)).alloc (Obj.cells #[.bool q, .slice A' n' c'] 34)).alloc (Obj.cells #[.bool false, .slice none 0 0] 34)).drewN nq).heap.size := by simp [World.drewN]
  clear Hx3 Hy3 hb3 Hx Hy
  generalize ((((w.alloc (Obj.cells #[.bool p, .slice A n c] 34)).alloc (Obj.cells #[.bool q, .slice A' n' c'] 34)).alloc (Obj.cells #[.bool false, .slice none 0 0] 34)).drewN nq) = W3 at *
  have Hx3 := Lib.hid hx4; clear hx4
  have Hy3 := Lib.hid hy4; clear hy4
  have Hb3 := Lib.hid hb4; clear hb4
  have HR := Lib.hid HRx; clear HRx
  go_region_held3 (fun w' => w'.cell? ⟨w.heap.size + 1, 0, none⟩ = some (.bool q) ∧ w'.cell? ⟨w.heap.size + 1, 1, none⟩ = some (.slice A' n' c') ∧ w'.cell? ⟨w.heap.size, 1, none⟩ = some (.slice A n c))
    (first | exact ⟨f1, f2, f3⟩ | (go_split_ands; exact ⟨(far2 (by omega)).trans (by assumption), (far2 (by omega)).trans (by assumption), (far2 (by omega)).trans (by assumption)⟩) | (go_split_ands; exact ⟨keepAt hb1 (by simp <;> omega) (by assumption), keepAt hb1 (by simp <;> omega) (by assumption), keepAt hb1 (by simp <;> omega) (by assumption)⟩) | (go_split_ands; exact ⟨keepAt hb2 (by omega) (by assumption), keepAt hb2 (by omega) (by assumption), keepAt hb2 (by omega) (by assumption)⟩))
    (first | (go_at_call 73; refine (asSlice (lessR_any y x _ _ _ (by exact Hy3.out) (by exact Hx3.out) lx (Nat.le_of_lt hxy))).mono ?_; rintro e w1 ⟨A5, n5, c5, rfl, hr, hb1⟩; have z1 : w.heap.size + 1 + 1 + 1 ≤ w1.heap.size := (by have h := (hb1).size; have h0 := z0; simp at h h0; omega); have hl5 := hr.len_le; have hR1 := HR.out.below (undrew hb1) (by simp <;> omega)) | (go_at_call 70; refine (signedR_any q A5 n5 c5 _ hl5).mono ?_; rintro e w2 ⟨rfl, hb2⟩; have z2 := hb2.size; have hR := hR1.below hb2 (by omega); obtain ⟨a0, A0, n0, c0, k10, k11, k20, k21⟩ := hR.facts))
  have s0 := hR.set0 (q && decide (0 < n5)) (.slice A5 n5 c5)
  have s1 := hR.set1 (q && decide (0 < n5)) (.slice A5 n5 c5)
  have fin : Wd ((w2.setCell ⟨w.heap.size + 1 + 1, 0, none⟩ (.bool (q && decide (0 < n5)))).setCell ⟨w.heap.size + 1 + 1, 1, none⟩ (.slice A5 n5 c5)) (.slice A5 n5 c5) (dig (y - x)) ∧ Below w.heap.size w ((w2.setCell ⟨w.heap.size + 1 + 1, 0, none⟩ (.bool (q && decide (0 < n5)))).setCell ⟨w.heap.size + 1 + 1, 1, none⟩ (.slice A5 n5 c5)) :=
    ⟨(hr.below hb2).rb hR _ _, below_set2 ((Hb3.out.trans ((undrew hb1).mono (by simp <;> omega))).trans (hb2.mono (by omega))) (by omega) _ _⟩
  have Fin := Lib.hid fin; clear fin
  have hn5 := hr.len
  have Hn5 := Lib.hid hn5; clear hn5
  go_wp2
  exact bodyPost_ret (v := .agg #[.bool (q && decide (0 < n5)), .slice A5 n5 c5]) (by simp [results, Try.results34, go_sem, s0, s1]) rfl ⟨.slice A5 n5 c5, by rw [← Hn5.out], Fin.out.1, Fin.out.2⟩

/-- the sum of two whole numbers, in the reference -/
theorem plusRZ_any (x y : Int) (u v : Value) (w : World) (hx : ZV w u x) (hy : ZV w v y) (lx : (dig x.natAbs).length ≤ 1000000) (ly : (dig y.natAbs).length ≤ 1000000) :
    Calls Try.prog 34 #[u, v] w (RetZ w (x + y)) := by
  obtain ⟨u, rfl, hu⟩ := hx
  obtain ⟨v, rfl, hv⟩ := hy
  by_cases h : decide (x < 0) = decide (y < 0)
  · have hpq : (decide (x < 0) == decide (y < 0)) = true := by simpa using h
    refine (plusRZ_same _ _ _ _ u v w hpq hu hv lx ly).mono ?_
    rintro e w' ⟨r, rfl, hr, hb⟩
    have e2 : (x + y).natAbs = x.natAbs + y.natAbs := by simp at h; omega
    refine ⟨_, rfl, ⟨r, ?_, by rw [e2]; exact hr⟩, hb⟩
    congr 4
    rw [Bool.eq_iff_iff]
    simp only [Bool.and_eq_true, decide_eq_true_eq, dig_len_pos]
    simp at h; omega
  · have hpq : (decide (x < 0) == decide (y < 0)) = false := by simpa using h
    rcases Nat.lt_or_ge x.natAbs y.natAbs with hl | hl
    · refine (plusRZ_small _ _ _ _ u v w hpq hu hv ly hl).mono ?_
      rintro e w' ⟨r, rfl, hr, hb⟩
      have e2 : (x + y).natAbs = y.natAbs - x.natAbs := by simp at h; omega
      refine ⟨_, rfl, ⟨r, ?_, by rw [e2]; exact hr⟩, hb⟩
      congr 4
      rw [Bool.eq_iff_iff]
      simp only [Bool.and_eq_true, decide_eq_true_eq, dig_len_pos]
      simp at h; omega
    · refine (plusRZ_big _ _ _ _ u v w hpq hu hv lx hl).mono ?_
      rintro e w' ⟨r, rfl, hr, hb⟩
      have e2 : (x + y).natAbs = x.natAbs - y.natAbs := by simp at h; omega
      refine ⟨_, rfl, ⟨r, ?_, by rw [e2]; exact hr⟩, hb⟩
      congr 4
      rw [Bool.eq_iff_iff]
      simp only [Bool.and_eq_true, decide_eq_true_eq, dig_len_pos]
      simp at h; omega

end Go.Proofs.Ytmlopkkbgpfdnaa
