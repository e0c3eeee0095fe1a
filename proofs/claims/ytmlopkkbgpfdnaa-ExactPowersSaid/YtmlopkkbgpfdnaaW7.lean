/- Walks: the sum of whole numbers. -/
import Derived.Test.YtmlopkkbgpfdnaaW6
namespace Go.Proofs.Ytmlopkkbgpfdnaa
open Go.RowKit

theorem Wd.len_le {w : World} {A : Option Addr} {n c : Nat} {l : List Nat} (h : Wd w (.slice A n c) l) : n ≤ 9223372036854775807 := by
  obtain ⟨A', c', he, h1, h2, _⟩ := h
  injection he
  omega

set_option maxHeartbeats 400000 in
set_option maxRecDepth 100000 in
theorem plusZ_big (x y : Nat) (p q : Bool) (u v : Value) (w : World) (hpq : (p == q) = false) (hx : Wd w u (dig x)) (hy : Wd w v (dig y)) (lx : (dig x).length ≤ 1000000) (hyx : y ≤ x) :
    Calls Try.prog 57 #[.agg #[.bool p, u], .agg #[.bool q, v]] w fun e w' => ∃ r, e = .returned (.agg #[.bool (p && decide (0 < (dig (x - y)).length)), r]) ∧ Wd w' r (dig (x - y)) ∧ Below w.heap.size w w' := by
  have Hx := Lib.hid hx
  have Hy := Lib.hid hy
  obtain ⟨A, n, c, rfl⟩ := hx.slice_
  obtain ⟨A', n', c', rfl⟩ := hy.slice_
  clear hx hy
  have hcm : cmpN x y = 0 ∨ cmpN x y = 1 := by
    rcases Nat.lt_or_ge y x with h | h
    · right; exact cmpN_gt h
    · left; exact cmpN_eq (by omega)
  go_enter Try.func57, Try.ntmps57
  go_wp2_with fail
  have hb3 := below3 w (Obj.cells #[.bool p, .slice A n c] 60) (Obj.cells #[.bool q, .slice A' n' c'] 60) (Obj.cells #[.bool false, .slice none 0 0] 60)
  have Hx3 := Lib.hid (Hx.out.below hb3)
  have Hy3 := Lib.hid (Hy.out.below hb3)
  refine (compareE_any x y _ _ _ Hx3.out Hy3.out).mono ?_
  rintro e w2 ⟨rfl, nq, rfl⟩
  obtain ⟨cm, hcme, hcm0⟩ : ∃ cm : Int, cm = cmpN x y ∧ 0 ≤ cm := ⟨_, rfl, by omega⟩
  rw [← hcme]
  have Hcm := Lib.hid hcme; clear hcme hcm
  go_wp2_with fail
  have f1 : ((((w.alloc (Obj.cells #[.bool p, .slice A n c] 60)).alloc (Obj.cells #[.bool q, .slice A' n' c'] 60)).alloc (Obj.cells #[.bool false, .slice none 0 0] 60)).drewN nq).cell? ⟨w.heap.size, 0, none⟩ = some (.bool p) := old1 0
  have f2 : ((((w.alloc (Obj.cells #[.bool p, .slice A n c] 60)).alloc (Obj.cells #[.bool q, .slice A' n' c'] 60)).alloc (Obj.cells #[.bool false, .slice none 0 0] 60)).drewN nq).cell? ⟨w.heap.size, 1, none⟩ = some (.slice A n c) := old1 1
  have f3 : ((((w.alloc (Obj.cells #[.bool p, .slice A n c] 60)).alloc (Obj.cells #[.bool q, .slice A' n' c'] 60)).alloc (Obj.cells #[.bool false, .slice none 0 0] 60)).drewN nq).cell? ⟨w.heap.size + 1, 1, none⟩ = some (.slice A' n' c') := old2 1
  have HRx : RB ((((w.alloc (Obj.cells #[.bool p, .slice A n c] 60)).alloc (Obj.cells #[.bool q, .slice A' n' c'] 60)).alloc (Obj.cells #[.bool false, .slice none 0 0] 60)).drewN nq) (w.heap.size + 1 + 1) := (RB.a3 w false none 0 0 60 _ _).drewN nq
  have hx4 := Hx3.out.drewN nq
  have hy4 := Hy3.out.drewN nq
  have hb4 := Below.toDrewN hb3 nq
  have z0 : w.heap.size + 1 + 1 + 1 ≤ ((((w.alloc (Obj.cells #[.bool p, .slice A n c] 60)).alloc (Obj.cells #[.bool q, .slice A' n' c'] 60)).alloc (Obj.cells #[.bool false, .slice none 0 0] 60)).drewN nq).heap.size := by simp [World.drewN]
  clear Hx3 Hy3 hb3 Hx Hy
  generalize ((((w.alloc (Obj.cells #[.bool p, .slice A n c] 60)).alloc (Obj.cells #[.bool q, .slice A' n' c'] 60)).alloc (Obj.cells #[.bool false, .slice none 0 0] 60)).drewN nq) = W3 at *
  have Hx3 := Lib.hid hx4; clear hx4
  have Hy3 := Lib.hid hy4; clear hy4
  have Hb3 := Lib.hid hb4; clear hb4
  have HR := Lib.hid HRx; clear HRx
  go_region_held3 (fun w' => w'.cell? ⟨w.heap.size, 0, none⟩ = some (.bool p) ∧ w'.cell? ⟨w.heap.size, 1, none⟩ = some (.slice A n c) ∧ w'.cell? ⟨w.heap.size + 1, 1, none⟩ = some (.slice A' n' c'))
    (first | exact ⟨f1, f2, f3⟩ | (go_split_ands; exact ⟨(far2 (by omega)).trans (by assumption), (far2 (by omega)).trans (by assumption), (far2 (by omega)).trans (by assumption)⟩) | (go_split_ands; exact ⟨keepAt hb1 (by simp <;> omega) (by assumption), keepAt hb1 (by simp <;> omega) (by assumption), keepAt hb1 (by simp <;> omega) (by assumption)⟩) | (go_split_ands; exact ⟨keepAt hb2 (by omega) (by assumption), keepAt hb2 (by omega) (by assumption), keepAt hb2 (by omega) (by assumption)⟩))
    (first | (go_at_call 88; refine (asSlice (minusE_any x y _ _ _ (by exact Hx3.out) (by exact Hy3.out) lx hyx)).mono ?_; rintro e w1 ⟨A5, n5, c5, rfl, hr, hb1⟩; have z1 : w.heap.size + 1 + 1 + 1 ≤ w1.heap.size := (by have h := (hb1).size; have h0 := z0; simp at h h0; omega); have hl5 := hr.len_le; have hR1 := HR.out.below (undrew hb1) (by simp <;> omega)) | (go_at_call 78; refine (signed_any p A5 n5 c5 _ hl5).mono ?_; rintro e w2 ⟨rfl, hb2⟩; have z2 := hb2.size; have hR := hR1.below hb2 (by omega); obtain ⟨a0, A0, n0, c0, k10, k11, k20, k21⟩ := hR.facts))
  have s0 := hR.set0 (p && decide (0 < n5)) (.slice A5 n5 c5)
  have s1 := hR.set1 (p && decide (0 < n5)) (.slice A5 n5 c5)
  have fin : Wd ((w2.setCell ⟨w.heap.size + 1 + 1, 0, none⟩ (.bool (p && decide (0 < n5)))).setCell ⟨w.heap.size + 1 + 1, 1, none⟩ (.slice A5 n5 c5)) (.slice A5 n5 c5) (dig (x - y)) ∧ Below w.heap.size w ((w2.setCell ⟨w.heap.size + 1 + 1, 0, none⟩ (.bool (p && decide (0 < n5)))).setCell ⟨w.heap.size + 1 + 1, 1, none⟩ (.slice A5 n5 c5)) :=
    ⟨(hr.below hb2).rb hR _ _, below_set2 ((Hb3.out.trans ((undrew hb1).mono (by simp <;> omega))).trans (hb2.mono (by omega))) (by omega) _ _⟩
  have Fin := Lib.hid fin; clear fin
  have hn5 := hr.len
  have Hn5 := Lib.hid hn5; clear hn5
  go_wp2
  exact bodyPost_ret (v := .agg #[.bool (p && decide (0 < n5)), .slice A5 n5 c5]) (by simp [results, Try.results57, go_sem, s0, s1]) rfl ⟨.slice A5 n5 c5, by rw [← Hn5.out], Fin.out.1, Fin.out.2⟩

end Go.Proofs.Ytmlopkkbgpfdnaa
