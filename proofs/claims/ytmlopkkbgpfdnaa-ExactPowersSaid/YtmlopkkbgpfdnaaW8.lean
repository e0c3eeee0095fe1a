/- Walks: the sum of whole numbers. -/
import Derived.Test.YtmlopkkbgpfdnaaW7
namespace Go.Proofs.Ytmlopkkbgpfdnaa
open Go.RowKit

theorem RB.far {W : World} {g h : Nat} (r : RB W g) (r' : RB W h) (hne : g ≠ h) (u u' : Value) : RB ((W.setCell ⟨h, 0, none⟩ u).setCell ⟨h, 1, none⟩ u') g := by
  obtain ⟨a, A, n, c, t, hh⟩ := r
  exact ⟨a, A, n, c, t, by rw [Below.heap_setCell _ _ _ _ hne, Below.heap_setCell _ _ _ _ hne]; exact hh⟩

set_option maxHeartbeats 400000 in
set_option maxRecDepth 100000 in
theorem plusZ_small (x y : Nat) (p q : Bool) (u v : Value) (w : World) (hpq : (p == q) = false) (hx : Wd w u (dig x)) (hy : Wd w v (dig y)) (lx : (dig y).length ≤ 1000000) (hxy : x < y) :
    Calls Try.prog 57 #[.agg #[.bool p, u], .agg #[.bool q, v]] w fun e w' => ∃ r, e = .returned (.agg #[.bool (q && decide (0 < (dig (y - x)).length)), r]) ∧ Wd w' r (dig (y - x)) ∧ Below w.heap.size w w' := by
  have Hx := Lib.hid hx
  have Hy := Lib.hid hy
  obtain ⟨A, n, c, rfl⟩ := hx.slice_
  obtain ⟨A', n', c', rfl⟩ := hy.slice_
  clear hx hy
  have hcm : cmpN x y = -1 := cmpN_lt hxy
  go_enter Try.func57, Try.ntmps57
  go_wp2_with fail
  have hb3 := below3 w (Obj.cells #[.bool p, .slice A n c] 60) (Obj.cells #[.bool q, .slice A' n' c'] 60) (Obj.cells #[.bool false, .slice none 0 0] 60)
  have Hx3 := Lib.hid (Hx.out.below hb3)
  have Hy3 := Lib.hid (Hy.out.below hb3)
  refine (compareE_any x y _ _ _ Hx3.out Hy3.out).mono ?_
  rintro e w2 ⟨rfl, nq, rfl⟩
  rw [hcm]
  clear hcm
  have R1 : RB ((((w.alloc (Obj.cells #[.bool p, .slice A n c] 60)).alloc (Obj.cells #[.bool q, .slice A' n' c'] 60)).alloc (Obj.cells #[.bool false, .slice none 0 0] 60)).drewN nq) w.heap.size := (RB.a1 w p A n c 60 _ _).drewN nq
  have R2 : RB ((((w.alloc (Obj.cells #[.bool p, .slice A n c] 60)).alloc (Obj.cells #[.bool q, .slice A' n' c'] 60)).alloc (Obj.cells #[.bool false, .slice none 0 0] 60)).drewN nq) (w.heap.size + 1) := (RB.a2 w q A' n' c' 60 _ _).drewN nq
  have R3 : RB ((((w.alloc (Obj.cells #[.bool p, .slice A n c] 60)).alloc (Obj.cells #[.bool q, .slice A' n' c'] 60)).alloc (Obj.cells #[.bool false, .slice none 0 0] 60)).drewN nq) (w.heap.size + 1 + 1) := (RB.a3 w false none 0 0 60 _ _).drewN nq
  have hx4 := Hx3.out.drewN nq
  have hy4 := Hy3.out.drewN nq
  have hb4 := Below.toDrewN hb3 nq
  have e10 : ((((w.alloc (Obj.cells #[.bool p, .slice A n c] 60)).alloc (Obj.cells #[.bool q, .slice A' n' c'] 60)).alloc (Obj.cells #[.bool false, .slice none 0 0] 60)).drewN nq).cell? ⟨w.heap.size, 0, none⟩ = some (.bool p) := old1 0
  have e11 : ((((w.alloc (Obj.cells #[.bool p, .slice A n c] 60)).alloc (Obj.cells #[.bool q, .slice A' n' c'] 60)).alloc (Obj.cells #[.bool false, .slice none 0 0] 60)).drewN nq).cell? ⟨w.heap.size, 1, none⟩ = some (.slice A n c) := old1 1
  have e20 : ((((w.alloc (Obj.cells #[.bool p, .slice A n c] 60)).alloc (Obj.cells #[.bool q, .slice A' n' c'] 60)).alloc (Obj.cells #[.bool false, .slice none 0 0] 60)).drewN nq).cell? ⟨w.heap.size + 1, 0, none⟩ = some (.bool q) := old2 0
  have e21 : ((((w.alloc (Obj.cells #[.bool p, .slice A n c] 60)).alloc (Obj.cells #[.bool q, .slice A' n' c'] 60)).alloc (Obj.cells #[.bool false, .slice none 0 0] 60)).drewN nq).cell? ⟨w.heap.size + 1, 1, none⟩ = some (.slice A' n' c') := old2 1
  have z0 : w.heap.size + 1 + 1 + 1 ≤ ((((w.alloc (Obj.cells #[.bool p, .slice A n c] 60)).alloc (Obj.cells #[.bool q, .slice A' n' c'] 60)).alloc (Obj.cells #[.bool false, .slice none 0 0] 60)).drewN nq).heap.size := by simp [World.drewN]
  clear Hx3 Hy3 hb3 Hx Hy
  generalize ((((w.alloc (Obj.cells #[.bool p, .slice A n c] 60)).alloc (Obj.cells #[.bool q, .slice A' n' c'] 60)).alloc (Obj.cells #[.bool false, .slice none 0 0] 60)).drewN nq) = W0 at *
  obtain ⟨_, _, _, _, -, -, g10, g11⟩ := R1.facts
  obtain ⟨_, _, _, _, -, -, g20, g21⟩ := R2.facts
  have T2 : RB ((W0.setCell ⟨w.heap.size, 0, none⟩ (.bool q)).setCell ⟨w.heap.size, 1, none⟩ (.slice A' n' c')) (w.heap.size + 1) := R2.far R1 (by omega) _ _
  have HRy : RB ((((W0.setCell ⟨w.heap.size, 0, none⟩ (.bool q)).setCell ⟨w.heap.size, 1, none⟩ (.slice A' n' c')).setCell ⟨w.heap.size + 1, 0, none⟩ (.bool p)).setCell ⟨w.heap.size + 1, 1, none⟩ (.slice A n c)) (w.heap.size + 1 + 1) := (R3.far R1 (by omega) _ _).far T2 (by omega) _ _
  have hx5 : Wd ((((W0.setCell ⟨w.heap.size, 0, none⟩ (.bool q)).setCell ⟨w.heap.size, 1, none⟩ (.slice A' n' c')).setCell ⟨w.heap.size + 1, 0, none⟩ (.bool p)).setCell ⟨w.heap.size + 1, 1, none⟩ (.slice A n c)) (.slice A n c) (dig x) := (hx4.rb R1 _ _).rb T2 _ _
  have hy5 : Wd ((((W0.setCell ⟨w.heap.size, 0, none⟩ (.bool q)).setCell ⟨w.heap.size, 1, none⟩ (.slice A' n' c')).setCell ⟨w.heap.size + 1, 0, none⟩ (.bool p)).setCell ⟨w.heap.size + 1, 1, none⟩ (.slice A n c)) (.slice A' n' c') (dig y) := (hy4.rb R1 _ _).rb T2 _ _
  have hb5 : Below w.heap.size w ((((W0.setCell ⟨w.heap.size, 0, none⟩ (.bool q)).setCell ⟨w.heap.size, 1, none⟩ (.slice A' n' c')).setCell ⟨w.heap.size + 1, 0, none⟩ (.bool p)).setCell ⟨w.heap.size + 1, 1, none⟩ (.slice A n c)) := below_set2 (below_set2 hb4 (Nat.le_refl _) _ _) (by omega) _ _
  have f1 : ((((W0.setCell ⟨w.heap.size, 0, none⟩ (.bool q)).setCell ⟨w.heap.size, 1, none⟩ (.slice A' n' c')).setCell ⟨w.heap.size + 1, 0, none⟩ (.bool p)).setCell ⟨w.heap.size + 1, 1, none⟩ (.slice A n c)).cell? ⟨w.heap.size, 0, none⟩ = some (.bool q) := (far2 (by omega)).trans (R1.set0 _ _)
  have f2 : ((((W0.setCell ⟨w.heap.size, 0, none⟩ (.bool q)).setCell ⟨w.heap.size, 1, none⟩ (.slice A' n' c')).setCell ⟨w.heap.size + 1, 0, none⟩ (.bool p)).setCell ⟨w.heap.size + 1, 1, none⟩ (.slice A n c)).cell? ⟨w.heap.size, 1, none⟩ = some (.slice A' n' c') := (far2 (by omega)).trans (R1.set1 _ _)
  have f3 : ((((W0.setCell ⟨w.heap.size, 0, none⟩ (.bool q)).setCell ⟨w.heap.size, 1, none⟩ (.slice A' n' c')).setCell ⟨w.heap.size + 1, 0, none⟩ (.bool p)).setCell ⟨w.heap.size + 1, 1, none⟩ (.slice A n c)).cell? ⟨w.heap.size + 1, 1, none⟩ = some (.slice A n c) := T2.set1 _ _
  have z5 : w.heap.size + 1 + 1 + 1 ≤ ((((W0.setCell ⟨w.heap.size, 0, none⟩ (.bool q)).setCell ⟨w.heap.size, 1, none⟩ (.slice A' n' c')).setCell ⟨w.heap.size + 1, 0, none⟩ (.bool p)).setCell ⟨w.heap.size + 1, 1, none⟩ (.slice A n c)).heap.size := by simpa [World.setCell] using z0
  have HF := Lib.hid (And.intro HRy (And.intro hx5 (And.intro hy5 (And.intro hb5 (And.intro f1 (And.intro f2 (And.intro f3 z5)))))))
  clear HRy hx5 hy5 hb5 f1 f2 f3 z5 T2 R1 R2 R3 hx4 hy4 hb4 z0
  go_wp2_with fail
  obtain ⟨HRx, hx5, hy5, hb5, f1, f2, f3, z0⟩ := HF.out
  clear HF e10 e11 e20 e21 g10 g11 g20 g21
  generalize ((((W0.setCell ⟨w.heap.size, 0, none⟩ (.bool q)).setCell ⟨w.heap.size, 1, none⟩ (.slice A' n' c')).setCell ⟨w.heap.size + 1, 0, none⟩ (.bool p)).setCell ⟨w.heap.size + 1, 1, none⟩ (.slice A n c)) = W3 at *
  have Hx3 := Lib.hid hx5; clear hx5
  have Hy3 := Lib.hid hy5; clear hy5
  have Hb3 := Lib.hid hb5; clear hb5
  have HR := Lib.hid HRx; clear HRx
  go_region_held3 (fun w' => w'.cell? ⟨w.heap.size, 0, none⟩ = some (.bool q) ∧ w'.cell? ⟨w.heap.size, 1, none⟩ = some (.slice A' n' c') ∧ w'.cell? ⟨w.heap.size + 1, 1, none⟩ = some (.slice A n c))
    (first | exact ⟨f1, f2, f3⟩ | (go_split_ands; exact ⟨(far2 (by omega)).trans (by assumption), (far2 (by omega)).trans (by assumption), (far2 (by omega)).trans (by assumption)⟩) | (go_split_ands; exact ⟨keepAt hb1 (by simp <;> omega) (by assumption), keepAt hb1 (by simp <;> omega) (by assumption), keepAt hb1 (by simp <;> omega) (by assumption)⟩) | (go_split_ands; exact ⟨keepAt hb2 (by omega) (by assumption), keepAt hb2 (by omega) (by assumption), keepAt hb2 (by omega) (by assumption)⟩))
    (first | (go_at_call 88; refine (asSlice (minusE_any y x _ _ _ (by exact Hy3.out) (by exact Hx3.out) lx (Nat.le_of_lt hxy))).mono ?_; rintro e w1 ⟨A5, n5, c5, rfl, hr, hb1⟩; have z1 : w.heap.size + 1 + 1 + 1 ≤ w1.heap.size := (by have h := (hb1).size; have h0 := z0; simp at h h0; omega); have hl5 := hr.len_le; have hR1 := HR.out.below (undrew hb1) (by simp <;> omega)) | (go_at_call 78; refine (signed_any q A5 n5 c5 _ hl5).mono ?_; rintro e w2 ⟨rfl, hb2⟩; have z2 := hb2.size; have hR := hR1.below hb2 (by omega); obtain ⟨a0, A0, n0, c0, k10, k11, k20, k21⟩ := hR.facts))
  have s0 := hR.set0 (q && decide (0 < n5)) (.slice A5 n5 c5)
  have s1 := hR.set1 (q && decide (0 < n5)) (.slice A5 n5 c5)
  have fin : Wd ((w2.setCell ⟨w.heap.size + 1 + 1, 0, none⟩ (.bool (q && decide (0 < n5)))).setCell ⟨w.heap.size + 1 + 1, 1, none⟩ (.slice A5 n5 c5)) (.slice A5 n5 c5) (dig (y - x)) ∧ Below w.heap.size w ((w2.setCell ⟨w.heap.size + 1 + 1, 0, none⟩ (.bool (q && decide (0 < n5)))).setCell ⟨w.heap.size + 1 + 1, 1, none⟩ (.slice A5 n5 c5)) :=
    ⟨(hr.below hb2).rb hR _ _, below_set2 ((Hb3.out.trans ((undrew hb1).mono (by simp <;> omega))).trans (hb2.mono (by omega))) (by omega) _ _⟩
  have Fin := Lib.hid fin; clear fin
  have hn5 := hr.len
  have Hn5 := Lib.hid hn5; clear hn5
  go_wp2
  exact bodyPost_ret (v := .agg #[.bool (q && decide (0 < n5)), .slice A5 n5 c5]) (by simp [results, Try.results57, go_sem, s0, s1]) rfl ⟨.slice A5 n5 c5, by rw [← Hn5.out], Fin.out.1, Fin.out.2⟩

/-- the sum of two whole numbers, in package exact -/
theorem plusZ_any (x y : Int) (u v : Value) (w : World) (hx : ZV w u x) (hy : ZV w v y) (lx : (dig x.natAbs).length ≤ 1000000) (ly : (dig y.natAbs).length ≤ 1000000) :
    Calls Try.prog 57 #[u, v] w fun e w' => ∃ r, e = .returned r ∧ ZV w' r (x + y) ∧ Below w.heap.size w w' := by
  obtain ⟨u, rfl, hu⟩ := hx
  obtain ⟨v, rfl, hv⟩ := hy
  by_cases h : decide (x < 0) = decide (y < 0)
  · rw [← h]
    refine (plusZ_same _ _ _ u v w hu hv lx ly).mono ?_
    rintro e w' ⟨r, rfl, hr, hb⟩
    refine ⟨_, rfl, ⟨r, ?_, ?_⟩, hb⟩
    · congr 4
      simp at h ⊢; omega
    · have : (x + y).natAbs = x.natAbs + y.natAbs := by simp at h; omega
      rw [this]; exact hr
  · have hpq : (decide (x < 0) == decide (y < 0)) = false := by simpa using h
    rcases Nat.lt_or_ge x.natAbs y.natAbs with hl | hl
    · refine (plusZ_small _ _ _ _ u v w hpq hu hv ly hl).mono ?_
      rintro e w' ⟨r, rfl, hr, hb⟩
      have e2 : (x + y).natAbs = y.natAbs - x.natAbs := by simp at h; omega
      refine ⟨_, rfl, ⟨r, ?_, by rw [e2]; exact hr⟩, hb⟩
      congr 4
      rw [Bool.eq_iff_iff]
      simp only [Bool.and_eq_true, decide_eq_true_eq, dig_len_pos]
      simp at h; omega
    · refine (plusZ_big _ _ _ _ u v w hpq hu hv lx hl).mono ?_
      rintro e w' ⟨r, rfl, hr, hb⟩
      have e2 : (x + y).natAbs = x.natAbs - y.natAbs := by simp at h; omega
      refine ⟨_, rfl, ⟨r, ?_, by rw [e2]; exact hr⟩, hb⟩
      congr 4
      rw [Bool.eq_iff_iff]
      simp only [Bool.and_eq_true, decide_eq_true_eq, dig_len_pos]
      simp at h; omega

end Go.Proofs.Ytmlopkkbgpfdnaa
