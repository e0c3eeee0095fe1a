/- Walks: FromInt, ToInt. -/
import Derived.Test.YtijhbmdbnnmogaaGreatM23
namespace Go.Proofs.YtijhbmdbnnmogaaGreat
open Go.RowKit

theorem int_len {n : Int} (h1 : -9223372036854775808 ≤ n) (h2 : n ≤ 9223372036854775807) : (dig n.natAbs).length ≤ 2 := dig_len_le (by omega)

set_option maxRecDepth 100000 in
/-- exact.FromInt -/
theorem fromInt_any (n : Int) (w : World) (h1 : -9223372036854775808 ≤ n) (h2 : n ≤ 9223372036854775807) : Calls Tryz.prog 56 #[.int .i64 n] w (RetZ w n) := by
  have hlen := int_len h1 h2
  have Hlen := Lib.hid hlen; clear hlen
  go_enter Tryz.func56, Tryz.ntmps56
  go_wp2_with fail
  have hb0 := below1 w (Obj.cells #[.bool false, .slice none 0 0] 56)
  refine (asAgg (smallE_any n _ h1 h2)).mono ?_
  rintro e w1 ⟨b4, A4, n4, c4, rfl, hr, hb1⟩
  have hR1 := Lib.hid ((RB.c1 w false none 0 0 56).below hb1 (by simp))
  have hb01 := Lib.hid (hb0.trans (hb1.mono (by simp)))
  have Hr := Lib.hid hr; clear hr hb0 hb1
  go_wp2_with fail
  refine (asAgg (intOf_any n _ _ Hr.out (by have := Hlen.out; omega))).mono ?_
  rintro e w2 ⟨b5, A5, n5, c5, rfl, hr5, hb2⟩
  have hR := hR1.out.below hb2 hR1.out.lt
  obtain ⟨a0, A0, n0, c0, k10, k11, k20, k21⟩ := hR.facts
  have s0 := hR.set0 b5 (.slice A5 n5 c5)
  have s1 := hR.set1 b5 (.slice A5 n5 c5)
  have fin := And.intro (hr5.rb hR (.bool b5) (.slice A5 n5 c5)) (below_set2 (g := w.heap.size) (i := 0) (j := 1) (hb01.out.trans (hb2.mono hb01.out.size)) (Nat.le_refl _) (.bool b5) (.slice A5 n5 c5))
  have Fin := Lib.hid fin; clear fin hb2 hR
  go_wp2
  exact bodyPost_ret (v := .agg #[.bool b5, .slice A5 n5 c5]) (by simp [results, Tryz.results56, go_sem, s0, s1]) rfl ⟨_, rfl, Fin.out.1, Fin.out.2⟩

/-- what ToInt answers -/
def toV (p : Bool) (l : List Nat) : Int := if vld p l = true then (if -9223372036854775808 ≤ numOf p l ∧ numOf p l ≤ 9223372036854775807 then numOf p l else 0) else 0
def toE (p : Bool) (l : List Nat) : Int := if vld p l = true then (if -9223372036854775808 ≤ numOf p l ∧ numOf p l ≤ 9223372036854775807 then 0 else 5) else 2

theorem smallMin (w : World) : Calls Tryz.prog 119 #[.int .i64 (-9223372036854775808)] w (RetZ w MinI) := smallE_any _ w (by omega) (by omega)
theorem smallMax (w : World) : Calls Tryz.prog 119 #[.int .i64 9223372036854775807] w (RetZ w MaxI) := smallE_any _ w (by omega) (by omega)
theorem min_len : (dig MinI.natAbs).length ≤ 1000000 := by have := int_len (n := MinI) (by unfold MinI; omega) (by unfold MinI; omega); omega
theorem max_len : (dig MaxI.natAbs).length ≤ 1000000 := by have := int_len (n := MaxI) (by unfold MaxI; omega) (by unfold MaxI; omega); omega

set_option maxHeartbeats 400000 in
set_option maxRecDepth 100000 in
theorem toInt_no (p : Bool) (A : Option Addr) (n c : Nat) (l : List Nat) (w : World) (hx : Wd w (.slice A n c) l) (hno : vld p l = false) :
    Calls Tryz.prog 57 #[.agg #[.bool p, .slice A n c]] w fun e w' => e = .returned (.tuple #[.int .i64 0, .int .i64 2]) ∧ Below w.heap.size w w' := by
  have Hx := Lib.hid hx; clear hx
  have Hno := Lib.hid hno; clear hno
  go_enter Tryz.func57, Tryz.ntmps57
  go_wp2_with fail
  have hb2 := below2 w (Obj.cells #[.bool p, .slice A n c] 56) (Obj.cells #[.bool p, .slice A n c] 56)
  refine (allValid_one p A n c l _ _ (by have := heap_alloc_new (w.alloc (Obj.cells #[.bool p, .slice A n c] 56)) (Obj.cells #[.bool p, .slice A n c] 56); simpa using this) (Hx.out.below hb2)).mono ?_
  rintro e w1 ⟨rfl, hb1⟩
  rw [Hno.out]
  have Hb := Lib.hid (hb2.trans (hb1.mono (by simp <;> omega)))
  clear hb1 hb2
  go_wp2
  go_ret2
  exact ⟨rfl, Hb.out⟩

set_option maxHeartbeats 800000 in
set_option maxRecDepth 100000 in
theorem toInt_big (x : Int) (p : Bool) (A : Option Addr) (n c : Nat) (l : List Nat) (w : World) (hx : Wd w (.slice A n c) l) (hp : vld p l = true) (ex : x = numOf p l) (hbig : MaxI < x) :
    Calls Tryz.prog 57 #[.agg #[.bool p, .slice A n c]] w fun e w' => e = .returned (.tuple #[.int .i64 0, .int .i64 5]) ∧ Below w.heap.size w w' := by
  have g1 : (x - MinI).sign = 1 := Int.sign_eq_one_of_pos (by unfold MinI; unfold MaxI at hbig; omega)
  have g2 : (x - MaxI).sign = 1 := Int.sign_eq_one_of_pos (by omega)
  have G1 := Lib.hid g1; clear g1
  have G2 := Lib.hid g2; clear g2 hbig
  have zx := vld_zv hx hp
  have lx : (dig x.natAbs).length ≤ 256 := by rw [ex, vld_dig hx.ok hp]; exact vld_len hp
  rw [← ex] at zx
  have Hx := Lib.hid hx; clear hx
  have Zx := Lib.hid zx; clear zx
  have Hp := Lib.hid hp; clear hp ex
  go_enter Tryz.func57, Tryz.ntmps57
  go_wp2_with fail
  have hb2 := below2 w (Obj.cells #[.bool p, .slice A n c] 56) (Obj.cells #[.bool p, .slice A n c] 56)
  refine (allValid_one p A n c l _ _ (by have := heap_alloc_new (w.alloc (Obj.cells #[.bool p, .slice A n c] 56)) (Obj.cells #[.bool p, .slice A n c] 56); simpa using this) (Hx.out.below hb2)).mono ?_
  rintro e w1 ⟨rfl, hb1⟩
  rw [Hp.out]
  have q0 : w1.cell? ⟨w.heap.size, 0, none⟩ = some (.bool p) := keepAt hb1 (by simp <;> omega) (two1 0)
  have q1 : w1.cell? ⟨w.heap.size, 1, none⟩ = some (.slice A n c) := keepAt hb1 (by simp <;> omega) (two1 1)
  have Z1 : w.heap.size + 1 ≤ w1.heap.size := by have := hb1.size; simp at this; omega
  have Hb1 := Lib.hid (hb2.trans (hb1.mono (by simp <;> omega)))
  clear hb1 hb2
  go_wp2_with fail
  refine (wholeOf_any p A n c _).mono ?_
  rintro e w2 ⟨rfl, hb2⟩
  have z2 : w.heap.size + 1 ≤ w2.heap.size := Nat.le_trans Z1 hb2.size
  have hb02 := Hb1.out.trans (hb2.mono Hb1.out.size)
  have zx3 := (Zx.out.below hb02).below (below1 w2 (Obj.cells #[.bool p, .slice A n c] 152))
  have hb03 := hb02.trans ((below1 w2 (Obj.cells #[.bool p, .slice A n c] 152)).mono hb02.size)
  have r0 := keepAt hb2 (by omega) q0
  have r1 := keepAt hb2 (by omega) q1
  have t0 : (w2.alloc (Obj.cells #[.bool p, .slice A n c] 152)).cell? ⟨w.heap.size, 0, none⟩ = some (.bool p) := by rw [World.cell?_alloc_past _ _ _ (by omega)]; exact r0
  have m0 : (w2.alloc (Obj.cells #[.bool p, .slice A n c] 152)).cell? ⟨w2.heap.size, 0, none⟩ = some (.bool p) := by rw [World.cell?_alloc_new]; rfl
  have m1 : (w2.alloc (Obj.cells #[.bool p, .slice A n c] 152)).cell? ⟨w2.heap.size, 1, none⟩ = some (.slice A n c) := by rw [World.cell?_alloc_new]; rfl
  have s3 : (w2.alloc (Obj.cells #[.bool p, .slice A n c] 152)).heap.size = w2.heap.size + 1 := by simp
  have HF := Lib.hid (And.intro zx3 (And.intro hb03 (And.intro t0 (And.intro m0 (And.intro m1 s3)))))
  clear zx3 hb03 t0 m0 m1 s3 r0 r1 q0 q1 hb02 hb2 Z1 Hb1
  go_wp2_with fail
  obtain ⟨zx3, hb03, t0, m0, m1, s3⟩ := HF.out
  clear HF
  generalize (w2.alloc (Obj.cells #[.bool p, .slice A n c] 152)) = W3 at *
  obtain ⟨g, hg⟩ : ∃ g, g = w2.heap.size := ⟨_, rfl⟩
  rw [← hg] at m0 m1 s3 z2 ⊢
  clear hg
  have S3 := Lib.hid s3; clear s3
  have Zx3 := Lib.hid zx3; clear zx3
  have Hb3 := Lib.hid hb03; clear hb03
  have cm1 : ∀ (W : World) (u v : Value), ZV W u x → ZV W v MinI → Calls Tryz.prog 122 #[u, v] W fun e w' => e = .returned (.int .i64 1) ∧ Below W.heap.size W w' := fun W u v hu hv => by
    have := compareZ_any x MinI u v W hu hv (by omega) min_len
    rwa [G1.out] at this
  have Cm1 := Lib.hid cm1; clear cm1
  have cm2 : ∀ (W : World) (u v : Value), ZV W u x → ZV W v MaxI → Calls Tryz.prog 122 #[u, v] W fun e w' => e = .returned (.int .i64 1) ∧ Below W.heap.size W w' := fun W u v hu hv => by
    have := compareZ_any x MaxI u v W hu hv (by omega) max_len
    rwa [G2.out] at this
  have Cm2 := Lib.hid cm2; clear cm2
  have tk0 : True := trivial
  go_region_held3 (fun w' => w'.cell? ⟨g, 0, none⟩ = some (.bool p) ∧ w'.cell? ⟨g, 1, none⟩ = some (.slice A n c))
    (first | exact ⟨m0, m1⟩ | (go_split_ands; exact ⟨by assumption, by assumption⟩) | (go_split_ands; exact ⟨keepAt hb4 (by show _ < W3.heap.size; rw [S3.out]; omega) (by assumption), keepAt hb4 (by show _ < W3.heap.size; rw [S3.out]; omega) (by assumption)⟩) | (go_split_ands; exact ⟨keepAt hb5 (by omega) (by assumption), keepAt hb5 (by omega) (by assumption)⟩) | (go_split_ands; exact ⟨keepAt hb6 (by omega) (by assumption), keepAt hb6 (by omega) (by assumption)⟩) | (go_split_ands; exact ⟨keepAt hb7 (by omega) (by assumption), keepAt hb7 (by omega) (by assumption)⟩))
    (first | (go_at_call 119; have _t := tk0; refine (asAgg (smallMin _)).mono ?_; rintro e w4 ⟨b4, A4, n4, c4, rfl, hr4, hb4⟩; clear tk0; have tk1 : True := trivial; have z4 : g + 1 ≤ w4.heap.size := (by have h := (undrew hb4).size; rw [S3.out] at h; exact h); have zx4 := Zx3.out.below (undrew hb4)) | (go_at_call 122; have _t := tk1; refine (Cm1.out _ _ _ zx4 hr4).mono ?_; rintro e w5 ⟨rfl, hb5⟩; clear tk1; have tk2 : True := trivial; have z5 : g + 1 ≤ w5.heap.size := Nat.le_trans z4 hb5.size; have zx5 := zx4.below hb5) | (go_at_call 119; have _t := tk2; refine (asAgg (smallMax _)).mono ?_; rintro e w6 ⟨b6, A6, n6, c6, rfl, hr6, hb6⟩; clear tk2; have tk3 : True := trivial; have z6 : g + 1 ≤ w6.heap.size := Nat.le_trans z5 hb6.size; have zx6 := zx5.below hb6) | (go_at_call 122; have _t := tk3; refine (Cm2.out _ _ _ zx6 hr6).mono ?_; rintro e w7 ⟨rfl, hb7⟩; have z7 : g + 1 ≤ w7.heap.size := Nat.le_trans z6 hb7.size))
  have hb37 : Below W3.heap.size W3 w7 := (((undrew hb4).trans (hb5.mono (by show W3.heap.size ≤ _; rw [S3.out]; exact z4))).trans (hb6.mono (by show W3.heap.size ≤ _; rw [S3.out]; exact z5))).trans (hb7.mono (by show W3.heap.size ≤ _; rw [S3.out]; exact z6))
  have Hbf := Lib.hid (Hb3.out.trans (hb37.mono Hb3.out.size))
  go_wp2
  go_ret2
  exact ⟨rfl, Hbf.out⟩

set_option maxHeartbeats 800000 in
set_option maxRecDepth 100000 in
theorem toInt_small (x : Int) (p : Bool) (A : Option Addr) (n c : Nat) (l : List Nat) (w : World) (hx : Wd w (.slice A n c) l) (hp : vld p l = true) (ex : x = numOf p l) (hsm : x < MinI) :
    Calls Tryz.prog 57 #[.agg #[.bool p, .slice A n c]] w fun e w' => e = .returned (.tuple #[.int .i64 0, .int .i64 5]) ∧ Below w.heap.size w w' := by
  have g1 : (x - MinI).sign = -1 := Int.sign_eq_neg_one_of_neg (by omega)
  have G1 := Lib.hid g1; clear g1 hsm
  have zx := vld_zv hx hp
  have lx : (dig x.natAbs).length ≤ 256 := by rw [ex, vld_dig hx.ok hp]; exact vld_len hp
  rw [← ex] at zx
  have Hx := Lib.hid hx; clear hx
  have Zx := Lib.hid zx; clear zx
  have Hp := Lib.hid hp; clear hp ex
  go_enter Tryz.func57, Tryz.ntmps57
  go_wp2_with fail
  have hb2 := below2 w (Obj.cells #[.bool p, .slice A n c] 56) (Obj.cells #[.bool p, .slice A n c] 56)
  refine (allValid_one p A n c l _ _ (by have := heap_alloc_new (w.alloc (Obj.cells #[.bool p, .slice A n c] 56)) (Obj.cells #[.bool p, .slice A n c] 56); simpa using this) (Hx.out.below hb2)).mono ?_
  rintro e w1 ⟨rfl, hb1⟩
  rw [Hp.out]
  have q0 : w1.cell? ⟨w.heap.size, 0, none⟩ = some (.bool p) := keepAt hb1 (by simp <;> omega) (two1 0)
  have q1 : w1.cell? ⟨w.heap.size, 1, none⟩ = some (.slice A n c) := keepAt hb1 (by simp <;> omega) (two1 1)
  have Z1 : w.heap.size + 1 ≤ w1.heap.size := by have := hb1.size; simp at this; omega
  have Hb1 := Lib.hid (hb2.trans (hb1.mono (by simp <;> omega)))
  clear hb1 hb2
  go_wp2_with fail
  refine (wholeOf_any p A n c _).mono ?_
  rintro e w2 ⟨rfl, hb2⟩
  have z2 : w.heap.size + 1 ≤ w2.heap.size := Nat.le_trans Z1 hb2.size
  have hb02 := Hb1.out.trans (hb2.mono Hb1.out.size)
  have zx3 := (Zx.out.below hb02).below (below1 w2 (Obj.cells #[.bool p, .slice A n c] 152))
  have hb03 := hb02.trans ((below1 w2 (Obj.cells #[.bool p, .slice A n c] 152)).mono hb02.size)
  have r0 := keepAt hb2 (by omega) q0
  have r1 := keepAt hb2 (by omega) q1
  have t0 : (w2.alloc (Obj.cells #[.bool p, .slice A n c] 152)).cell? ⟨w.heap.size, 0, none⟩ = some (.bool p) := by rw [World.cell?_alloc_past _ _ _ (by omega)]; exact r0
  have m0 : (w2.alloc (Obj.cells #[.bool p, .slice A n c] 152)).cell? ⟨w2.heap.size, 0, none⟩ = some (.bool p) := by rw [World.cell?_alloc_new]; rfl
  have m1 : (w2.alloc (Obj.cells #[.bool p, .slice A n c] 152)).cell? ⟨w2.heap.size, 1, none⟩ = some (.slice A n c) := by rw [World.cell?_alloc_new]; rfl
  have s3 : (w2.alloc (Obj.cells #[.bool p, .slice A n c] 152)).heap.size = w2.heap.size + 1 := by simp
  have HF := Lib.hid (And.intro zx3 (And.intro hb03 (And.intro t0 (And.intro m0 (And.intro m1 s3)))))
  clear zx3 hb03 t0 m0 m1 s3 r0 r1 q0 q1 hb02 hb2 Z1 Hb1
  go_wp2_with fail
  obtain ⟨zx3, hb03, t0, m0, m1, s3⟩ := HF.out
  clear HF
  generalize (w2.alloc (Obj.cells #[.bool p, .slice A n c] 152)) = W3 at *
  obtain ⟨g, hg⟩ : ∃ g, g = w2.heap.size := ⟨_, rfl⟩
  rw [← hg] at m0 m1 s3 z2 ⊢
  clear hg
  have S3 := Lib.hid s3; clear s3
  have Zx3 := Lib.hid zx3; clear zx3
  have Hb3 := Lib.hid hb03; clear hb03
  have cm1 : ∀ (W : World) (u v : Value), ZV W u x → ZV W v MinI → Calls Tryz.prog 122 #[u, v] W fun e w' => e = .returned (.int .i64 (-1)) ∧ Below W.heap.size W w' := fun W u v hu hv => by
    have := compareZ_any x MinI u v W hu hv (by omega) min_len
    rwa [G1.out] at this
  have Cm1 := Lib.hid cm1; clear cm1
  go_region_with (first | (go_at_call 119; refine (asAgg (smallMin _)).mono ?_; rintro e w4 ⟨b4, A4, n4, c4, rfl, hr4, hb4⟩; have zx4 := Zx3.out.below (undrew hb4); have z4 : g + 1 ≤ w4.heap.size := (by have h := (undrew hb4).size; rw [S3.out] at h; exact h); have j0 := keepAt hb4 (by show _ < W3.heap.size; rw [S3.out]; omega) m0; have j1 := keepAt hb4 (by show _ < W3.heap.size; rw [S3.out]; omega) m1) | (go_at_call 122; refine (Cm1.out _ _ _ zx4 hr4).mono ?_; rintro e w5 ⟨rfl, hb5⟩))
  all_goals
    have hb35 : Below W3.heap.size W3 w5 := ((undrew hb4).trans (hb5.mono (by show W3.heap.size ≤ _; rw [S3.out]; exact z4)))
    have Hbf := Lib.hid (Hb3.out.trans (hb35.mono Hb3.out.size))
    go_wp2
    go_ret2
    exact ⟨rfl, Hbf.out⟩

set_option maxHeartbeats 1600000 in
set_option maxRecDepth 100000 in
theorem toInt_pos (x : Int) (p : Bool) (A : Option Addr) (n c : Nat) (l : List Nat) (w : World) (hx : Wd w (.slice A n c) l) (hp : vld p l = true) (ex : x = numOf p l) (m : Nat) (hp0 : p = false) (hm : x = (m : Int)) (hlo : m ≤ 9223372036854775807) :
    Calls Tryz.prog 57 #[.agg #[.bool p, .slice A n c]] w fun e w' => e = .returned (.tuple #[.int .i64 (m : Int), .int .i64 0]) ∧ Below w.heap.size w w' := by
  have g1 : 0 ≤ (x - MinI).sign := Int.sign_nonneg_iff.2 (by unfold MinI; omega)
  have g2 : (x - MaxI).sign ≤ 0 := Int.sign_nonpos_iff.2 (by unfold MaxI; omega)
  obtain ⟨v1, hv1⟩ : ∃ v, v = (x - MinI).sign := ⟨_, rfl⟩
  obtain ⟨v2, hv2⟩ : ∃ v, v = (x - MaxI).sign := ⟨_, rfl⟩
  rw [← hv1] at g1
  rw [← hv2] at g2
  have d1 : decide (v1 < 0) = false := by simp; omega
  have d2 : decide (0 < v2) = false := by simp; omega
  have G1 := Lib.hid hv1.symm
  have G2 := Lib.hid hv2.symm
  clear hv1 hv2
  subst hp0
  have Hm := Lib.hid hm
  have hmn : x.natAbs % 18446744073709551616 = m := by omega
  have Hmn := Lib.hid hmn; clear hmn hm
  have zx := vld_zv hx hp
  have lx : (dig x.natAbs).length ≤ 256 := by rw [ex, vld_dig hx.ok hp]; exact vld_len hp
  rw [← ex] at zx
  have Hx := Lib.hid hx; clear hx
  have Zx := Lib.hid zx; clear zx
  have Hp := Lib.hid hp; clear hp ex
  go_enter Tryz.func57, Tryz.ntmps57
  go_wp2_with fail
  have hb2 := below2 w (Obj.cells #[.bool false, .slice A n c] 56) (Obj.cells #[.bool false, .slice A n c] 56)
  refine (allValid_one false A n c l _ _ (by have := heap_alloc_new (w.alloc (Obj.cells #[.bool false, .slice A n c] 56)) (Obj.cells #[.bool false, .slice A n c] 56); simpa using this) (Hx.out.below hb2)).mono ?_
  rintro e w1 ⟨rfl, hb1⟩
  rw [Hp.out]
  have q0 : w1.cell? ⟨w.heap.size, 0, none⟩ = some (.bool false) := keepAt hb1 (by simp <;> omega) (two1 0)
  have q1 : w1.cell? ⟨w.heap.size, 1, none⟩ = some (.slice A n c) := keepAt hb1 (by simp <;> omega) (two1 1)
  have Z1 : w.heap.size + 1 ≤ w1.heap.size := by have := hb1.size; simp at this; omega
  have Hb1 := Lib.hid (hb2.trans (hb1.mono (by simp <;> omega)))
  clear hb1 hb2
  go_wp2_with fail
  refine (wholeOf_any false A n c _).mono ?_
  rintro e w2 ⟨rfl, hb2⟩
  have z2 : w.heap.size + 1 ≤ w2.heap.size := Nat.le_trans Z1 hb2.size
  have hb02 := Hb1.out.trans (hb2.mono Hb1.out.size)
  have zx3 := (Zx.out.below hb02).below (below1 w2 (Obj.cells #[.bool false, .slice A n c] 152))
  have hb03 := hb02.trans ((below1 w2 (Obj.cells #[.bool false, .slice A n c] 152)).mono hb02.size)
  have r0 := keepAt hb2 (by omega) q0
  have r1 := keepAt hb2 (by omega) q1
  have t0 : (w2.alloc (Obj.cells #[.bool false, .slice A n c] 152)).cell? ⟨w.heap.size, 0, none⟩ = some (.bool false) := by rw [World.cell?_alloc_past _ _ _ (by omega)]; exact r0
  have m0 : (w2.alloc (Obj.cells #[.bool false, .slice A n c] 152)).cell? ⟨w2.heap.size, 0, none⟩ = some (.bool false) := by rw [World.cell?_alloc_new]; rfl
  have m1 : (w2.alloc (Obj.cells #[.bool false, .slice A n c] 152)).cell? ⟨w2.heap.size, 1, none⟩ = some (.slice A n c) := by rw [World.cell?_alloc_new]; rfl
  have s3 : (w2.alloc (Obj.cells #[.bool false, .slice A n c] 152)).heap.size = w2.heap.size + 1 := by simp
  have HF := Lib.hid (And.intro zx3 (And.intro hb03 (And.intro t0 (And.intro m0 (And.intro m1 s3)))))
  clear zx3 hb03 t0 m0 m1 s3 r0 r1 q0 q1 hb02 hb2 Z1 Hb1
  go_wp2_with fail
  obtain ⟨zx3, hb03, t0, m0, m1, s3⟩ := HF.out
  clear HF
  generalize (w2.alloc (Obj.cells #[.bool false, .slice A n c] 152)) = W3 at *
  obtain ⟨g, hg⟩ : ∃ g, g = w2.heap.size := ⟨_, rfl⟩
  rw [← hg] at m0 m1 s3 z2 ⊢
  clear hg
  have S3 := Lib.hid s3; clear s3
  have Zx3 := Lib.hid zx3; clear zx3
  have Hb3 := Lib.hid hb03; clear hb03
  have cm1 : ∀ (W : World) (u v : Value), ZV W u x → ZV W v MinI → Calls Tryz.prog 122 #[u, v] W fun e w' => e = .returned (.int .i64 v1) ∧ Below W.heap.size W w' := fun W u v hu hv => by
    have := compareZ_any x MinI u v W hu hv (by omega) min_len
    rwa [G1.out] at this
  have Cm1 := Lib.hid cm1; clear cm1
  have cm2 : ∀ (W : World) (u v : Value), ZV W u x → ZV W v MaxI → Calls Tryz.prog 122 #[u, v] W fun e w' => e = .returned (.int .i64 v2) ∧ Below W.heap.size W w' := fun W u v hu hv => by
    have := compareZ_any x MaxI u v W hu hv (by omega) max_len
    rwa [G2.out] at this
  have Cm2 := Lib.hid cm2; clear cm2
  have tk0 : True := trivial
  go_region_held3 (fun w' => w'.cell? ⟨g, 0, none⟩ = some (.bool false) ∧ w'.cell? ⟨g, 1, none⟩ = some (.slice A n c))
    (first | exact ⟨m0, m1⟩ | (go_split_ands; exact ⟨by assumption, by assumption⟩) | (go_split_ands; exact ⟨keepAt hb4 (by show _ < W3.heap.size; rw [S3.out]; omega) (by assumption), keepAt hb4 (by show _ < W3.heap.size; rw [S3.out]; omega) (by assumption)⟩) | (go_split_ands; exact ⟨keepAt hb5 (by omega) (by assumption), keepAt hb5 (by omega) (by assumption)⟩) | (go_split_ands; exact ⟨keepAt hb6 (by omega) (by assumption), keepAt hb6 (by omega) (by assumption)⟩) | (go_split_ands; exact ⟨keepAt hb7 (by omega) (by assumption), keepAt hb7 (by omega) (by assumption)⟩))
    (first | (go_at_call 119; have _t := tk0; refine (asAgg (smallMin _)).mono ?_; rintro e w4 ⟨b4, A4, n4, c4, rfl, hr4, hb4⟩; clear tk0; have tk1 : True := trivial; have z4 : g + 1 ≤ w4.heap.size := (by have h := (undrew hb4).size; rw [S3.out] at h; exact h); have zx4 := Zx3.out.below (undrew hb4)) | (go_at_call 122; have _t := tk1; refine (Cm1.out _ _ _ zx4 hr4).mono ?_; rintro e w5 ⟨rfl, hb5⟩; clear tk1; have tk2 : True := trivial; have z5 : g + 1 ≤ w5.heap.size := Nat.le_trans z4 hb5.size; have zx5 := zx4.below hb5) | (go_at_call 119; have _t := tk2; refine (asAgg (smallMax _)).mono ?_; rintro e w6 ⟨b6, A6, n6, c6, rfl, hr6, hb6⟩; clear tk2; have tk3 : True := trivial; have z6 : g + 1 ≤ w6.heap.size := Nat.le_trans z5 hb6.size; have zx6 := zx5.below hb6) | (go_at_call 122; have _t := tk3; refine (Cm2.out _ _ _ zx6 hr6).mono ?_; rintro e w7 ⟨rfl, hb7⟩; have z7 : g + 1 ≤ w7.heap.size := Nat.le_trans z6 hb7.size))
  have hb37 : Below W3.heap.size W3 w7 := (((undrew hb4).trans (hb5.mono (by show W3.heap.size ≤ _; rw [S3.out]; exact z4))).trans (hb6.mono (by show W3.heap.size ≤ _; rw [S3.out]; exact z5))).trans (hb7.mono (by show W3.heap.size ≤ _; rw [S3.out]; exact z6))
  have Hbf := Lib.hid (Hb3.out.trans (hb37.mono Hb3.out.size))
  have hlw : ∀ W : World, Wd W (.slice A n c) (dig x.natAbs) → Calls Tryz.prog 123 #[.slice A n c] W fun e w' => e = .returned (.int .u64 (m : Int)) ∧ W = w' := fun W hW => by
    have := low_any x.natAbs (.slice A n c) W hW
    rwa [show x.natAbs % 18446744073709551616 = m from Hmn.out] at this
  have Hlw := Lib.hid hlw; clear hlw
  obtain ⟨zA, zn, zc, hze, hzw, -, -⟩ := (zx6.below hb7).open_
  injection hze with hze
  have hw7 : Wd w7 (.slice A n c) (dig x.natAbs) := by
    have h2 : (.slice A n c : Value) = .slice zA zn zc := by
      have := congrArg (fun a : Array Value => a[1]?) hze
      simpa using this
    rw [h2]; exact hzw
  have Hw7 := Lib.hid hw7; clear hw7 hze hzw
  have t7 := keepAt hb7 (by omega) (keepAt hb6 (by omega) (keepAt hb5 (by omega) (keepAt (undrew hb4) (by show _ < W3.heap.size; rw [S3.out]; omega) t0)))
  go_wp2_with fail
  refine (Hlw.out _ Hw7.out).mono ?_
  rintro e w8 ⟨rfl, rfl⟩
  go_wp2
  go_ret2
  exact ⟨rfl, Hbf.out⟩

set_option maxHeartbeats 1600000 in
set_option maxRecDepth 100000 in
theorem toInt_neg (x : Int) (p : Bool) (A : Option Addr) (n c : Nat) (l : List Nat) (w : World) (hx : Wd w (.slice A n c) l) (hp : vld p l = true) (ex : x = numOf p l) (m : Nat) (hp0 : p = true) (hm : x = -(m : Int)) (hlo : m ≤ 9223372036854775807) :
    Calls Tryz.prog 57 #[.agg #[.bool p, .slice A n c]] w fun e w' => e = .returned (.tuple #[.int .i64 (-(m : Int)), .int .i64 0]) ∧ Below w.heap.size w w' := by
  have g1 : 0 ≤ (x - MinI).sign := Int.sign_nonneg_iff.2 (by unfold MinI; omega)
  have g2 : (x - MaxI).sign ≤ 0 := Int.sign_nonpos_iff.2 (by unfold MaxI; omega)
  obtain ⟨v1, hv1⟩ : ∃ v, v = (x - MinI).sign := ⟨_, rfl⟩
  obtain ⟨v2, hv2⟩ : ∃ v, v = (x - MaxI).sign := ⟨_, rfl⟩
  rw [← hv1] at g1
  rw [← hv2] at g2
  have d1 : decide (v1 < 0) = false := by simp; omega
  have d2 : decide (0 < v2) = false := by simp; omega
  have G1 := Lib.hid hv1.symm
  have G2 := Lib.hid hv2.symm
  clear hv1 hv2
  subst hp0
  have Hm := Lib.hid hm
  have hmn : x.natAbs % 18446744073709551616 = m := by omega
  have Hmn := Lib.hid hmn; clear hmn hm
  have zx := vld_zv hx hp
  have lx : (dig x.natAbs).length ≤ 256 := by rw [ex, vld_dig hx.ok hp]; exact vld_len hp
  rw [← ex] at zx
  have Hx := Lib.hid hx; clear hx
  have Zx := Lib.hid zx; clear zx
  have Hp := Lib.hid hp; clear hp ex
  go_enter Tryz.func57, Tryz.ntmps57
  go_wp2_with fail
  have hb2 := below2 w (Obj.cells #[.bool true, .slice A n c] 56) (Obj.cells #[.bool true, .slice A n c] 56)
  refine (allValid_one true A n c l _ _ (by have := heap_alloc_new (w.alloc (Obj.cells #[.bool true, .slice A n c] 56)) (Obj.cells #[.bool true, .slice A n c] 56); simpa using this) (Hx.out.below hb2)).mono ?_
  rintro e w1 ⟨rfl, hb1⟩
  rw [Hp.out]
  have q0 : w1.cell? ⟨w.heap.size, 0, none⟩ = some (.bool true) := keepAt hb1 (by simp <;> omega) (two1 0)
  have q1 : w1.cell? ⟨w.heap.size, 1, none⟩ = some (.slice A n c) := keepAt hb1 (by simp <;> omega) (two1 1)
  have Z1 : w.heap.size + 1 ≤ w1.heap.size := by have := hb1.size; simp at this; omega
  have Hb1 := Lib.hid (hb2.trans (hb1.mono (by simp <;> omega)))
  clear hb1 hb2
  go_wp2_with fail
  refine (wholeOf_any true A n c _).mono ?_
  rintro e w2 ⟨rfl, hb2⟩
  have z2 : w.heap.size + 1 ≤ w2.heap.size := Nat.le_trans Z1 hb2.size
  have hb02 := Hb1.out.trans (hb2.mono Hb1.out.size)
  have zx3 := (Zx.out.below hb02).below (below1 w2 (Obj.cells #[.bool true, .slice A n c] 152))
  have hb03 := hb02.trans ((below1 w2 (Obj.cells #[.bool true, .slice A n c] 152)).mono hb02.size)
  have r0 := keepAt hb2 (by omega) q0
  have r1 := keepAt hb2 (by omega) q1
  have t0 : (w2.alloc (Obj.cells #[.bool true, .slice A n c] 152)).cell? ⟨w.heap.size, 0, none⟩ = some (.bool true) := by rw [World.cell?_alloc_past _ _ _ (by omega)]; exact r0
  have m0 : (w2.alloc (Obj.cells #[.bool true, .slice A n c] 152)).cell? ⟨w2.heap.size, 0, none⟩ = some (.bool true) := by rw [World.cell?_alloc_new]; rfl
  have m1 : (w2.alloc (Obj.cells #[.bool true, .slice A n c] 152)).cell? ⟨w2.heap.size, 1, none⟩ = some (.slice A n c) := by rw [World.cell?_alloc_new]; rfl
  have s3 : (w2.alloc (Obj.cells #[.bool true, .slice A n c] 152)).heap.size = w2.heap.size + 1 := by simp
  have HF := Lib.hid (And.intro zx3 (And.intro hb03 (And.intro t0 (And.intro m0 (And.intro m1 s3)))))
  clear zx3 hb03 t0 m0 m1 s3 r0 r1 q0 q1 hb02 hb2 Z1 Hb1
  go_wp2_with fail
  obtain ⟨zx3, hb03, t0, m0, m1, s3⟩ := HF.out
  clear HF
  generalize (w2.alloc (Obj.cells #[.bool true, .slice A n c] 152)) = W3 at *
  obtain ⟨g, hg⟩ : ∃ g, g = w2.heap.size := ⟨_, rfl⟩
  rw [← hg] at m0 m1 s3 z2 ⊢
  clear hg
  have S3 := Lib.hid s3; clear s3
  have Zx3 := Lib.hid zx3; clear zx3
  have Hb3 := Lib.hid hb03; clear hb03
  have cm1 : ∀ (W : World) (u v : Value), ZV W u x → ZV W v MinI → Calls Tryz.prog 122 #[u, v] W fun e w' => e = .returned (.int .i64 v1) ∧ Below W.heap.size W w' := fun W u v hu hv => by
    have := compareZ_any x MinI u v W hu hv (by omega) min_len
    rwa [G1.out] at this
  have Cm1 := Lib.hid cm1; clear cm1
  have cm2 : ∀ (W : World) (u v : Value), ZV W u x → ZV W v MaxI → Calls Tryz.prog 122 #[u, v] W fun e w' => e = .returned (.int .i64 v2) ∧ Below W.heap.size W w' := fun W u v hu hv => by
    have := compareZ_any x MaxI u v W hu hv (by omega) max_len
    rwa [G2.out] at this
  have Cm2 := Lib.hid cm2; clear cm2
  have tk0 : True := trivial
  go_region_held3 (fun w' => w'.cell? ⟨g, 0, none⟩ = some (.bool true) ∧ w'.cell? ⟨g, 1, none⟩ = some (.slice A n c))
    (first | exact ⟨m0, m1⟩ | (go_split_ands; exact ⟨by assumption, by assumption⟩) | (go_split_ands; exact ⟨keepAt hb4 (by show _ < W3.heap.size; rw [S3.out]; omega) (by assumption), keepAt hb4 (by show _ < W3.heap.size; rw [S3.out]; omega) (by assumption)⟩) | (go_split_ands; exact ⟨keepAt hb5 (by omega) (by assumption), keepAt hb5 (by omega) (by assumption)⟩) | (go_split_ands; exact ⟨keepAt hb6 (by omega) (by assumption), keepAt hb6 (by omega) (by assumption)⟩) | (go_split_ands; exact ⟨keepAt hb7 (by omega) (by assumption), keepAt hb7 (by omega) (by assumption)⟩))
    (first | (go_at_call 119; have _t := tk0; refine (asAgg (smallMin _)).mono ?_; rintro e w4 ⟨b4, A4, n4, c4, rfl, hr4, hb4⟩; clear tk0; have tk1 : True := trivial; have z4 : g + 1 ≤ w4.heap.size := (by have h := (undrew hb4).size; rw [S3.out] at h; exact h); have zx4 := Zx3.out.below (undrew hb4)) | (go_at_call 122; have _t := tk1; refine (Cm1.out _ _ _ zx4 hr4).mono ?_; rintro e w5 ⟨rfl, hb5⟩; clear tk1; have tk2 : True := trivial; have z5 : g + 1 ≤ w5.heap.size := Nat.le_trans z4 hb5.size; have zx5 := zx4.below hb5) | (go_at_call 119; have _t := tk2; refine (asAgg (smallMax _)).mono ?_; rintro e w6 ⟨b6, A6, n6, c6, rfl, hr6, hb6⟩; clear tk2; have tk3 : True := trivial; have z6 : g + 1 ≤ w6.heap.size := Nat.le_trans z5 hb6.size; have zx6 := zx5.below hb6) | (go_at_call 122; have _t := tk3; refine (Cm2.out _ _ _ zx6 hr6).mono ?_; rintro e w7 ⟨rfl, hb7⟩; have z7 : g + 1 ≤ w7.heap.size := Nat.le_trans z6 hb7.size))
  have hb37 : Below W3.heap.size W3 w7 := (((undrew hb4).trans (hb5.mono (by show W3.heap.size ≤ _; rw [S3.out]; exact z4))).trans (hb6.mono (by show W3.heap.size ≤ _; rw [S3.out]; exact z5))).trans (hb7.mono (by show W3.heap.size ≤ _; rw [S3.out]; exact z6))
  have Hbf := Lib.hid (Hb3.out.trans (hb37.mono Hb3.out.size))
  have hlw : ∀ W : World, Wd W (.slice A n c) (dig x.natAbs) → Calls Tryz.prog 123 #[.slice A n c] W fun e w' => e = .returned (.int .u64 (m : Int)) ∧ W = w' := fun W hW => by
    have := low_any x.natAbs (.slice A n c) W hW
    rwa [show x.natAbs % 18446744073709551616 = m from Hmn.out] at this
  have Hlw := Lib.hid hlw; clear hlw
  obtain ⟨zA, zn, zc, hze, hzw, -, -⟩ := (zx6.below hb7).open_
  injection hze with hze
  have hw7 : Wd w7 (.slice A n c) (dig x.natAbs) := by
    have h2 : (.slice A n c : Value) = .slice zA zn zc := by
      have := congrArg (fun a : Array Value => a[1]?) hze
      simpa using this
    rw [h2]; exact hzw
  have Hw7 := Lib.hid hw7; clear hw7 hze hzw
  have t7 := keepAt hb7 (by omega) (keepAt hb6 (by omega) (keepAt hb5 (by omega) (keepAt (undrew hb4) (by show _ < W3.heap.size; rw [S3.out]; omega) t0)))
  go_wp2_with fail
  refine (Hlw.out _ Hw7.out).mono ?_
  rintro e w8 ⟨rfl, rfl⟩
  go_wp2
  go_ret2
  exact ⟨rfl, Hbf.out⟩

set_option maxHeartbeats 1600000 in
set_option maxRecDepth 100000 in
theorem toInt_min (x : Int) (p : Bool) (A : Option Addr) (n c : Nat) (l : List Nat) (w : World) (hx : Wd w (.slice A n c) l) (hp : vld p l = true) (ex : x = numOf p l) (m : Nat) (hp0 : p = true) (hm : x = -(m : Int)) (hlo : m = 9223372036854775808) (k : Int) (hk1 : IntKind.i64.wrap (m : Int) = k) (hk2 : IntKind.i64.wrap (-k) = k) :
    Calls Tryz.prog 57 #[.agg #[.bool p, .slice A n c]] w fun e w' => e = .returned (.tuple #[.int .i64 k, .int .i64 0]) ∧ Below w.heap.size w w' := by
  have g1 : 0 ≤ (x - MinI).sign := Int.sign_nonneg_iff.2 (by unfold MinI; omega)
  have g2 : (x - MaxI).sign ≤ 0 := Int.sign_nonpos_iff.2 (by unfold MaxI; omega)
  obtain ⟨v1, hv1⟩ : ∃ v, v = (x - MinI).sign := ⟨_, rfl⟩
  obtain ⟨v2, hv2⟩ : ∃ v, v = (x - MaxI).sign := ⟨_, rfl⟩
  rw [← hv1] at g1
  rw [← hv2] at g2
  have d1 : decide (v1 < 0) = false := by simp; omega
  have d2 : decide (0 < v2) = false := by simp; omega
  have G1 := Lib.hid hv1.symm
  have G2 := Lib.hid hv2.symm
  clear hv1 hv2
  subst hp0
  have Hm := Lib.hid hm
  have hmn : x.natAbs % 18446744073709551616 = m := by omega
  have Hmn := Lib.hid hmn; clear hmn hm hlo
  have zx := vld_zv hx hp
  have lx : (dig x.natAbs).length ≤ 256 := by rw [ex, vld_dig hx.ok hp]; exact vld_len hp
  rw [← ex] at zx
  have Hx := Lib.hid hx; clear hx
  have Zx := Lib.hid zx; clear zx
  have Hp := Lib.hid hp; clear hp ex
  go_enter Tryz.func57, Tryz.ntmps57
  go_wp2_with fail
  have hb2 := below2 w (Obj.cells #[.bool true, .slice A n c] 56) (Obj.cells #[.bool true, .slice A n c] 56)
  refine (allValid_one true A n c l _ _ (by have := heap_alloc_new (w.alloc (Obj.cells #[.bool true, .slice A n c] 56)) (Obj.cells #[.bool true, .slice A n c] 56); simpa using this) (Hx.out.below hb2)).mono ?_
  rintro e w1 ⟨rfl, hb1⟩
  rw [Hp.out]
  have q0 : w1.cell? ⟨w.heap.size, 0, none⟩ = some (.bool true) := keepAt hb1 (by simp <;> omega) (two1 0)
  have q1 : w1.cell? ⟨w.heap.size, 1, none⟩ = some (.slice A n c) := keepAt hb1 (by simp <;> omega) (two1 1)
  have Z1 : w.heap.size + 1 ≤ w1.heap.size := by have := hb1.size; simp at this; omega
  have Hb1 := Lib.hid (hb2.trans (hb1.mono (by simp <;> omega)))
  clear hb1 hb2
  go_wp2_with fail
  refine (wholeOf_any true A n c _).mono ?_
  rintro e w2 ⟨rfl, hb2⟩
  have z2 : w.heap.size + 1 ≤ w2.heap.size := Nat.le_trans Z1 hb2.size
  have hb02 := Hb1.out.trans (hb2.mono Hb1.out.size)
  have zx3 := (Zx.out.below hb02).below (below1 w2 (Obj.cells #[.bool true, .slice A n c] 152))
  have hb03 := hb02.trans ((below1 w2 (Obj.cells #[.bool true, .slice A n c] 152)).mono hb02.size)
  have r0 := keepAt hb2 (by omega) q0
  have r1 := keepAt hb2 (by omega) q1
  have t0 : (w2.alloc (Obj.cells #[.bool true, .slice A n c] 152)).cell? ⟨w.heap.size, 0, none⟩ = some (.bool true) := by rw [World.cell?_alloc_past _ _ _ (by omega)]; exact r0
  have m0 : (w2.alloc (Obj.cells #[.bool true, .slice A n c] 152)).cell? ⟨w2.heap.size, 0, none⟩ = some (.bool true) := by rw [World.cell?_alloc_new]; rfl
  have m1 : (w2.alloc (Obj.cells #[.bool true, .slice A n c] 152)).cell? ⟨w2.heap.size, 1, none⟩ = some (.slice A n c) := by rw [World.cell?_alloc_new]; rfl
  have s3 : (w2.alloc (Obj.cells #[.bool true, .slice A n c] 152)).heap.size = w2.heap.size + 1 := by simp
  have HF := Lib.hid (And.intro zx3 (And.intro hb03 (And.intro t0 (And.intro m0 (And.intro m1 s3)))))
  clear zx3 hb03 t0 m0 m1 s3 r0 r1 q0 q1 hb02 hb2 Z1 Hb1
  go_wp2_with fail
  obtain ⟨zx3, hb03, t0, m0, m1, s3⟩ := HF.out
  clear HF
  generalize (w2.alloc (Obj.cells #[.bool true, .slice A n c] 152)) = W3 at *
  obtain ⟨g, hg⟩ : ∃ g, g = w2.heap.size := ⟨_, rfl⟩
  rw [← hg] at m0 m1 s3 z2 ⊢
  clear hg
  have S3 := Lib.hid s3; clear s3
  have Zx3 := Lib.hid zx3; clear zx3
  have Hb3 := Lib.hid hb03; clear hb03
  have cm1 : ∀ (W : World) (u v : Value), ZV W u x → ZV W v MinI → Calls Tryz.prog 122 #[u, v] W fun e w' => e = .returned (.int .i64 v1) ∧ Below W.heap.size W w' := fun W u v hu hv => by
    have := compareZ_any x MinI u v W hu hv (by omega) min_len
    rwa [G1.out] at this
  have Cm1 := Lib.hid cm1; clear cm1
  have cm2 : ∀ (W : World) (u v : Value), ZV W u x → ZV W v MaxI → Calls Tryz.prog 122 #[u, v] W fun e w' => e = .returned (.int .i64 v2) ∧ Below W.heap.size W w' := fun W u v hu hv => by
    have := compareZ_any x MaxI u v W hu hv (by omega) max_len
    rwa [G2.out] at this
  have Cm2 := Lib.hid cm2; clear cm2
  have tk0 : True := trivial
  go_region_held3 (fun w' => w'.cell? ⟨g, 0, none⟩ = some (.bool true) ∧ w'.cell? ⟨g, 1, none⟩ = some (.slice A n c))
    (first | exact ⟨m0, m1⟩ | (go_split_ands; exact ⟨by assumption, by assumption⟩) | (go_split_ands; exact ⟨keepAt hb4 (by show _ < W3.heap.size; rw [S3.out]; omega) (by assumption), keepAt hb4 (by show _ < W3.heap.size; rw [S3.out]; omega) (by assumption)⟩) | (go_split_ands; exact ⟨keepAt hb5 (by omega) (by assumption), keepAt hb5 (by omega) (by assumption)⟩) | (go_split_ands; exact ⟨keepAt hb6 (by omega) (by assumption), keepAt hb6 (by omega) (by assumption)⟩) | (go_split_ands; exact ⟨keepAt hb7 (by omega) (by assumption), keepAt hb7 (by omega) (by assumption)⟩))
    (first | (go_at_call 119; have _t := tk0; refine (asAgg (smallMin _)).mono ?_; rintro e w4 ⟨b4, A4, n4, c4, rfl, hr4, hb4⟩; clear tk0; have tk1 : True := trivial; have z4 : g + 1 ≤ w4.heap.size := (by have h := (undrew hb4).size; rw [S3.out] at h; exact h); have zx4 := Zx3.out.below (undrew hb4)) | (go_at_call 122; have _t := tk1; refine (Cm1.out _ _ _ zx4 hr4).mono ?_; rintro e w5 ⟨rfl, hb5⟩; clear tk1; have tk2 : True := trivial; have z5 : g + 1 ≤ w5.heap.size := Nat.le_trans z4 hb5.size; have zx5 := zx4.below hb5) | (go_at_call 119; have _t := tk2; refine (asAgg (smallMax _)).mono ?_; rintro e w6 ⟨b6, A6, n6, c6, rfl, hr6, hb6⟩; clear tk2; have tk3 : True := trivial; have z6 : g + 1 ≤ w6.heap.size := Nat.le_trans z5 hb6.size; have zx6 := zx5.below hb6) | (go_at_call 122; have _t := tk3; refine (Cm2.out _ _ _ zx6 hr6).mono ?_; rintro e w7 ⟨rfl, hb7⟩; have z7 : g + 1 ≤ w7.heap.size := Nat.le_trans z6 hb7.size))
  have hb37 : Below W3.heap.size W3 w7 := (((undrew hb4).trans (hb5.mono (by show W3.heap.size ≤ _; rw [S3.out]; exact z4))).trans (hb6.mono (by show W3.heap.size ≤ _; rw [S3.out]; exact z5))).trans (hb7.mono (by show W3.heap.size ≤ _; rw [S3.out]; exact z6))
  have Hbf := Lib.hid (Hb3.out.trans (hb37.mono Hb3.out.size))
  have hlw : ∀ W : World, Wd W (.slice A n c) (dig x.natAbs) → Calls Tryz.prog 123 #[.slice A n c] W fun e w' => e = .returned (.int .u64 (m : Int)) ∧ W = w' := fun W hW => by
    have := low_any x.natAbs (.slice A n c) W hW
    rwa [show x.natAbs % 18446744073709551616 = m from Hmn.out] at this
  have Hlw := Lib.hid hlw; clear hlw
  obtain ⟨zA, zn, zc, hze, hzw, -, -⟩ := (zx6.below hb7).open_
  injection hze with hze
  have hw7 : Wd w7 (.slice A n c) (dig x.natAbs) := by
    have h2 : (.slice A n c : Value) = .slice zA zn zc := by
      have := congrArg (fun a : Array Value => a[1]?) hze
      simpa using this
    rw [h2]; exact hzw
  have Hw7 := Lib.hid hw7; clear hw7 hze hzw
  have t7 := keepAt hb7 (by omega) (keepAt hb6 (by omega) (keepAt hb5 (by omega) (keepAt (undrew hb4) (by show _ < W3.heap.size; rw [S3.out]; omega) t0)))
  go_wp2_with fail
  refine (Hlw.out _ Hw7.out).mono ?_
  rintro e w8 ⟨rfl, rfl⟩
  go_wp2
  go_ret2
  exact ⟨rfl, Hbf.out⟩

end Go.Proofs.YtijhbmdbnnmogaaGreat
