/- Walks: the reference: ToInt. -/
import Derived.Test.YtmlopkkbgpfdnaaW17
import Derived.Test.YtmlopkkbgpfdnaaR14
import Derived.Test.YtmlopkkbgpfdnaaR8
namespace Go.Proofs.Ytmlopkkbgpfdnaa
open Go.RowKit

theorem wholeMin (w : World) : Calls Try.prog 18 #[.int .i64 (-9223372036854775808)] w (RetZ w MinI) := wholeR_any _ w (by omega) (by omega)
theorem wholeMax (w : World) : Calls Try.prog 18 #[.int .i64 9223372036854775807] w (RetZ w MaxI) := wholeR_any _ w (by omega) (by omega)

theorem or_lo (x : Nat) : bits BinOp.or IntKind.u64 0 (dg x 0 : Nat) = ((x % 4294967296 ^ 1 : Nat) : Int) := by
  have h0 := dg_lt x 0
  have e := u64_or_nat 0 (dg x 0) (by omega) (by omega)
  have e2 : ((0 : Nat) : Int) = 0 := rfl
  rw [e2] at e
  rw [e, Nat.zero_or]
  have := mod_succ x 0
  simp only [Nat.pow_zero, Nat.mod_one, Nat.one_mul, Nat.zero_add] at this
  rw [this]
theorem or_hi (x : Nat) : bits BinOp.or IntKind.u64 ((x % 4294967296 ^ 1 : Nat) : Int) ((dg x 1 : Nat) * 4294967296 : Int) = ((x % 4294967296 ^ 2 : Nat) : Int) := by
  have h0 : x % 4294967296 ^ 1 < 4294967296 := by rw [Nat.pow_one]; omega
  have h1 := dg_lt x 1
  have e : ((dg x 1 : Nat) * 4294967296 : Int) = ((dg x 1 * 4294967296 : Nat) : Int) := by omega
  rw [e, u64_or_nat _ _ (by omega) (by omega), Nat.or_comm, nat_join 32 _ _ (by omega) (by omega)]
  have := mod_succ x 1
  rw [Nat.pow_one] at *
  omega

set_option maxRecDepth 100000 in
theorem toIntR_no (p : Bool) (A : Option Addr) (n c : Nat) (l : List Nat) (w : World) (hx : Wd w (.slice A n c) l) (hno : vld p l = false) :
    Calls Try.prog 12 #[.agg #[.bool p, .slice A n c]] w fun e w' => e = .returned (.tuple #[.int .i64 0, .int .i64 2]) ∧ Below w.heap.size w w' := by
  have Hx := Lib.hid hx; clear hx
  have Hno := Lib.hid hno; clear hno
  go_enter Try.func12, Try.ntmps12
  go_wp2_with fail
  have hb2 := below1 w (Obj.cells #[.bool p, .slice A n c] 24)
  refine (validR_any p A n c l _ (Hx.out.below hb2)).mono ?_
  rintro e w1 ⟨rfl, hb1⟩
  rw [Hno.out]
  have Hb := Lib.hid (hb2.trans (hb1.mono (by simp)))
  clear hb1 hb2
  go_wp2
  go_ret2
  exact ⟨rfl, Hb.out⟩

set_option maxHeartbeats 800000 in
set_option maxRecDepth 100000 in
theorem toIntR_big (x : Int) (p : Bool) (A : Option Addr) (n c : Nat) (l : List Nat) (w : World) (hx : Wd w (.slice A n c) l) (hp : vld p l = true) (ex : x = numOf p l) (hbig : MaxI < x) :
    Calls Try.prog 12 #[.agg #[.bool p, .slice A n c]] w fun e w' => e = .returned (.tuple #[.int .i64 0, .int .i64 5]) ∧ Below w.heap.size w w' := by
  have g1 : (x - MinI).sign = 1 := Int.sign_eq_one_of_pos (by unfold MinI; unfold MaxI at hbig; omega)
  have g2 : (x - MaxI).sign = 1 := Int.sign_eq_one_of_pos (by omega)
  have G1 := Lib.hid g1; clear g1
  have G2 := Lib.hid g2; clear g2 hbig
  have zx := vld_zv hx hp
  have lx : (dig x.natAbs).length ≤ 256 := by rw [ex, vld_dig hx.ok hp]; exact vld_len hp
  rw [← ex] at zx
  have Hx := Lib.hid hx; clear hx
  have Zx := Lib.hid zx; clear zx
  have Hp := Lib.hid hp; clear hp ex
  go_enter Try.func12, Try.ntmps12
  go_wp2_with fail
  have hb2 := below1 w (Obj.cells #[.bool p, .slice A n c] 24)
  refine (validR_any p A n c l _ (Hx.out.below hb2)).mono ?_
  rintro e w1 ⟨rfl, hb1⟩
  rw [Hp.out]
  have q0 : w1.cell? ⟨w.heap.size, 0, none⟩ = some (.bool p) := keepAt hb1 (by simp) (by rw [World.cell?_alloc_new]; rfl)
  have q1 : w1.cell? ⟨w.heap.size, 1, none⟩ = some (.slice A n c) := keepAt hb1 (by simp) (by rw [World.cell?_alloc_new]; rfl)
  have Z1 : w.heap.size + 1 ≤ w1.heap.size := by have := hb1.size; simp at this; omega
  have Hb1 := Lib.hid (hb2.trans (hb1.mono (by simp)))
  clear hb1 hb2
  go_wp2_with fail
  refine (of_any p A n c _).mono ?_
  rintro e w2 ⟨rfl, hb2⟩
  have z2 : w.heap.size + 1 ≤ w2.heap.size := Nat.le_trans Z1 hb2.size
  have hb02 := Hb1.out.trans (hb2.mono Hb1.out.size)
  have zx3 := (Zx.out.below hb02).below (below1 w2 (Obj.cells #[.bool p, .slice A n c] 34))
  have hb03 := hb02.trans ((below1 w2 (Obj.cells #[.bool p, .slice A n c] 34)).mono hb02.size)
  have r0 := keepAt hb2 (by omega) q0
  have r1 := keepAt hb2 (by omega) q1
  have t0 : (w2.alloc (Obj.cells #[.bool p, .slice A n c] 34)).cell? ⟨w.heap.size, 0, none⟩ = some (.bool p) := by rw [World.cell?_alloc_past _ _ _ (by omega)]; exact r0
  have t1 : (w2.alloc (Obj.cells #[.bool p, .slice A n c] 34)).cell? ⟨w.heap.size, 1, none⟩ = some (.slice A n c) := by rw [World.cell?_alloc_past _ _ _ (by omega)]; exact r1
  have m0 : (w2.alloc (Obj.cells #[.bool p, .slice A n c] 34)).cell? ⟨w2.heap.size, 0, none⟩ = some (.bool p) := by rw [World.cell?_alloc_new]; rfl
  have m1 : (w2.alloc (Obj.cells #[.bool p, .slice A n c] 34)).cell? ⟨w2.heap.size, 1, none⟩ = some (.slice A n c) := by rw [World.cell?_alloc_new]; rfl
  have s3 : (w2.alloc (Obj.cells #[.bool p, .slice A n c] 34)).heap.size = w2.heap.size + 1 := by simp
  have HF := Lib.hid (And.intro zx3 (And.intro hb03 (And.intro t0 (And.intro t1 (And.intro m0 (And.intro m1 s3))))))
  clear zx3 hb03 t0 t1 m0 m1 s3 r0 r1 q0 q1 hb02 hb2 Z1 Hb1
  go_wp2_with fail
  obtain ⟨zx3, hb03, t0, t1, m0, m1, s3⟩ := HF.out
  clear HF
  generalize (w2.alloc (Obj.cells #[.bool p, .slice A n c] 34)) = W3 at *
  obtain ⟨g, hg⟩ : ∃ g, g = w2.heap.size := ⟨_, rfl⟩
  rw [← hg] at m0 m1 s3 z2 ⊢
  clear hg
  have S3 := Lib.hid s3; clear s3
  have Zx3 := Lib.hid zx3; clear zx3
  have Hb3 := Lib.hid hb03; clear hb03
  have cm1 : ∀ (W : World) (u v : Value), ZV W u x → ZV W v MinI → Calls Try.prog 37 #[u, v] W fun e w' => e = .returned (.int .i64 1) ∧ Below W.heap.size W w' := fun W u v hu hv => by
    have := orderRZ_any x MinI u v W hu hv (by omega) min_len
    rwa [G1.out] at this
  have Cm1 := Lib.hid cm1; clear cm1
  have cm2 : ∀ (W : World) (u v : Value), ZV W u x → ZV W v MaxI → Calls Try.prog 37 #[u, v] W fun e w' => e = .returned (.int .i64 1) ∧ Below W.heap.size W w' := fun W u v hu hv => by
    have := orderRZ_any x MaxI u v W hu hv (by omega) max_len
    rwa [G2.out] at this
  have Cm2 := Lib.hid cm2; clear cm2
  have tk0 : True := trivial
  go_region_held3 (fun w' => w'.cell? ⟨g, 0, none⟩ = some (.bool p) ∧ w'.cell? ⟨g, 1, none⟩ = some (.slice A n c))
    (first | exact ⟨m0, m1⟩ | (go_split_ands; exact ⟨by assumption, by assumption⟩) | (go_split_ands; exact ⟨keepAt hb4 (by show _ < W3.heap.size; rw [S3.out]; omega) (by assumption), keepAt hb4 (by show _ < W3.heap.size; rw [S3.out]; omega) (by assumption)⟩) | (go_split_ands; exact ⟨keepAt hb5 (by omega) (by assumption), keepAt hb5 (by omega) (by assumption)⟩) | (go_split_ands; exact ⟨keepAt hb6 (by omega) (by assumption), keepAt hb6 (by omega) (by assumption)⟩) | (go_split_ands; exact ⟨keepAt hb7 (by omega) (by assumption), keepAt hb7 (by omega) (by assumption)⟩))
    (first | (go_at_call 18; have _t := tk0; refine (asAgg (wholeMin _)).mono ?_; rintro e w4 ⟨b4, A4, n4, c4, rfl, hr4, hb4⟩; clear tk0; have tk1 : True := trivial; have z4 : g + 1 ≤ w4.heap.size := (by have h := (undrew hb4).size; rw [S3.out] at h; exact h); have zx4 := Zx3.out.below (undrew hb4)) | (go_at_call 37; have _t := tk1; refine (Cm1.out _ _ _ zx4 hr4).mono ?_; rintro e w5 ⟨rfl, hb5⟩; clear tk1; have tk2 : True := trivial; have z5 : g + 1 ≤ w5.heap.size := Nat.le_trans z4 hb5.size; have zx5 := zx4.below hb5) | (go_at_call 18; have _t := tk2; refine (asAgg (wholeMax _)).mono ?_; rintro e w6 ⟨b6, A6, n6, c6, rfl, hr6, hb6⟩; clear tk2; have tk3 : True := trivial; have z6 : g + 1 ≤ w6.heap.size := Nat.le_trans z5 hb6.size; have zx6 := zx5.below hb6) | (go_at_call 37; have _t := tk3; refine (Cm2.out _ _ _ zx6 hr6).mono ?_; rintro e w7 ⟨rfl, hb7⟩; have z7 : g + 1 ≤ w7.heap.size := Nat.le_trans z6 hb7.size))
  have hb37 : Below W3.heap.size W3 w7 := (((undrew hb4).trans (hb5.mono (by show W3.heap.size ≤ _; rw [S3.out]; exact z4))).trans (hb6.mono (by show W3.heap.size ≤ _; rw [S3.out]; exact z5))).trans (hb7.mono (by show W3.heap.size ≤ _; rw [S3.out]; exact z6))
  have Hbf := Lib.hid (Hb3.out.trans (hb37.mono Hb3.out.size))
  go_wp2
  go_ret2
  exact ⟨rfl, Hbf.out⟩

set_option maxHeartbeats 800000 in
set_option maxRecDepth 100000 in
theorem toIntR_small (x : Int) (p : Bool) (A : Option Addr) (n c : Nat) (l : List Nat) (w : World) (hx : Wd w (.slice A n c) l) (hp : vld p l = true) (ex : x = numOf p l) (hsm : x < MinI) :
    Calls Try.prog 12 #[.agg #[.bool p, .slice A n c]] w fun e w' => e = .returned (.tuple #[.int .i64 0, .int .i64 5]) ∧ Below w.heap.size w w' := by
  have g1 : (x - MinI).sign = -1 := Int.sign_eq_neg_one_of_neg (by omega)
  have G1 := Lib.hid g1; clear g1 hsm
  have zx := vld_zv hx hp
  have lx : (dig x.natAbs).length ≤ 256 := by rw [ex, vld_dig hx.ok hp]; exact vld_len hp
  rw [← ex] at zx
  have Hx := Lib.hid hx; clear hx
  have Zx := Lib.hid zx; clear zx
  have Hp := Lib.hid hp; clear hp ex
  go_enter Try.func12, Try.ntmps12
  go_wp2_with fail
  have hb2 := below1 w (Obj.cells #[.bool p, .slice A n c] 24)
  refine (validR_any p A n c l _ (Hx.out.below hb2)).mono ?_
  rintro e w1 ⟨rfl, hb1⟩
  rw [Hp.out]
  have q0 : w1.cell? ⟨w.heap.size, 0, none⟩ = some (.bool p) := keepAt hb1 (by simp) (by rw [World.cell?_alloc_new]; rfl)
  have q1 : w1.cell? ⟨w.heap.size, 1, none⟩ = some (.slice A n c) := keepAt hb1 (by simp) (by rw [World.cell?_alloc_new]; rfl)
  have Z1 : w.heap.size + 1 ≤ w1.heap.size := by have := hb1.size; simp at this; omega
  have Hb1 := Lib.hid (hb2.trans (hb1.mono (by simp)))
  clear hb1 hb2
  go_wp2_with fail
  refine (of_any p A n c _).mono ?_
  rintro e w2 ⟨rfl, hb2⟩
  have z2 : w.heap.size + 1 ≤ w2.heap.size := Nat.le_trans Z1 hb2.size
  have hb02 := Hb1.out.trans (hb2.mono Hb1.out.size)
  have zx3 := (Zx.out.below hb02).below (below1 w2 (Obj.cells #[.bool p, .slice A n c] 34))
  have hb03 := hb02.trans ((below1 w2 (Obj.cells #[.bool p, .slice A n c] 34)).mono hb02.size)
  have r0 := keepAt hb2 (by omega) q0
  have r1 := keepAt hb2 (by omega) q1
  have t0 : (w2.alloc (Obj.cells #[.bool p, .slice A n c] 34)).cell? ⟨w.heap.size, 0, none⟩ = some (.bool p) := by rw [World.cell?_alloc_past _ _ _ (by omega)]; exact r0
  have t1 : (w2.alloc (Obj.cells #[.bool p, .slice A n c] 34)).cell? ⟨w.heap.size, 1, none⟩ = some (.slice A n c) := by rw [World.cell?_alloc_past _ _ _ (by omega)]; exact r1
  have m0 : (w2.alloc (Obj.cells #[.bool p, .slice A n c] 34)).cell? ⟨w2.heap.size, 0, none⟩ = some (.bool p) := by rw [World.cell?_alloc_new]; rfl
  have m1 : (w2.alloc (Obj.cells #[.bool p, .slice A n c] 34)).cell? ⟨w2.heap.size, 1, none⟩ = some (.slice A n c) := by rw [World.cell?_alloc_new]; rfl
  have s3 : (w2.alloc (Obj.cells #[.bool p, .slice A n c] 34)).heap.size = w2.heap.size + 1 := by simp
  have HF := Lib.hid (And.intro zx3 (And.intro hb03 (And.intro t0 (And.intro t1 (And.intro m0 (And.intro m1 s3))))))
  clear zx3 hb03 t0 t1 m0 m1 s3 r0 r1 q0 q1 hb02 hb2 Z1 Hb1
  go_wp2_with fail
  obtain ⟨zx3, hb03, t0, t1, m0, m1, s3⟩ := HF.out
  clear HF
  generalize (w2.alloc (Obj.cells #[.bool p, .slice A n c] 34)) = W3 at *
  obtain ⟨g, hg⟩ : ∃ g, g = w2.heap.size := ⟨_, rfl⟩
  rw [← hg] at m0 m1 s3 z2 ⊢
  clear hg
  have S3 := Lib.hid s3; clear s3
  have Zx3 := Lib.hid zx3; clear zx3
  have Hb3 := Lib.hid hb03; clear hb03
  have cm1 : ∀ (W : World) (u v : Value), ZV W u x → ZV W v MinI → Calls Try.prog 37 #[u, v] W fun e w' => e = .returned (.int .i64 (-1)) ∧ Below W.heap.size W w' := fun W u v hu hv => by
    have := orderRZ_any x MinI u v W hu hv (by omega) min_len
    rwa [G1.out] at this
  have Cm1 := Lib.hid cm1; clear cm1
  go_region_with (first | (go_at_call 18; refine (asAgg (wholeMin _)).mono ?_; rintro e w4 ⟨b4, A4, n4, c4, rfl, hr4, hb4⟩; have zx4 := Zx3.out.below (undrew hb4); have z4 : g + 1 ≤ w4.heap.size := (by have h := (undrew hb4).size; rw [S3.out] at h; exact h); have j0 := keepAt hb4 (by show _ < W3.heap.size; rw [S3.out]; omega) m0; have j1 := keepAt hb4 (by show _ < W3.heap.size; rw [S3.out]; omega) m1) | (go_at_call 37; refine (Cm1.out _ _ _ zx4 hr4).mono ?_; rintro e w5 ⟨rfl, hb5⟩))
  all_goals
    have hb35 : Below W3.heap.size W3 w5 := ((undrew hb4).trans (hb5.mono (by show W3.heap.size ≤ _; rw [S3.out]; exact z4)))
    have Hbf := Lib.hid (Hb3.out.trans (hb35.mono Hb3.out.size))
    go_wp2
    go_ret2
    exact ⟨rfl, Hbf.out⟩

set_option maxHeartbeats 1600000 in
set_option maxRecDepth 100000 in
theorem toIntR_pos (x : Int) (p : Bool) (A : Option Addr) (n c : Nat) (l : List Nat) (w : World) (hx : Wd w (.slice A n c) l) (hp : vld p l = true) (ex : x = numOf p l) (m : Nat) (hp0 : p = false) (hm : x = (m : Int)) (hlo : m ≤ 9223372036854775807) :
    Calls Try.prog 12 #[.agg #[.bool p, .slice A n c]] w fun e w' => e = .returned (.tuple #[.int .i64 (m : Int), .int .i64 0]) ∧ Below w.heap.size w w' := by
  have g1 : 0 ≤ (x - MinI).sign := Int.sign_nonneg_iff.2 (by unfold MinI; omega)
  have g2 : (x - MaxI).sign ≤ 0 := Int.sign_nonpos_iff.2 (by unfold MaxI; omega)
  obtain ⟨v1, hv1⟩ : ∃ v, v = (x - MinI).sign := ⟨_, rfl⟩
  obtain ⟨v2, hv2⟩ : ∃ v, v = (x - MaxI).sign := ⟨_, rfl⟩
  rw [← hv1] at g1
  rw [← hv2] at g2
  have d1 : decide (v1 < 0) = false := by simp; omega
  have d2 : decide (0 < v2) = false := by simp; omega
  have G1 := Lib.hid hv1.symm
  have G2 := Lib.hid hv2.symm
  clear hv1 hv2
  subst hp0
  have hmn : x.natAbs = m := by omega
  have Hmn := Lib.hid hmn; clear hmn
  have Hm := Lib.hid hm; clear hm
  have zx := vld_zv hx hp
  have lx : (dig x.natAbs).length ≤ 256 := by rw [ex, vld_dig hx.ok hp]; exact vld_len hp
  rw [← ex] at zx
  have Hx := Lib.hid hx; clear hx
  have Zx := Lib.hid zx; clear zx
  have Hp := Lib.hid hp; clear hp ex
  go_enter Try.func12, Try.ntmps12
  go_wp2_with fail
  have hb2 := below1 w (Obj.cells #[.bool false, .slice A n c] 24)
  refine (validR_any false A n c l _ (Hx.out.below hb2)).mono ?_
  rintro e w1 ⟨rfl, hb1⟩
  rw [Hp.out]
  have q0 : w1.cell? ⟨w.heap.size, 0, none⟩ = some (.bool false) := keepAt hb1 (by simp) (by rw [World.cell?_alloc_new]; rfl)
  have q1 : w1.cell? ⟨w.heap.size, 1, none⟩ = some (.slice A n c) := keepAt hb1 (by simp) (by rw [World.cell?_alloc_new]; rfl)
  have Z1 : w.heap.size + 1 ≤ w1.heap.size := by have := hb1.size; simp at this; omega
  have Hb1 := Lib.hid (hb2.trans (hb1.mono (by simp)))
  clear hb1 hb2
  go_wp2_with fail
  refine (of_any false A n c _).mono ?_
  rintro e w2 ⟨rfl, hb2⟩
  have z2 : w.heap.size + 1 ≤ w2.heap.size := Nat.le_trans Z1 hb2.size
  have hb02 := Hb1.out.trans (hb2.mono Hb1.out.size)
  have zx3 := (Zx.out.below hb02).below (below1 w2 (Obj.cells #[.bool false, .slice A n c] 34))
  have hb03 := hb02.trans ((below1 w2 (Obj.cells #[.bool false, .slice A n c] 34)).mono hb02.size)
  have r0 := keepAt hb2 (by omega) q0
  have r1 := keepAt hb2 (by omega) q1
  have t0 : (w2.alloc (Obj.cells #[.bool false, .slice A n c] 34)).cell? ⟨w.heap.size, 0, none⟩ = some (.bool false) := by rw [World.cell?_alloc_past _ _ _ (by omega)]; exact r0
  have t1 : (w2.alloc (Obj.cells #[.bool false, .slice A n c] 34)).cell? ⟨w.heap.size, 1, none⟩ = some (.slice A n c) := by rw [World.cell?_alloc_past _ _ _ (by omega)]; exact r1
  have m0 : (w2.alloc (Obj.cells #[.bool false, .slice A n c] 34)).cell? ⟨w2.heap.size, 0, none⟩ = some (.bool false) := by rw [World.cell?_alloc_new]; rfl
  have m1 : (w2.alloc (Obj.cells #[.bool false, .slice A n c] 34)).cell? ⟨w2.heap.size, 1, none⟩ = some (.slice A n c) := by rw [World.cell?_alloc_new]; rfl
  have s3 : (w2.alloc (Obj.cells #[.bool false, .slice A n c] 34)).heap.size = w2.heap.size + 1 := by simp
  have HF := Lib.hid (And.intro zx3 (And.intro hb03 (And.intro t0 (And.intro t1 (And.intro m0 (And.intro m1 s3))))))
  clear zx3 hb03 t0 t1 m0 m1 s3 r0 r1 q0 q1 hb02 hb2 Z1 Hb1
  go_wp2_with fail
  obtain ⟨zx3, hb03, t0, t1, m0, m1, s3⟩ := HF.out
  clear HF
  generalize (w2.alloc (Obj.cells #[.bool false, .slice A n c] 34)) = W3 at *
  obtain ⟨g, hg⟩ : ∃ g, g = w2.heap.size := ⟨_, rfl⟩
  rw [← hg] at m0 m1 s3 z2 ⊢
  clear hg
  have S3 := Lib.hid s3; clear s3
  have Zx3 := Lib.hid zx3; clear zx3
  have Hb3 := Lib.hid hb03; clear hb03
  have cm1 : ∀ (W : World) (u v : Value), ZV W u x → ZV W v MinI → Calls Try.prog 37 #[u, v] W fun e w' => e = .returned (.int .i64 v1) ∧ Below W.heap.size W w' := fun W u v hu hv => by
    have := orderRZ_any x MinI u v W hu hv (by omega) min_len
    rwa [G1.out] at this
  have Cm1 := Lib.hid cm1; clear cm1
  have cm2 : ∀ (W : World) (u v : Value), ZV W u x → ZV W v MaxI → Calls Try.prog 37 #[u, v] W fun e w' => e = .returned (.int .i64 v2) ∧ Below W.heap.size W w' := fun W u v hu hv => by
    have := orderRZ_any x MaxI u v W hu hv (by omega) max_len
    rwa [G2.out] at this
  have Cm2 := Lib.hid cm2; clear cm2
  have tk0 : True := trivial
  go_region_held3 (fun w' => w'.cell? ⟨g, 0, none⟩ = some (.bool false) ∧ w'.cell? ⟨g, 1, none⟩ = some (.slice A n c))
    (first | exact ⟨m0, m1⟩ | (go_split_ands; exact ⟨by assumption, by assumption⟩) | (go_split_ands; exact ⟨keepAt hb4 (by show _ < W3.heap.size; rw [S3.out]; omega) (by assumption), keepAt hb4 (by show _ < W3.heap.size; rw [S3.out]; omega) (by assumption)⟩) | (go_split_ands; exact ⟨keepAt hb5 (by omega) (by assumption), keepAt hb5 (by omega) (by assumption)⟩) | (go_split_ands; exact ⟨keepAt hb6 (by omega) (by assumption), keepAt hb6 (by omega) (by assumption)⟩) | (go_split_ands; exact ⟨keepAt hb7 (by omega) (by assumption), keepAt hb7 (by omega) (by assumption)⟩))
    (first | (go_at_call 18; have _t := tk0; refine (asAgg (wholeMin _)).mono ?_; rintro e w4 ⟨b4, A4, n4, c4, rfl, hr4, hb4⟩; clear tk0; have tk1 : True := trivial; have z4 : g + 1 ≤ w4.heap.size := (by have h := (undrew hb4).size; rw [S3.out] at h; exact h); have zx4 := Zx3.out.below (undrew hb4)) | (go_at_call 37; have _t := tk1; refine (Cm1.out _ _ _ zx4 hr4).mono ?_; rintro e w5 ⟨rfl, hb5⟩; clear tk1; have tk2 : True := trivial; have z5 : g + 1 ≤ w5.heap.size := Nat.le_trans z4 hb5.size; have zx5 := zx4.below hb5) | (go_at_call 18; have _t := tk2; refine (asAgg (wholeMax _)).mono ?_; rintro e w6 ⟨b6, A6, n6, c6, rfl, hr6, hb6⟩; clear tk2; have tk3 : True := trivial; have z6 : g + 1 ≤ w6.heap.size := Nat.le_trans z5 hb6.size; have zx6 := zx5.below hb6) | (go_at_call 37; have _t := tk3; refine (Cm2.out _ _ _ zx6 hr6).mono ?_; rintro e w7 ⟨rfl, hb7⟩; have z7 : g + 1 ≤ w7.heap.size := Nat.le_trans z6 hb7.size))
  have hb37 : Below W3.heap.size W3 w7 := (((undrew hb4).trans (hb5.mono (by show W3.heap.size ≤ _; rw [S3.out]; exact z4))).trans (hb6.mono (by show W3.heap.size ≤ _; rw [S3.out]; exact z5))).trans (hb7.mono (by show W3.heap.size ≤ _; rw [S3.out]; exact z6))
  have Hbf := Lib.hid (Hb3.out.trans (hb37.mono Hb3.out.size))
  obtain ⟨zA, zn, zc, hze, hzw, -, -⟩ := (zx6.below hb7).open_
  injection hze with hze
  have hw7 : Wd w7 (.slice A n c) (dig x.natAbs) := by
    have h2 : (.slice A n c : Value) = .slice zA zn zc := by
      have := congrArg (fun a : Array Value => a[1]?) hze
      simpa using this
    rw [h2]; exact hzw
  have hnl : n = (dig x.natAbs).length := hw7.len
  have hn2 : n ≤ 2 := by rw [hnl]; exact dig_len_le (by rw [Hmn.out]; omega)
  have Hnl := Lib.hid hnl; clear hnl
  have Hw7 := Lib.hid hw7; clear hw7 hze hzw
  have t7 := keepAt hb7 (by omega) (keepAt hb6 (by omega) (keepAt hb5 (by omega) (keepAt (undrew hb4) (by show _ < W3.heap.size; rw [S3.out]; omega) t0)))
  have t8 := keepAt hb7 (by omega) (keepAt hb6 (by omega) (keepAt hb5 (by omega) (keepAt (undrew hb4) (by show _ < W3.heap.size; rw [S3.out]; omega) t1)))
  go_wp2_with fail
  clear Cm1 Cm2 G1 G2 hb4 hb5 hb6 hb7 hb37 hr4 hr6 zx4 zx5 zx6 z4 z5 z6 z7 m0 m1 t0 t1 Zx Zx3 Hb3 S3 d1 d2 g1 g2
  go_loop [5, 26] (fun v i => ∃ k : Nat, i = .int .i64 k ∧ k ≤ n ∧ v = .int .u64 (x.natAbs % 4294967296 ^ k : Nat)) (fun _ i => n - (intOf i).toNat)
  case atStart => exact ⟨0, rfl, Nat.zero_le _, by simp [Nat.mod_one]⟩
  case round =>
    obtain ⟨k, rfl, hk, rfl⟩ := hrel
    by_cases hlt : k < n
    · obtain ⟨b, off, rfl, -, hc⟩ := Wd.cell (k := k) Hw7.out hlt
      have h1 := hc k hlt
      clear hc
      have hd := dg_lt x.natAbs k
      rcases (by omega : k = 0 ∨ k = 1) with hk0 | hk0
      · subst hk0
        rw [Nat.add_zero] at h1
        have ho := or_lo x.natAbs
        have Ho := Lib.hid ho; clear ho
        go_wp2
        rw [Ho.out]
        go_round
        case rel => exact ⟨1, rfl, hlt, rfl⟩
        case measure => simp [intOf]; omega
      · subst hk0
        have hml : x.natAbs % 4294967296 ^ 1 < 4294967296 := by rw [Nat.pow_one]; omega
        obtain ⟨lo, hlo2⟩ : ∃ lo, lo = x.natAbs % 4294967296 ^ 1 := ⟨_, rfl⟩
        rw [← hlo2] at hml ⊢
        have ho := or_hi x.natAbs
        rw [← hlo2] at ho
        have Ho := Lib.hid ho; clear ho
        have Hlo := Lib.hid hlo2; clear hlo2
        go_wp2
        rw [Ho.out]
        go_round
        case rel => exact ⟨2, rfl, hlt, rfl⟩
        case measure => simp [intOf]; omega
    · have hkn : k = n := by omega
      have hfin : x.natAbs % 4294967296 ^ k = m := by rw [mod_len (by rw [← Hnl.out]; omega), Hmn.out]
      rw [hfin]
      clear hfin
      go_wp2
      go_ret2
      exact ⟨rfl, Hbf.out⟩

set_option maxHeartbeats 1600000 in
set_option maxRecDepth 100000 in
theorem toIntR_neg (x : Int) (p : Bool) (A : Option Addr) (n c : Nat) (l : List Nat) (w : World) (hx : Wd w (.slice A n c) l) (hp : vld p l = true) (ex : x = numOf p l) (m : Nat) (hp0 : p = true) (hm : x = -(m : Int)) (hm1 : 1 ≤ m) (hlo : m ≤ 9223372036854775808) (M : Int) (hM1 : IntKind.u64.wrap (-(m : Int)) = M) (hM2 : IntKind.i64.wrap M = -(m : Int)) (hM0 : 9223372036854775808 ≤ M) (hM3 : M < 18446744073709551616) :
    Calls Try.prog 12 #[.agg #[.bool p, .slice A n c]] w fun e w' => e = .returned (.tuple #[.int .i64 (-(m : Int)), .int .i64 0]) ∧ Below w.heap.size w w' := by
  have g1 : 0 ≤ (x - MinI).sign := Int.sign_nonneg_iff.2 (by unfold MinI; omega)
  have g2 : (x - MaxI).sign ≤ 0 := Int.sign_nonpos_iff.2 (by unfold MaxI; omega)
  obtain ⟨v1, hv1⟩ : ∃ v, v = (x - MinI).sign := ⟨_, rfl⟩
  obtain ⟨v2, hv2⟩ : ∃ v, v = (x - MaxI).sign := ⟨_, rfl⟩
  rw [← hv1] at g1
  rw [← hv2] at g2
  have d1 : decide (v1 < 0) = false := by simp; omega
  have d2 : decide (0 < v2) = false := by simp; omega
  have G1 := Lib.hid hv1.symm
  have G2 := Lib.hid hv2.symm
  clear hv1 hv2
  subst hp0
  have hmn : x.natAbs = m := by omega
  have Hmn := Lib.hid hmn; clear hmn
  have Hm := Lib.hid hm; clear hm
  have zx := vld_zv hx hp
  have lx : (dig x.natAbs).length ≤ 256 := by rw [ex, vld_dig hx.ok hp]; exact vld_len hp
  rw [← ex] at zx
  have Hx := Lib.hid hx; clear hx
  have Zx := Lib.hid zx; clear zx
  have Hp := Lib.hid hp; clear hp ex
  go_enter Try.func12, Try.ntmps12
  go_wp2_with fail
  have hb2 := below1 w (Obj.cells #[.bool true, .slice A n c] 24)
  refine (validR_any true A n c l _ (Hx.out.below hb2)).mono ?_
  rintro e w1 ⟨rfl, hb1⟩
  rw [Hp.out]
  have q0 : w1.cell? ⟨w.heap.size, 0, none⟩ = some (.bool true) := keepAt hb1 (by simp) (by rw [World.cell?_alloc_new]; rfl)
  have q1 : w1.cell? ⟨w.heap.size, 1, none⟩ = some (.slice A n c) := keepAt hb1 (by simp) (by rw [World.cell?_alloc_new]; rfl)
  have Z1 : w.heap.size + 1 ≤ w1.heap.size := by have := hb1.size; simp at this; omega
  have Hb1 := Lib.hid (hb2.trans (hb1.mono (by simp)))
  clear hb1 hb2
  go_wp2_with fail
  refine (of_any true A n c _).mono ?_
  rintro e w2 ⟨rfl, hb2⟩
  have z2 : w.heap.size + 1 ≤ w2.heap.size := Nat.le_trans Z1 hb2.size
  have hb02 := Hb1.out.trans (hb2.mono Hb1.out.size)
  have zx3 := (Zx.out.below hb02).below (below1 w2 (Obj.cells #[.bool true, .slice A n c] 34))
  have hb03 := hb02.trans ((below1 w2 (Obj.cells #[.bool true, .slice A n c] 34)).mono hb02.size)
  have r0 := keepAt hb2 (by omega) q0
  have r1 := keepAt hb2 (by omega) q1
  have t0 : (w2.alloc (Obj.cells #[.bool true, .slice A n c] 34)).cell? ⟨w.heap.size, 0, none⟩ = some (.bool true) := by rw [World.cell?_alloc_past _ _ _ (by omega)]; exact r0
  have t1 : (w2.alloc (Obj.cells #[.bool true, .slice A n c] 34)).cell? ⟨w.heap.size, 1, none⟩ = some (.slice A n c) := by rw [World.cell?_alloc_past _ _ _ (by omega)]; exact r1
  have m0 : (w2.alloc (Obj.cells #[.bool true, .slice A n c] 34)).cell? ⟨w2.heap.size, 0, none⟩ = some (.bool true) := by rw [World.cell?_alloc_new]; rfl
  have m1 : (w2.alloc (Obj.cells #[.bool true, .slice A n c] 34)).cell? ⟨w2.heap.size, 1, none⟩ = some (.slice A n c) := by rw [World.cell?_alloc_new]; rfl
  have s3 : (w2.alloc (Obj.cells #[.bool true, .slice A n c] 34)).heap.size = w2.heap.size + 1 := by simp
  have HF := Lib.hid (And.intro zx3 (And.intro hb03 (And.intro t0 (And.intro t1 (And.intro m0 (And.intro m1 s3))))))
  clear zx3 hb03 t0 t1 m0 m1 s3 r0 r1 q0 q1 hb02 hb2 Z1 Hb1
  go_wp2_with fail
  obtain ⟨zx3, hb03, t0, t1, m0, m1, s3⟩ := HF.out
  clear HF
  generalize (w2.alloc (Obj.cells #[.bool true, .slice A n c] 34)) = W3 at *
  obtain ⟨g, hg⟩ : ∃ g, g = w2.heap.size := ⟨_, rfl⟩
  rw [← hg] at m0 m1 s3 z2 ⊢
  clear hg
  have S3 := Lib.hid s3; clear s3
  have Zx3 := Lib.hid zx3; clear zx3
  have Hb3 := Lib.hid hb03; clear hb03
  have cm1 : ∀ (W : World) (u v : Value), ZV W u x → ZV W v MinI → Calls Try.prog 37 #[u, v] W fun e w' => e = .returned (.int .i64 v1) ∧ Below W.heap.size W w' := fun W u v hu hv => by
    have := orderRZ_any x MinI u v W hu hv (by omega) min_len
    rwa [G1.out] at this
  have Cm1 := Lib.hid cm1; clear cm1
  have cm2 : ∀ (W : World) (u v : Value), ZV W u x → ZV W v MaxI → Calls Try.prog 37 #[u, v] W fun e w' => e = .returned (.int .i64 v2) ∧ Below W.heap.size W w' := fun W u v hu hv => by
    have := orderRZ_any x MaxI u v W hu hv (by omega) max_len
    rwa [G2.out] at this
  have Cm2 := Lib.hid cm2; clear cm2
  have tk0 : True := trivial
  go_region_held3 (fun w' => w'.cell? ⟨g, 0, none⟩ = some (.bool true) ∧ w'.cell? ⟨g, 1, none⟩ = some (.slice A n c))
    (first | exact ⟨m0, m1⟩ | (go_split_ands; exact ⟨by assumption, by assumption⟩) | (go_split_ands; exact ⟨keepAt hb4 (by show _ < W3.heap.size; rw [S3.out]; omega) (by assumption), keepAt hb4 (by show _ < W3.heap.size; rw [S3.out]; omega) (by assumption)⟩) | (go_split_ands; exact ⟨keepAt hb5 (by omega) (by assumption), keepAt hb5 (by omega) (by assumption)⟩) | (go_split_ands; exact ⟨keepAt hb6 (by omega) (by assumption), keepAt hb6 (by omega) (by assumption)⟩) | (go_split_ands; exact ⟨keepAt hb7 (by omega) (by assumption), keepAt hb7 (by omega) (by assumption)⟩))
    (first | (go_at_call 18; have _t := tk0; refine (asAgg (wholeMin _)).mono ?_; rintro e w4 ⟨b4, A4, n4, c4, rfl, hr4, hb4⟩; clear tk0; have tk1 : True := trivial; have z4 : g + 1 ≤ w4.heap.size := (by have h := (undrew hb4).size; rw [S3.out] at h; exact h); have zx4 := Zx3.out.below (undrew hb4)) | (go_at_call 37; have _t := tk1; refine (Cm1.out _ _ _ zx4 hr4).mono ?_; rintro e w5 ⟨rfl, hb5⟩; clear tk1; have tk2 : True := trivial; have z5 : g + 1 ≤ w5.heap.size := Nat.le_trans z4 hb5.size; have zx5 := zx4.below hb5) | (go_at_call 18; have _t := tk2; refine (asAgg (wholeMax _)).mono ?_; rintro e w6 ⟨b6, A6, n6, c6, rfl, hr6, hb6⟩; clear tk2; have tk3 : True := trivial; have z6 : g + 1 ≤ w6.heap.size := Nat.le_trans z5 hb6.size; have zx6 := zx5.below hb6) | (go_at_call 37; have _t := tk3; refine (Cm2.out _ _ _ zx6 hr6).mono ?_; rintro e w7 ⟨rfl, hb7⟩; have z7 : g + 1 ≤ w7.heap.size := Nat.le_trans z6 hb7.size))
  have hb37 : Below W3.heap.size W3 w7 := (((undrew hb4).trans (hb5.mono (by show W3.heap.size ≤ _; rw [S3.out]; exact z4))).trans (hb6.mono (by show W3.heap.size ≤ _; rw [S3.out]; exact z5))).trans (hb7.mono (by show W3.heap.size ≤ _; rw [S3.out]; exact z6))
  have Hbf := Lib.hid (Hb3.out.trans (hb37.mono Hb3.out.size))
  obtain ⟨zA, zn, zc, hze, hzw, -, -⟩ := (zx6.below hb7).open_
  injection hze with hze
  have hw7 : Wd w7 (.slice A n c) (dig x.natAbs) := by
    have h2 : (.slice A n c : Value) = .slice zA zn zc := by
      have := congrArg (fun a : Array Value => a[1]?) hze
      simpa using this
    rw [h2]; exact hzw
  have hnl : n = (dig x.natAbs).length := hw7.len
  have hn2 : n ≤ 2 := by rw [hnl]; exact dig_len_le (by rw [Hmn.out]; omega)
  have Hnl := Lib.hid hnl; clear hnl
  have Hw7 := Lib.hid hw7; clear hw7 hze hzw
  have t7 := keepAt hb7 (by omega) (keepAt hb6 (by omega) (keepAt hb5 (by omega) (keepAt (undrew hb4) (by show _ < W3.heap.size; rw [S3.out]; omega) t0)))
  have t8 := keepAt hb7 (by omega) (keepAt hb6 (by omega) (keepAt hb5 (by omega) (keepAt (undrew hb4) (by show _ < W3.heap.size; rw [S3.out]; omega) t1)))
  go_wp2_with fail
  clear Cm1 Cm2 G1 G2 hb4 hb5 hb6 hb7 hb37 hr4 hr6 zx4 zx5 zx6 z4 z5 z6 z7 m0 m1 t0 t1 Zx Zx3 Hb3 S3 d1 d2 g1 g2
  go_loop [5, 26] (fun v i => ∃ k : Nat, i = .int .i64 k ∧ k ≤ n ∧ v = .int .u64 (x.natAbs % 4294967296 ^ k : Nat)) (fun _ i => n - (intOf i).toNat)
  case atStart => exact ⟨0, rfl, Nat.zero_le _, by simp [Nat.mod_one]⟩
  case round =>
    obtain ⟨k, rfl, hk, rfl⟩ := hrel
    by_cases hlt : k < n
    · obtain ⟨b, off, rfl, -, hc⟩ := Wd.cell (k := k) Hw7.out hlt
      have h1 := hc k hlt
      clear hc
      have hd := dg_lt x.natAbs k
      rcases (by omega : k = 0 ∨ k = 1) with hk0 | hk0
      · subst hk0
        rw [Nat.add_zero] at h1
        have ho := or_lo x.natAbs
        have Ho := Lib.hid ho; clear ho
        go_wp2
        rw [Ho.out]
        go_round
        case rel => exact ⟨1, rfl, hlt, rfl⟩
        case measure => simp [intOf]; omega
      · subst hk0
        have hml : x.natAbs % 4294967296 ^ 1 < 4294967296 := by rw [Nat.pow_one]; omega
        obtain ⟨lo, hlo2⟩ : ∃ lo, lo = x.natAbs % 4294967296 ^ 1 := ⟨_, rfl⟩
        rw [← hlo2] at hml ⊢
        have ho := or_hi x.natAbs
        rw [← hlo2] at ho
        have Ho := Lib.hid ho; clear ho
        have Hlo := Lib.hid hlo2; clear hlo2
        go_wp2
        rw [Ho.out]
        go_round
        case rel => exact ⟨2, rfl, hlt, rfl⟩
        case measure => simp [intOf]; omega
    · have hkn : k = n := by omega
      have hfin : x.natAbs % 4294967296 ^ k = m := by rw [mod_len (by rw [← Hnl.out]; omega), Hmn.out]
      rw [hfin]
      clear hfin
      go_wp2
      go_ret2
      exact ⟨rfl, Hbf.out⟩

end Go.Proofs.Ytmlopkkbgpfdnaa
