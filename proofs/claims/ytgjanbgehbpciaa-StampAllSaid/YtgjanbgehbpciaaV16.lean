/- Walks: the reference's goes. -/
import Derived.Test.YtgjanbgehbpciaaV6
import Derived.Test.YtgjanbgehbpciaaV15
namespace Go.Proofs.Ytgjanbgehbpciaa
open Go.RowKit

set_option maxHeartbeats 2000000 in
set_option maxRecDepth 100000 in
theorem goes_c (w h : Nat) (dx dy : Int) (n : Nat) (f : Bool) (i : Nat) (W : World) (hs : 1 ≤ w ∧ w ≤ 8 ∧ 1 ≤ h ∧ h ≤ 8) (hm : 0 ≤ dx ∧ dx < w ∧ 0 ≤ dy ∧ dy < h) (hn : n < 4) (hi : i < w * h) :
    Calls Try.prog 54 #[.int .i64 w, .int .i64 h, .agg #[.int .i64 dx, .int .i64 dy, .int .i64 n, .bool f], .int .i64 i] W fun e W' =>
      e = .returned (.int .i64 (goalAt w h ⟨dx, dy, n, f⟩ i)) ∧ Ext W W' := by
  have hxy : i % w < 8 ∧ i / w < 8 := ⟨by have := Nat.mod_lt i (show 0 < w by omega); omega, by have := Nat.div_lt_of_lt_mul hi; omega⟩
  obtain ⟨x, hx⟩ : ∃ x, x = i % w := ⟨_, rfl⟩
  obtain ⟨y, hy⟩ : ∃ y, y = i / w := ⟨_, rfl⟩
  have hrem : (i : Int).tmod (w : Int) = (x : Int) := by rw [hx]; exact (Int.ofNat_tmod i w).symm
  have hquo : (i : Int).tdiv (w : Int) = (y : Int) := by rw [hy]; exact (Int.ofNat_tdiv i w).symm
  have hrem' : (i : Int) % (w : Int) = (x : Int) := by rw [hx]; simp
  have hquo' : (i : Int) / (w : Int) = (y : Int) := by rw [hy]; simp
  have hg : goalAt w h ⟨dx, dy, n, f⟩ i = ((spin f n ((x : Int), (y : Int))).2 + dy) % h * w + ((spin f n ((x : Int), (y : Int))).1 + dx) % w := by rw [hx, hy]; rfl
  rw [← hx, ← hy] at hxy
  rw [hg]
  clear hg hx hy hi
  have hbd := spin_bd (f := f) (t := n) (by omega) (by omega) (x := (x : Int)) (y := (y : Int)) (B := 1000) (by omega) (by omega) (by omega) (by omega)
  simp only [Int.toNat_natCast] at hbd
  have cto := fun X => to_any f n (x : Int) (y : Int) X hn (by omega) (by omega) (by omega) (by omega)
  have ctu := fun X => turned_any f n X hn
  obtain ⟨p, hp⟩ : ∃ p, p = (spin f n ((x : Int), (y : Int))).1 := ⟨_, rfl⟩
  obtain ⟨q, hq⟩ : ∃ q, q = (spin f n ((x : Int), (y : Int))).2 := ⟨_, rfl⟩
  simp only [← hp, ← hq] at hbd cto ⊢
  obtain ⟨u0, hu0⟩ : ∃ u, u = la f n := ⟨_, rfl⟩
  obtain ⟨u1, hu1⟩ : ∃ u, u = lb f n := ⟨_, rfl⟩
  obtain ⟨u2, hu2⟩ : ∃ u, u = lc f n := ⟨_, rfl⟩
  obtain ⟨u3, hu3⟩ : ∃ u, u = ld f n := ⟨_, rfl⟩
  simp only [← hu0, ← hu1, ← hu2, ← hu3] at cto ctu
  clear hp hq hu0 hu1 hu2 hu3
  have CTO : Hid (∀ X, Calls Try.prog 58 #[.agg #[.int .i64 u0, .int .i64 u1, .int .i64 u2, .int .i64 u3], .int .i64 x, .int .i64 y] X fun e W' => e = .returned (.tuple #[.int .i64 p, .int .i64 q]) ∧ Ext X W') := Lib.hid cto
  have CTU : Hid (∀ X, Calls Try.prog 57 #[.bool f, .int .i64 n] X fun e W' => e = .returned (.agg #[.int .i64 u0, .int .i64 u1, .int .i64 u2, .int .i64 u3]) ∧ Ext X W') := Lib.hid ctu
  clear cto ctu
  have h1 := Int.emod_nonneg (p + dx) (b := (w : Int)) (by omega)
  have h2 := Int.emod_lt_of_pos (p + dx) (b := (w : Int)) (by omega)
  have h3 := Int.emod_nonneg (q + dy) (b := (h : Int)) (by omega)
  have h4 := Int.emod_lt_of_pos (q + dy) (b := (h : Int)) (by omega)
  obtain ⟨P, hP⟩ : ∃ P, P = (p + dx) % (w : Int) := ⟨_, rfl⟩
  obtain ⟨Q, hQ⟩ : ∃ Q, Q = (q + dy) % (h : Int) := ⟨_, rfl⟩
  rw [← hP] at h1 h2
  rw [← hQ] at h3 h4
  rw [← hP, ← hQ]
  have m1 : ∀ W, Calls Try.prog 59 #[.int .i64 (q + dy), .int .i64 h] W fun e W' => e = .returned (.int .i64 Q) ∧ W' = W := fun W => (moduloR_any (q + dy) h W (by omega) (by omega) (by omega) (by omega)).mono (fun _ _ k => ⟨by rw [hQ]; exact k.1, k.2.symm⟩)
  have m2 : ∀ W, Calls Try.prog 59 #[.int .i64 (p + dx), .int .i64 w] W fun e W' => e = .returned (.int .i64 P) ∧ W' = W := fun W => (moduloR_any (p + dx) w W (by omega) (by omega) (by omega) (by omega)).mono (fun _ _ k => ⟨by rw [hP]; exact k.1, k.2.symm⟩)
  have M1 := Lib.hid m1; have M2 := Lib.hid m2
  clear m1 m2 hP hQ
  have hqw : 0 ≤ Q * w ∧ Q * w ≤ 64 := by
    have a := Int.mul_nonneg h3 (by omega : 0 ≤ (w : Int))
    have b := Int.mul_le_mul (by omega : Q ≤ 8) (by omega : (w : Int) ≤ 8) (by omega) (by omega)
    omega
  have S1 : Hid (IntKind.i64.wrap (Q * w) = Q * w) := Lib.hid (IntWalk.i64_in _ (by omega))
  have S2 : Hid (IntKind.i64.wrap (Q * w + P) = Q * w + P) := Lib.hid (IntWalk.i64_in _ (by omega))
  have S3 : Hid (IntKind.i64.wrap (q + dy) = q + dy) := Lib.hid (IntWalk.i64_in _ (by omega))
  have S4 : Hid (IntKind.i64.wrap (p + dx) = p + dx) := Lib.hid (IntWalk.i64_in _ (by omega))
  have hw0 : ((w : Int) == 0) = false := by simp; omega
  have HR := Lib.hid hrem; have HQ := Lib.hid hquo; have HR' := Lib.hid hrem'; have HQ' := Lib.hid hquo'
  clear hrem hquo hrem' hquo'
  have i1 : (0 : Int) ≤ i := by omega
  have i2 : (1 : Int) ≤ w := by omega
  go_enter Try.func54, Try.ntmps54
  go_wp2_with fail
  have q1 : Q4 (W.alloc (.cells #[.int .i64 dx, .int .i64 dy, .int .i64 n, .bool f] 26)) W.heap.size (.int .i64 dx) (.int .i64 dy) (.int .i64 n) (.bool f) := by
    refine ⟨?_, ?_, ?_, ?_⟩ <;> (rw [World.cell?_alloc_new]; rfl)
  have bb := al1 W (.cells #[.int .i64 dx, .int .i64 dy, .int .i64 n, .bool f] 26)
  have zz : (W.alloc (.cells #[.int .i64 dx, .int .i64 dy, .int .i64 n, .bool f] 26)).heap.size = W.heap.size + 1 := by simp
  generalize (W.alloc (.cells #[.int .i64 dx, .int .i64 dy, .int .i64 n, .bool f] 26)) = W2 at *
  have zle : W.heap.size + 1 ≤ W2.heap.size := by omega
  have BB : Hid (Ext W W2) := Lib.hid bb
  clear bb zz
  obtain ⟨s0, s1, s2, s3⟩ := q1
  refine wp_region_noPanic ?_
  refine wp_region_held_drew (S := fun X => Ext W2 X) (by kernel_rfl) (Ext.drw (Ext.refl _)) (fun _ => ?_)
  refine take_at 0 (some 12) (.pointer (some ⟨W.heap.size, 3, none⟩)) rfl rfl (by kernel_rfl) (by kernel_rfl) (by kernel_rfl) (fun _ _ _ h => h) (Or.inl ⟨by rfl, fun w' hSw => ?_⟩) (Ext.drw (Ext.refl _)) ?_
  · skip
    clear hSw
    go_simp
    all_goals (with_reducible rfl)
  try simp only [Act.put, List.setIfInBounds_toArray, List.set_cons_zero, List.set_cons_succ]
  refine take_at 1 (some 13) (.bool f) rfl rfl (by kernel_rfl) (by kernel_rfl) (by kernel_rfl) (fun _ _ _ h => h) (Or.inl ⟨by rfl, fun w' hSw => ?_⟩) (Ext.drw (Ext.refl _)) ?_
  · have q0 := keepAt hSw (by omega) s3
    clear hSw
    go_simp
    all_goals (with_reducible rfl)
  try simp only [Act.put, List.setIfInBounds_toArray, List.set_cons_zero, List.set_cons_succ]
  refine take_at 2 (some 14) (.pointer (some ⟨W.heap.size, 2, none⟩)) rfl rfl (by kernel_rfl) (by kernel_rfl) (by kernel_rfl) (fun _ _ _ h => h) (Or.inl ⟨by rfl, fun w' hSw => ?_⟩) (Ext.drw (Ext.refl _)) ?_
  · skip
    clear hSw
    go_simp
    all_goals (with_reducible rfl)
  try simp only [Act.put, List.setIfInBounds_toArray, List.set_cons_zero, List.set_cons_succ]
  refine take_at 3 (some 15) (.int .i64 n) rfl rfl (by kernel_rfl) (by kernel_rfl) (by kernel_rfl) (fun _ _ _ h => h) (Or.inl ⟨by rfl, fun w' hSw => ?_⟩) (Ext.drw (Ext.refl _)) ?_
  · have q0 := keepAt hSw (by omega) s2
    clear hSw
    go_simp
    all_goals (with_reducible rfl)
  try simp only [Act.put, List.setIfInBounds_toArray, List.set_cons_zero, List.set_cons_succ]
  refine take_at 5 (some 17) (.int .i64 i) rfl rfl (by kernel_rfl) (by kernel_rfl) (by kernel_rfl) (fun _ _ _ h => h) (Or.inl ⟨by rfl, fun w' hSw => ?_⟩) (Ext.drw (Ext.refl _)) ?_
  · skip
    clear hSw
    go_simp
    all_goals (with_reducible rfl)
  try simp only [Act.put, List.setIfInBounds_toArray, List.set_cons_zero, List.set_cons_succ]
  refine take_at 6 (some 18) (.int .i64 w) rfl rfl (by kernel_rfl) (by kernel_rfl) (by kernel_rfl) (fun _ _ _ h => h) (Or.inl ⟨by rfl, fun w' hSw => ?_⟩) (Ext.drw (Ext.refl _)) ?_
  · skip
    clear hSw
    go_simp
    all_goals (with_reducible rfl)
  try simp only [Act.put, List.setIfInBounds_toArray, List.set_cons_zero, List.set_cons_succ]
  refine take_at 7 (some 19) (.int .i64 x) rfl rfl (by kernel_rfl) (by kernel_rfl) (by kernel_rfl) (fun _ _ _ h => h) (Or.inl ⟨by rfl, fun w' hSw => ?_⟩) (Ext.drw (Ext.refl _)) ?_
  · have q0 := HR.out; have q1 := HR'.out; have q2 : ¬ w = 0 := (by omega)
    clear hSw
    go_simp
    all_goals (with_reducible rfl)
  try simp only [Act.put, List.setIfInBounds_toArray, List.set_cons_zero, List.set_cons_succ]
  refine take_at 8 (some 20) (.int .i64 i) rfl rfl (by kernel_rfl) (by kernel_rfl) (by kernel_rfl) (fun _ _ _ h => h) (Or.inl ⟨by rfl, fun w' hSw => ?_⟩) (Ext.drw (Ext.refl _)) ?_
  · skip
    clear hSw
    go_simp
    all_goals (with_reducible rfl)
  try simp only [Act.put, List.setIfInBounds_toArray, List.set_cons_zero, List.set_cons_succ]
  refine take_at 9 (some 21) (.int .i64 w) rfl rfl (by kernel_rfl) (by kernel_rfl) (by kernel_rfl) (fun _ _ _ h => h) (Or.inl ⟨by rfl, fun w' hSw => ?_⟩) (Ext.drw (Ext.refl _)) ?_
  · skip
    clear hSw
    go_simp
    all_goals (with_reducible rfl)
  try simp only [Act.put, List.setIfInBounds_toArray, List.set_cons_zero, List.set_cons_succ]
  refine take_at 10 (some 22) (.int .i64 y) rfl rfl (by kernel_rfl) (by kernel_rfl) (by kernel_rfl) (fun _ _ _ h => h) (Or.inl ⟨by rfl, fun w' hSw => ?_⟩) (Ext.drw (Ext.refl _)) ?_
  · have q0 := HQ.out; have q1 := HQ'.out; have q2 : ¬ w = 0 := (by omega); have q3 : IntKind.i64.wrap (y : Int) = y := IntWalk.i64_in _ (by omega)
    clear hSw
    go_simp
    all_goals (with_reducible rfl)
  try simp only [Act.put, List.setIfInBounds_toArray, List.set_cons_zero, List.set_cons_succ]
  refine wpAnyH_ready (rs := [4]) (by kernel_rfl) (by simp) ?_
  refine AllReadyH.cons rfl (fun K hK => ?_) AllReadyH.nil
  go_simp
  refine (CTU.out _).mono ?_
  rintro e v4 ⟨rfl, hb4⟩
  have e4 : Ext W2 v4 := (Ext.drw (Ext.refl _)).trans hb4
  try go_wp2_with fail
  refine hK.out _ _ e4 (fun _ => ?_)
  clear hK K
  try simp only [Act.put, List.setIfInBounds_toArray, List.set_cons_zero, List.set_cons_succ]
  refine wpAnyH_ready (rs := [11]) (by kernel_rfl) (by simp) ?_
  refine AllReadyH.cons rfl (fun K hK => ?_) AllReadyH.nil
  go_simp
  refine (CTO.out _).mono ?_
  rintro e v11 ⟨rfl, hb11⟩
  have e11 : Ext W2 v11 := (e4).trans hb11
  try go_wp2_with fail
  refine hK.out _ _ e11 (fun _ => ?_)
  clear hK K
  try simp only [Act.put, List.setIfInBounds_toArray, List.set_cons_zero, List.set_cons_succ]
  refine take_at 12 (some 11) (.tuple #[.int .i64 p, .int .i64 q]) rfl rfl (by kernel_rfl) (by kernel_rfl) (by kernel_rfl) (fun _ _ _ h => h) (Or.inl ⟨by rfl, fun w' hSw => ?_⟩) (e11) ?_
  · skip
    clear hSw
    go_simp
    all_goals (with_reducible rfl)
  try simp only [Act.put, List.setIfInBounds_toArray, List.set_cons_zero, List.set_cons_succ]
  refine take_at 13 (some 24) (.int .i64 p) rfl rfl (by kernel_rfl) (by kernel_rfl) (by kernel_rfl) (fun _ _ _ h => h) (Or.inl ⟨by rfl, fun w' hSw => ?_⟩) (e11) ?_
  · skip
    clear hSw
    go_simp
    all_goals (with_reducible rfl)
  try simp only [Act.put, List.setIfInBounds_toArray, List.set_cons_zero, List.set_cons_succ]
  refine take_at 14 (some 25) (.int .i64 q) rfl rfl (by kernel_rfl) (by kernel_rfl) (by kernel_rfl) (fun _ _ _ h => h) (Or.inl ⟨by rfl, fun w' hSw => ?_⟩) (e11) ?_
  · skip
    clear hSw
    go_simp
    all_goals (with_reducible rfl)
  try simp only [Act.put, List.setIfInBounds_toArray, List.set_cons_zero, List.set_cons_succ]
  refine take_at 15 (some 9) (.int .i64 p) rfl rfl (by kernel_rfl) (by kernel_rfl) (by kernel_rfl) (fun _ _ _ h => h) (Or.inl ⟨by rfl, fun w' hSw => ?_⟩) (e11) ?_
  · skip
    clear hSw
    go_simp
    all_goals (with_reducible rfl)
  try simp only [Act.put, List.setIfInBounds_toArray, List.set_cons_zero, List.set_cons_succ]
  refine take_at 16 (some 10) (.int .i64 q) rfl rfl (by kernel_rfl) (by kernel_rfl) (by kernel_rfl) (fun _ _ _ h => h) (Or.inl ⟨by rfl, fun w' hSw => ?_⟩) (e11) ?_
  · skip
    clear hSw
    go_simp
    all_goals (with_reducible rfl)
  try simp only [Act.put, List.setIfInBounds_toArray, List.set_cons_zero, List.set_cons_succ]
  refine wpAnyH_done (by kernel_rfl) ?_ _
  refine NoPanic.normal ?_
  go_wp2_with fail
  have k0 := keepAt e11 (by omega) s0
  have k1 := keepAt e11 (by omega) s1
  have KB : Hid (Ext W v11) := Lib.hid (BB.out.trans e11)
  clear s0 s1 s2 s3
  have r1 := S1.out; have r2 := S2.out; have r3 := S3.out; have r4 := S4.out
  go_still_tail 15, (by kernel_rfl)
  still_call (M1.out _)
  repeat still_step
  still_call (M2.out _)
  repeat still_step
  refine wpStill_nil ?_
  go_wp2
  go_ret
  exact ⟨rfl, Ext.drw KB.out⟩

end Go.Proofs.Ytgjanbgehbpciaa
