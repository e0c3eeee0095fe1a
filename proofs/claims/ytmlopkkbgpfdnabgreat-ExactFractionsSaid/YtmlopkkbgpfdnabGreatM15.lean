/- Walks: RatAdd, RatSub, RatMul, RatDiv. · Fractions as mathematics: the only form. · Walks: the reference's naturals: trim, order, natural. · Walks: the reference's naturals: natural, plus. · Walks: the reference's naturals: less. -/
import Derived.Test.YtmlopkkbgpfdnabGreatM11
import Derived.Test.YtmlopkkbgpfdnabGreatM12
import Derived.Test.YtmlopkkbgpfdnabGreatM13
import Derived.Test.YtmlopkkbgpfdnabGreatM14
import Derived.Test.YtmlopkkbgpfdnabGreatM1
namespace Go.Proofs.YtmlopkkbgpfdnabGreat
open Go.RowKit

/-- what an operation of two Rats answers -/
def RA (ok : Bool) (N D x y er : Int) : Prop :=
  (ok = false ∧ x = 0 ∧ y = 0 ∧ er = 2) ∨
  (ok = true ∧ ((dig N.natAbs).length ≤ 256 ∧ (dig D.natAbs).length ≤ 256) ∧ x = N ∧ y = D ∧ er = 0) ∨
  (ok = true ∧ ¬ ((dig N.natAbs).length ≤ 256 ∧ (dig D.natAbs).length ≤ 256) ∧ x = 0 ∧ y = 0 ∧ er = 5)
theorem vldR_lens {p q : Bool} {l l' : List Nat} (h : vldR p q l l' = true) (o1 : Ok l) (o2 : Ok l') : numOf q l' ≠ 0 ∧ Lf (numOf p l) (numOf q l') 300 := by
  obtain ⟨h1, h2, h3, -⟩ := vldR_parts h
  refine ⟨by omega, ?_, ?_⟩
  · rw [vld_dig o1 h1]; have := vld_len h1; omega
  · rw [vld_dig o2 h2]; have := vld_len h2; omega
set_option maxHeartbeats 800000 in
set_option maxRecDepth 100000 in
theorem combineRats22_u (p q p2 q2 : Bool) (A A' A2 A2' : Option Addr) (n c n' c' n2 c2 n2' c2' : Nat) (l l' k k' : List Nat) (w : World) (hx : Wd w (.slice A n c) l) (hy : Wd w (.slice A' n' c') l') (hx2 : Wd w (.slice A2 n2 c2) k) (hy2 : Wd w (.slice A2' n2' c2') k')  :
    Calls Tryz.prog 50 #[.agg #[.bool p, .slice A n c, .bool q, .slice A' n' c'], .agg #[.bool p2, .slice A2 n2 c2, .bool q2, .slice A2' n2' c2'], .func (.func 51) #[] #[]] w fun e w' => ∃ x y er, RA (vldR p q l l' && vldR p2 q2 k k') ((numOf p l * numOf q2 k' + numOf p2 k * numOf q l') / nfg ((numOf p l * numOf q2 k' + numOf p2 k * numOf q l')) ((numOf q l' * numOf q2 k'))) ((numOf q l' * numOf q2 k') / nfg ((numOf p l * numOf q2 k' + numOf p2 k * numOf q l')) ((numOf q l' * numOf q2 k'))) x y er ∧ RetR w x y er e w' := by
  by_cases h : (vldR p q l l' && vldR p2 q2 k k') = true
  · have h' := h
    simp only [Bool.and_eq_true] at h'
    obtain ⟨a1, a2⟩ := vldR_lens h'.1 hx.ok hy.ok
    obtain ⟨b1, b2⟩ := vldR_lens h'.2 hx2.ok hy2.ok
    have hop : ∀ W u u', FV W u (numOf p l) (numOf q l') → FV W u' (numOf p2 k) (numOf q2 k') → Calls Tryz.prog 51 #[u, u'] W (RetF W ((numOf p l * numOf q2 k' + numOf p2 k * numOf q l') / nfg ((numOf p l * numOf q2 k' + numOf p2 k * numOf q l')) ((numOf q l' * numOf q2 k'))) ((numOf q l' * numOf q2 k') / nfg ((numOf p l * numOf q2 k' + numOf p2 k * numOf q l')) ((numOf q l' * numOf q2 k')))) := fun W u u' f g => plusF_any _ _ _ _ u u' W f g a2 b2 a1 b1
    by_cases hf : (dig ((numOf p l * numOf q2 k' + numOf p2 k * numOf q l') / nfg ((numOf p l * numOf q2 k' + numOf p2 k * numOf q l')) ((numOf q l' * numOf q2 k'))).natAbs).length ≤ 256 ∧ (dig ((numOf q l' * numOf q2 k') / nfg ((numOf p l * numOf q2 k' + numOf p2 k * numOf q l')) ((numOf q l' * numOf q2 k'))).natAbs).length ≤ 256
    · exact (combineRats22_fit p q p2 q2 A A' A2 A2' n c n' c' n2 c2 n2' c2' l l' k k' w hx hy hx2 hy2 _ _ h'.1 h'.2 hop hf).mono fun e w' r => ⟨_, _, _, .inr (.inl ⟨h, hf, rfl, rfl, rfl⟩), r⟩
    · exact (combineRats22_big p q p2 q2 A A' A2 A2' n c n' c' n2 c2 n2' c2' l l' k k' w hx hy hx2 hy2 _ _ h'.1 h'.2 hop hf).mono fun e w' r => ⟨_, _, _, .inr (.inr ⟨h, hf, rfl, rfl, rfl⟩), r⟩
  · have h : (vldR p q l l' && vldR p2 q2 k k') = false := by simpa using h
    exact (combineRats_no p q p2 q2 A A' A2 A2' n c n' c' n2 c2 n2' c2' l l' k k' w hx hy hx2 hy2 _ h).mono fun e w' r => ⟨_, _, _, .inl ⟨h, rfl, rfl, rfl⟩, r⟩
set_option maxHeartbeats 800000 in
set_option maxRecDepth 100000 in
theorem combineRats25_u (p q p2 q2 : Bool) (A A' A2 A2' : Option Addr) (n c n' c' n2 c2 n2' c2' : Nat) (l l' k k' : List Nat) (w : World) (hx : Wd w (.slice A n c) l) (hy : Wd w (.slice A' n' c') l') (hx2 : Wd w (.slice A2 n2 c2) k) (hy2 : Wd w (.slice A2' n2' c2') k')  :
    Calls Tryz.prog 50 #[.agg #[.bool p, .slice A n c, .bool q, .slice A' n' c'], .agg #[.bool p2, .slice A2 n2 c2, .bool q2, .slice A2' n2' c2'], .func (.func 56) #[] #[]] w fun e w' => ∃ x y er, RA (vldR p q l l' && vldR p2 q2 k k') ((numOf p l * numOf p2 k) / nfg ((numOf p l * numOf p2 k)) ((numOf q l' * numOf q2 k'))) ((numOf q l' * numOf q2 k') / nfg ((numOf p l * numOf p2 k)) ((numOf q l' * numOf q2 k'))) x y er ∧ RetR w x y er e w' := by
  by_cases h : (vldR p q l l' && vldR p2 q2 k k') = true
  · have h' := h
    simp only [Bool.and_eq_true] at h'
    obtain ⟨a1, a2⟩ := vldR_lens h'.1 hx.ok hy.ok
    obtain ⟨b1, b2⟩ := vldR_lens h'.2 hx2.ok hy2.ok
    have hop : ∀ W u u', FV W u (numOf p l) (numOf q l') → FV W u' (numOf p2 k) (numOf q2 k') → Calls Tryz.prog 56 #[u, u'] W (RetF W ((numOf p l * numOf p2 k) / nfg ((numOf p l * numOf p2 k)) ((numOf q l' * numOf q2 k'))) ((numOf q l' * numOf q2 k') / nfg ((numOf p l * numOf p2 k)) ((numOf q l' * numOf q2 k')))) := fun W u u' f g => timesF_any _ _ _ _ u u' W f g a2 b2 a1 b1
    by_cases hf : (dig ((numOf p l * numOf p2 k) / nfg ((numOf p l * numOf p2 k)) ((numOf q l' * numOf q2 k'))).natAbs).length ≤ 256 ∧ (dig ((numOf q l' * numOf q2 k') / nfg ((numOf p l * numOf p2 k)) ((numOf q l' * numOf q2 k'))).natAbs).length ≤ 256
    · exact (combineRats25_fit p q p2 q2 A A' A2 A2' n c n' c' n2 c2 n2' c2' l l' k k' w hx hy hx2 hy2 _ _ h'.1 h'.2 hop hf).mono fun e w' r => ⟨_, _, _, .inr (.inl ⟨h, hf, rfl, rfl, rfl⟩), r⟩
    · exact (combineRats25_big p q p2 q2 A A' A2 A2' n c n' c' n2 c2 n2' c2' l l' k k' w hx hy hx2 hy2 _ _ h'.1 h'.2 hop hf).mono fun e w' r => ⟨_, _, _, .inr (.inr ⟨h, hf, rfl, rfl, rfl⟩), r⟩
  · have h : (vldR p q l l' && vldR p2 q2 k k') = false := by simpa using h
    exact (combineRats_no p q p2 q2 A A' A2 A2' n c n' c' n2 c2 n2' c2' l l' k k' w hx hy hx2 hy2 _ h).mono fun e w' r => ⟨_, _, _, .inl ⟨h, rfl, rfl, rfl⟩, r⟩
set_option maxHeartbeats 800000 in
set_option maxRecDepth 100000 in
theorem combineRats29_u (p q p2 q2 : Bool) (A A' A2 A2' : Option Addr) (n c n' c' n2 c2 n2' c2' : Nat) (l l' k k' : List Nat) (w : World) (hx : Wd w (.slice A n c) l) (hy : Wd w (.slice A' n' c') l') (hx2 : Wd w (.slice A2 n2 c2) k) (hy2 : Wd w (.slice A2' n2' c2') k') (hu : numOf p2 k ≠ 0) :
    Calls Tryz.prog 50 #[.agg #[.bool p, .slice A n c, .bool q, .slice A' n' c'], .agg #[.bool p2, .slice A2 n2 c2, .bool q2, .slice A2' n2' c2'], .func (.func 58) #[] #[]] w fun e w' => ∃ x y er, RA (vldR p q l l' && vldR p2 q2 k k') ((numOf p l * numOf q2 k') / nfg ((numOf p l * numOf q2 k')) ((numOf q l' * numOf p2 k))) ((numOf q l' * numOf p2 k) / nfg ((numOf p l * numOf q2 k')) ((numOf q l' * numOf p2 k))) x y er ∧ RetR w x y er e w' := by
  by_cases h : (vldR p q l l' && vldR p2 q2 k k') = true
  · have h' := h
    simp only [Bool.and_eq_true] at h'
    obtain ⟨a1, a2⟩ := vldR_lens h'.1 hx.ok hy.ok
    obtain ⟨b1, b2⟩ := vldR_lens h'.2 hx2.ok hy2.ok
    have hop : ∀ W u u', FV W u (numOf p l) (numOf q l') → FV W u' (numOf p2 k) (numOf q2 k') → Calls Tryz.prog 58 #[u, u'] W (RetF W ((numOf p l * numOf q2 k') / nfg ((numOf p l * numOf q2 k')) ((numOf q l' * numOf p2 k))) ((numOf q l' * numOf p2 k) / nfg ((numOf p l * numOf q2 k')) ((numOf q l' * numOf p2 k)))) := fun W u u' f g => overF_any _ _ _ _ u u' W f g a2 b2 a1 hu
    by_cases hf : (dig ((numOf p l * numOf q2 k') / nfg ((numOf p l * numOf q2 k')) ((numOf q l' * numOf p2 k))).natAbs).length ≤ 256 ∧ (dig ((numOf q l' * numOf p2 k) / nfg ((numOf p l * numOf q2 k')) ((numOf q l' * numOf p2 k))).natAbs).length ≤ 256
    · exact (combineRats29_fit p q p2 q2 A A' A2 A2' n c n' c' n2 c2 n2' c2' l l' k k' w hx hy hx2 hy2 _ _ h'.1 h'.2 hop hf).mono fun e w' r => ⟨_, _, _, .inr (.inl ⟨h, hf, rfl, rfl, rfl⟩), r⟩
    · exact (combineRats29_big p q p2 q2 A A' A2 A2' n c n' c' n2 c2 n2' c2' l l' k k' w hx hy hx2 hy2 _ _ h'.1 h'.2 hop hf).mono fun e w' r => ⟨_, _, _, .inr (.inr ⟨h, hf, rfl, rfl, rfl⟩), r⟩
  · have h : (vldR p q l l' && vldR p2 q2 k k') = false := by simpa using h
    exact (combineRats_no p q p2 q2 A A' A2 A2' n c n' c' n2 c2 n2' c2' l l' k k' w hx hy hx2 hy2 _ h).mono fun e w' r => ⟨_, _, _, .inl ⟨h, rfl, rfl, rfl⟩, r⟩
set_option maxHeartbeats 800000 in
set_option maxRecDepth 100000 in
theorem combineRats30_u (p q p2 q2 : Bool) (A A' A2 A2' : Option Addr) (n c n' c' n2 c2 n2' c2' : Nat) (l l' k k' : List Nat) (w : World) (hx : Wd w (.slice A n c) l) (hy : Wd w (.slice A' n' c') l') (hx2 : Wd w (.slice A2 n2 c2) k) (hy2 : Wd w (.slice A2' n2' c2') k')  :
    Calls Tryz.prog 50 #[.agg #[.bool p, .slice A n c, .bool q, .slice A' n' c'], .agg #[.bool p2, .slice A2 n2 c2, .bool q2, .slice A2' n2' c2'], .func (.func 54) #[] #[]] w fun e w' => ∃ x y er, RA (vldR p q l l' && vldR p2 q2 k k') ((numOf p l * numOf q2 k' + -(numOf p2 k) * numOf q l') / nfg ((numOf p l * numOf q2 k' + -(numOf p2 k) * numOf q l')) ((numOf q l' * numOf q2 k'))) ((numOf q l' * numOf q2 k') / nfg ((numOf p l * numOf q2 k' + -(numOf p2 k) * numOf q l')) ((numOf q l' * numOf q2 k'))) x y er ∧ RetR w x y er e w' := by
  by_cases h : (vldR p q l l' && vldR p2 q2 k k') = true
  · have h' := h
    simp only [Bool.and_eq_true] at h'
    obtain ⟨a1, a2⟩ := vldR_lens h'.1 hx.ok hy.ok
    obtain ⟨b1, b2⟩ := vldR_lens h'.2 hx2.ok hy2.ok
    have hop : ∀ W u u', FV W u (numOf p l) (numOf q l') → FV W u' (numOf p2 k) (numOf q2 k') → Calls Tryz.prog 54 #[u, u'] W (RetF W ((numOf p l * numOf q2 k' + -(numOf p2 k) * numOf q l') / nfg ((numOf p l * numOf q2 k' + -(numOf p2 k) * numOf q l')) ((numOf q l' * numOf q2 k'))) ((numOf q l' * numOf q2 k') / nfg ((numOf p l * numOf q2 k' + -(numOf p2 k) * numOf q l')) ((numOf q l' * numOf q2 k')))) := fun W u u' f g => minusF_any _ _ _ _ u u' W f g a2 b2 a1 b1
    by_cases hf : (dig ((numOf p l * numOf q2 k' + -(numOf p2 k) * numOf q l') / nfg ((numOf p l * numOf q2 k' + -(numOf p2 k) * numOf q l')) ((numOf q l' * numOf q2 k'))).natAbs).length ≤ 256 ∧ (dig ((numOf q l' * numOf q2 k') / nfg ((numOf p l * numOf q2 k' + -(numOf p2 k) * numOf q l')) ((numOf q l' * numOf q2 k'))).natAbs).length ≤ 256
    · exact (combineRats30_fit p q p2 q2 A A' A2 A2' n c n' c' n2 c2 n2' c2' l l' k k' w hx hy hx2 hy2 _ _ h'.1 h'.2 hop hf).mono fun e w' r => ⟨_, _, _, .inr (.inl ⟨h, hf, rfl, rfl, rfl⟩), r⟩
    · exact (combineRats30_big p q p2 q2 A A' A2 A2' n c n' c' n2 c2 n2' c2' l l' k k' w hx hy hx2 hy2 _ _ h'.1 h'.2 hop hf).mono fun e w' r => ⟨_, _, _, .inr (.inr ⟨h, hf, rfl, rfl, rfl⟩), r⟩
  · have h : (vldR p q l l' && vldR p2 q2 k k') = false := by simpa using h
    exact (combineRats_no p q p2 q2 A A' A2 A2' n c n' c' n2 c2 n2' c2' l l' k k' w hx hy hx2 hy2 _ h).mono fun e w' r => ⟨_, _, _, .inl ⟨h, rfl, rfl, rfl⟩, r⟩
set_option maxHeartbeats 800000 in
set_option maxRecDepth 100000 in
theorem ratAdd_u (p q p2 q2 : Bool) (A A' A2 A2' : Option Addr) (n c n' c' n2 c2 n2' c2' : Nat) (l l' k k' : List Nat) (w : World) (hx : Wd w (.slice A n c) l) (hy : Wd w (.slice A' n' c') l') (hx2 : Wd w (.slice A2 n2 c2) k) (hy2 : Wd w (.slice A2' n2' c2') k') :
    Calls Tryz.prog 12 #[.agg #[.bool p, .slice A n c, .bool q, .slice A' n' c'], .agg #[.bool p2, .slice A2 n2 c2, .bool q2, .slice A2' n2' c2']] w fun e w' => ∃ x y er, RA (vldR p q l l' && vldR p2 q2 k k') ((numOf p l * numOf q2 k' + numOf p2 k * numOf q l') / nfg ((numOf p l * numOf q2 k' + numOf p2 k * numOf q l')) ((numOf q l' * numOf q2 k'))) ((numOf q l' * numOf q2 k') / nfg ((numOf p l * numOf q2 k' + numOf p2 k * numOf q l')) ((numOf q l' * numOf q2 k'))) x y er ∧ RetR w x y er e w' := by
  obtain ⟨W0, hW0, h1, h2, r4, e0, s0⟩ := three_fb p q p2 q2 A A' A2 A2' n c n' c' n2 c2 n2' c2' l l' k k' w hx hy hx2 hy2
  have OPC := Lib.hid (combineRats22_u p q p2 q2 A A' A2 A2' n c n' c' n2 c2 n2' c2' l l' k k' W0 h1.w1 h1.w2 h2.w1 h2.w2)
  obtain ⟨N, hN⟩ : ∃ N, N = (numOf p l * numOf q2 k' + numOf p2 k * numOf q l') / nfg ((numOf p l * numOf q2 k' + numOf p2 k * numOf q l')) ((numOf q l' * numOf q2 k')) := ⟨_, rfl⟩
  obtain ⟨D, hD⟩ : ∃ D, D = (numOf q l' * numOf q2 k') / nfg ((numOf p l * numOf q2 k' + numOf p2 k * numOf q l')) ((numOf q l' * numOf q2 k')) := ⟨_, rfl⟩
  rw [← hN, ← hD] at OPC
  rw [← hN, ← hD]
  have R4 := Lib.hid r4; have E0 := Lib.hid e0; have HW0 := Lib.hid hW0
  clear h1 h2 r4 e0 hW0 s0 hx hy hx2 hy2 hN hD
  go_enter Tryz.func12, Tryz.ntmps12
  go_wp2_with fail
  rw [← HW0.out]
  refine OPC.out.mono ?_
  rintro e W2 ⟨x, y, er, hra, b, B, m, d, b', B', m', d', rfl, y1, y2, x2⟩
  replace x2 : Ext W0 W2 := x2
  have HRA := Lib.hid hra
  clear hra OPC HW0
  have r4 := R4.out.ext x2
  obtain ⟨_, _, _, _, k40, k41, k42, k43, k44, k45, k46, k47⟩ := put4_walk r4 (.bool b) (.slice B m d) (.bool b')
  obtain ⟨W', hW'⟩ : ∃ W', W' = put4 W2 (w.heap.size + 1 + 1) (.bool b) (.slice B m d) (.bool b') (.slice B' m' d') := ⟨_, rfl⟩
  obtain ⟨f0, f1, f2, f3⟩ := put4_cells r4 (.bool b) (.slice B m d) (.bool b') (.slice B' m' d')
  have hz1 := (y1).put4 r4 (.bool b) (.slice B m d) (.bool b') (.slice B' m' d')
  rw [← hW'] at hz1
  have hz2 := (y2).put4 r4 (.bool b) (.slice B m d) (.bool b') (.slice B' m' d')
  rw [← hW'] at hz2
  have hbf : Below w.heap.size w W' := by rw [hW']; exact put4_below (Ext.below (E0.out.trans x2)) (by omega) (.bool b) (.slice B m d) (.bool b') (.slice B' m' d')
  rw [← hW'] at f0 f1 f2 f3
  unfold put4 at hW'
  have HG := Lib.hid (And.intro hz1 (And.intro hz2 (And.intro hbf (And.intro f0 (And.intro f1 (And.intro f2 f3))))))
  have HW' := Lib.hid hW'
  clear hz1 hz2 hbf f0 f1 f2 f3 hW'
  clear x2 r4 y1 y2
  go_wp2
  rw [← HW'.out]
  obtain ⟨hz1, hz2, hbf, f0, f1, f2, f3⟩ := HG.out
  exact bodyPost_ret (v := .tuple #[.agg #[.bool b, .slice B m d, .bool b', .slice B' m' d'], .int .i64 er]) (by simp [results, Tryz.results12, go_sem, f0, f1, f2, f3]) rfl ⟨x, y, er, HRA.out, _, _, _, _, _, _, _, _, rfl, hz1, hz2, hbf⟩
set_option maxHeartbeats 800000 in
set_option maxRecDepth 100000 in
theorem ratSub_u (p q p2 q2 : Bool) (A A' A2 A2' : Option Addr) (n c n' c' n2 c2 n2' c2' : Nat) (l l' k k' : List Nat) (w : World) (hx : Wd w (.slice A n c) l) (hy : Wd w (.slice A' n' c') l') (hx2 : Wd w (.slice A2 n2 c2) k) (hy2 : Wd w (.slice A2' n2' c2') k') :
    Calls Tryz.prog 15 #[.agg #[.bool p, .slice A n c, .bool q, .slice A' n' c'], .agg #[.bool p2, .slice A2 n2 c2, .bool q2, .slice A2' n2' c2']] w fun e w' => ∃ x y er, RA (vldR p q l l' && vldR p2 q2 k k') ((numOf p l * numOf q2 k' + -(numOf p2 k) * numOf q l') / nfg ((numOf p l * numOf q2 k' + -(numOf p2 k) * numOf q l')) ((numOf q l' * numOf q2 k'))) ((numOf q l' * numOf q2 k') / nfg ((numOf p l * numOf q2 k' + -(numOf p2 k) * numOf q l')) ((numOf q l' * numOf q2 k'))) x y er ∧ RetR w x y er e w' := by
  obtain ⟨W0, hW0, h1, h2, r4, e0, s0⟩ := three_fb p q p2 q2 A A' A2 A2' n c n' c' n2 c2 n2' c2' l l' k k' w hx hy hx2 hy2
  have OPC := Lib.hid (combineRats30_u p q p2 q2 A A' A2 A2' n c n' c' n2 c2 n2' c2' l l' k k' W0 h1.w1 h1.w2 h2.w1 h2.w2)
  obtain ⟨N, hN⟩ : ∃ N, N = (numOf p l * numOf q2 k' + -(numOf p2 k) * numOf q l') / nfg ((numOf p l * numOf q2 k' + -(numOf p2 k) * numOf q l')) ((numOf q l' * numOf q2 k')) := ⟨_, rfl⟩
  obtain ⟨D, hD⟩ : ∃ D, D = (numOf q l' * numOf q2 k') / nfg ((numOf p l * numOf q2 k' + -(numOf p2 k) * numOf q l')) ((numOf q l' * numOf q2 k')) := ⟨_, rfl⟩
  rw [← hN, ← hD] at OPC
  rw [← hN, ← hD]
  have R4 := Lib.hid r4; have E0 := Lib.hid e0; have HW0 := Lib.hid hW0
  clear h1 h2 r4 e0 hW0 s0 hx hy hx2 hy2 hN hD
  go_enter Tryz.func15, Tryz.ntmps15
  go_wp2_with fail
  rw [← HW0.out]
  refine OPC.out.mono ?_
  rintro e W2 ⟨x, y, er, hra, b, B, m, d, b', B', m', d', rfl, y1, y2, x2⟩
  replace x2 : Ext W0 W2 := x2
  have HRA := Lib.hid hra
  clear hra OPC HW0
  have r4 := R4.out.ext x2
  obtain ⟨_, _, _, _, k40, k41, k42, k43, k44, k45, k46, k47⟩ := put4_walk r4 (.bool b) (.slice B m d) (.bool b')
  obtain ⟨W', hW'⟩ : ∃ W', W' = put4 W2 (w.heap.size + 1 + 1) (.bool b) (.slice B m d) (.bool b') (.slice B' m' d') := ⟨_, rfl⟩
  obtain ⟨f0, f1, f2, f3⟩ := put4_cells r4 (.bool b) (.slice B m d) (.bool b') (.slice B' m' d')
  have hz1 := (y1).put4 r4 (.bool b) (.slice B m d) (.bool b') (.slice B' m' d')
  rw [← hW'] at hz1
  have hz2 := (y2).put4 r4 (.bool b) (.slice B m d) (.bool b') (.slice B' m' d')
  rw [← hW'] at hz2
  have hbf : Below w.heap.size w W' := by rw [hW']; exact put4_below (Ext.below (E0.out.trans x2)) (by omega) (.bool b) (.slice B m d) (.bool b') (.slice B' m' d')
  rw [← hW'] at f0 f1 f2 f3
  unfold put4 at hW'
  have HG := Lib.hid (And.intro hz1 (And.intro hz2 (And.intro hbf (And.intro f0 (And.intro f1 (And.intro f2 f3))))))
  have HW' := Lib.hid hW'
  clear hz1 hz2 hbf f0 f1 f2 f3 hW'
  clear x2 r4 y1 y2
  go_wp2
  rw [← HW'.out]
  obtain ⟨hz1, hz2, hbf, f0, f1, f2, f3⟩ := HG.out
  exact bodyPost_ret (v := .tuple #[.agg #[.bool b, .slice B m d, .bool b', .slice B' m' d'], .int .i64 er]) (by simp [results, Tryz.results15, go_sem, f0, f1, f2, f3]) rfl ⟨x, y, er, HRA.out, _, _, _, _, _, _, _, _, rfl, hz1, hz2, hbf⟩
set_option maxHeartbeats 800000 in
set_option maxRecDepth 100000 in
theorem ratMul_u (p q p2 q2 : Bool) (A A' A2 A2' : Option Addr) (n c n' c' n2 c2 n2' c2' : Nat) (l l' k k' : List Nat) (w : World) (hx : Wd w (.slice A n c) l) (hy : Wd w (.slice A' n' c') l') (hx2 : Wd w (.slice A2 n2 c2) k) (hy2 : Wd w (.slice A2' n2' c2') k') :
    Calls Tryz.prog 17 #[.agg #[.bool p, .slice A n c, .bool q, .slice A' n' c'], .agg #[.bool p2, .slice A2 n2 c2, .bool q2, .slice A2' n2' c2']] w fun e w' => ∃ x y er, RA (vldR p q l l' && vldR p2 q2 k k') ((numOf p l * numOf p2 k) / nfg ((numOf p l * numOf p2 k)) ((numOf q l' * numOf q2 k'))) ((numOf q l' * numOf q2 k') / nfg ((numOf p l * numOf p2 k)) ((numOf q l' * numOf q2 k'))) x y er ∧ RetR w x y er e w' := by
  obtain ⟨W0, hW0, h1, h2, r4, e0, s0⟩ := three_fb p q p2 q2 A A' A2 A2' n c n' c' n2 c2 n2' c2' l l' k k' w hx hy hx2 hy2
  have OPC := Lib.hid (combineRats25_u p q p2 q2 A A' A2 A2' n c n' c' n2 c2 n2' c2' l l' k k' W0 h1.w1 h1.w2 h2.w1 h2.w2)
  obtain ⟨N, hN⟩ : ∃ N, N = (numOf p l * numOf p2 k) / nfg ((numOf p l * numOf p2 k)) ((numOf q l' * numOf q2 k')) := ⟨_, rfl⟩
  obtain ⟨D, hD⟩ : ∃ D, D = (numOf q l' * numOf q2 k') / nfg ((numOf p l * numOf p2 k)) ((numOf q l' * numOf q2 k')) := ⟨_, rfl⟩
  rw [← hN, ← hD] at OPC
  rw [← hN, ← hD]
  have R4 := Lib.hid r4; have E0 := Lib.hid e0; have HW0 := Lib.hid hW0
  clear h1 h2 r4 e0 hW0 s0 hx hy hx2 hy2 hN hD
  go_enter Tryz.func17, Tryz.ntmps17
  go_wp2_with fail
  rw [← HW0.out]
  refine OPC.out.mono ?_
  rintro e W2 ⟨x, y, er, hra, b, B, m, d, b', B', m', d', rfl, y1, y2, x2⟩
  replace x2 : Ext W0 W2 := x2
  have HRA := Lib.hid hra
  clear hra OPC HW0
  have r4 := R4.out.ext x2
  obtain ⟨_, _, _, _, k40, k41, k42, k43, k44, k45, k46, k47⟩ := put4_walk r4 (.bool b) (.slice B m d) (.bool b')
  obtain ⟨W', hW'⟩ : ∃ W', W' = put4 W2 (w.heap.size + 1 + 1) (.bool b) (.slice B m d) (.bool b') (.slice B' m' d') := ⟨_, rfl⟩
  obtain ⟨f0, f1, f2, f3⟩ := put4_cells r4 (.bool b) (.slice B m d) (.bool b') (.slice B' m' d')
  have hz1 := (y1).put4 r4 (.bool b) (.slice B m d) (.bool b') (.slice B' m' d')
  rw [← hW'] at hz1
  have hz2 := (y2).put4 r4 (.bool b) (.slice B m d) (.bool b') (.slice B' m' d')
  rw [← hW'] at hz2
  have hbf : Below w.heap.size w W' := by rw [hW']; exact put4_below (Ext.below (E0.out.trans x2)) (by omega) (.bool b) (.slice B m d) (.bool b') (.slice B' m' d')
  rw [← hW'] at f0 f1 f2 f3
  unfold put4 at hW'
  have HG := Lib.hid (And.intro hz1 (And.intro hz2 (And.intro hbf (And.intro f0 (And.intro f1 (And.intro f2 f3))))))
  have HW' := Lib.hid hW'
  clear hz1 hz2 hbf f0 f1 f2 f3 hW'
  clear x2 r4 y1 y2
  go_wp2
  rw [← HW'.out]
  obtain ⟨hz1, hz2, hbf, f0, f1, f2, f3⟩ := HG.out
  exact bodyPost_ret (v := .tuple #[.agg #[.bool b, .slice B m d, .bool b', .slice B' m' d'], .int .i64 er]) (by simp [results, Tryz.results17, go_sem, f0, f1, f2, f3]) rfl ⟨x, y, er, HRA.out, _, _, _, _, _, _, _, _, rfl, hz1, hz2, hbf⟩
set_option maxHeartbeats 800000 in
set_option maxRecDepth 100000 in
theorem ratDiv_no (p q p2 q2 : Bool) (A A' A2 A2' : Option Addr) (n c n' c' n2 c2 n2' c2' : Nat) (l l' k k' : List Nat) (w : World) (hx : Wd w (.slice A n c) l) (hy : Wd w (.slice A' n' c') l') (hx2 : Wd w (.slice A2 n2 c2) k) (hy2 : Wd w (.slice A2' n2' c2') k')  (hno : (vldR p q l l' && vldR p2 q2 k k') = false) :
    Calls Tryz.prog 19 #[.agg #[.bool p, .slice A n c, .bool q, .slice A' n' c'], .agg #[.bool p2, .slice A2 n2 c2, .bool q2, .slice A2' n2' c2']] w (RetR w 0 0 2) := by
  obtain ⟨W0, hW0, h1, h2, r4, e0, s0⟩ := three_fb p q p2 q2 A A' A2 A2' n c n' c' n2 c2 n2' c2' l l' k k' w hx hy hx2 hy2
  obtain ⟨W1, hW1⟩ : ∃ W1, W1 = W0.alloc (Obj.cells #[.bool p, .slice A n c, .bool q, .slice A' n' c', .bool p2, .slice A2 n2 c2, .bool q2, .slice A2' n2' c2'] 26) := ⟨_, rfl⟩
  have e1 : Ext W0 W1 := by rw [hW1]; exact (Ext.refl _).alc _
  have hs : W1.heap[w.heap.size + 1 + 1 + 1]? = some (.cells #[.bool p, .slice A n c, .bool q, .slice A' n' c', .bool p2, .slice A2 n2 c2, .bool q2, .slice A2' n2' c2'] 26 (0, 0)) := by
    have := heap_alloc_new W0 (Obj.cells #[.bool p, .slice A n c, .bool q, .slice A' n' c', .bool p2, .slice A2 n2 c2, .bool q2, .slice A2' n2' c2'] 26)
    rw [s0] at this
    rw [hW1]; exact this
  have AV := Lib.hid (allValidRats_two p q p2 q2 A A' A2 A2' n c n' c' n2 c2 n2' c2' l l' k k' w W1 _ (h1.ext e1).w1 (h1.ext e1).w2 (h2.ext e1).w1 (h2.ext e1).w2 hs)
  have HWA := Lib.hid hW1
  have H1 := Lib.hid (h1.ext e1); have H2 := Lib.hid (h2.ext e1); have R4 := Lib.hid (r4.ext e1); have E1 := Lib.hid (e0.trans e1); have HW0 := Lib.hid hW0
  have z1 : w.heap.size + 1 + 1 + 1 ≤ W1.heap.size := by have := e1.size; omega
  clear h1 h2 r4 e0 e1 s0 hs hW0 hW1 hx hy hx2 hy2
  go_enter Tryz.func19, Tryz.ntmps19
  go_wp2_with fail
  rw [← HW0.out, ← HWA.out]
  refine AV.out.mono ?_
  rintro e W2 ⟨rfl, x2⟩
  replace x2 : Ext W1 W2 := x2
  clear AV HW0 HWA
  rw [hno]
  have r4 := R4.out.ext x2
  obtain ⟨_, _, _, _, k40, k41, k42, k43, k44, k45, k46, k47⟩ := put4_walk r4 (.bool false) (.slice none 0 0) (.bool false)
  obtain ⟨W', hW'⟩ : ∃ W', W' = put4 W2 (w.heap.size + 1 + 1) (.bool false) (.slice none 0 0) (.bool false) (.slice none 0 0) := ⟨_, rfl⟩
  obtain ⟨f0, f1, f2, f3⟩ := put4_cells r4 (.bool false) (.slice none 0 0) (.bool false) (.slice none 0 0)
  have hz1 := ((show ZV W2 (.agg #[.bool false, .slice none 0 0]) 0 from ZV.zero W2)).put4 r4 (.bool false) (.slice none 0 0) (.bool false) (.slice none 0 0)
  rw [← hW'] at hz1
  have hz2 := ((show ZV W2 (.agg #[.bool false, .slice none 0 0]) 0 from ZV.zero W2)).put4 r4 (.bool false) (.slice none 0 0) (.bool false) (.slice none 0 0)
  rw [← hW'] at hz2
  have hbf : Below w.heap.size w W' := by rw [hW']; exact put4_below (Ext.below (E1.out.trans x2)) (by omega) (.bool false) (.slice none 0 0) (.bool false) (.slice none 0 0)
  rw [← hW'] at f0 f1 f2 f3
  unfold put4 at hW'
  have HG := Lib.hid (And.intro hz1 (And.intro hz2 (And.intro hbf (And.intro f0 (And.intro f1 (And.intro f2 f3))))))
  have HW' := Lib.hid hW'
  clear hz1 hz2 hbf f0 f1 f2 f3 hW'
  clear x2 r4
  go_wp2
  rw [← HW'.out]
  obtain ⟨hz1, hz2, hbf, f0, f1, f2, f3⟩ := HG.out
  exact bodyPost_ret (v := .tuple #[.agg #[.bool false, .slice none 0 0, .bool false, .slice none 0 0], .int .i64 2]) (by simp [results, Tryz.results19, go_sem, f0, f1, f2, f3]) rfl ⟨_, _, _, _, _, _, _, _, rfl, hz1, hz2, hbf⟩
set_option maxHeartbeats 800000 in
set_option maxRecDepth 100000 in
theorem ratDiv_zero (p q p2 q2 : Bool) (A A' A2 A2' : Option Addr) (n c n' c' n2 c2 n2' c2' : Nat) (l l' k k' : List Nat) (w : World) (hx : Wd w (.slice A n c) l) (hy : Wd w (.slice A' n' c') l') (hx2 : Wd w (.slice A2 n2 c2) k) (hy2 : Wd w (.slice A2' n2' c2') k') (hp : vldR p q l l' = true) (hq : vldR p2 q2 k k' = true) (h0 : numOf p2 k = 0) :
    Calls Tryz.prog 19 #[.agg #[.bool p, .slice A n c, .bool q, .slice A' n' c'], .agg #[.bool p2, .slice A2 n2 c2, .bool q2, .slice A2' n2' c2']] w (RetR w 0 0 4) := by
  obtain ⟨W0, hW0, h1, h2, r4, e0, s0⟩ := three_fb p q p2 q2 A A' A2 A2' n c n' c' n2 c2 n2' c2' l l' k k' w hx hy hx2 hy2
  obtain ⟨W1, hW1⟩ : ∃ W1, W1 = W0.alloc (Obj.cells #[.bool p, .slice A n c, .bool q, .slice A' n' c', .bool p2, .slice A2 n2 c2, .bool q2, .slice A2' n2' c2'] 26) := ⟨_, rfl⟩
  have e1 : Ext W0 W1 := by rw [hW1]; exact (Ext.refl _).alc _
  have hs : W1.heap[w.heap.size + 1 + 1 + 1]? = some (.cells #[.bool p, .slice A n c, .bool q, .slice A' n' c', .bool p2, .slice A2 n2 c2, .bool q2, .slice A2' n2' c2'] 26 (0, 0)) := by
    have := heap_alloc_new W0 (Obj.cells #[.bool p, .slice A n c, .bool q, .slice A' n' c', .bool p2, .slice A2 n2 c2, .bool q2, .slice A2' n2' c2'] 26)
    rw [s0] at this
    rw [hW1]; exact this
  have AV := Lib.hid (allValidRats_two p q p2 q2 A A' A2 A2' n c n' c' n2 c2 n2' c2' l l' k k' w W1 _ (h1.ext e1).w1 (h1.ext e1).w2 (h2.ext e1).w1 (h2.ext e1).w2 hs)
  have HWA := Lib.hid hW1
  have H1 := Lib.hid (h1.ext e1); have H2 := Lib.hid (h2.ext e1); have R4 := Lib.hid (r4.ext e1); have E1 := Lib.hid (e0.trans e1); have HW0 := Lib.hid hW0
  have z1 : w.heap.size + 1 + 1 + 1 ≤ W1.heap.size := by have := e1.size; omega
  obtain ⟨hv1, hv2, hv3, hv4⟩ := vldR_parts hp
  obtain ⟨hu1, hu2, hu3, hu4⟩ := vldR_parts hq
  have f0 := Lib.hid (h1.ext e1)
  have g0 := Lib.hid (h2.ext e1)
  have f2 := Lib.hid ((h2.ext e1).hf hu1 hu2)
  have hyes : (vldR p q l l' && vldR p2 q2 k k') = true := by rw [hp, hq]; rfl
  clear hv1 hv2 hv3 hv4 hu1 hu2 hu3 hu4
  obtain ⟨ux, hux⟩ : ∃ z, z = numOf p2 k := ⟨_, rfl⟩
  obtain ⟨uy, huy⟩ : ∃ z, z = numOf q2 k' := ⟨_, rfl⟩
  rw [← hux, ← huy] at f2
  have HUX := Lib.hid hux
  rw [← hux] at h0
  clear hux huy
  clear h1 h2 r4 e0 e1 s0 hs hW0 hW1 hx hy hx2 hy2
  go_enter Tryz.func19, Tryz.ntmps19
  go_wp2_with fail
  rw [← HW0.out, ← HWA.out]
  refine AV.out.mono ?_
  rintro e W2 ⟨rfl, x2⟩
  replace x2 : Ext W1 W2 := x2
  clear AV HW0 HWA
  rw [hyes]
  have F2 := Lib.hid (f2.out.ext x2); have G1 := Lib.hid (f0.out.ext x2); have G2 := Lib.hid (g0.out.ext x2); have R4 := Lib.hid (R4.out.ext x2); have E2 := Lib.hid (E1.out.trans x2)
  have lr := R4.out.lt
  clear x2 hyes H1 H2 f0 g0 f2 E1 hp hq z1
  go_upto_region 3 with fail
  obtain ⟨⟨b9, A9, n9, c9, j0, j1, jz⟩, ⟨b8, A8, n8, c8, i0, i1, iz⟩⟩ := F2.out
  have FO := Lib.hid (fractionOf_any ux uy _ _ (fv_mk jz iz))
  clear jz iz
  go_wp2_with fail
  refine FO.out.mono ?_
  rintro e W3 ⟨b, B, m, d, b', B', m', d', rfl, y1, y2, x3⟩
  replace x3 : Ext W2 W3 := x3
  have SG := Lib.hid (signZ_any ux _ _ y1)
  have fv : ∀ W, (Instr.field 72 (.agg #[.bool b, .slice B m d, .bool b', .slice B' m' d']) 0).run Tryz.prog W = .ok (.agg #[.bool b, .slice B m d]) W := fun W => by kernel_rfl
  have G1 := Lib.hid (G1.out.ext x3); have G2 := Lib.hid (G2.out.ext x3); have R4 := Lib.hid (R4.out.ext x3); have E3 := Lib.hid (E2.out.trans x3)
  clear x3 y1 y2 FO j0 j1 i0 i1 E2 F2
  go_wp2_with fail
  clear fv
  refine SG.out.mono ?_
  rintro e W4 ⟨rfl, x4⟩
  replace x4 : Ext W3 W4 := x4
  have G1 := Lib.hid (G1.out.ext x4); have G2 := Lib.hid (G2.out.ext x4); have R4 := Lib.hid (R4.out.ext x4); have E4 := Lib.hid (E3.out.trans x4)
  obtain ⟨sg, hsg⟩ : ∃ s, s = ux.sign := ⟨_, rfl⟩
  rw [← hsg]
  clear x4 SG E3
  have hs : (sg == 0) = true := by rw [hsg, h0]; rfl
  clear hsg h0
  have r4 := R4.out
  obtain ⟨_, _, _, _, k40, k41, k42, k43, k44, k45, k46, k47⟩ := put4_walk r4 (.bool false) (.slice none 0 0) (.bool false)
  obtain ⟨W', hW'⟩ : ∃ W', W' = put4 W4 (w.heap.size + 1 + 1) (.bool false) (.slice none 0 0) (.bool false) (.slice none 0 0) := ⟨_, rfl⟩
  obtain ⟨f0, f1, f2, f3⟩ := put4_cells r4 (.bool false) (.slice none 0 0) (.bool false) (.slice none 0 0)
  have hz1 := ((ZV.zero W4)).put4 r4 (.bool false) (.slice none 0 0) (.bool false) (.slice none 0 0)
  rw [← hW'] at hz1
  have hz2 := ((ZV.zero W4)).put4 r4 (.bool false) (.slice none 0 0) (.bool false) (.slice none 0 0)
  rw [← hW'] at hz2
  have hbf : Below w.heap.size w W' := by rw [hW']; exact put4_below (Ext.below E4.out) (by omega) (.bool false) (.slice none 0 0) (.bool false) (.slice none 0 0)
  rw [← hW'] at f0 f1 f2 f3
  unfold put4 at hW'
  have HG := Lib.hid (And.intro hz1 (And.intro hz2 (And.intro hbf (And.intro f0 (And.intro f1 (And.intro f2 f3))))))
  have HW' := Lib.hid hW'
  clear hz1 hz2 hbf f0 f1 f2 f3 hW'
  clear r4
  go_wp2
  rw [← HW'.out]
  obtain ⟨hz1, hz2, hbf, f0, f1, f2, f3⟩ := HG.out
  exact bodyPost_ret (v := .tuple #[.agg #[.bool false, .slice none 0 0, .bool false, .slice none 0 0], .int .i64 4]) (by simp [results, Tryz.results19, go_sem, f0, f1, f2, f3]) rfl ⟨_, _, _, _, _, _, _, _, rfl, hz1, hz2, hbf⟩
set_option maxHeartbeats 800000 in
set_option maxRecDepth 100000 in
theorem ratDiv_yes (p q p2 q2 : Bool) (A A' A2 A2' : Option Addr) (n c n' c' n2 c2 n2' c2' : Nat) (l l' k k' : List Nat) (w : World) (hx : Wd w (.slice A n c) l) (hy : Wd w (.slice A' n' c') l') (hx2 : Wd w (.slice A2 n2 c2) k) (hy2 : Wd w (.slice A2' n2' c2') k') (hp : vldR p q l l' = true) (hq : vldR p2 q2 k k' = true) (h0 : numOf p2 k ≠ 0) :
    Calls Tryz.prog 19 #[.agg #[.bool p, .slice A n c, .bool q, .slice A' n' c'], .agg #[.bool p2, .slice A2 n2 c2, .bool q2, .slice A2' n2' c2']] w fun e w' => ∃ x y er, RA (vldR p q l l' && vldR p2 q2 k k') ((numOf p l * numOf q2 k') / nfg ((numOf p l * numOf q2 k')) ((numOf q l' * numOf p2 k))) ((numOf q l' * numOf p2 k) / nfg ((numOf p l * numOf q2 k')) ((numOf q l' * numOf p2 k))) x y er ∧ RetR w x y er e w' := by
  obtain ⟨N, hN⟩ : ∃ N, N = (numOf p l * numOf q2 k') / nfg ((numOf p l * numOf q2 k')) ((numOf q l' * numOf p2 k)) := ⟨_, rfl⟩
  obtain ⟨D, hD⟩ : ∃ D, D = (numOf q l' * numOf p2 k) / nfg ((numOf p l * numOf q2 k')) ((numOf q l' * numOf p2 k)) := ⟨_, rfl⟩
  have OPC := Lib.hid (show ∀ W, Wd W (.slice A n c) l → Wd W (.slice A' n' c') l' → Wd W (.slice A2 n2 c2) k → Wd W (.slice A2' n2' c2') k' → Calls Tryz.prog 50 #[.agg #[.bool p, .slice A n c, .bool q, .slice A' n' c'], .agg #[.bool p2, .slice A2 n2 c2, .bool q2, .slice A2' n2' c2'], .func (.func 58) #[] #[]] W fun e w' => ∃ x y er, RA (vldR p q l l' && vldR p2 q2 k k') N D x y er ∧ RetR W x y er e w' from fun W ha hb hc hd => by rw [hN, hD]; exact combineRats29_u p q p2 q2 A A' A2 A2' n c n' c' n2 c2 n2' c2' l l' k k' W ha hb hc hd h0)
  rw [← hN, ← hD]
  clear hN hD
  obtain ⟨W0, hW0, h1, h2, r4, e0, s0⟩ := three_fb p q p2 q2 A A' A2 A2' n c n' c' n2 c2 n2' c2' l l' k k' w hx hy hx2 hy2
  obtain ⟨W1, hW1⟩ : ∃ W1, W1 = W0.alloc (Obj.cells #[.bool p, .slice A n c, .bool q, .slice A' n' c', .bool p2, .slice A2 n2 c2, .bool q2, .slice A2' n2' c2'] 26) := ⟨_, rfl⟩
  have e1 : Ext W0 W1 := by rw [hW1]; exact (Ext.refl _).alc _
  have hs : W1.heap[w.heap.size + 1 + 1 + 1]? = some (.cells #[.bool p, .slice A n c, .bool q, .slice A' n' c', .bool p2, .slice A2 n2 c2, .bool q2, .slice A2' n2' c2'] 26 (0, 0)) := by
    have := heap_alloc_new W0 (Obj.cells #[.bool p, .slice A n c, .bool q, .slice A' n' c', .bool p2, .slice A2 n2 c2, .bool q2, .slice A2' n2' c2'] 26)
    rw [s0] at this
    rw [hW1]; exact this
  have AV := Lib.hid (allValidRats_two p q p2 q2 A A' A2 A2' n c n' c' n2 c2 n2' c2' l l' k k' w W1 _ (h1.ext e1).w1 (h1.ext e1).w2 (h2.ext e1).w1 (h2.ext e1).w2 hs)
  have HWA := Lib.hid hW1
  have H1 := Lib.hid (h1.ext e1); have H2 := Lib.hid (h2.ext e1); have R4 := Lib.hid (r4.ext e1); have E1 := Lib.hid (e0.trans e1); have HW0 := Lib.hid hW0
  have z1 : w.heap.size + 1 + 1 + 1 ≤ W1.heap.size := by have := e1.size; omega
  obtain ⟨hv1, hv2, hv3, hv4⟩ := vldR_parts hp
  obtain ⟨hu1, hu2, hu3, hu4⟩ := vldR_parts hq
  have f0 := Lib.hid (h1.ext e1)
  have g0 := Lib.hid (h2.ext e1)
  have f2 := Lib.hid ((h2.ext e1).hf hu1 hu2)
  have hyes : (vldR p q l l' && vldR p2 q2 k k') = true := by rw [hp, hq]; rfl
  clear hv1 hv2 hv3 hv4 hu1 hu2 hu3 hu4
  obtain ⟨ux, hux⟩ : ∃ z, z = numOf p2 k := ⟨_, rfl⟩
  obtain ⟨uy, huy⟩ : ∃ z, z = numOf q2 k' := ⟨_, rfl⟩
  rw [← hux, ← huy] at f2
  have HUX := Lib.hid hux
  rw [← hux] at h0
  clear hux huy
  clear h1 h2 r4 e0 e1 s0 hs hW0 hW1 hx hy hx2 hy2
  go_enter Tryz.func19, Tryz.ntmps19
  go_wp2_with fail
  rw [← HW0.out, ← HWA.out]
  refine AV.out.mono ?_
  rintro e W2 ⟨rfl, x2⟩
  replace x2 : Ext W1 W2 := x2
  clear AV HW0 HWA
  rw [hyes]
  have F2 := Lib.hid (f2.out.ext x2); have G1 := Lib.hid (f0.out.ext x2); have G2 := Lib.hid (g0.out.ext x2); have R4 := Lib.hid (R4.out.ext x2); have E2 := Lib.hid (E1.out.trans x2)
  have lr := R4.out.lt
  clear x2 hyes H1 H2 f0 g0 f2 E1 hp hq z1
  go_upto_region 3 with fail
  obtain ⟨⟨b9, A9, n9, c9, j0, j1, jz⟩, ⟨b8, A8, n8, c8, i0, i1, iz⟩⟩ := F2.out
  have FO := Lib.hid (fractionOf_any ux uy _ _ (fv_mk jz iz))
  clear jz iz
  go_wp2_with fail
  refine FO.out.mono ?_
  rintro e W3 ⟨b, B, m, d, b', B', m', d', rfl, y1, y2, x3⟩
  replace x3 : Ext W2 W3 := x3
  have SG := Lib.hid (signZ_any ux _ _ y1)
  have fv : ∀ W, (Instr.field 72 (.agg #[.bool b, .slice B m d, .bool b', .slice B' m' d']) 0).run Tryz.prog W = .ok (.agg #[.bool b, .slice B m d]) W := fun W => by kernel_rfl
  have G1 := Lib.hid (G1.out.ext x3); have G2 := Lib.hid (G2.out.ext x3); have R4 := Lib.hid (R4.out.ext x3); have E3 := Lib.hid (E2.out.trans x3)
  clear x3 y1 y2 FO j0 j1 i0 i1 E2 F2
  go_wp2_with fail
  clear fv
  refine SG.out.mono ?_
  rintro e W4 ⟨rfl, x4⟩
  replace x4 : Ext W3 W4 := x4
  have G1 := Lib.hid (G1.out.ext x4); have G2 := Lib.hid (G2.out.ext x4); have R4 := Lib.hid (R4.out.ext x4); have E4 := Lib.hid (E3.out.trans x4)
  obtain ⟨sg, hsg⟩ : ∃ s, s = ux.sign := ⟨_, rfl⟩
  rw [← hsg]
  clear x4 SG E3
  have hs : (sg == 0) = false := by
    have : sg ≠ 0 := by rw [hsg]; exact fun h => h0 (Int.sign_eq_zero_iff_zero.1 h)
    simpa using this
  clear hsg h0
  have k0 := G1.out.k0; have k1 := G1.out.k1; have k2 := G1.out.k2; have k3 := G1.out.k3
  have j0 := G2.out.k0; have j1 := G2.out.k1; have j2 := G2.out.k2; have j3 := G2.out.k3
  go_wp2_with fail
  refine (OPC.out _ G1.out.w1 G1.out.w2 G2.out.w1 G2.out.w2).mono ?_
  rintro e W5 ⟨x, y, er, hra, b, B, m, d, b', B', m', d', rfl, y1, y2, x5⟩
  replace x5 : Ext W4 W5 := x5
  have HRA := Lib.hid hra
  clear hra OPC k0 k1 k2 k3 j0 j1 j2 j3
  have r4 := R4.out.ext x5
  obtain ⟨_, _, _, _, k40, k41, k42, k43, k44, k45, k46, k47⟩ := put4_walk r4 (.bool b) (.slice B m d) (.bool b')
  obtain ⟨W', hW'⟩ : ∃ W', W' = put4 W5 (w.heap.size + 1 + 1) (.bool b) (.slice B m d) (.bool b') (.slice B' m' d') := ⟨_, rfl⟩
  obtain ⟨f0, f1, f2, f3⟩ := put4_cells r4 (.bool b) (.slice B m d) (.bool b') (.slice B' m' d')
  have hz1 := (y1).put4 r4 (.bool b) (.slice B m d) (.bool b') (.slice B' m' d')
  rw [← hW'] at hz1
  have hz2 := (y2).put4 r4 (.bool b) (.slice B m d) (.bool b') (.slice B' m' d')
  rw [← hW'] at hz2
  have hbf : Below w.heap.size w W' := by rw [hW']; exact put4_below (Ext.below (E4.out.trans x5)) (by omega) (.bool b) (.slice B m d) (.bool b') (.slice B' m' d')
  rw [← hW'] at f0 f1 f2 f3
  unfold put4 at hW'
  have HG := Lib.hid (And.intro hz1 (And.intro hz2 (And.intro hbf (And.intro f0 (And.intro f1 (And.intro f2 f3))))))
  have HW' := Lib.hid hW'
  clear hz1 hz2 hbf f0 f1 f2 f3 hW'
  clear x5 r4 y1 y2
  go_wp2
  rw [← HW'.out]
  obtain ⟨hz1, hz2, hbf, f0, f1, f2, f3⟩ := HG.out
  exact bodyPost_ret (v := .tuple #[.agg #[.bool b, .slice B m d, .bool b', .slice B' m' d'], .int .i64 er]) (by simp [results, Tryz.results19, go_sem, f0, f1, f2, f3]) rfl ⟨x, y, er, HRA.out, _, _, _, _, _, _, _, _, rfl, hz1, hz2, hbf⟩
/-- what RatDiv answers -/
def RD (ok : Bool) (u N D x y er : Int) : Prop := (ok = true ∧ u = 0 ∧ x = 0 ∧ y = 0 ∧ er = 4) ∨ (¬ (ok = true ∧ u = 0) ∧ RA ok N D x y er)
theorem ratDiv_u (p q p2 q2 : Bool) (A A' A2 A2' : Option Addr) (n c n' c' n2 c2 n2' c2' : Nat) (l l' k k' : List Nat) (w : World) (hx : Wd w (.slice A n c) l) (hy : Wd w (.slice A' n' c') l') (hx2 : Wd w (.slice A2 n2 c2) k) (hy2 : Wd w (.slice A2' n2' c2') k') :
    Calls Tryz.prog 19 #[.agg #[.bool p, .slice A n c, .bool q, .slice A' n' c'], .agg #[.bool p2, .slice A2 n2 c2, .bool q2, .slice A2' n2' c2']] w fun e w' => ∃ x y er, RD (vldR p q l l' && vldR p2 q2 k k') (numOf p2 k) ((numOf p l * numOf q2 k') / nfg ((numOf p l * numOf q2 k')) ((numOf q l' * numOf p2 k))) ((numOf q l' * numOf p2 k) / nfg ((numOf p l * numOf q2 k')) ((numOf q l' * numOf p2 k))) x y er ∧ RetR w x y er e w' := by
  by_cases h : (vldR p q l l' && vldR p2 q2 k k') = true
  · have h' := h
    simp only [Bool.and_eq_true] at h'
    by_cases h0 : numOf p2 k = 0
    · exact (ratDiv_zero p q p2 q2 A A' A2 A2' n c n' c' n2 c2 n2' c2' l l' k k' w hx hy hx2 hy2 h'.1 h'.2 h0).mono fun e w' r => ⟨_, _, _, .inl ⟨h, h0, rfl, rfl, rfl⟩, r⟩
    · exact (ratDiv_yes p q p2 q2 A A' A2 A2' n c n' c' n2 c2 n2' c2' l l' k k' w hx hy hx2 hy2 h'.1 h'.2 h0).mono fun e w' ⟨x, y, er, a, b⟩ => ⟨x, y, er, .inr ⟨fun e => h0 e.2, a⟩, b⟩
  · have hf : (vldR p q l l' && vldR p2 q2 k k') = false := by simpa using h
    exact (ratDiv_no p q p2 q2 A A' A2 A2' n c n' c' n2 c2 n2' c2' l l' k k' w hx hy hx2 hy2 hf).mono fun e w' r => ⟨_, _, _, .inr ⟨fun e => h e.1, .inl ⟨hf, rfl, rfl, rfl⟩⟩, r⟩
end Go.Proofs.YtmlopkkbgpfdnabGreat
namespace Go.Proofs.YtmlopkkbgpfdnabGreat

theorem nfg_dvd (x y : Int) : nfg x y ∣ x ∧ nfg x y ∣ y := by
  unfold nfg
  split
  · exact ⟨Int.neg_dvd.2 (Int.gcd_dvd_left ..), Int.neg_dvd.2 (Int.gcd_dvd_right ..)⟩
  · exact ⟨Int.gcd_dvd_left .., Int.gcd_dvd_right ..⟩
end Go.Proofs.YtmlopkkbgpfdnabGreat
namespace Go.Proofs.YtmlopkkbgpfdnabGreat
open Go.RowKit

set_option maxRecDepth 100000 in
/-- ref trim -/
theorem trimR_any (v : Value) (l : List Nat) (w : World) (hv : Wd w v l) :
    Calls Tryz.prog 140 #[v] w fun e w' => ∃ u, e = .returned u ∧ Wd w u (dig (val l)) ∧ w = w' := by
  obtain ⟨A, c, rfl, h1, h2, h3, h4⟩ := hv
  obtain ⟨n, hn⟩ : ∃ n, n = l.length := ⟨_, rfl⟩
  rw [← hn] at h1 h4 ⊢
  have Hn := Lib.hid hn; clear hn
  have hm : n ≤ 9223372036854775807 := by omega
  go_enter Tryz.func140, Tryz.ntmps140
  go_wp2
  go_loop [0] (fun v => ∃ k : Nat, v = .slice A k c ∧ k ≤ n ∧ ∀ j, k ≤ j → j < n → l.getD j 0 = 0) (fun v => match v with | .slice _ k _ => k | _ => 0)
  case atStart => exact ⟨n, rfl, Nat.le_refl _, fun j h h' => by omega⟩
  case round =>
    obtain ⟨k, rfl, hk, hz⟩ := hrel
    by_cases k0 : k = 0
    · subst k0
      have HZ := Lib.hid hz; clear hz
      go_wp2
      go_ret
      refine ⟨.slice A 0 c, rfl, ?_, rfl⟩
      rw [dig_take (k := 0) h3 (by omega) (fun j h h' => HZ.out j h (by rw [Hn.out]; exact h')) (.inl rfl)]
      exact ⟨A, c, rfl, by simp, by omega, Ok.nil, fun h => absurd h (by simp)⟩
    · obtain ⟨b, off, rfl, hb, hc⟩ := h4 (by omega)
      have hx := hc (k - 1) (by omega)
      obtain ⟨x, hxe⟩ : ∃ x, x = l.getD (k - 1) 0 := ⟨_, rfl⟩
      rw [← hxe] at hx
      have Hx := Lib.hid hxe; clear hxe
      have HC := Lib.hid hc; clear hc h4
      have HZ := Lib.hid hz; clear hz
      have hkp : 0 < k := by omega
      have hkd : decide ((0 : Int) < (k : Int)) = true := by simp; omega
      by_cases hx0 : x = 0
      · subst hx0
        go_wp2
        go_round
        case rel =>
          refine ⟨k - 1, by simp, by omega, fun j hj hj' => ?_⟩
          by_cases e : j = k - 1
          · rw [e]; exact Hx.out.symm
          · exact HZ.out j (by omega) hj'
        case measure => simp; omega
      · go_wp2
        go_ret
        have hl : (l.take k).length = k := by rw [List.length_take, ← Hn.out]; omega
        refine ⟨.slice (some ⟨b, off, none⟩) k c, rfl, ?_, rfl⟩
        rw [dig_take (k := k) h3 (by rw [← Hn.out]; omega) (fun j h h' => HZ.out j h (by rw [Hn.out]; exact h')) (.inr (by rw [← Hx.out]; exact hx0))]
        refine ⟨some ⟨b, off, none⟩, c, by rw [hl], by omega, by omega, h3.take k, fun _ => ⟨b, off, rfl, hb, fun j hj => ?_⟩⟩
        rw [hl] at hj
        rw [HC.out j (by omega)]
        simp [List.getD_eq_getElem?_getD, List.getElem?_take, hj]

theorem orderR_ne (x y n m c c' : Nat) (A A' : Option Addr) (w : World) (hn : n = (dig x).length) (hm : m = (dig y).length) (hne : n ≠ m) (ln : n ≤ 9223372036854775807) (lm : m ≤ 9223372036854775807) :
    Calls Tryz.prog 101 #[.slice A n c, .slice A' m c'] w fun e w' => e = .returned (.int .i64 (cmpN x y)) ∧ ∃ n, w' = w.drewN n := by
  have hb : ((n : Int) != m) = true := by simp; omega
  rcases Nat.lt_or_ge n m with h | h
  · rw [cmpN_lt (lt_of_len_lt (by omega))]
    clear hn hm
    go_enter Tryz.func101, Tryz.ntmps101
    go_wp2
    go_ret
    exact ⟨rfl, 0, rfl⟩
  · rw [cmpN_gt (lt_of_len_lt (by omega))]
    clear hn hm
    have hmn : m < n := by omega
    go_enter Tryz.func101, Tryz.ntmps101
    go_wp2
    go_ret
    exact ⟨rfl, 0, rfl⟩

set_option maxRecDepth 100000 in
theorem orderR_eq (x y n c c' : Nat) (A A' : Option Addr) (w : World) (hx : Wd w (.slice A n c) (dig x)) (hy : Wd w (.slice A' n c') (dig y)) (ln : n ≤ 9223372036854775807) :
    Calls Tryz.prog 101 #[.slice A n c, .slice A' n c'] w fun e w' => e = .returned (.int .i64 (cmpN x y)) ∧ ∃ n, w' = w.drewN n := by
  have Hx := Lib.hid hx
  have Hy := Lib.hid hy
  clear hx hy
  go_enter Tryz.func101, Tryz.ntmps101
  go_wp2_with fail
  go_loopw [5] (fun i wr => ∃ (k q : Nat), i = .int .i64 ((k : Int) - 1) ∧ k ≤ n ∧ wr = w.drewN q ∧ x / 4294967296 ^ k = y / 4294967296 ^ k) (fun i _ => (intOf i + 1).toNat)
  case atStart => exact ⟨n, 0, rfl, Nat.le_refl _, rfl, by rw [div_len (by rw [← Hx.out.len]; omega), div_len (by rw [← Hy.out.len]; omega)]⟩
  case round =>
    obtain ⟨k, q, rfl, hk, rfl, hq⟩ := hrel
    have HQ := Lib.hid hq; clear hq
    by_cases hk0 : k = 0
    · subst hk0
      have hr : cmpN x y = 0 := cmpN_eq (by have := HQ.out; simpa using this)
      have Hr := Lib.hid hr; clear hr
      go_wp2
      go_ret
      exact ⟨by rw [Hr.out]; rfl, q, rfl⟩
    · obtain ⟨j, rfl⟩ : ∃ j, k = j + 1 := ⟨k - 1, by omega⟩
      obtain ⟨b, off, rfl, -, hcx⟩ := Wd.cell (k := j) Hx.out (by omega)
      obtain ⟨b', off', rfl, -, hcy⟩ := Wd.cell (k := j) Hy.out (by omega)
      have h1 := hcx j (by omega)
      have h2 := hcy j (by omega)
      clear hcx hcy
      obtain ⟨p, hp⟩ : ∃ p, p = dg x j := ⟨_, rfl⟩
      obtain ⟨r, hr⟩ : ∃ r, r = dg y j := ⟨_, rfl⟩
      rw [← hp] at h1
      rw [← hr] at h2
      have Hp := Lib.hid hp; clear hp
      have Hr := Lib.hid hr; clear hr
      rw [show (((j + 1 : Nat)) : Int) - 1 = (j : Int) from by omega]
      have hjn : (j : Int) < (n : Int) := by omega
      have hj0 : (0 : Int) ≤ (j : Int) := by omega
      rcases Nat.lt_trichotomy p r with hpr | hpr | hpr
      · have hb : ((p : Int) != r) = true := by simp; omega
        have hfin : cmpN x y = -1 := cmpN_lt (dg_cmp_lt HQ.out (by rw [← Hp.out, ← Hr.out]; exact hpr))
        have Hf := Lib.hid hfin; clear hfin
        go_wp2_with fail
        go_quiet (fail)
        go_wp2_with fail
        go_quiet (fail)
        go_wp2
        go_ret
        exact ⟨by rw [Hf.out]; rfl, _, by rw [World.drewN_drewN, World.drewN_drewN]⟩
      · subst hpr
        go_wp2_with fail
        go_quiet (fail)
        go_wp2
        go_roundw
        case rel => exact ⟨j, _, rfl, by omega, rfl, dg_cmp_eq HQ.out (by rw [← Hp.out, ← Hr.out])⟩
        case measure => simp [intOf]
      · have hb : ((p : Int) != r) = true := by simp; omega
        have hfin : cmpN x y = 1 := cmpN_gt (dg_cmp_lt HQ.out.symm (by rw [← Hp.out, ← Hr.out]; exact hpr))
        have Hf := Lib.hid hfin; clear hfin
        go_wp2_with fail
        go_quiet (fail)
        go_wp2_with fail
        go_quiet (fail)
        go_wp2
        go_ret
        exact ⟨by rw [Hf.out]; rfl, _, by rw [World.drewN_drewN, World.drewN_drewN]⟩

set_option maxRecDepth 100000 in
/-- ref order -/
theorem orderR_any (x y : Nat) (u v : Value) (w : World) (hx : Wd w u (dig x)) (hy : Wd w v (dig y)) :
    Calls Tryz.prog 101 #[u, v] w fun e w' => e = .returned (.int .i64 (cmpN x y)) ∧ ∃ n, w' = w.drewN n := by
  obtain ⟨A, c, rfl, h1, h2⟩ := hx.shape
  obtain ⟨A', c', rfl, h3, h4⟩ := hy.shape
  by_cases hne : (dig x).length = (dig y).length
  · rw [← hne] at hy ⊢
    exact orderR_eq x y _ c c' A A' w hx hy (by omega)
  · exact orderR_ne x y _ _ c c' A A' w rfl rfl hne (by omega) (by omega)

set_option maxRecDepth 100000 in
theorem signedR_any (p : Bool) (A : Option Addr) (n c : Nat) (w : World) (hn : n ≤ 9223372036854775807) :
    Calls Tryz.prog 115 #[.bool p, .slice A n c] w fun e w' => e = .returned (.agg #[.bool (p && decide (0 < n)), .slice A n c]) ∧ Below w.heap.size w w' := by
  cases p
  · go_enter Tryz.func115, Tryz.ntmps115
    go_wp2
    exact bodyPost_ret (v := .agg #[.bool false, .slice A n c]) (by simp [results, Tryz.results115, go_sem]) rfl ⟨rfl, below_alloc _ _⟩
  · go_enter Tryz.func115, Tryz.ntmps115
    go_wp2
    exact bodyPost_ret (v := .agg #[.bool (decide (0 < n)), .slice A n c]) (by simp [results, Tryz.results115, go_sem]) rfl ⟨by simp, below_alloc _ _⟩

end Go.Proofs.YtmlopkkbgpfdnabGreat
namespace Go.Proofs.YtmlopkkbgpfdnabGreat
open Go.RowKit

def uw (x : Nat) : Value := .int .u32 (x : Int)

theorem Wd.of_own {w : World} {base : Nat} {v : Value} {ds : List Nat} (h : w.ownsRow base 75 1 v ds.length (ds.map uw)) (ho : Ok ds) : Wd w v ds := by
  have h0 := h
  obtain ⟨h1, h2 | ⟨g, cap, cur, rfl, hg, hh, hn, hcap, hsz, htake⟩⟩ := h
  · obtain ⟨rfl, hn⟩ := h2
    have : ds = [] := List.eq_nil_of_length_eq_zero hn
    subst this
    exact Wd.nil_ w
  · refine ⟨some ⟨g, 0, none⟩, cap, rfl, hn, by unfold maxLen at hcap; omega, ho, fun hp => ⟨g, 0, rfl, (Array.getElem?_eq_some_iff.1 hh).1, fun j hj => ?_⟩⟩
    have := h0.cells (g := g) rfl j (uw (ds.getD j 0)) (by
      rw [List.getElem?_map, List.getElem?_eq_getElem hj]
      simp [List.getD_eq_getElem?_getD, List.getElem?_eq_getElem hj])
    have e : (⟨g, 0, none⟩ : Addr).add j = ⟨g, 0 + j, none⟩ := by unfold Addr.add; split <;> simp_all
    rw [← e]
    exact this

set_option maxHeartbeats 400000 in
set_option maxRecDepth 100000 in
/-- ref natural -/
theorem naturalR_any (n : Nat) (hn : n < 18446744073709551616) (w : World) :
    Calls Tryz.prog 114 #[.int .u64 n] w fun e w' => ∃ u, e = .returned u ∧ Wd w' u (dig n) ∧ Below w.heap.size w w' := by
  obtain ⟨i0, hi, hz0, hz1, hz2⟩ := info_parts info75
  have hd2 : (dig n).length ≤ 2 := dig_len_le (by omega)
  go_enter Tryz.func114, Tryz.ntmps114
  go_wp2
  go_loopw [0, 3] (fun mv v wr => ∃ (m : Nat) (ds : List Nat), mv = .int .u64 m ∧ m ≤ n ∧ Ok ds ∧ wr.ownsRow w.heap.size 75 1 v ds.length (ds.map uw) ∧ Below w.heap.size w wr ∧ ds ++ dig m = dig n)
    (fun mv _ _ => (intOf mv).toNat)
  case atStart => exact ⟨n, [], rfl, Nat.le_refl _, Ok.nil, World.ownsRow_nil _ _ _ _, Below.refl _ _, rfl⟩
  case round =>
    obtain ⟨m, ds, rfl, hm, hok, hown, hbel, hds⟩ := hrel
    have hl : ds.length + (dig m).length ≤ 2 := by rw [← List.length_append, hds]; exact hd2
    have Hds := Lib.hid hds; clear hds
    have Hok := Lib.hid hok; clear hok
    by_cases hm0 : m = 0
    · subst hm0
      have hw := Wd.of_own hown Hok.out
      have he : ds = dig n := by have := Hds.out; rwa [dig_zero, List.append_nil] at this
      rw [he] at hw
      have Hw := Lib.hid hw; clear hw he
      go_wp2
      go_ret
      exact ⟨_, rfl, Hw.out, hbel⟩
    · have hm1 : 0 < m := by omega
      have hl1 : ds.length ≤ 2 := by omega
      clear hl
      go_wp2_with (at_builtin; refine wpList_append_own _ rfl _ _ 51 rfl w.heap.size 75 i0 (.int .u32 0) 1 4 Tryz.underlying51 hi hz0 hz1 hz2 rfl (by decide) _ _ _ rfl (hown.alloc _) ⟨wr.heap.size, 0, none⟩ 1 1 [uw (m % 4294967296)] rfl rfl ?c1 ?c2 ?c3 ?c4 ?c5 ?_)
      case c1 =>
        intro j u hj
        match j, hj with
        | 0, hj => simp at hj; subst hj; simp [Addr.add, uw]
      case c2 => intro u hu; simp at hu; subst hu; rfl
      case c3 => unfold maxLen; omega
      case c4 => omega
      case c5 => have := hbel.size; simp; omega
      intro v' w1 hown' hgrow _
      have hb1 : Below w.heap.size w w1 := (hbel.alloc hbel.size _).grown hgrow (by have := hbel.size; simp; omega) (fun k hk => (hown.lt k hk).1)
      have hown2 : w1.ownsRow w.heap.size 75 1 v' (ds ++ [m % 4294967296]).length ((ds ++ [m % 4294967296]).map uw) := by
        rw [List.length_append, List.map_append]; exact hown'
      have Ho := Lib.hid hown2; clear hown2 hown' hgrow hown hbel
      go_wp2
      go_roundw
      case rel =>
        refine ⟨m / 4294967296, ds ++ [m % 4294967296], by simp, by omega, Hok.out.append (Ok.mk (by omega) Ok.nil), Ho.out, hb1, ?_⟩
        rw [← Hds.out, dig_pos hm1]
        simp
      case measure => simp [intOf]; omega
end Go.Proofs.YtmlopkkbgpfdnabGreat
namespace Go.Proofs.YtmlopkkbgpfdnabGreat
open Go.RowKit

set_option maxHeartbeats 800000 in
set_option maxRecDepth 100000 in
/-- ref less -/
theorem lessR_any (x y : Nat) (u v : Value) (w : World) (hx : Wd w u (dig x)) (hy : Wd w v (dig y)) (lx : (dig x).length ≤ 1000000) (hyx : y ≤ x) :
    Calls Tryz.prog 131 #[u, v] w fun e w' => ∃ r, e = .returned r ∧ Wd w' r (dig (x - y)) ∧ Below w.heap.size w w' := by
  have hly := dig_len_mono hyx
  obtain ⟨A, c, rfl, -, -⟩ := hx.shape
  obtain ⟨A', c', rfl, -, -⟩ := hy.shape
  obtain ⟨nx, hnx⟩ : ∃ n, n = (dig x).length := ⟨_, rfl⟩
  obtain ⟨ny, hny⟩ : ∃ n, n = (dig y).length := ⟨_, rfl⟩
  rw [← hnx] at lx hx hly ⊢
  rw [← hny] at hy hly ⊢
  have Hx := Lib.hid hx; clear hx
  have Hy := Lib.hid hy; clear hy
  have Hnx := Lib.hid hnx; clear hnx
  have Hny := Lib.hid hny; clear hny
  have Hyx := Lib.hid hyx; clear hyx
  have hmk : ∀ w, (Instr.makeSlice 51 (.int .i64 (nx : Int)) (.int .i64 (nx : Int))).run Tryz.prog w = .ok (.slice (some ⟨w.heap.size, 0, none⟩) nx nx) (w.alloc (.cells (U32s (zeros nx)) 75)) := fun w => make_u32 51 Tryz.underlying51 nx (by omega) w
  go_enter Tryz.func131, Tryz.ntmps131
  go_wp2_with fail
  go_loopw [6, 14] (fun cr i wr => ∃ (k cv : Nat) (L : List Nat), i = .int .i64 k ∧ k ≤ nx ∧ cr = .int .u64 cv ∧ cv ≤ 1 ∧ L.length = nx ∧ Ok L ∧ Blk wr w.heap.size L ∧ Below w.heap.size w wr ∧
      val (L.take k) + y % 4294967296 ^ k = x % 4294967296 ^ k + 4294967296 ^ k * cv) (fun _ i _ => nx - (intOf i).toNat)
  case atStart => exact ⟨0, 0, zeros nx, rfl, Nat.zero_le _, rfl, by omega, zeros_length _, zeros_ok _, heap_alloc_new w _, below_alloc _ _, by simp [val, Nat.mod_one]⟩
  case round =>
    obtain ⟨k, cv, L, rfl, hk, rfl, hcv, hL, hok, hblk, hbel, hval⟩ := hrel
    have HV := Lib.hid hval; clear hval
    have HL := Lib.hid hL; clear hL
    have HX := Lib.hid (Hx.out.below hbel)
    have HY := Lib.hid (Hy.out.below hbel)
    by_cases hlt : k < nx
    · have hfr := hblk.frozen k
      have hce := hblk.cell (i := k) (by rw [HL.out]; omega)
      have hB := Lib.hid hblk; clear hblk
      obtain ⟨b, off, rfl, hb, hc⟩ := Wd.cell (k := k) HX.out hlt
      have hxk := hc k hlt
      clear hc
      obtain ⟨p, hp⟩ : ∃ p, p = dg x k := ⟨_, rfl⟩
      have hpl : p < 4294967296 := by rw [hp]; exact dg_lt _ _
      rw [← hp] at hxk
      have Hp := Lib.hid hp; clear hp
      by_cases hky : k < ny
      · obtain ⟨b', off', rfl, hb', hc'⟩ := Wd.cell (k := k) HY.out hky
        have hyk := hc' k hky
        clear hc'
        obtain ⟨q, hq⟩ : ∃ q, q = dg y k := ⟨_, rfl⟩
        have hql : q < 4294967296 := by rw [hq]; exact dg_lt _ _
        rw [← hq] at hyk
        have Hq := Lib.hid hq; clear hq
        by_cases hge : q + cv ≤ p
        · go_wp2_with fail
          have w1 : ((p : Int) - cv - q) = ((p - cv - q : Nat) : Int) := by omega
          have w2 : ((p : Int) - cv - q) / 9223372036854775808 = ((0 : Nat) : Int) := by omega
          rw [w2, w1]
          go_roundw
          case rel =>
            refine ⟨k + 1, 0, L.set k (p - cv - q), by go_num, by omega, rfl, by omega, by rw [List.length_set, HL.out], hok.set (by omega), hB.out.set_ k _, hbel.setCell (Nat.le_refl _) _, ?_⟩
            rw [val_take_set (by rw [HL.out]; omega)]
            exact sub_round HV.out hcv (by rw [← Hp.out, ← Hq.out]; omega) (by rw [← Hp.out, ← Hq.out]; rw [if_neg (by omega)])
          case measure => simp [intOf]; omega
        · have hlt2 : p < q + cv := by omega
          go_wp2_with fail
          have w1 : (IntKind.u64.wrap (IntKind.u64.wrap ((p : Int) - cv) - q)) % 4294967296 = ((p + 4294967296 - q - cv : Nat) : Int) := by rw [IntKind.wrap_u64, IntKind.wrap_u64]; omega
          have w2 : (IntKind.u64.wrap (IntKind.u64.wrap ((p : Int) - cv) - q)) / 9223372036854775808 = ((1 : Nat) : Int) := by rw [IntKind.wrap_u64, IntKind.wrap_u64]; omega
          rw [w1, w2]
          go_roundw
          case rel =>
            refine ⟨k + 1, 1, L.set k (p + 4294967296 - q - cv), by go_num, by omega, rfl, by omega, by rw [List.length_set, HL.out], hok.set (by omega), hB.out.set_ k _, hbel.setCell (Nat.le_refl _) _, ?_⟩
            rw [val_take_set (by rw [HL.out]; omega)]
            exact sub_round HV.out hcv (by rw [← Hp.out, ← Hq.out]; omega) (by rw [← Hp.out, ← Hq.out]; rw [if_pos (by omega)])
          case measure => simp [intOf]; omega
      · have hq : 0 = dg y k := by rw [dg_zero (by rw [← Hny.out]; omega)]
        have Hq := Lib.hid hq; clear hq
        by_cases hge : cv ≤ p
        · go_wp2_with fail
          have w1 : ((p : Int) - cv) = ((p - cv : Nat) : Int) := by omega
          have w2 : ((p : Int) - cv) / 9223372036854775808 = ((0 : Nat) : Int) := by omega
          rw [w2, w1]
          go_roundw
          case rel =>
            refine ⟨k + 1, 0, L.set k (p - cv), by go_num, by omega, rfl, by omega, by rw [List.length_set, HL.out], hok.set (by omega), hB.out.set_ k _, hbel.setCell (Nat.le_refl _) _, ?_⟩
            rw [val_take_set (by rw [HL.out]; omega)]
            exact sub_round HV.out hcv (by rw [← Hp.out, ← Hq.out]; omega) (by rw [← Hp.out, ← Hq.out]; rw [if_neg (by omega)])
          case measure => simp [intOf]; omega
        · have hlt2 : p < cv := by omega
          go_wp2_with fail
          have w1 : (IntKind.u64.wrap ((p : Int) - cv)) % 4294967296 = ((p + 4294967296 - cv : Nat) : Int) := by rw [IntKind.wrap_u64]; omega
          have w2 : (IntKind.u64.wrap ((p : Int) - cv)) / 9223372036854775808 = ((1 : Nat) : Int) := by rw [IntKind.wrap_u64]; omega
          rw [w1, w2]
          go_roundw
          case rel =>
            refine ⟨k + 1, 1, L.set k (p + 4294967296 - cv), by go_num, by omega, rfl, by omega, by rw [List.length_set, HL.out], hok.set (by omega), hB.out.set_ k _, hbel.setCell (Nat.le_refl _) _, ?_⟩
            rw [val_take_set (by rw [HL.out]; omega)]
            exact sub_round HV.out hcv (by rw [← Hp.out, ← Hq.out]; omega) (by rw [← Hp.out, ← Hq.out]; rw [if_pos (by omega)])
          case measure => simp [intOf]; omega
    · have hkn : k = nx := by omega
      subst hkn
      have hB := Lib.hid hblk; clear hblk
      have hv : val L = x - y := by
        have e := HV.out
        rw [List.take_of_length_le (by rw [HL.out]; omega), mod_len (x := x) (by rw [← Hnx.out]; omega)] at e
        have hxl := val_lt hok
        rw [HL.out] at hxl
        have hyy : y % 4294967296 ^ k = y := mod_len (by rw [← Hny.out]; exact hly)
        rw [hyy] at e
        have := Hyx.out
        rcases (by omega : cv = 0 ∨ cv = 1) with h | h
        · subst h; omega
        · subst h; have hlt := lt_of_dig_len (n := x) (k := k) (by rw [← Hnx.out]; omega); omega
      have hw2 := hB.out.wd hok (by rw [HL.out]; omega) k (by rw [HL.out]; omega) (by omega)
      rw [HL.out] at hw2
      have Hw := Lib.hid hw2; clear hw2
      have Hv := Lib.hid hv; clear hv
      go_wp2_with fail
      refine (trimR_any _ _ _ Hw.out).mono ?_
      rintro e w' ⟨r, rfl, hr, rfl⟩
      rw [Hv.out] at hr
      go_wp2
      go_ret
      exact ⟨r, rfl, hr, hbel⟩
end Go.Proofs.YtmlopkkbgpfdnabGreat
