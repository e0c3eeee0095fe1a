/- Walks: the law ExactInts. -/
import Derived.Test.YtmlopkkbgpfdnaaR15
import Derived.Test.YtmlopkkbgpfdnaaE3
namespace Go.Proofs.Ytmlopkkbgpfdnaa
open Go.RowKit

theorem numOf_dig (z : Int) : numOf (decide (z < 0)) (dig z.natAbs) = z := by
  unfold numOf
  rw [val_dig]
  by_cases h : z < 0
  · simp [h]; omega
  · simp [h]; omega
theorem vld_of_dig {z : Int} (hl : (dig z.natAbs).length ≤ 256) : vld (decide (z < 0)) (dig z.natAbs) = true := by
  unfold vld
  split
  · rename_i h0
    have : z.natAbs = 0 := dig_eq_nil.1 (List.eq_nil_of_length_eq_zero h0)
    simp; omega
  · rename_i h0
    have hn := norm_dig z.natAbs
    unfold Norm at hn
    rw [List.getLast?_eq_getElem?] at hn
    have hlt : (dig z.natAbs).length - 1 < (dig z.natAbs).length := by omega
    rw [List.getElem?_eq_getElem hlt] at hn
    simp only [Bool.and_eq_true, decide_eq_true_eq, Bool.not_eq_true', decide_eq_false_iff_not]
    refine ⟨hl, ?_⟩
    rw [List.getD_eq_getElem?_getD, List.getElem?_eq_getElem hlt]
    simpa using hn

theorem wrap_min : IntKind.i64.wrap ((9223372036854775808 : Nat) : Int) = -9223372036854775808 := by rw [IntKind.wrap_i64]; decide
theorem wrap_min2 : IntKind.i64.wrap (-(-9223372036854775808)) = -9223372036854775808 := by rw [IntKind.wrap_i64]; decide

theorem toInt_u (p : Bool) (A : Option Addr) (n c : Nat) (l : List Nat) (w : World) (hx : Wd w (.slice A n c) l) : Calls Try.prog 11 #[.agg #[.bool p, .slice A n c]] w fun e w' => e = .returned (.tuple #[.int .i64 (toV p l), .int .i64 (toE p l)]) ∧ Below w.heap.size w w' := by
  unfold toV toE
  by_cases h : vld p l = true
  · rw [if_pos h, if_pos h]
    by_cases hr : -9223372036854775808 ≤ numOf p l ∧ numOf p l ≤ 9223372036854775807
    · rw [if_pos hr, if_pos hr]
      cases p
      · have hm : numOf false l = (val l : Int) := by simp [numOf]
        rw [hm] at hr ⊢
        exact toInt_pos _ false A n c l w hx h rfl (val l) rfl hm (by omega)
      · have hm : numOf true l = -(val l : Int) := by simp [numOf]
        rw [hm] at hr ⊢
        by_cases hb : val l = 9223372036854775808
        · have hk : -(val l : Int) = -9223372036854775808 := by omega
          rw [hk]
          exact toInt_min _ true A n c l w hx h rfl (val l) rfl hm hb (-9223372036854775808) (by rw [hb]; exact wrap_min) wrap_min2
        · exact toInt_neg _ true A n c l w hx h rfl (val l) rfl hm (by omega)
    · rw [if_neg hr, if_neg hr]
      by_cases hs : numOf p l < -9223372036854775808
      · exact toInt_small _ p A n c l w hx h rfl hs
      · exact toInt_big _ p A n c l w hx h rfl (by unfold MaxI; omega)
  · rw [if_neg h, if_neg h]
    exact toInt_no p A n c l w hx (by simpa using h)

theorem toIntR_u (p : Bool) (A : Option Addr) (n c : Nat) (l : List Nat) (w : World) (hx : Wd w (.slice A n c) l) : Calls Try.prog 12 #[.agg #[.bool p, .slice A n c]] w fun e w' => e = .returned (.tuple #[.int .i64 (toV p l), .int .i64 (toE p l)]) ∧ Below w.heap.size w w' := by
  unfold toV toE
  by_cases h : vld p l = true
  · rw [if_pos h, if_pos h]
    by_cases hr : -9223372036854775808 ≤ numOf p l ∧ numOf p l ≤ 9223372036854775807
    · rw [if_pos hr, if_pos hr]
      cases p
      · have hm : numOf false l = (val l : Int) := by simp [numOf]
        rw [hm] at hr ⊢
        exact toIntR_pos _ false A n c l w hx h rfl (val l) rfl hm (by omega)
      · have hm : numOf true l = -(val l : Int) := by simp [numOf]
        have hne := vld_neg hx.ok h
        rw [hm] at hr ⊢
        have h1 : 1 ≤ val l := by
          rw [hm] at hne
          simp at hne
          omega
        exact toIntR_neg _ true A n c l w hx h rfl (val l) rfl hm h1 (by omega) (18446744073709551616 - (val l : Int)) (by rw [IntKind.wrap_u64]; omega) (by rw [IntKind.wrap_i64]; omega) (by omega) (by omega)
    · rw [if_neg hr, if_neg hr]
      by_cases hs : numOf p l < -9223372036854775808
      · exact toIntR_small _ p A n c l w hx h rfl hs
      · exact toIntR_big _ p A n c l w hx h rfl (by unfold MaxI; omega)
  · rw [if_neg h, if_neg h]
    exact toIntR_no p A n c l w hx (by simpa using h)

theorem toInt_of (z : Int) (a : Value) (w : World) (ha : ZV w a z) (h1 : -9223372036854775808 ≤ z) (h2 : z ≤ 9223372036854775807) :
    Calls Try.prog 11 #[a] w fun e w' => e = .returned (.tuple #[.int .i64 z, .int .i64 0]) ∧ Below w.heap.size w w' := by
  obtain ⟨A, n, c, rfl, hv, -, -⟩ := ha.open_
  have hvl := vld_of_dig (z := z) (by have := int_len h1 h2; omega)
  have h := toInt_u (decide (z < 0)) A n c (dig z.natAbs) w hv
  unfold toV toE at h
  rw [if_pos hvl, if_pos hvl, numOf_dig, if_pos ⟨h1, h2⟩, if_pos ⟨h1, h2⟩] at h
  exact h

set_option maxHeartbeats 2000000 in
set_option maxRecDepth 100000 in
theorem exactInts_walk (p : Bool) (A : Option Addr) (n c : Nat) (l : List Nat) (w : World) (hx : Wd w (.slice A n c) l) (k : Int) (h1 : -9223372036854775808 ≤ k) (h2 : k ≤ 9223372036854775807) :
    Calls Try.prog 3 #[.agg #[.bool p, .slice A n c], .int .i64 k] w fun e w' => e = .returned (.bool true) ∧ Below w.heap.size w w' := by
  have Hx := Lib.hid hx; clear hx
  obtain ⟨tv, htv⟩ : ∃ v, v = toV p l := ⟨_, rfl⟩
  obtain ⟨te, hte⟩ : ∃ v, v = toE p l := ⟨_, rfl⟩
  have Htv := Lib.hid htv; clear htv
  have Hte := Lib.hid hte; clear hte
  go_enter Try.func3, Try.ntmps3
  go_wp2_with fail
  have hb1 := below1 w (Obj.cells #[.bool p, .slice A n c] 24)
  refine (toInt_u p A n c l _ (Hx.out.below hb1)).mono ?_
  rintro e w1 ⟨rfl, hb⟩
  rw [← Htv.out, ← Hte.out]
  have q0 := keepAt hb (by simp) (show (w.alloc (Obj.cells #[.bool p, .slice A n c] 24)).cell? ⟨w.heap.size, 0, none⟩ = some (.bool p) by rw [World.cell?_alloc_new]; rfl)
  have q1 := keepAt hb (by simp) (show (w.alloc (Obj.cells #[.bool p, .slice A n c] 24)).cell? ⟨w.heap.size, 1, none⟩ = some (.slice A n c) by rw [World.cell?_alloc_new]; rfl)
  have Hb1 := Lib.hid (hb1.trans (hb.mono (by simp)))
  have z1 : w.heap.size + 1 ≤ w1.heap.size := by have := hb.size; simpa using this
  clear hb hb1
  go_wp2_with fail
  refine (toIntR_u p A n c l _ (Hx.out.below Hb1.out)).mono ?_
  rintro e w2 ⟨rfl, hb⟩
  rw [← Htv.out, ← Hte.out]
  have r0 := keepAt hb (by omega) q0
  have r1 := keepAt hb (by omega) q1
  have Hb2 := Lib.hid (Hb1.out.trans (hb.mono Hb1.out.size))
  have z2 : w.heap.size + 1 ≤ w2.heap.size := Nat.le_trans z1 hb.size
  clear hb q0 q1 z1 Hb1
  go_wp2_with fail
  refine (asAgg (fromInt_any k _ h1 h2)).mono ?_
  rintro e w3 ⟨b3, A3, n3, c3, rfl, hr, hb⟩
  have hb03 := Hb2.out.trans (hb.mono Hb2.out.size)
  have z3 : w.heap.size + 1 ≤ w3.heap.size := Nat.le_trans z2 hb.size
  have q0 := keepAt hb (by omega) r0
  have q1 := keepAt hb (by omega) r1
  have zr := hr.below (below1 w3 (Obj.cells #[.bool b3, .slice A3 n3 c3] 24))
  have hb3 := hb03.trans ((below1 w3 (Obj.cells #[.bool b3, .slice A3 n3 c3] 24)).mono hb03.size)
  have t0 : (w3.alloc (Obj.cells #[.bool b3, .slice A3 n3 c3] 24)).cell? ⟨w.heap.size, 0, none⟩ = some (.bool p) := by rw [World.cell?_alloc_past _ _ _ (by omega)]; exact q0
  have t1 : (w3.alloc (Obj.cells #[.bool b3, .slice A3 n3 c3] 24)).cell? ⟨w.heap.size, 1, none⟩ = some (.slice A n c) := by rw [World.cell?_alloc_past _ _ _ (by omega)]; exact q1
  have t2 : (w3.alloc (Obj.cells #[.bool b3, .slice A3 n3 c3] 24)).cell? ⟨w3.heap.size, 0, none⟩ = some (.bool b3) := by rw [World.cell?_alloc_new]; rfl
  have t3 : (w3.alloc (Obj.cells #[.bool b3, .slice A3 n3 c3] 24)).cell? ⟨w3.heap.size, 1, none⟩ = some (.slice A3 n3 c3) := by rw [World.cell?_alloc_new]; rfl
  have s3 : (w3.alloc (Obj.cells #[.bool b3, .slice A3 n3 c3] 24)).heap.size = w3.heap.size + 1 := by simp
  have HF := Lib.hid (And.intro zr (And.intro hb3 (And.intro t0 (And.intro t1 (And.intro t2 (And.intro t3 s3))))))
  clear zr hb3 t0 t1 t2 t3 s3 q0 q1 r0 r1 hb03 hb z2 Hb2 hr
  go_wp2_with fail
  obtain ⟨zr, hb3, t0, t1, t2, t3, s3⟩ := HF.out
  clear HF
  generalize (w3.alloc (Obj.cells #[.bool b3, .slice A3 n3 c3] 24)) = W3 at *
  obtain ⟨g, hg⟩ : ∃ g, g = w3.heap.size := ⟨_, rfl⟩
  rw [← hg] at t2 t3 s3 z3
  try rw [← hg]
  clear hg
  refine (toInt_of k _ _ zr h1 h2).mono ?_
  rintro e w4 ⟨rfl, hb⟩
  have m0 := keepAt hb (by rw [s3]; omega) t0
  have m1 := keepAt hb (by rw [s3]; omega) t1
  have m2 := keepAt hb (by rw [s3]; omega) t2
  have m3 := keepAt hb (by rw [s3]; omega) t3
  have Hb4 := Lib.hid (hb3.trans (hb.mono hb3.size))
  have Zr := Lib.hid (zr.below hb)
  have hx4 := Hx.out.below Hb4.out
  have Hx4 := Lib.hid hx4
  have z4 : g + 1 ≤ w4.heap.size := by have := hb.size; rw [s3] at this; exact this
  clear hb hb3 zr t0 t1 t2 t3 s3 hx4
  obtain ⟨vb, hvb⟩ : ∃ b, b = vld p l := ⟨_, rfl⟩
  have Hvb := Lib.hid hvb; clear hvb
  have d1 : (vb == vb) = true := by simp
  have d2 : (tv == tv) = true := by simp
  have d3 : (te == te) = true := by simp
  have d4 : (k == k) = true := by simp
  have vE : ∀ W : World, Wd W (.slice A n c) l → Calls Try.prog 14 #[.agg #[.bool p, .slice A n c]] W fun e w' => e = .returned (.bool vb) ∧ Below W.heap.size W w' := fun W h => by rw [Hvb.out]; exact validE_any p A n c l W h
  have vR : ∀ W : World, Wd W (.slice A n c) l → Calls Try.prog 15 #[.agg #[.bool p, .slice A n c]] W fun e w' => e = .returned (.bool vb) ∧ Below W.heap.size W w' := fun W h => by rw [Hvb.out]; exact validR_any p A n c l W h
  have sm : ∀ (W : World) (a b : Value), ZV W a k → ZV W b k → Calls Try.prog 16 #[a, b] W fun e w' => e = .returned (.bool true) ∧ Below W.heap.size W w' := fun W a b ha hb => by
    have := sameR_any k k a b W ha hb
    rwa [show decide (k = k) = true from by simp] at this
  have VE := Lib.hid vE; clear vE
  have VR := Lib.hid vR; clear vR
  have SM := Lib.hid sm; clear sm
  go_wp2_with fail
  go_region_held3 (fun w' => w'.cell? ⟨w.heap.size, 0, none⟩ = some (.bool p) ∧ w'.cell? ⟨w.heap.size, 1, none⟩ = some (.slice A n c) ∧ w'.cell? ⟨g, 0, none⟩ = some (.bool b3) ∧ w'.cell? ⟨g, 1, none⟩ = some (.slice A3 n3 c3))
    (first | exact ⟨m0, m1, m2, m3⟩ | (go_split_ands; exact ⟨by assumption, by assumption, by assumption, by assumption⟩) | (go_split_ands; exact ⟨keepAt hb5 (by show _ < w4.heap.size; omega) (by assumption), keepAt hb5 (by show _ < w4.heap.size; omega) (by assumption), keepAt hb5 (by show _ < w4.heap.size; omega) (by assumption), keepAt hb5 (by show _ < w4.heap.size; omega) (by assumption)⟩) | (go_split_ands; exact ⟨keepAt hb6 (by omega) (by assumption), keepAt hb6 (by omega) (by assumption), keepAt hb6 (by omega) (by assumption), keepAt hb6 (by omega) (by assumption)⟩) | (go_split_ands; exact ⟨keepAt hb7 (by omega) (by assumption), keepAt hb7 (by omega) (by assumption), keepAt hb7 (by omega) (by assumption), keepAt hb7 (by omega) (by assumption)⟩) | (go_split_ands; exact ⟨keepAt hb8 (by omega) (by assumption), keepAt hb8 (by omega) (by assumption), keepAt hb8 (by omega) (by assumption), keepAt hb8 (by omega) (by assumption)⟩) | (go_split_ands; exact ⟨keepAt hb9 (by omega) (by assumption), keepAt hb9 (by omega) (by assumption), keepAt hb9 (by omega) (by assumption), keepAt hb9 (by omega) (by assumption)⟩) | (go_split_ands; exact ⟨keepAt hb10 (by omega) (by assumption), keepAt hb10 (by omega) (by assumption), keepAt hb10 (by omega) (by assumption), keepAt hb10 (by omega) (by assumption)⟩))
    (first | (go_at_call 14; refine (VE.out _ (by exact Hx4.out)).mono ?_; rintro e w5 ⟨rfl, hb5⟩; have z5 : g + 1 ≤ w5.heap.size := Nat.le_trans z4 (undrew hb5).size; have hx5 := Hx4.out.below (undrew hb5); have zr5 := Zr.out.below (undrew hb5)) | (go_at_call 15; refine (VR.out _ hx5).mono ?_; rintro e w6 ⟨rfl, hb6⟩; have z6 : g + 1 ≤ w6.heap.size := Nat.le_trans z5 hb6.size; have zr6 := zr5.below hb6) | (go_at_call 18; refine (asAgg (wholeR_any k _ h1 h2)).mono ?_; rintro e w7 ⟨b7, A7, n7, c7, rfl, hr7, hb7⟩; have z7 : g + 1 ≤ w7.heap.size := Nat.le_trans z6 hb7.size; have zr7 := zr6.below hb7) | (go_at_call 17; refine (int_any b7 A7 n7 c7 _).mono ?_; rintro e w8 ⟨rfl, hb8⟩; have z8 : g + 1 ≤ w8.heap.size := Nat.le_trans z7 hb8.size; have zr8 := zr7.below hb8; have hr8 := hr7.below hb8) | (go_at_call 16; refine (SM.out _ _ _ zr8 hr8).mono ?_; rintro e w9 ⟨rfl, hb9⟩; have z9 : g + 1 ≤ w9.heap.size := Nat.le_trans z8 hb9.size) | (go_at_call 19; refine (awake_any _).mono ?_; rintro e w10 ⟨rfl, hb10⟩; have z10 : g + 1 ≤ w10.heap.size := Nat.le_trans z9 hb10.size))
  have hbf : Below w.heap.size w w10 := (((((Hb4.out.trans ((undrew hb5).mono (by show _ ≤ w4.heap.size; omega))).trans (hb6.mono (by omega))).trans (hb7.mono (by omega))).trans (hb8.mono (by omega))).trans (hb9.mono (by omega))).trans (hb10.mono (by omega))
  have Hbf := Lib.hid hbf; clear hbf
  go_wp2
  go_ret
  exact ⟨rfl, Hbf.out⟩
end Go.Proofs.Ytmlopkkbgpfdnaa
