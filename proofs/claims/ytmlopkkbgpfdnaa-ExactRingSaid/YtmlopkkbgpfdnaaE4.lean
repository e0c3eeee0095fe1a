/- Walks: the operations, uniformly. -/
import Derived.Test.YtmlopkkbgpfdnaaE1
import Derived.Test.YtmlopkkbgpfdnaaE2
import Derived.Test.YtmlopkkbgpfdnaaE3
import Derived.Test.YtmlopkkbgpfdnaaR11
import Derived.Test.YtmlopkkbgpfdnaaR12
import Derived.Test.YtmlopkkbgpfdnaaR13
namespace Go.Proofs.Ytmlopkkbgpfdnaa
open Go.RowKit

/-- what an operation answers: the number and the error -/
def ansZ (p q : Bool) (l l' : List Nat) (z : Int) : Int := if (vld p l && vld q l') = true then (if (dig z.natAbs).length ≤ 256 then z else 0) else 0
def ansE (p q : Bool) (l l' : List Nat) (z : Int) : Int := if (vld p l && vld q l') = true then (if (dig z.natAbs).length ≤ 256 then 0 else 5) else 2
def cmpA (p q : Bool) (l l' : List Nat) : Int := if (vld p l && vld q l') = true then (numOf p l - numOf q l').sign else 0
def cmpE (p q : Bool) (l l' : List Nat) : Int := if (vld p l && vld q l') = true then 0 else 2

theorem zv_zero (w : World) : ZV w (.agg #[.bool false, .slice none 0 0]) 0 := ZV.mk (by simp) (by rw [Int.natAbs_zero, dig_zero]; exact Wd.nil_ _)

def RetA (w : World) (z er : Int) (e : Ending) (w' : World) : Prop := ∃ b A n c, e = .returned (.tuple #[.agg #[.bool b, .slice A n c], .int .i64 er]) ∧ ZV w' (.agg #[.bool b, .slice A n c]) z ∧ Below w.heap.size w w'

theorem exactAdd_u (p q : Bool) (A A' : Option Addr) (n c n' c' : Nat) (l l' : List Nat) (w : World) (hx : Wd w (.slice A n c) l) (hy : Wd w (.slice A' n' c') l') :
    Calls Try.prog 22 #[.agg #[.bool p, .slice A n c], .agg #[.bool q, .slice A' n' c']] w (RetA w (ansZ p q l l' (numOf p l + numOf q l')) (ansE p q l l' (numOf p l + numOf q l'))) := by
  unfold ansZ ansE
  by_cases h : (vld p l && vld q l') = true
  · rw [if_pos h, if_pos h]
    have hp : vld p l = true := by simp at h; exact h.1
    have hq : vld q l' = true := by simp at h; exact h.2
    by_cases hf : (dig (numOf p l + numOf q l').natAbs).length ≤ 256
    · rw [if_pos hf, if_pos hf]
      exact exactAdd_yes _ _ p q A A' n c n' c' l l' w hx hy hp hq rfl rfl hf
    · rw [if_neg hf, if_neg hf]
      refine (exactAdd_big _ _ p q A A' n c n' c' l l' w hx hy hp hq rfl rfl (by omega)).mono ?_
      rintro e w' ⟨rfl, hb⟩
      exact ⟨false, none, 0, 0, rfl, zv_zero _, hb⟩
  · rw [if_neg h, if_neg h]
    have h : (vld p l && vld q l') = false := by simpa using h
    refine ((exactAdd_no p q A A' n c n' c' l l' w hx hy h).mono ?_)
    rintro e w' ⟨rfl, hb⟩
    exact ⟨false, none, 0, 0, rfl, zv_zero _, hb⟩

theorem exactSub_u (p q : Bool) (A A' : Option Addr) (n c n' c' : Nat) (l l' : List Nat) (w : World) (hx : Wd w (.slice A n c) l) (hy : Wd w (.slice A' n' c') l') :
    Calls Try.prog 24 #[.agg #[.bool p, .slice A n c], .agg #[.bool q, .slice A' n' c']] w (RetA w (ansZ p q l l' (numOf p l - numOf q l')) (ansE p q l l' (numOf p l - numOf q l'))) := by
  unfold ansZ ansE
  by_cases h : (vld p l && vld q l') = true
  · rw [if_pos h, if_pos h]
    have hp : vld p l = true := by simp at h; exact h.1
    have hq : vld q l' = true := by simp at h; exact h.2
    by_cases hf : (dig (numOf p l - numOf q l').natAbs).length ≤ 256
    · rw [if_pos hf, if_pos hf]
      exact exactSub_yes _ _ p q A A' n c n' c' l l' w hx hy hp hq rfl rfl hf
    · rw [if_neg hf, if_neg hf]
      refine (exactSub_big _ _ p q A A' n c n' c' l l' w hx hy hp hq rfl rfl (by omega)).mono ?_
      rintro e w' ⟨rfl, hb⟩
      exact ⟨false, none, 0, 0, rfl, zv_zero _, hb⟩
  · rw [if_neg h, if_neg h]
    have h : (vld p l && vld q l') = false := by simpa using h
    refine ((exactSub_no p q A A' n c n' c' l l' w hx hy h).mono ?_)
    rintro e w' ⟨rfl, hb⟩
    exact ⟨false, none, 0, 0, rfl, zv_zero _, hb⟩

theorem exactMul_u (p q : Bool) (A A' : Option Addr) (n c n' c' : Nat) (l l' : List Nat) (w : World) (hx : Wd w (.slice A n c) l) (hy : Wd w (.slice A' n' c') l') :
    Calls Try.prog 26 #[.agg #[.bool p, .slice A n c], .agg #[.bool q, .slice A' n' c']] w (RetA w (ansZ p q l l' (numOf p l * numOf q l')) (ansE p q l l' (numOf p l * numOf q l'))) := by
  unfold ansZ ansE
  by_cases h : (vld p l && vld q l') = true
  · rw [if_pos h, if_pos h]
    have hp : vld p l = true := by simp at h; exact h.1
    have hq : vld q l' = true := by simp at h; exact h.2
    by_cases hf : (dig (numOf p l * numOf q l').natAbs).length ≤ 256
    · rw [if_pos hf, if_pos hf]
      exact exactMul_yes _ _ p q A A' n c n' c' l l' w hx hy hp hq rfl rfl hf
    · rw [if_neg hf, if_neg hf]
      refine (exactMul_big _ _ p q A A' n c n' c' l l' w hx hy hp hq rfl rfl (by omega)).mono ?_
      rintro e w' ⟨rfl, hb⟩
      exact ⟨false, none, 0, 0, rfl, zv_zero _, hb⟩
  · rw [if_neg h, if_neg h]
    have h : (vld p l && vld q l') = false := by simpa using h
    refine ((exactMul_no p q A A' n c n' c' l l' w hx hy h).mono ?_)
    rintro e w' ⟨rfl, hb⟩
    exact ⟨false, none, 0, 0, rfl, zv_zero _, hb⟩

theorem refAdd_u (p q : Bool) (A A' : Option Addr) (n c n' c' : Nat) (l l' : List Nat) (w : World) (hx : Wd w (.slice A n c) l) (hy : Wd w (.slice A' n' c') l') :
    Calls Try.prog 23 #[.agg #[.bool p, .slice A n c], .agg #[.bool q, .slice A' n' c']] w (RetA w (ansZ p q l l' (numOf p l + numOf q l')) (ansE p q l l' (numOf p l + numOf q l'))) := by
  unfold ansZ ansE
  by_cases h : (vld p l && vld q l') = true
  · rw [if_pos h, if_pos h]
    have hp : vld p l = true := by simp at h; exact h.1
    have hq : vld q l' = true := by simp at h; exact h.2
    by_cases hf : (dig (numOf p l + numOf q l').natAbs).length ≤ 256
    · rw [if_pos hf, if_pos hf]
      exact refAdd_yes _ _ p q A A' n c n' c' l l' w hx hy hp hq rfl rfl hf
    · rw [if_neg hf, if_neg hf]
      refine (refAdd_big _ _ p q A A' n c n' c' l l' w hx hy hp hq rfl rfl (by omega)).mono ?_
      rintro e w' ⟨rfl, hb⟩
      exact ⟨false, none, 0, 0, rfl, zv_zero _, hb⟩
  · rw [if_neg h, if_neg h]
    have h : (vld p l && vld q l') = false := by simpa using h
    by_cases hp : vld p l = true
    · have hq : vld q l' = false := by rw [hp] at h; simpa using h
      refine ((refAdd_nob p q A A' n c n' c' l l' w hx hy hp hq).mono ?_)
      rintro e w' ⟨rfl, hb⟩
      exact ⟨false, none, 0, 0, rfl, zv_zero _, hb⟩
    · have hp : vld p l = false := by simpa using hp
      refine ((refAdd_noa p q A A' n c n' c' l l' w hx hy hp).mono ?_)
      rintro e w' ⟨rfl, hb⟩
      exact ⟨false, none, 0, 0, rfl, zv_zero _, hb⟩

theorem refSub_u (p q : Bool) (A A' : Option Addr) (n c n' c' : Nat) (l l' : List Nat) (w : World) (hx : Wd w (.slice A n c) l) (hy : Wd w (.slice A' n' c') l') :
    Calls Try.prog 25 #[.agg #[.bool p, .slice A n c], .agg #[.bool q, .slice A' n' c']] w (RetA w (ansZ p q l l' (numOf p l - numOf q l')) (ansE p q l l' (numOf p l - numOf q l'))) := by
  unfold ansZ ansE
  by_cases h : (vld p l && vld q l') = true
  · rw [if_pos h, if_pos h]
    have hp : vld p l = true := by simp at h; exact h.1
    have hq : vld q l' = true := by simp at h; exact h.2
    by_cases hf : (dig (numOf p l - numOf q l').natAbs).length ≤ 256
    · rw [if_pos hf, if_pos hf]
      exact refSub_yes _ _ p q A A' n c n' c' l l' w hx hy hp hq rfl rfl hf
    · rw [if_neg hf, if_neg hf]
      refine (refSub_big _ _ p q A A' n c n' c' l l' w hx hy hp hq rfl rfl (by omega)).mono ?_
      rintro e w' ⟨rfl, hb⟩
      exact ⟨false, none, 0, 0, rfl, zv_zero _, hb⟩
  · rw [if_neg h, if_neg h]
    have h : (vld p l && vld q l') = false := by simpa using h
    by_cases hp : vld p l = true
    · have hq : vld q l' = false := by rw [hp] at h; simpa using h
      refine ((refSub_nob p q A A' n c n' c' l l' w hx hy hp hq).mono ?_)
      rintro e w' ⟨rfl, hb⟩
      exact ⟨false, none, 0, 0, rfl, zv_zero _, hb⟩
    · have hp : vld p l = false := by simpa using hp
      refine ((refSub_noa p q A A' n c n' c' l l' w hx hy hp).mono ?_)
      rintro e w' ⟨rfl, hb⟩
      exact ⟨false, none, 0, 0, rfl, zv_zero _, hb⟩

theorem refMul_u (p q : Bool) (A A' : Option Addr) (n c n' c' : Nat) (l l' : List Nat) (w : World) (hx : Wd w (.slice A n c) l) (hy : Wd w (.slice A' n' c') l') :
    Calls Try.prog 27 #[.agg #[.bool p, .slice A n c], .agg #[.bool q, .slice A' n' c']] w (RetA w (ansZ p q l l' (numOf p l * numOf q l')) (ansE p q l l' (numOf p l * numOf q l'))) := by
  unfold ansZ ansE
  by_cases h : (vld p l && vld q l') = true
  · rw [if_pos h, if_pos h]
    have hp : vld p l = true := by simp at h; exact h.1
    have hq : vld q l' = true := by simp at h; exact h.2
    by_cases hf : (dig (numOf p l * numOf q l').natAbs).length ≤ 256
    · rw [if_pos hf, if_pos hf]
      exact refMul_yes _ _ p q A A' n c n' c' l l' w hx hy hp hq rfl rfl hf
    · rw [if_neg hf, if_neg hf]
      refine (refMul_big _ _ p q A A' n c n' c' l l' w hx hy hp hq rfl rfl (by omega)).mono ?_
      rintro e w' ⟨rfl, hb⟩
      exact ⟨false, none, 0, 0, rfl, zv_zero _, hb⟩
  · rw [if_neg h, if_neg h]
    have h : (vld p l && vld q l') = false := by simpa using h
    by_cases hp : vld p l = true
    · have hq : vld q l' = false := by rw [hp] at h; simpa using h
      refine ((refMul_nob p q A A' n c n' c' l l' w hx hy hp hq).mono ?_)
      rintro e w' ⟨rfl, hb⟩
      exact ⟨false, none, 0, 0, rfl, zv_zero _, hb⟩
    · have hp : vld p l = false := by simpa using hp
      refine ((refMul_noa p q A A' n c n' c' l l' w hx hy hp).mono ?_)
      rintro e w' ⟨rfl, hb⟩
      exact ⟨false, none, 0, 0, rfl, zv_zero _, hb⟩

theorem exactCmp_u (p q : Bool) (A A' : Option Addr) (n c n' c' : Nat) (l l' : List Nat) (w : World) (hx : Wd w (.slice A n c) l) (hy : Wd w (.slice A' n' c') l') :
    Calls Try.prog 20 #[.agg #[.bool p, .slice A n c], .agg #[.bool q, .slice A' n' c']] w fun e w' => e = .returned (.tuple #[.int .i64 (cmpA p q l l'), .int .i64 (cmpE p q l l')]) ∧ Below w.heap.size w w' := by
  unfold cmpA cmpE
  by_cases h : (vld p l && vld q l') = true
  · rw [if_pos h, if_pos h]
    have hp : vld p l = true := by simp at h; exact h.1
    have hq : vld q l' = true := by simp at h; exact h.2
    exact exactCmp_yes _ _ p q A A' n c n' c' l l' w hx hy hp hq rfl rfl
  · rw [if_neg h, if_neg h]
    exact exactCmp_no p q A A' n c n' c' l l' w hx hy (by simpa using h)

theorem refCmp_u (p q : Bool) (A A' : Option Addr) (n c n' c' : Nat) (l l' : List Nat) (w : World) (hx : Wd w (.slice A n c) l) (hy : Wd w (.slice A' n' c') l') :
    Calls Try.prog 21 #[.agg #[.bool p, .slice A n c], .agg #[.bool q, .slice A' n' c']] w fun e w' => e = .returned (.tuple #[.int .i64 (cmpA p q l l'), .int .i64 (cmpE p q l l')]) ∧ Below w.heap.size w w' := by
  unfold cmpA cmpE
  by_cases h : (vld p l && vld q l') = true
  · rw [if_pos h, if_pos h]
    have hp : vld p l = true := by simp at h; exact h.1
    have hq : vld q l' = true := by simp at h; exact h.2
    exact refCmp_yes _ _ p q A A' n c n' c' l l' w hx hy hp hq rfl rfl
  · rw [if_neg h, if_neg h]
    by_cases hp : vld p l = true
    · exact refCmp_nob p q A A' n c n' c' l l' w hx hy hp (by rw [hp] at h; simpa using h)
    · exact refCmp_noa p q A A' n c n' c' l l' w hx hy (by simpa using hp)

end Go.Proofs.Ytmlopkkbgpfdnaa
