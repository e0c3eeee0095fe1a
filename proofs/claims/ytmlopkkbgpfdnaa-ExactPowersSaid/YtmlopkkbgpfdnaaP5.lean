/- Walks: Pow of both, wrong arguments. -/
import Derived.Test.YtmlopkkbgpfdnaaP4
namespace Go.Proofs.Ytmlopkkbgpfdnaa
open Go.RowKit

/-- Pow's arguments are right -/
def powOk (p : Bool) (l : List Nat) (k : Int) : Bool := vld p l && (decide (0 ≤ k) && decide (k ≤ 10000))

theorem pow_key {p : Bool} {l : List Nat} {k : Int} (h : powOk p l k = false) : vld p l = false ∨ (vld p l = true ∧ k < 0) ∨ (vld p l = true ∧ 0 ≤ k ∧ 10000 < k) := by
  unfold powOk at h
  cases hv : vld p l <;> simp [hv] at h ⊢
  omega

set_option maxHeartbeats 800000 in
set_option maxRecDepth 100000 in
theorem exactPow_no (p : Bool) (A : Option Addr) (n c : Nat) (l : List Nat) (k : Int) (w : World) (hx : Wd w (.slice A n c) l) (hno : powOk p l k = false) :
    Calls Try.prog 42 #[.agg #[.bool p, .slice A n c], .int .i64 k] w fun e w' => e = .returned (.tuple #[.agg #[.bool false, .slice none 0 0], .int .i64 2]) ∧ Below w.heap.size w w' := by
  obtain ⟨W0, hW0, hH1, hR, h5, hb, z0⟩ := three_hw 24 w p A n c l hx
  have HW0 := Lib.hid hW0; clear hW0
  have HF := Lib.hid (And.intro hH1 (And.intro hR (And.intro h5 (And.intro hb z0))))
  clear hH1 hR h5 hb z0 hx
  have Hno := Lib.hid hno; clear hno
  go_enter Try.func42, Try.ntmps42
  go_wp2_with fail
  rw [← HW0.out]
  obtain ⟨hH1, hR, h5, hb, z0⟩ := HF.out
  clear HF
  refine (allValid_one p A n c l _ _ h5 hH1.w).mono ?_
  rintro e W1 ⟨rfl, hb1⟩
  have hx1 : Ext W0 W1 := hb1
  have R := hR.ext hx1
  obtain ⟨_, _, _, _, g30, g31, g32, g33⟩ := R.facts
  obtain ⟨W', hW', f1, f2, -, hbf⟩ := one_res (w := w) R false none 0 0 (zv_nil W1) (hb.trans (Below.mono hx1 hb.size)) (by omega)
  have HG := Lib.hid (And.intro hbf (And.intro f1 f2))
  have HW' := Lib.hid hW'
  clear hbf f1 f2 hW' R hR hb hH1 h5 hb1 hx1 HW0 z0
  have key := pow_key Hno.out
  clear Hno
  rcases key with hv | ⟨hv, hk⟩ | ⟨hv, hk1, hk2⟩
  all_goals
    rw [hv]
    clear hv
    try have d1 : decide (k < 0) = true := by simpa using hk
    try have d2 : decide (k < 0) = false := by simpa using hk1
    try have d3 : decide (10000 < k) = true := by simpa using hk2
    go_wp2
    rw [← HW'.out]
    obtain ⟨hbf, f1, f2⟩ := HG.out
    exact bodyPost_ret (v := .tuple #[.agg #[.bool false, .slice none 0 0], .int .i64 2]) (by simp [results, Try.results42, go_sem, f1, f2]) rfl ⟨rfl, hbf⟩

set_option maxHeartbeats 800000 in
set_option maxRecDepth 100000 in
theorem refPow_no (p : Bool) (A : Option Addr) (n c : Nat) (l : List Nat) (k : Int) (w : World) (hx : Wd w (.slice A n c) l) (hno : powOk p l k = false) :
    Calls Try.prog 43 #[.agg #[.bool p, .slice A n c], .int .i64 k] w fun e w' => e = .returned (.tuple #[.agg #[.bool false, .slice none 0 0], .int .i64 2]) ∧ Below w.heap.size w w' := by
  obtain ⟨W0, hW0, hH1, hR, hb, z0⟩ := two_hw 24 w p A n c l hx
  have HW0 := Lib.hid hW0; clear hW0
  have HF := Lib.hid (And.intro hH1 (And.intro hR (And.intro hb z0)))
  clear hH1 hR hb z0 hx
  have Hno := Lib.hid hno; clear hno
  go_enter Try.func43, Try.ntmps43
  go_wp2_with fail
  rw [← HW0.out]
  obtain ⟨hH1, hR, hb, z0⟩ := HF.out
  clear HF
  refine (validR_any p A n c l _ hH1.w).mono ?_
  rintro e W1 ⟨rfl, hb1⟩
  have hx1 : Ext W0 W1 := hb1
  have R := hR.ext hx1
  obtain ⟨_, _, _, _, g30, g31, g32, g33⟩ := R.facts
  obtain ⟨W', hW', f1, f2, -, hbf⟩ := one_res (w := w) R false none 0 0 (zv_nil W1) (hb.trans (Below.mono hx1 hb.size)) (by omega)
  have HG := Lib.hid (And.intro hbf (And.intro f1 f2))
  have HW' := Lib.hid hW'
  clear hbf f1 f2 hW' R hR hb hH1 hb1 hx1 HW0 z0
  have key := pow_key Hno.out
  clear Hno
  rcases key with hv | ⟨hv, hk⟩ | ⟨hv, hk1, hk2⟩
  all_goals
    rw [hv]
    clear hv
    try have d1 : decide (k < 0) = true := by simpa using hk
    try have d2 : decide (k < 0) = false := by simpa using hk1
    try have d3 : decide (10000 < k) = true := by simpa using hk2
    go_wp2
    rw [← HW'.out]
    obtain ⟨hbf, f1, f2⟩ := HG.out
    exact bodyPost_ret (v := .tuple #[.agg #[.bool false, .slice none 0 0], .int .i64 2]) (by simp [results, Try.results43, go_sem, f1, f2]) rfl ⟨rfl, hbf⟩
end Go.Proofs.Ytmlopkkbgpfdnaa
