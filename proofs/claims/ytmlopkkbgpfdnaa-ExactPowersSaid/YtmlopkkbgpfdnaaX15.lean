/- Walks: exact.Root. -/
import Derived.Test.YtmlopkkbgpfdnaaX14
import Derived.Test.YtmlopkkbgpfdnaaH2
namespace Go.Proofs.Ytmlopkkbgpfdnaa
open Go.RowKit

theorem three_hw (t : TypeId) (w : World) (p : Bool) (A : Option Addr) (n c : Nat) (l : List Nat) (hx : Wd w (.slice A n c) l) :
    ∃ W, W = (((w.alloc (Obj.cells #[.bool p, .slice A n c] t)).alloc (Obj.cells #[.bool false, .slice none 0 0] t)).alloc (Obj.cells #[.bool p, .slice A n c] t)) ∧
    HW W w.heap.size p A n c l ∧ RB W (w.heap.size + 1) ∧ W.heap[w.heap.size + 1 + 1]? = some (.cells #[.bool p, .slice A n c] t (0, 0)) ∧ Below w.heap.size w W ∧ w.heap.size + 3 ≤ W.heap.size := by
  have h1 : HW (w.alloc (Obj.cells #[.bool p, .slice A n c] t)) w.heap.size p A n c l := HW.new w p A n c l t hx
  have h2 : RB ((w.alloc (Obj.cells #[.bool p, .slice A n c] t)).alloc (Obj.cells #[.bool false, .slice none 0 0] t)) (w.heap.size + 1) := RB.b2 w false none 0 0 t _
  refine ⟨_, rfl, (h1.alloc _).alloc _, h2.below (below1 _ _) h2.lt, ?_, below3 w _ _ _, by simp⟩
  have := heap_alloc_new ((w.alloc (Obj.cells #[.bool p, .slice A n c] t)).alloc (Obj.cells #[.bool false, .slice none 0 0] t)) (Obj.cells #[.bool p, .slice A n c] t)
  simpa using this

/-- one result -/
theorem one_res {W w : World} {g : Nat} (R : RB W g) (b : Bool) (A : Option Addr) (n c : Nat) {v : Value} {z : Int} (h : ZV W v z) (hb : Below w.heap.size w W) (hg : w.heap.size ≤ g) :
    ∃ W', W' = (W.setCell ⟨g, 0, none⟩ (.bool b)).setCell ⟨g, 1, none⟩ (.slice A n c) ∧ W'.cell? ⟨g, 0, none⟩ = some (.bool b) ∧ W'.cell? ⟨g, 1, none⟩ = some (.slice A n c) ∧ ZV W' v z ∧ Below w.heap.size w W' :=
  ⟨_, rfl, R.set0 _ _, R.set1 _ _, h.rb R _ _, below_set2 hb hg _ _⟩

theorem zv_nil (w : World) : ZV w (.agg #[.bool false, .slice none 0 0]) 0 := ZV.mk (by simp) (by rw [Int.natAbs_zero, dig_zero]; exact Wd.nil_ _)

/-- Root's arguments are right -/
def rootOk (p : Bool) (l : List Nat) (k : Int) : Bool := vld p l && (!p && (decide (1 ≤ k) && decide (k ≤ 64)))

set_option maxHeartbeats 800000 in
set_option maxRecDepth 100000 in
theorem exactRoot_no (p : Bool) (A : Option Addr) (n c : Nat) (l : List Nat) (k : Int) (w : World) (hx : Wd w (.slice A n c) l) (hno : rootOk p l k = false) (h1 : -9223372036854775808 ≤ k) (h2 : k ≤ 9223372036854775807) :
    Calls Try.prog 44 #[.agg #[.bool p, .slice A n c], .int .i64 k] w fun e w' => e = .returned (.tuple #[.agg #[.bool false, .slice none 0 0], .int .i64 2]) ∧ Below w.heap.size w w' := by
  obtain ⟨W0, hW0, hH1, hR, h5, hb, z0⟩ := three_hw 24 w p A n c l hx
  have HW0 := Lib.hid hW0; clear hW0
  have HF := Lib.hid (And.intro hH1 (And.intro hR (And.intro h5 (And.intro hb z0))))
  clear hH1 hR h5 hb z0 hx
  have Hno := Lib.hid hno; clear hno
  go_enter Try.func44, Try.ntmps44
  go_wp2_with fail
  rw [← HW0.out]
  obtain ⟨hH1, hR, h5, hb, z0⟩ := HF.out
  clear HF
  refine (allValid_one p A n c l _ _ h5 hH1.w).mono ?_
  rintro e W1 ⟨rfl, hb1⟩
  have hx1 : Ext W0 W1 := hb1
  have k1 := (hH1.ext hx1).c0
  have R := hR.ext hx1
  obtain ⟨_, _, _, _, g30, g31, g32, g33⟩ := R.facts
  obtain ⟨W', hW', f1, f2, -, hbf⟩ := one_res (w := w) R false none 0 0 (zv_nil W1) (hb.trans (Below.mono hx1 hb.size)) (by omega)
  have HG := Lib.hid (And.intro hbf (And.intro f1 f2))
  have HW' := Lib.hid hW'
  clear hbf f1 f2 hW' R hR hb hH1 h5 hb1 hx1 HW0 z0
  have fin : ∀ e : Ending, e = .returned (.tuple #[.agg #[.bool false, .slice none 0 0], .int .i64 2]) → True := fun _ _ => trivial
  clear fin
  have key : vld p l = false ∨ (vld p l = true ∧ p = true) ∨ (vld p l = true ∧ p = false ∧ k < 1) ∨ (vld p l = true ∧ p = false ∧ 1 ≤ k ∧ 64 < k) := by
    have := Hno.out
    unfold rootOk at this
    cases hv : vld p l <;> cases p <;> simp [hv] at this ⊢
    omega
  clear Hno
  rcases key with hv | ⟨hv, rfl⟩ | ⟨hv, rfl, hk⟩ | ⟨hv, rfl, hk1, hk2⟩
  all_goals
    rw [hv]
    clear hv
    try have d1 : decide (k < 1) = true := by simpa using hk
    try have d2 : decide (k < 1) = false := by simpa using hk1
    try have d3 : decide (64 < k) = true := by simpa using hk2
    go_wp2
    rw [← HW'.out]
    obtain ⟨hbf, f1, f2⟩ := HG.out
    exact bodyPost_ret (v := .tuple #[.agg #[.bool false, .slice none 0 0], .int .i64 2]) (by simp [results, Try.results44, go_sem, f1, f2]) rfl ⟨rfl, hbf⟩

def RootOf (a k : Nat) (w : World) (e : Ending) (w' : World) : Prop := ∃ (x : Nat) (b : Bool) (A : Option Addr) (n c : Nat), e = .returned (.tuple #[.agg #[.bool b, .slice A n c], .int .i64 0]) ∧ ZV w' (.agg #[.bool b, .slice A n c]) (x : Int) ∧ x ^ k ≤ a ∧ Up a k x ∧ Below w.heap.size w w'

set_option maxHeartbeats 800000 in
set_option maxRecDepth 100000 in
theorem exactRoot_yes (A : Option Addr) (n c : Nat) (l : List Nat) (k : Nat) (w : World) (hx : Wd w (.slice A n c) l) (hv : vld false l = true) (hk1 : 1 ≤ k) (hk2 : k ≤ 64) :
    Calls Try.prog 44 #[.agg #[.bool false, .slice A n c], .int .i64 (k : Int)] w (RootOf (val l) k w) := by
  have hd : dig (val l) = l := by
    have := vld_dig hx.ok hv
    simpa [numOf] using this
  have hl : (dig (val l)).length ≤ 256 := by rw [hd]; exact vld_len hv
  obtain ⟨W0, hW0, hH1, hR, h5, hb, z0⟩ := three_hw 24 w false A n c l hx
  have HW0 := Lib.hid hW0; clear hW0
  have HF := Lib.hid (And.intro hH1 (And.intro hR (And.intro h5 (And.intro hb z0))))
  clear hH1 hR h5 hb z0 hx
  have Hv := Lib.hid hv; clear hv
  have Hd := Lib.hid hd; clear hd
  have Hl := Lib.hid hl; clear hl
  have d1 : decide ((k : Int) < 1) = false := by simp; omega
  have d2 : decide ((64 : Int) < k) = false := by simp; omega
  have hfield : ∀ w, (Instr.field 60 (.agg #[.bool false, .slice A n c]) 1).run Try.prog w = .ok (.slice A n c) w := fun _ => by kernel_rfl
  go_enter Try.func44, Try.ntmps44
  go_wp2_with fail
  rw [← HW0.out]
  obtain ⟨hH1, hR, h5, hb, z0⟩ := HF.out
  clear HF
  refine (allValid_one false A n c l _ _ h5 hH1.w).mono ?_
  rintro e W1 ⟨rfl, hb1⟩
  rw [Hv.out]
  have hx1 : Ext W0 W1 := hb1
  have H1 := Lib.hid (hH1.ext hx1)
  have k1 := H1.out.c0
  have k2 := H1.out.c1
  have R := Lib.hid (hR.ext hx1)
  have Hb := Lib.hid (hb.trans (Below.mono hx1 hb.size))
  have z1 : w.heap.size + 3 ≤ W1.heap.size := by have := hx1.size; omega
  clear hH1 hR h5 hb z0 hb1 hx1 HW0
  go_wp2_with fail
  refine (wholeOf_any false A n c _).mono ?_
  rintro e W2 ⟨rfl, hb2⟩
  have hx2 : Ext W1 W2 := hb2
  have hr := rootE_any (val l) k (.slice A n c) W2 (by rw [Hd.out]; exact (H1.out.ext hx2).w) Hl.out hk1 hk2
  have Hr := Lib.hid hr; clear hr
  have R2 := Lib.hid (R.out.ext hx2)
  have Hb2 := Lib.hid (Hb.out.trans (Below.mono hx2 Hb.out.size))
  have z2 : w.heap.size + 3 ≤ W2.heap.size := by have := hx2.size; omega
  clear hb2 hx2 k1 k2 R Hb z1
  go_wp2_with fail
  refine Hr.out.mono ?_
  rintro e W3 ⟨r, x, rfl, hw3, hxk, hup, hb3⟩
  obtain ⟨A3, n3, c3, rfl⟩ := hw3.slice_
  have hx3 : Ext W2 W3 := hb3
  have hz3 : ZV W3 (.agg #[.bool false, .slice A3 n3 c3]) (x : Int) := ZV.mk (by simp) (by rw [Int.natAbs_natCast]; exact hw3)
  have hxl : (dig x).length ≤ 256 := by
    have h1 : x ≤ val l := by
      refine Nat.le_trans ?_ hxk
      rcases Nat.eq_zero_or_pos x with h | h
      · rw [h]; exact Nat.zero_le _
      · calc x = x ^ 1 := (Nat.pow_one x).symm
          _ ≤ x ^ k := Nat.pow_le_pow_right h hk1
    exact Nat.le_trans (dig_len_mono h1) Hl.out
  have hio := asAgg (intOf_any (x : Int) _ W3 hz3 (by rw [Int.natAbs_natCast]; omega))
  have Hio := Lib.hid hio; clear hio
  have R3 := Lib.hid (R2.out.ext hx3)
  have Hb3 := Lib.hid (Hb2.out.trans (Below.mono hx3 Hb2.out.size))
  have z3 : w.heap.size + 3 ≤ W3.heap.size := by have := hx3.size; omega
  have HX := Lib.hid (And.intro hxk hup)
  clear hw3 hxk hup hb3 hx3 hz3 hxl R2 Hb2 z2 Hr
  go_wp2_with fail
  refine Hio.out.mono ?_
  rintro e W4 ⟨b4, A4, n4, c4, rfl, hz4, hb4⟩
  have hx4 : Ext W3 W4 := hb4
  have R4 := R3.out.ext hx4
  obtain ⟨_, _, _, _, g30, g31, g32, g33⟩ := R4.facts
  obtain ⟨W', hW', f1, f2, hzz, hbf⟩ := one_res (w := w) R4 b4 A4 n4 c4 hz4 (Hb3.out.trans (Below.mono hx4 Hb3.out.size)) (by omega)
  have HG := Lib.hid (And.intro hzz (And.intro hbf (And.intro f1 f2)))
  have HW' := Lib.hid hW'
  clear hzz hbf f1 f2 hW' R4 hb4 hx4 hz4 R3 Hb3 Hio
  go_wp2
  rw [← HW'.out]
  obtain ⟨hzz, hbf, f1, f2⟩ := HG.out
  exact bodyPost_ret (v := .tuple #[.agg #[.bool b4, .slice A4 n4 c4], .int .i64 0]) (by simp [results, Try.results44, go_sem, f1, f2]) rfl ⟨x, _, _, _, _, rfl, hzz, HX.out.1, HX.out.2, hbf⟩
end Go.Proofs.Ytmlopkkbgpfdnaa
