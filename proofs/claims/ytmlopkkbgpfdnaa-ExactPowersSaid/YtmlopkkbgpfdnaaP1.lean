/- Walks: the reference's bits; Bits of both. -/
import Derived.Test.YtmlopkkbgpfdnaaX13
import Derived.Test.YtmlopkkbgpfdnaaX15
import Derived.Test.YtmlopkkbgpfdnaaR6
import Derived.Test.YtmlopkkbgpfdnaaR10
namespace Go.Proofs.Ytmlopkkbgpfdnaa
open Go.RowKit

set_option maxRecDepth 100000 in
/-- the reference's bits -/
theorem bitsR_any (x : Nat) (u : Value) (w : World) (hx : Wd w u (dig x)) (lx : (dig x).length ≤ 1000000) :
    Calls Try.prog 82 #[u] w fun e w' => e = .returned (.int .i64 (bitsN x : Nat)) ∧ w' = w := by
  have Hx := Lib.hid hx
  obtain ⟨A, c, rfl, -, -⟩ := hx.shape
  clear hx
  by_cases h0 : (dig x).length = 0
  · have hb : bitsN x = 0 := by unfold bitsN; rw [if_pos h0]
    rw [hb]
    rw [h0]
    clear hb h0 lx
    go_enter Try.func82, Try.ntmps82
    go_wp2
    go_ret
    exact ⟨rfl, rfl⟩
  · obtain ⟨n, hn⟩ : ∃ n, n = (dig x).length := ⟨_, rfl⟩
    obtain ⟨t, ht⟩ : ∃ t, t = dg x (n - 1) := ⟨_, rfl⟩
    have hb : bitsN x = (n - 1) * 32 + Lib.bitLen t := by unfold bitsN; rw [if_neg h0, ht, hn]
    have htl : t < 4294967296 := by rw [ht]; exact dg_lt _ _
    have hL : Lib.bitLen t ≤ 32 := Lib.bitLen_le t 32 (by omega) htl
    have hlt : t < 2 ^ Lib.bitLen t := by
      rcases Nat.eq_zero_or_pos t with h | h
      · rw [h]; exact Nat.pow_pos (by omega)
      · exact (bitLen_bounds t h (by omega)).2
    rw [hb]
    rw [← hn] at lx h0 Hx ⊢
    obtain ⟨b, off, rfl, hbs, hc⟩ := Wd.cell (k := n - 1) Hx.out (by omega)
    have hc0 := hc (n - 1) (by omega)
    rw [← ht] at hc0
    obtain ⟨L, hLd⟩ : ∃ L, L = Lib.bitLen t := ⟨_, rfl⟩
    have hmost : ∀ i, i ≤ 64 → t < 2 ^ i → L ≤ i := fun i h1 h2 => by rw [hLd]; exact Lib.bitLen_le t i h1 h2
    have Hmost := Lib.hid hmost; clear hmost
    rw [← hLd] at hL hlt ⊢
    have Hlt := Lib.hid hlt; clear hlt
    obtain ⟨B, hB⟩ : ∃ B, B = (n - 1) * 32 := ⟨_, rfl⟩
    have hBl : B ≤ 32000000 := by omega
    have HB := Lib.hid hB
    clear hLd hc hb hn ht hB
    have hnz : ((n : Int) == 0) = false := by simp; omega
    go_enter Try.func82, Try.ntmps82
    go_wp2_with fail
    go_loop [3, 4] (fun v y => ∃ i : Nat, v = .int .i64 ((B + i : Nat) : Int) ∧ i ≤ L ∧ y = .int .u32 ((t / 2 ^ i : Nat) : Int)) (fun _ y => (intOf y).toNat)
    case atStart => exact ⟨0, by rw [show (32 * ((n : Int) - 1)) = ((B + 0 : Nat) : Int) by have := HB.out; omega], Nat.zero_le _, by simp⟩
    case round =>
      obtain ⟨i, rfl, hi, rfl⟩ := hrel
      obtain ⟨y, hy⟩ : ∃ y, y = t / 2 ^ i := ⟨_, rfl⟩
      have hyl : y ≤ t := by rw [hy]; exact Nat.div_le_self _ _
      have hy2 : t / 2 ^ (i + 1) = y / 2 := by rw [hy, Nat.pow_succ, Nat.div_div_eq_div_mul]
      rw [← hy]
      have Hy := Lib.hid hy; clear hy
      rcases Nat.eq_zero_or_pos y with h | h
      · have hiL : i = L := by
          have h1 := Hy.out
          rw [h] at h1
          have h2 : t < 2 ^ i := by
            rcases Nat.lt_or_ge t (2 ^ i) with h' | h'
            · exact h'
            · have := Nat.div_pos h' (Nat.pow_pos (by omega : 0 < 2)); omega
          have := Hmost.out i (by omega) h2
          omega
        subst h
        rw [hiL]
        clear hiL hy2 Hy
        go_wp2
        go_ret
        exact ⟨by show Ending.returned (.int .i64 ((B + L : Nat) : Int)) = _; rw [HB.out, Int.natCast_add, Int.natCast_mul]; rfl, rfl⟩
      · have hiL : i + 1 ≤ L := by
          rcases Nat.lt_or_ge i L with h' | h'
          · exact h'
          · exfalso
            have h1 : 2 ^ L ≤ 2 ^ i := Nat.pow_le_pow_right (by omega) h'
            have h2 := Hlt.out
            have h3 := Hy.out
            rw [Nat.div_eq_of_lt (by omega)] at h3
            omega
        have H2 := Lib.hid hy2; clear hy2 Hy
        go_wp2
        go_round
        case rel => exact ⟨i + 1, by first | rfl | simp | (congr 1; omega), hiL, by rw [H2.out]; first | rfl | simp⟩
        case measure => simp [intOf]; omega

theorem box_hw (t : TypeId) (w : World) (p : Bool) (A : Option Addr) (n c : Nat) (l : List Nat) (hx : Wd w (.slice A n c) l) :
    ∃ W, W = ((w.alloc (Obj.cells #[.bool p, .slice A n c] t)).alloc (Obj.cells #[.bool p, .slice A n c] t)) ∧
    HW W w.heap.size p A n c l ∧ W.heap[w.heap.size + 1]? = some (.cells #[.bool p, .slice A n c] t (0, 0)) ∧ Below w.heap.size w W := by
  have h1 : HW (w.alloc (Obj.cells #[.bool p, .slice A n c] t)) w.heap.size p A n c l := HW.new w p A n c l t hx
  refine ⟨_, rfl, h1.alloc _, ?_, below2 w _ _⟩
  have := heap_alloc_new (w.alloc (Obj.cells #[.bool p, .slice A n c] t)) (Obj.cells #[.bool p, .slice A n c] t)
  simpa using this

/-- what Bits answers -/
def bitsV (p : Bool) (l : List Nat) : Nat := if vld p l = true then bitsN (val l) else 0
def bitsX (p : Bool) (l : List Nat) : Nat := if vld p l = true then 0 else 2

theorem vld_norm_dig {p : Bool} {l : List Nat} (ho : Ok l) (hv : vld p l = true) : dig (val l) = l := dig_val ho (vld_norm hv)

set_option maxRecDepth 100000 in
theorem exactBits_u (p : Bool) (A : Option Addr) (n c : Nat) (l : List Nat) (w : World) (hx : Wd w (.slice A n c) l) :
    Calls Try.prog 46 #[.agg #[.bool p, .slice A n c]] w fun e w' => e = .returned (.tuple #[.int .i64 (bitsV p l : Nat), .int .i64 (bitsX p l : Nat)]) ∧ Below w.heap.size w w' := by
  obtain ⟨W0, hW0, hH1, h5, hb⟩ := box_hw 24 w p A n c l hx
  have hfield : ∀ w, (Instr.field 60 (.agg #[.bool p, .slice A n c]) 1).run Try.prog w = .ok (.slice A n c) w := fun _ => by cases p <;> kernel_rfl
  have HW0 := Lib.hid hW0; clear hW0
  have HF := Lib.hid (And.intro hH1 (And.intro h5 hb))
  clear hH1 h5 hb hx
  go_enter Try.func46, Try.ntmps46
  go_wp2_with fail
  rw [← HW0.out]
  obtain ⟨hH1, h5, hb⟩ := HF.out
  clear HF
  refine (allValid_one p A n c l _ _ h5 hH1.w).mono ?_
  rintro e W1 ⟨rfl, hb1⟩
  have hx1 : Ext W0 W1 := hb1
  have m := hH1.ext hx1
  have c0 := m.c0
  have c1 := m.c1
  have Hb := Lib.hid (hb.trans (Below.mono hx1 hb.size))
  have M := Lib.hid m
  clear m hx1 hb1 hb hH1 h5
  cases hv : vld p l with
  | false =>
    have e1 : bitsV p l = 0 := by unfold bitsV; rw [hv]; rfl
    have e2 : bitsX p l = 2 := by unfold bitsX; rw [hv]; rfl
    have HE := Lib.hid (And.intro e1 e2)
    clear e1 e2 hv
    go_wp2
    go_ret2
    exact ⟨by rw [HE.out.1, HE.out.2]; rfl, Hb.out⟩
  | true =>
    have e1 : bitsV p l = bitsN (val l) := by unfold bitsV; rw [hv]; rfl
    have e2 : bitsX p l = 0 := by unfold bitsX; rw [hv]; rfl
    have hd := vld_norm_dig M.out.w.ok hv
    have hl := vld_len hv
    have HD := Lib.hid (And.intro hd hl)
    have HE := Lib.hid (And.intro e1 e2)
    clear e1 e2 hv hd hl
    go_wp2_with fail
    refine (wholeOf_any p A n c _).mono ?_
    rintro e W2 ⟨rfl, hb2⟩
    have hx2 : Ext W1 W2 := hb2
    have hw := (M.out.ext hx2).w
    rw [← HD.out.1] at hw
    have Hw := Lib.hid hw
    have Hb2 := Lib.hid (Hb.out.trans (Below.mono hx2 Hb.out.size))
    clear hw hb2 hx2 Hb M c0 c1
    go_wp2_with fail
    refine (bitsE_any (val l) _ _ Hw.out (by rw [HD.out.1]; have := HD.out.2; omega)).mono ?_
    rintro e W3 ⟨rfl, rfl⟩
    go_wp2
    go_ret2
    exact ⟨by rw [HE.out.1, HE.out.2]; rfl, Hb2.out⟩

set_option maxRecDepth 100000 in
theorem refBits_u (p : Bool) (A : Option Addr) (n c : Nat) (l : List Nat) (w : World) (hx : Wd w (.slice A n c) l) :
    Calls Try.prog 47 #[.agg #[.bool p, .slice A n c]] w fun e w' => e = .returned (.tuple #[.int .i64 (bitsV p l : Nat), .int .i64 (bitsX p l : Nat)]) ∧ Below w.heap.size w w' := by
  have hH := HW.new w p A n c l 24 hx
  have hb := below1 w (Obj.cells #[.bool p, .slice A n c] 24)
  have hfield : ∀ w, (Instr.field 34 (.agg #[.bool p, .slice A n c]) 1).run Try.prog w = .ok (.slice A n c) w := fun _ => by cases p <;> kernel_rfl
  have H1 := Lib.hid hH
  have Hb0 := Lib.hid hb
  clear hb hH hx
  go_enter Try.func47, Try.ntmps47
  go_wp2_with fail
  refine (validR_any p A n c l _ H1.out.w).mono ?_
  rintro e W1 ⟨rfl, hb1⟩
  have hx1 : Ext _ W1 := hb1
  have m := H1.out.ext hx1
  have c0 := m.c0
  have c1 := m.c1
  have Hb := Lib.hid (Hb0.out.trans (Below.mono hx1 Hb0.out.size))
  have M := Lib.hid m
  clear m hx1 hb1 Hb0 H1
  cases hv : vld p l with
  | false =>
    have e1 : bitsV p l = 0 := by unfold bitsV; rw [hv]; rfl
    have e2 : bitsX p l = 2 := by unfold bitsX; rw [hv]; rfl
    have HE := Lib.hid (And.intro e1 e2)
    clear e1 e2 hv
    go_wp2
    go_ret2
    exact ⟨by rw [HE.out.1, HE.out.2]; rfl, Hb.out⟩
  | true =>
    have e1 : bitsV p l = bitsN (val l) := by unfold bitsV; rw [hv]; rfl
    have e2 : bitsX p l = 0 := by unfold bitsX; rw [hv]; rfl
    have hd := vld_norm_dig M.out.w.ok hv
    have hl := vld_len hv
    have HD := Lib.hid (And.intro hd hl)
    have HE := Lib.hid (And.intro e1 e2)
    clear e1 e2 hv hd hl
    go_wp2_with fail
    refine (of_any p A n c _).mono ?_
    rintro e W2 ⟨rfl, hb2⟩
    have hx2 : Ext W1 W2 := hb2
    have hw := (M.out.ext hx2).w
    rw [← HD.out.1] at hw
    have Hw := Lib.hid hw
    have Hb2 := Lib.hid (Hb.out.trans (Below.mono hx2 Hb.out.size))
    clear hw hb2 hx2 Hb M c0 c1
    go_wp2_with fail
    refine (bitsR_any (val l) _ _ Hw.out (by rw [HD.out.1]; have := HD.out.2; omega)).mono ?_
    rintro e W3 ⟨rfl, rfl⟩
    go_wp2
    go_ret2
    exact ⟨by rw [HE.out.1, HE.out.2]; rfl, Hb2.out⟩
end Go.Proofs.Ytmlopkkbgpfdnaa
