/- Walks: the numbers of moves. -/
import Derived.Test.YtgjanbgehbpciaaB3
namespace Go.Proofs.Ytgjanbgehbpciaa
open Go.RowKit

/-- the number of a move -/
def nm (w h : Nat) (m : Mv) : Nat := pos w h m.f.toNat m.t.toNat m.dx.toNat m.dy.toNat
theorem nm_bd {w h : Nat} {m : Mv} (hm : has w h m = true) : nm w h m < pos w h 2 0 0 0 := by
  rw [has_iff] at hm
  have h1 : m.f.toNat * 4 + m.t.toNat + 1 ≤ 8 := by cases m.f <;> simp <;> omega
  have h2 : (m.f.toNat * 4 + m.t.toNat) * w + m.dx.toNat + 1 ≤ 8 * w := by
    have := Nat.mul_le_mul_right w h1
    rw [Nat.succ_mul] at this
    omega
  have h3 := Nat.mul_le_mul_right h h2
  rw [Nat.succ_mul] at h3
  unfold nm pos
  simp only [Nat.reduceMul, Nat.add_zero]
  omega
theorem dec_nm {w h : Nat} {m : Mv} (hm : has w h m = true) : dec w h (nm w h m) = m := by
  rw [has_iff] at hm
  unfold nm
  rw [dec_pos (by cases m.f <;> simp) (by omega) (by omega) (by omega)]
  apply mv_ext
  · show ((m.dx.toNat : Nat) : Int) = m.dx; omega
  · show ((m.dy.toNat : Nat) : Int) = m.dy; omega
  · show ((m.t.toNat : Nat) : Int) = m.t; omega
  · show decide (m.f.toNat = 1) = m.f; cases m.f <;> rfl
theorem nm_dec {w h n : Nat} (hw : 1 ≤ w) (hh : 1 ≤ h) (hn : n < pos w h 2 0 0 0) : nm w h (dec w h n) = n := by
  unfold pos at hn
  simp only [Nat.reduceMul, Nat.add_zero] at hn
  have h1 : n / h < 8 * w := Nat.div_lt_of_lt_mul (by rw [Nat.mul_comm]; exact hn)
  have h2 : n / h / w < 8 := Nat.div_lt_of_lt_mul (by rw [Nat.mul_comm]; exact h1)
  have e1 : (decide (n / h / w / 4 = 1)).toNat * 4 + n / h / w % 4 = n / h / w := by
    generalize n / h / w = q at *
    rcases (by omega : q / 4 = 0 ∨ q / 4 = 1) with e | e
    · rw [e]; simp; omega
    · rw [e]; simp; omega
  unfold nm pos dec
  simp only [Int.toNat_natCast]
  rw [e1]
  have e2 : n / h / w * w + n / h % w = n / h := by rw [Nat.mul_comm]; exact Nat.div_add_mod _ _
  have e3 : n / h * h + n % h = n := by rw [Nat.mul_comm]; exact Nat.div_add_mod _ _
  rw [e2, e3]
theorem nm_inj {w h : Nat} {a b : Mv} (ha : has w h a = true) (hb : has w h b = true) (e : nm w h a = nm w h b) : a = b := by
  rw [← dec_nm ha, ← dec_nm hb, e]

/-- the parts of a number -/
theorem nm_parts {w h x y t : Nat} (hw : w ≤ 8) (hh : h ≤ 8) (ht : t < 4) (hx : x < w) (hy : y < h) :
    ((t : Int) * w = ((t * w : Nat) : Int) ∧ t * w ≤ 24) ∧ (((t : Int) * w + x) * h = (((t * w + x) * h : Nat) : Int) ∧ (t * w + x) * h ≤ 256) ∧ ((4 : Int) * w * h = ((4 * w * h : Nat) : Int) ∧ 4 * w * h ≤ 256) := by
  have a1 : t * w ≤ 3 * 8 := Nat.mul_le_mul (by omega) hw
  have a2 : (t * w + x) * h ≤ 32 * 8 := Nat.mul_le_mul (by omega) hh
  have a3 : 4 * w * h ≤ 32 * 8 := Nat.mul_le_mul (by omega) hh
  refine ⟨⟨by simp, a1⟩, ⟨by simp, a2⟩, ⟨by simp, a3⟩⟩
theorem nm_f {w h x y t : Nat} : (((t : Int) * w + x) * h + y) = ((nm w h ⟨x, y, t, false⟩ : Nat) : Int) := by
  simp [nm, pos]
theorem nm_t {w h x y t : Nat} : (((t : Int) * w + x) * h + y + 4 * w * h) = ((nm w h ⟨x, y, t, true⟩ : Nat) : Int) := by
  simp [nm, pos, Int.add_mul]
  omega

set_option maxHeartbeats 1000000 in
set_option maxRecDepth 100000 in
theorem numberR_c (w h x y t : Nat) (f : Bool) (W : World) (hw : w ≤ 8) (hh : h ≤ 8) (ht : t < 4) (hx : x < w) (hy : y < h) :
    Calls Try.prog 64 #[.int .i64 w, .int .i64 h, .agg #[.int .i64 x, .int .i64 y, .int .i64 t, .bool f]] W fun e W' => e = .returned (.int .i64 (nm w h ⟨x, y, t, f⟩ : Nat)) ∧ Ext W W' := by
  obtain ⟨⟨e1, b1⟩, ⟨e2, b2⟩, ⟨e3, b3⟩⟩ := nm_parts (y := y) hw hh ht hx hy
  have s1 : IntKind.i64.wrap ((t : Int) * w) = (t : Int) * w := IntWalk.i64_in _ (by omega)
  have s2 : IntKind.i64.wrap ((t : Int) * w + x) = (t : Int) * w + x := IntWalk.i64_in _ (by omega)
  have s3 : IntKind.i64.wrap (((t : Int) * w + x) * h) = ((t : Int) * w + x) * h := IntWalk.i64_in _ (by omega)
  have s4 : IntKind.i64.wrap (((t : Int) * w + x) * h + y) = ((t : Int) * w + x) * h + y := IntWalk.i64_in _ (by omega)
  have s5 : IntKind.i64.wrap (4 * (w : Int)) = 4 * (w : Int) := IntWalk.i64_in _ (by omega)
  have s6 : IntKind.i64.wrap (4 * (w : Int) * h) = 4 * (w : Int) * h := IntWalk.i64_in _ (by omega)
  have s7 : IntKind.i64.wrap (((t : Int) * w + x) * h + y + 4 * w * h) = ((t : Int) * w + x) * h + y + 4 * w * h := IntWalk.i64_in _ (by omega)
  clear e1 b1 e2 b2 e3 b3
  cases f
  · have E := Lib.hid (nm_f (w := w) (h := h) (x := x) (y := y) (t := t))
    go_enter Try.func64, Try.ntmps64
    go_wp2
    go_ret
    exact ⟨congrArg (fun z => Ending.returned (.int .i64 z)) E.out, al1 W _⟩
  · have E := Lib.hid (nm_t (w := w) (h := h) (x := x) (y := y) (t := t))
    go_enter Try.func64, Try.ntmps64
    go_wp2
    go_ret
    exact ⟨congrArg (fun z => Ending.returned (.int .i64 z)) E.out, al1 W _⟩

/-- the same, of the program: the turns behind a flip count from four on -/
theorem nm_f' {w h x y t : Nat} : (((t : Int) * w + x) * h + y) = ((nm w h ⟨x, y, t, false⟩ : Nat) : Int) := nm_f
theorem nm_t' {w h x y t : Nat} : ((((t : Int) + 4) * w + x) * h + y) = ((nm w h ⟨x, y, t, true⟩ : Nat) : Int) := by
  simp [nm, pos, Int.add_mul]
  omega
theorem nm_parts' {w h x y t : Nat} (hw : w ≤ 8) (hh : h ≤ 8) (ht : t < 8) (hx : x < w) (hy : y < h) :
    ((t : Int) * w = ((t * w : Nat) : Int) ∧ t * w ≤ 56) ∧ (((t : Int) * w + x) * h = (((t * w + x) * h : Nat) : Int) ∧ (t * w + x) * h ≤ 512) := by
  have a1 : t * w ≤ 7 * 8 := Nat.mul_le_mul (by omega) hw
  have a2 : (t * w + x) * h ≤ 64 * 8 := Nat.mul_le_mul (by omega) hh
  exact ⟨⟨by simp, a1⟩, ⟨by simp, a2⟩⟩

set_option maxHeartbeats 1000000 in
set_option maxRecDepth 100000 in
theorem number_c (w h x y t : Nat) (f : Bool) (W : World) (hw : w ≤ 8) (hh : h ≤ 8) (ht : t < 4) (hx : x < w) (hy : y < h) :
    Calls Try.prog 87 #[.agg #[.int .i64 w, .int .i64 h], .agg #[.int .i64 x, .int .i64 y, .int .i64 t, .bool f]] W fun e W' => e = .returned (.int .i64 (nm w h ⟨x, y, t, f⟩ : Nat)) ∧ Ext W W' := by
  cases f
  · obtain ⟨⟨e1, b1⟩, ⟨e2, b2⟩⟩ := nm_parts' (y := y) (t := t) hw hh (by omega) hx hy
    have s1 : IntKind.i64.wrap ((t : Int) * w) = (t : Int) * w := IntWalk.i64_in _ (by omega)
    have s2 : IntKind.i64.wrap ((t : Int) * w + x) = (t : Int) * w + x := IntWalk.i64_in _ (by omega)
    have s3 : IntKind.i64.wrap (((t : Int) * w + x) * h) = ((t : Int) * w + x) * h := IntWalk.i64_in _ (by omega)
    have s4 : IntKind.i64.wrap (((t : Int) * w + x) * h + y) = ((t : Int) * w + x) * h + y := IntWalk.i64_in _ (by omega)
    clear e1 b1 e2 b2
    have E := Lib.hid (nm_f (w := w) (h := h) (x := x) (y := y) (t := t))
    go_enter Try.func87, Try.ntmps87
    go_wp2
    go_ret
    exact ⟨congrArg (fun z => Ending.returned (.int .i64 z)) E.out, al2 W _ _⟩
  · obtain ⟨⟨e1, b1⟩, ⟨e2, b2⟩⟩ := nm_parts' (y := y) (t := t + 4) hw hh (by omega) hx hy
    have e0 : ((t + 4 : Nat) : Int) = (t : Int) + 4 := by simp
    rw [e0] at e1 e2
    have s1 : IntKind.i64.wrap (((t : Int) + 4) * w) = ((t : Int) + 4) * w := IntWalk.i64_in _ (by omega)
    have s2 : IntKind.i64.wrap (((t : Int) + 4) * w + x) = ((t : Int) + 4) * w + x := IntWalk.i64_in _ (by omega)
    have s3 : IntKind.i64.wrap ((((t : Int) + 4) * w + x) * h) = (((t : Int) + 4) * w + x) * h := IntWalk.i64_in _ (by omega)
    have s4 : IntKind.i64.wrap ((((t : Int) + 4) * w + x) * h + y) = (((t : Int) + 4) * w + x) * h + y := IntWalk.i64_in _ (by omega)
    clear e1 b1 e2 b2 e0
    have E := Lib.hid (nm_t' (w := w) (h := h) (x := x) (y := y) (t := t))
    go_enter Try.func87, Try.ntmps87
    go_wp2
    go_ret
    exact ⟨congrArg (fun z => Ending.returned (.int .i64 z)) E.out, al2 W _ _⟩

theorem numberR_any (w h : Nat) (m : Mv) (W : World) (hs : okSize w h = true) (hm : has w h m = true) :
    Calls Try.prog 64 #[.int .i64 w, .int .i64 h, .agg #[.int .i64 m.dx, .int .i64 m.dy, .int .i64 m.t, .bool m.f]] W fun e W' => e = .returned (.int .i64 (nm w h m : Nat)) ∧ Ext W W' := by
  rw [okSize_iff] at hs
  rw [has_iff] at hm
  obtain ⟨dx, dy, t, f⟩ := m
  simp only at hm
  obtain ⟨x, rfl⟩ : ∃ x : Nat, dx = x := ⟨dx.toNat, by omega⟩
  obtain ⟨y, rfl⟩ : ∃ y : Nat, dy = y := ⟨dy.toNat, by omega⟩
  obtain ⟨n, rfl⟩ : ∃ n : Nat, t = n := ⟨t.toNat, by omega⟩
  exact numberR_c w h x y n f W (by omega) (by omega) (by omega) (by omega) (by omega)
theorem number_any (w h : Nat) (m : Mv) (W : World) (hs : okSize w h = true) (hm : has w h m = true) :
    Calls Try.prog 87 #[.agg #[.int .i64 w, .int .i64 h], .agg #[.int .i64 m.dx, .int .i64 m.dy, .int .i64 m.t, .bool m.f]] W fun e W' => e = .returned (.int .i64 (nm w h m : Nat)) ∧ Ext W W' := by
  rw [okSize_iff] at hs
  rw [has_iff] at hm
  obtain ⟨dx, dy, t, f⟩ := m
  simp only at hm
  obtain ⟨x, rfl⟩ : ∃ x : Nat, dx = x := ⟨dx.toNat, by omega⟩
  obtain ⟨y, rfl⟩ : ∃ y : Nat, dy = y := ⟨dy.toNat, by omega⟩
  obtain ⟨n, rfl⟩ : ∃ n : Nat, t = n := ⟨t.toNat, by omega⟩
  exact number_c w h x y n f W (by omega) (by omega) (by omega) (by omega) (by omega)

set_option maxRecDepth 100000 in
theorem numbers_any (w h : Nat) (W : World) (hw : w ≤ 8) (hh : h ≤ 8) :
    Calls Try.prog 84 #[.agg #[.int .i64 w, .int .i64 h]] W fun e W' => e = .returned (.int .i64 (pos w h 2 0 0 0 : Nat)) ∧ Ext W W' := by
  have a1 : 8 * w ≤ 64 := by omega
  have a2 : 8 * w * h ≤ 64 * 8 := Nat.mul_le_mul a1 hh
  have e2 : (8 : Int) * w * h = ((8 * w * h : Nat) : Int) := by simp
  have s1 : IntKind.i64.wrap (8 * (w : Int)) = 8 * (w : Int) := IntWalk.i64_in _ (by omega)
  have s2 : IntKind.i64.wrap (8 * (w : Int) * h) = 8 * (w : Int) * h := IntWalk.i64_in _ (by omega)
  have e3 : (8 : Int) * w * h = ((pos w h 2 0 0 0 : Nat) : Int) := by simp [pos]
  have E := Lib.hid e3
  clear e2 e3 a1 a2
  go_enter Try.func84, Try.ntmps84
  go_wp2
  go_ret
  exact ⟨congrArg (fun z => Ending.returned (.int .i64 z)) E.out, al1 W _⟩
end Go.Proofs.Ytgjanbgehbpciaa
