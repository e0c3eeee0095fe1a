/- Walks: naturalOf, natural, twoTo. -/
import Derived.Test.YtmlopkkbgpfdnaaW1
namespace Go.Proofs.Ytmlopkkbgpfdnaa
open Go.RowKit

/-- the cells of a list of words -/
def U32s (l : List Nat) : Array Value := (l.map fun x : Nat => Value.int .u32 (x : Int)).toArray
theorem U32s_get {l : List Nat} {i : Nat} (h : i < l.length) : (U32s l)[i]? = some (.int .u32 (l.getD i 0 : Nat)) := by
  simp [U32s, List.getD_eq_getElem?_getD, h]
theorem U32s_set {l : List Nat} {i x : Nat} : (U32s l).setIfInBounds i (.int .u32 (x : Int)) = U32s (l.set i x) := by
  simp [U32s]

/-- block g of w is just the words l -/
def Blk (w : World) (g : Nat) (l : List Nat) : Prop := w.heap[g]? = some (.cells (U32s l) 66 (0, 0))

section
variable {w w' : World} {g : Nat} {l : List Nat}
theorem Blk.lt (h : Blk w g l) : g < w.heap.size := by
  rcases Nat.lt_or_ge g w.heap.size with hlt | hge
  · exact hlt
  · unfold Blk at h; rw [Array.getElem?_eq_none hge] at h; cases h
theorem Blk.cell (h : Blk w g l) {i : Nat} (hi : i < l.length) : w.cell? ⟨g, i, none⟩ = some (.int .u32 (l.getD i 0 : Nat)) :=
  (cell_of_row w g i (U32s l) 66 (0, 0) h).trans (U32s_get hi)
theorem Blk.frozen (h : Blk w g l) (i : Nat) : w.frozen? ⟨g, i, none⟩ = false := by
  unfold Blk at h
  simp [World.frozen?, h]
theorem Blk.drew (h : Blk w g l) : Blk w.drew g l := h
theorem Blk.alloc (h : Blk w g l) (o : Obj) : Blk (w.alloc o) g l := (Below.heap_alloc w o g h.lt).trans h
theorem Blk.set_ (h : Blk w g l) (i x : Nat) : Blk (w.setCell ⟨g, i, none⟩ (.int .u32 (x : Int))) g (l.set i x) := by
  unfold Blk at h ⊢
  simp [World.setCell, Array.getElem?_modify, h, U32s_set]
theorem Blk.far (h : Blk w g l) {p : Addr} (hp : g ≠ p.block) (u : Value) : Blk (w.setCell p u) g l := (Below.heap_setCell w p u g hp).trans h
theorem Blk.below {B : Nat} (h : Blk w g l) (hb : Below B w w') (hg : g < B) : Blk w' g l := (hb.block g hg).trans h
theorem Blk.wd (h : Blk w g l) (ho : Ok l) (hl : l.length ≤ 9223372036854775807) (c : Nat) (hc : l.length ≤ c) (hc' : c ≤ 9223372036854775807) : Wd w (.slice (some ⟨g, 0, none⟩) l.length c) l :=
  ⟨_, c, rfl, hc, hc', ho, fun _ => ⟨g, 0, rfl, h.lt, fun j hj => by rw [Nat.zero_add]; exact h.cell hj⟩⟩
end

theorem Wd.new (w : World) (l : List Nat) (ho : Ok l) (cs : Array Value) (t : TypeId) (n c : Nat) (hl : n = l.length) (hc : n ≤ c) (hc' : c ≤ 9223372036854775807)
    (hcs : ∀ j, j < l.length → cs[j]? = some (.int .u32 (l.getD j 0 : Nat))) : Wd (w.alloc (.cells cs t)) (.slice (some ⟨w.heap.size, 0, none⟩) n c) l := by
  subst hl
  exact ⟨_, c, rfl, hc, hc', ho, fun _ => ⟨w.heap.size, 0, rfl, by simp, fun j hj => by rw [Nat.zero_add, World.cell?_alloc_new]; exact hcs j hj⟩⟩

theorem below_alloc (w : World) (o : Obj) : Below w.heap.size w (w.alloc o) := (Below.refl _ _).alloc (Nat.le_refl _) o

/-- exact.naturalOf -/
theorem naturalOf_any (n : Nat) (hn : n < 18446744073709551616) (w : World) :
    Calls Try.prog 84 #[.int .u64 n] w fun e w' => ∃ u, e = .returned u ∧ Wd w' u (dig n) ∧ Below w.heap.size w w' := by
  have hv : val [n % 4294967296, n / 4294967296] = n := by simp only [val]; omega
  have ho : Ok [n % 4294967296, n / 4294967296] := Ok.mk (by omega) (Ok.mk (by omega) Ok.nil)
  have Hv := Lib.hid hv; clear hv
  go_enter Try.func84, Try.ntmps84
  go_wp2_with fail
  refine (trimE_any _ [n % 4294967296, n / 4294967296] _ (Wd.new w _ ho _ _ 2 2 rfl (by omega) (by omega) ?_)).mono ?_
  · intro j hj
    match j, hj with
    | 0, _ => simp
    | 1, _ => simp
  rintro e w' ⟨u, rfl, hu, rfl⟩
  rw [Hv.out] at hu
  have hb := below_alloc w (Obj.cells #[Value.int IntKind.u32 (↑n % 4294967296), Value.int IntKind.u32 (↑n / 4294967296)] 66)
  go_wp2
  go_ret
  exact ⟨u, rfl, hu, hb⟩

set_option maxRecDepth 100000 in
theorem info66 : (Try.prog.info? 66).map (fun i => (i.zero, i.size, i.bytes)) = some (some (.int .u32 0), 1, 4) := by kernel_rfl

theorem made_zeros (k : Nat) : madeCells (Value.int .u32 0).cells k = U32s (zeros k) := by
  apply Array.ext
  · simp [madeCells, U32s, zeros]
  · intro i h1 h2
    simp [madeCells, U32s, zeros, Value.cells, Nat.mod_one]

theorem make_u32 (t : TypeId) (ht : Try.prog.underlying t = some (.slice 66)) (k : Nat) (hk : k ≤ 70368744177664) (w : World) :
    (Instr.makeSlice t (.int .i64 (k : Int)) (.int .i64 (k : Int))).run Try.prog w = .ok (.slice (some ⟨w.heap.size, 0, none⟩) k k) (w.alloc (.cells (U32s (zeros k)) 66)) := by
  obtain ⟨i0, hi, hz0, hz1, hz2⟩ := info_parts info66
  have hr := run_make (P := Try.prog) w t 66 i0 _ ht hi hz0 .i64 .i64 k k (by omega) (Int.le_refl _) (by rw [hz2]; omega) (by omega)
  rw [hr, Int.toNat_natCast, hz1, Nat.mul_one, made_zeros]

theorem add32_any (a b c : Nat) (ha : a < 4294967296) (hb : b < 4294967296) (hc : c < 4294967296) (w : World) :
    Calls Try.prog 104 #[.int .u32 a, .int .u32 b, .int .u32 c] w fun e w' =>
      e = .returned (.tuple #[.int .u32 ((a + b + c) % 4294967296 : Nat), .int .u32 ((a + b + c) / 4294967296 : Nat)]) ∧ w = w' := by
  go_enter Try.func104, Try.ntmps104
  go_wp2
  go_ret2
  exact ⟨by simp, rfl⟩

set_option maxRecDepth 100000 in
/-- exact plus -/
theorem plusE_any (x y : Nat) (u v : Value) (w : World) (hx : Wd w u (dig x)) (hy : Wd w v (dig y)) (lx : (dig x).length ≤ 1000000) (ly : (dig y).length ≤ 1000000) :
    Calls Try.prog 86 #[u, v] w fun e w' => ∃ r, e = .returned r ∧ Wd w' r (dig (x + y)) ∧ Below w.heap.size w w' := by
  have Hx := Lib.hid hx
  have Hy := Lib.hid hy
  obtain ⟨A, c, rfl, -, -, -, -⟩ := hx
  obtain ⟨A', c', rfl, -, -, -, -⟩ := hy
  obtain ⟨nx, hnx⟩ : ∃ n, n = (dig x).length := ⟨_, rfl⟩
  obtain ⟨ny, hny⟩ : ∃ n, n = (dig y).length := ⟨_, rfl⟩
  rw [← hnx] at lx Hx ⊢
  rw [← hny] at ly Hy ⊢
  have Hnx := Lib.hid hnx; clear hnx
  have Hny := Lib.hid hny; clear hny
  obtain ⟨n, hn, h1, h2, h3⟩ : ∃ n : Nat, max (nx : Int) (ny : Int) = (n : Int) ∧ nx ≤ n ∧ ny ≤ n ∧ n ≤ 1000000 := ⟨max nx ny, by omega, by omega, by omega, by omega⟩
  have hmk : ∀ w, (Instr.makeSlice 58 (.int .i64 ((n : Int) + 1)) (.int .i64 ((n : Int) + 1))).run Try.prog w = .ok (.slice (some ⟨w.heap.size, 0, none⟩) (n + 1) (n + 1)) (w.alloc (.cells (U32s (zeros (n + 1))) 66)) := fun w => make_u32 58 Try.underlying58 (n + 1) (by omega) w
  go_enter Try.func86, Try.ntmps86
  go_wp2_with fail
  go_loopw [7, 18] (fun cr i wr => ∃ (k cv : Nat) (L : List Nat), i = .int .i64 k ∧ k ≤ n ∧ cr = .int .u32 cv ∧ cv ≤ 1 ∧ L.length = n + 1 ∧ Ok L ∧ Blk wr w.heap.size L ∧ Below w.heap.size w wr ∧
      val (L.take k) + 4294967296 ^ k * cv = x % 4294967296 ^ k + y % 4294967296 ^ k) (fun _ i _ => n - (intOf i).toNat)
  case atStart => exact ⟨0, 0, zeros (n + 1), rfl, Nat.zero_le _, rfl, by omega, zeros_length _, zeros_ok _, heap_alloc_new w _, below_alloc _ _, by simp [val, Nat.mod_one]⟩
  case round =>
    obtain ⟨k, cv, L, rfl, hk, rfl, hcv, hL, hok, hblk, hbel, hval⟩ := hrel
    have HV := Lib.hid hval; clear hval
    have HL := Lib.hid hL; clear hL
    have HX : Wd wr (.slice A nx c) (dig x) := Hx.out.below hbel
    have HY : Wd wr (.slice A' ny c') (dig y) := Hy.out.below hbel
    have hfr := hblk.frozen k
    have hce := hblk.cell (i := k) (by rw [HL.out]; omega)
    have hB := Lib.hid hblk; clear hblk
    by_cases hlt : k < n
    · go_wp2_with fail
      refine (word_dig _ x k _ HX).mono ?_
      rintro e w' ⟨rfl, rfl⟩
      go_wp2_with fail
      refine (word_dig _ y k _ HY).mono ?_
      rintro e w' ⟨rfl, rfl⟩
      go_wp2_with fail
      refine (add32_any _ _ _ (dg_lt x k) (dg_lt y k) (by omega) _).mono ?_
      rintro e w' ⟨rfl, rfl⟩
      obtain ⟨s, hs⟩ : ∃ s, s = dg x k + dg y k + cv := ⟨_, rfl⟩
      rw [← hs]
      have hsl : s < 8589934592 := by have := dg_lt x k; have := dg_lt y k; omega
      have hs2 : s / 4294967296 ≤ 1 := by have := dg_lt x k; have := dg_lt y k; omega
      have Hs := Lib.hid hs; clear hs
      obtain ⟨lo, hlo⟩ : ∃ lo, lo = s % 4294967296 := ⟨_, rfl⟩
      obtain ⟨hi, hhi⟩ : ∃ hi, hi = s / 4294967296 := ⟨_, rfl⟩
      rw [← hlo, ← hhi]
      rw [← hhi] at hs2
      have Hlo := Lib.hid hlo; clear hlo
      have Hhi := Lib.hid hhi; clear hhi
      go_wp2
      go_roundw
      case rel =>
        refine ⟨k + 1, hi, L.set k lo, by go_num, by omega, rfl, hs2, by rw [List.length_set, HL.out], hok.set (by rw [Hlo.out]; omega), hB.out.set_ k lo, hbel.setCell (Nat.le_refl _) _, ?_⟩
        rw [val_take_set (by rw [HL.out]; omega), Hlo.out, Hhi.out]
        exact add_round HV.out Hs.out
      case measure => simp [intOf]; omega
    · have hkn : k = n := by omega
      subst hkn
      go_wp2_with fail
      have hL2 : (L.set k cv).length = k + 1 := by rw [List.length_set, HL.out]
      have hv : val (L.set k cv) = x + y := by
        have e := val_take_set (l := L) (k := k) (x := cv) (by rw [HL.out]; omega)
        rw [List.take_of_length_le (by rw [hL2]; omega)] at e
        rw [e, HV.out, mod_len (by rw [← Hnx.out]; exact h1), mod_len (by rw [← Hny.out]; exact h2)]
      have hw2 := (hB.out.set_ k cv).wd (hok.set (by omega)) (by rw [hL2]; omega) (k + 1) (by rw [hL2]; omega) (by omega)
      rw [hL2] at hw2
      refine (trimE_any _ _ _ hw2).mono ?_
      rintro e w' ⟨r, rfl, hr, rfl⟩
      rw [hv] at hr
      have hb2 := hbel.setCell (p := ⟨w.heap.size, k, none⟩) (Nat.le_refl _) (.int .u32 (cv : Int))
      clear hv hL2 hw2
      go_wp2
      go_ret
      exact ⟨r, rfl, hr, hb2⟩

end Go.Proofs.Ytmlopkkbgpfdnaa
