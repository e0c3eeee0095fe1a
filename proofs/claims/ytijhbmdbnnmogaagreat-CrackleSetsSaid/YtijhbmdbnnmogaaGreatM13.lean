/- First walks. · Walks: naturalOf, natural, twoTo. · Walks: minus. · Walks: compare, order. · Walks: times. -/
import Derived.Test.YtijhbmdbnnmogaaGreatProg
import Derived.Test.YtijhbmdbnnmogaaGreatM12
import Derived.WalkKit
import Derived.WalkLawsBesides
import Derived.WalkSpells
import Derived.Outline
import Derived.BigGuardPart
import Derived.Lib.Hide
import Derived.Lib.MinMax
import Derived.Laws.BitsAllLaws
import Derived.Deep.QuietTactic
import Derived.BigQuiet
import Derived.Deep.RegionWith
import Derived.StillTailTactics
import Derived.BigRegion
namespace Go.Proofs.YtijhbmdbnnmogaaGreat
open Go.RowKit

/-- the words l lie at the slice value v in w -/
def Wd (w : World) (v : Value) (l : List Nat) : Prop :=
  ∃ A c, v = .slice A l.length c ∧ l.length ≤ c ∧ c ≤ 9223372036854775807 ∧ Ok l ∧
    (0 < l.length → ∃ b off, A = some ⟨b, off, none⟩ ∧ b < w.heap.size ∧ ∀ j, j < l.length → w.cell? ⟨b, off + j, none⟩ = some (.int .u32 (l.getD j 0 : Nat)))

theorem Wd.ok {w : World} {v : Value} {l : List Nat} (h : Wd w v l) : Ok l := by obtain ⟨_, _, _, _, _, h, _⟩ := h; exact h
theorem Wd.below {w w' : World} {v : Value} {l : List Nat} (h : Wd w v l) (hb : Below w.heap.size w w') : Wd w' v l := by
  obtain ⟨A, c, rfl, h1, h2, h3, h4⟩ := h
  refine ⟨A, c, rfl, h1, h2, h3, fun hp => ?_⟩
  obtain ⟨b, off, rfl, hb', hc⟩ := h4 hp
  exact ⟨b, off, rfl, Nat.lt_of_lt_of_le hb' hb.size, fun j hj => (hb.cell (p := ⟨b, off + j, none⟩) hb').trans (hc j hj)⟩
theorem Wd.nil_ (w : World) : Wd w (.slice none 0 0) [] := ⟨none, 0, rfl, Nat.le_refl _, by omega, Ok.nil, fun h => absurd h (by simp)⟩

theorem word_in (n c i : Nat) (b off : Nat) (x : Int) (w : World) (hi : i < n) (hn : n ≤ 9223372036854775807)
    (hx : w.cell? ⟨b, off + i, none⟩ = some (.int .u32 x)) :
    Calls Tryz.prog 172 #[.slice (some ⟨b, off, none⟩) n c, .int .i64 i] w fun e w' => e = .returned (.int .u32 x) ∧ w = w' := by
  go_enter Tryz.func172, Tryz.ntmps172
  go_wp2
  go_ret
  exact ⟨rfl, rfl⟩

theorem word_out (A : Option Addr) (n c : Nat) (i : Int) (w : World) (hi : i < 0 ∨ n ≤ i) (hn : n ≤ 9223372036854775807) :
    Calls Tryz.prog 172 #[.slice A n c, .int .i64 i] w fun e w' => e = .returned (.int .u32 0) ∧ w = w' := by
  by_cases h : i < 0
  · go_enter Tryz.func172, Tryz.ntmps172
    go_wp2
    go_ret
    exact ⟨rfl, rfl⟩
  · have h2 : (n : Int) ≤ i := by omega
    have h3 : 0 ≤ i := by omega
    clear hi h
    go_enter Tryz.func172, Tryz.ntmps172
    go_wp2
    all_goals (go_ret; exact ⟨rfl, rfl⟩)

/-- word -/
theorem word_any (v : Value) (l : List Nat) (i : Int) (w : World) (hv : Wd w v l) :
    Calls Tryz.prog 172 #[v, .int .i64 i] w fun e w' => e = .returned (.int .u32 ((if i < 0 then 0 else l.getD i.toNat 0 : Nat) : Int)) ∧ w = w' := by
  obtain ⟨A, c, rfl, h1, h2, h3, h4⟩ := hv
  by_cases h : i < 0 ∨ (l.length : Int) ≤ i
  · refine (word_out A l.length c i w h (by omega)).mono ?_
    rintro e w' ⟨rfl, rfl⟩
    refine ⟨?_, rfl⟩
    by_cases h' : i < 0
    · rw [if_pos h']; rfl
    · rw [if_neg h', List.getD_eq_getElem?_getD, List.getElem?_eq_none (by omega)]; rfl
  · obtain ⟨k, rfl⟩ : ∃ k : Nat, i = (k : Int) := ⟨i.toNat, by omega⟩
    have hk : k < l.length := by omega
    obtain ⟨b, off, rfl, hb, hc⟩ := h4 (by omega)
    refine (word_in l.length c k b off _ w hk (by omega) (hc k hk)).mono ?_
    rintro e w' ⟨rfl, rfl⟩
    exact ⟨by rw [if_neg (by omega)]; rfl, rfl⟩

/-- word, of digits -/
theorem word_dig (v : Value) (x i : Nat) (w : World) (hv : Wd w v (dig x)) :
    Calls Tryz.prog 172 #[v, .int .i64 (i : Int)] w fun e w' => e = .returned (.int .u32 (dg x i : Nat)) ∧ w = w' := by
  refine (word_any v _ i w hv).mono ?_
  rintro e w' ⟨rfl, rfl⟩
  exact ⟨by rw [if_neg (by omega), Int.toNat_natCast, dig_dg], rfl⟩

/-- exact.trim -/
theorem trimE_any (v : Value) (l : List Nat) (w : World) (hv : Wd w v l) :
    Calls Tryz.prog 211 #[v] w fun e w' => ∃ u, e = .returned u ∧ Wd w u (dig (val l)) ∧ w = w' := by
  obtain ⟨A, c, rfl, h1, h2, h3, h4⟩ := hv
  obtain ⟨n, hn⟩ : ∃ n, n = l.length := ⟨_, rfl⟩
  rw [← hn] at h1 h4 ⊢
  have Hn := Lib.hid hn; clear hn
  have hm : n ≤ 9223372036854775807 := by omega
  go_enter Tryz.func211, Tryz.ntmps211
  go_wp2
  go_loop [3] (fun i => ∃ k : Nat, i = .int .i64 k ∧ k ≤ n ∧ ∀ j, k ≤ j → j < n → l.getD j 0 = 0) (fun i => (intOf i).toNat)
  case atStart => exact ⟨n, rfl, Nat.le_refl _, fun j h h' => by omega⟩
  case round =>
    obtain ⟨k, rfl, hk, hz⟩ := hrel
    by_cases k0 : k = 0
    · subst k0
      have HZ := Lib.hid hz; clear hz
      go_wp2
      go_ret
      refine ⟨_, rfl, ?_, rfl⟩
      rw [dig_take (k := 0) h3 (by omega) (fun j h h' => HZ.out j h (by rw [Hn.out]; exact h')) (.inl rfl)]
      exact Wd.nil_ _
    · obtain ⟨b, off, rfl, hb, hc⟩ := h4 (by omega)
      have hx := hc (k - 1) (by omega)
      obtain ⟨x, hxe⟩ : ∃ x, x = l.getD (k - 1) 0 := ⟨_, rfl⟩
      rw [← hxe] at hx
      have Hx := Lib.hid hxe; clear hxe
      have HC := Lib.hid hc; clear hc h4
      have HZ := Lib.hid hz; clear hz
      have hkp : 0 < k := by omega
      by_cases hx0 : x = 0
      · subst hx0
        go_wp2
        go_round
        case rel =>
          refine ⟨k - 1, by rw [show ((k : Int) - 1) = ((k - 1 : Nat) : Int) from by omega], by omega, fun j hj hj' => ?_⟩
          by_cases e : j = k - 1
          · rw [e]; exact Hx.out.symm
          · exact HZ.out j (by omega) hj'
        case measure => simp [intOf]; omega
      · go_wp2
        go_ret
        have hl : (l.take k).length = k := by rw [List.length_take, ← Hn.out]; omega
        refine ⟨.slice (some ⟨b, off, none⟩) k k, rfl, ?_, rfl⟩
        rw [dig_take (k := k) h3 (by rw [← Hn.out]; omega) (fun j h h' => HZ.out j h (by rw [Hn.out]; exact h')) (.inr (by rw [← Hx.out]; exact hx0))]
        refine ⟨some ⟨b, off, none⟩, k, by rw [hl], by omega, by omega, h3.take k, fun _ => ⟨b, off, rfl, hb, fun j hj => ?_⟩⟩
        rw [hl] at hj
        rw [HC.out j (by omega)]
        simp [List.getD_eq_getElem?_getD, List.getElem?_take, hj]

end Go.Proofs.YtijhbmdbnnmogaaGreat
namespace Go.Proofs.YtijhbmdbnnmogaaGreat
open Go.RowKit

/-- the cells of a list of words -/
def U32s (l : List Nat) : Array Value := (l.map fun x : Nat => Value.int .u32 (x : Int)).toArray
theorem U32s_get {l : List Nat} {i : Nat} (h : i < l.length) : (U32s l)[i]? = some (.int .u32 (l.getD i 0 : Nat)) := by
  simp [U32s, List.getD_eq_getElem?_getD, h]
theorem U32s_set {l : List Nat} {i x : Nat} : (U32s l).setIfInBounds i (.int .u32 (x : Int)) = U32s (l.set i x) := by
  simp [U32s]

/-- block g of w is just the words l -/
def Blk (w : World) (g : Nat) (l : List Nat) : Prop := w.heap[g]? = some (.cells (U32s l) 172 (0, 0))

section
variable {w w' : World} {g : Nat} {l : List Nat}
theorem Blk.lt (h : Blk w g l) : g < w.heap.size := by
  rcases Nat.lt_or_ge g w.heap.size with hlt | hge
  · exact hlt
  · unfold Blk at h; rw [Array.getElem?_eq_none hge] at h; cases h
theorem Blk.cell (h : Blk w g l) {i : Nat} (hi : i < l.length) : w.cell? ⟨g, i, none⟩ = some (.int .u32 (l.getD i 0 : Nat)) :=
  (cell_of_row w g i (U32s l) 172 (0, 0) h).trans (U32s_get hi)
theorem Blk.frozen (h : Blk w g l) (i : Nat) : w.frozen? ⟨g, i, none⟩ = false := by
  unfold Blk at h
  simp [World.frozen?, h]
theorem Blk.drew (h : Blk w g l) : Blk w.drew g l := h
theorem Blk.alloc (h : Blk w g l) (o : Obj) : Blk (w.alloc o) g l := (Below.heap_alloc w o g h.lt).trans h
theorem Blk.set_ (h : Blk w g l) (i x : Nat) : Blk (w.setCell ⟨g, i, none⟩ (.int .u32 (x : Int))) g (l.set i x) := by
  unfold Blk at h ⊢
  simp [World.setCell, Array.getElem?_modify, h, U32s_set]
theorem Blk.far (h : Blk w g l) {p : Addr} (hp : g ≠ p.block) (u : Value) : Blk (w.setCell p u) g l := (Below.heap_setCell w p u g hp).trans h
theorem Blk.below {B : Nat} (h : Blk w g l) (hb : Below B w w') (hg : g < B) : Blk w' g l := (hb.block g hg).trans h
theorem Blk.wd (h : Blk w g l) (ho : Ok l) (hl : l.length ≤ 9223372036854775807) (c : Nat) (hc : l.length ≤ c) (hc' : c ≤ 9223372036854775807) : Wd w (.slice (some ⟨g, 0, none⟩) l.length c) l :=
  ⟨_, c, rfl, hc, hc', ho, fun _ => ⟨g, 0, rfl, h.lt, fun j hj => by rw [Nat.zero_add]; exact h.cell hj⟩⟩
end

theorem Wd.new (w : World) (l : List Nat) (ho : Ok l) (cs : Array Value) (t : TypeId) (n c : Nat) (hl : n = l.length) (hc : n ≤ c) (hc' : c ≤ 9223372036854775807)
    (hcs : ∀ j, j < l.length → cs[j]? = some (.int .u32 (l.getD j 0 : Nat))) : Wd (w.alloc (.cells cs t)) (.slice (some ⟨w.heap.size, 0, none⟩) n c) l := by
  subst hl
  exact ⟨_, c, rfl, hc, hc', ho, fun _ => ⟨w.heap.size, 0, rfl, by simp, fun j hj => by rw [Nat.zero_add, World.cell?_alloc_new]; exact hcs j hj⟩⟩

theorem below_alloc (w : World) (o : Obj) : Below w.heap.size w (w.alloc o) := (Below.refl _ _).alloc (Nat.le_refl _) o

/-- exact.naturalOf -/
theorem naturalOf_any (n : Nat) (hn : n < 18446744073709551616) (w : World) :
    Calls Tryz.prog 169 #[.int .u64 n] w fun e w' => ∃ u, e = .returned u ∧ Wd w' u (dig n) ∧ Below w.heap.size w w' := by
  have hv : val [n % 4294967296, n / 4294967296] = n := by simp only [val]; omega
  have ho : Ok [n % 4294967296, n / 4294967296] := Ok.mk (by omega) (Ok.mk (by omega) Ok.nil)
  have Hv := Lib.hid hv; clear hv
  go_enter Tryz.func169, Tryz.ntmps169
  go_wp2_with fail
  refine (trimE_any _ [n % 4294967296, n / 4294967296] _ (Wd.new w _ ho _ _ 2 2 rfl (by omega) (by omega) ?_)).mono ?_
  · intro j hj
    match j, hj with
    | 0, _ => simp
    | 1, _ => simp
  rintro e w' ⟨u, rfl, hu, rfl⟩
  rw [Hv.out] at hu
  have hb := below_alloc w (Obj.cells #[Value.int IntKind.u32 (↑n % 4294967296), Value.int IntKind.u32 (↑n / 4294967296)] 172)
  go_wp2
  go_ret
  exact ⟨u, rfl, hu, hb⟩

set_option maxRecDepth 100000 in
theorem info172 : (Tryz.prog.info? 172).map (fun i => (i.zero, i.size, i.bytes)) = some (some (.int .u32 0), 1, 4) := by kernel_rfl

theorem made_zeros (k : Nat) : madeCells (Value.int .u32 0).cells k = U32s (zeros k) := by
  apply Array.ext
  · simp [madeCells, U32s, zeros]
  · intro i h1 h2
    simp [madeCells, U32s, zeros, Value.cells, Nat.mod_one]

theorem make_u32 (t : TypeId) (ht : Tryz.prog.underlying t = some (.slice 172)) (k : Nat) (hk : k ≤ 70368744177664) (w : World) :
    (Instr.makeSlice t (.int .i64 (k : Int)) (.int .i64 (k : Int))).run Tryz.prog w = .ok (.slice (some ⟨w.heap.size, 0, none⟩) k k) (w.alloc (.cells (U32s (zeros k)) 172)) := by
  obtain ⟨i0, hi, hz0, hz1, hz2⟩ := info_parts info172
  have hr := run_make (P := Tryz.prog) w t 172 i0 _ ht hi hz0 .i64 .i64 k k (by omega) (Int.le_refl _) (by rw [hz2]; omega) (by omega)
  rw [hr, Int.toNat_natCast, hz1, Nat.mul_one, made_zeros]

theorem add32_any (a b c : Nat) (ha : a < 4294967296) (hb : b < 4294967296) (hc : c < 4294967296) (w : World) :
    Calls Tryz.prog 240 #[.int .u32 a, .int .u32 b, .int .u32 c] w fun e w' =>
      e = .returned (.tuple #[.int .u32 ((a + b + c) % 4294967296 : Nat), .int .u32 ((a + b + c) / 4294967296 : Nat)]) ∧ w = w' := by
  go_enter Tryz.func240, Tryz.ntmps240
  go_wp2
  go_ret2
  exact ⟨by simp, rfl⟩

set_option maxRecDepth 100000 in
/-- exact plus -/
theorem plusE_any (x y : Nat) (u v : Value) (w : World) (hx : Wd w u (dig x)) (hy : Wd w v (dig y)) (lx : (dig x).length ≤ 1000000) (ly : (dig y).length ≤ 1000000) :
    Calls Tryz.prog 227 #[u, v] w fun e w' => ∃ r, e = .returned r ∧ Wd w' r (dig (x + y)) ∧ Below w.heap.size w w' := by
  have Hx := Lib.hid hx
  have Hy := Lib.hid hy
  obtain ⟨A, c, rfl, -, -, -, -⟩ := hx
  obtain ⟨A', c', rfl, -, -, -, -⟩ := hy
  obtain ⟨nx, hnx⟩ : ∃ n, n = (dig x).length := ⟨_, rfl⟩
  obtain ⟨ny, hny⟩ : ∃ n, n = (dig y).length := ⟨_, rfl⟩
  rw [← hnx] at lx Hx ⊢
  rw [← hny] at ly Hy ⊢
  have Hnx := Lib.hid hnx; clear hnx
  have Hny := Lib.hid hny; clear hny
  obtain ⟨n, hn, h1, h2, h3⟩ : ∃ n : Nat, max (nx : Int) (ny : Int) = (n : Int) ∧ nx ≤ n ∧ ny ≤ n ∧ n ≤ 1000000 := ⟨max nx ny, by omega, by omega, by omega, by omega⟩
  have hmk : ∀ w, (Instr.makeSlice 150 (.int .i64 ((n : Int) + 1)) (.int .i64 ((n : Int) + 1))).run Tryz.prog w = .ok (.slice (some ⟨w.heap.size, 0, none⟩) (n + 1) (n + 1)) (w.alloc (.cells (U32s (zeros (n + 1))) 172)) := fun w => make_u32 150 Tryz.underlying150 (n + 1) (by omega) w
  go_enter Tryz.func227, Tryz.ntmps227
  go_wp2_with fail
  go_loopw [7, 18] (fun cr i wr => ∃ (k cv : Nat) (L : List Nat), i = .int .i64 k ∧ k ≤ n ∧ cr = .int .u32 cv ∧ cv ≤ 1 ∧ L.length = n + 1 ∧ Ok L ∧ Blk wr w.heap.size L ∧ Below w.heap.size w wr ∧
      val (L.take k) + 4294967296 ^ k * cv = x % 4294967296 ^ k + y % 4294967296 ^ k) (fun _ i _ => n - (intOf i).toNat)
  case atStart => exact ⟨0, 0, zeros (n + 1), rfl, Nat.zero_le _, rfl, by omega, zeros_length _, zeros_ok _, heap_alloc_new w _, below_alloc _ _, by simp [val, Nat.mod_one]⟩
  case round =>
    obtain ⟨k, cv, L, rfl, hk, rfl, hcv, hL, hok, hblk, hbel, hval⟩ := hrel
    have HV := Lib.hid hval; clear hval
    have HL := Lib.hid hL; clear hL
    have HX : Wd wr (.slice A nx c) (dig x) := Hx.out.below hbel
    have HY : Wd wr (.slice A' ny c') (dig y) := Hy.out.below hbel
    have hfr := hblk.frozen k
    have hce := hblk.cell (i := k) (by rw [HL.out]; omega)
    have hB := Lib.hid hblk; clear hblk
    by_cases hlt : k < n
    · go_wp2_with fail
      refine (word_dig _ x k _ HX).mono ?_
      rintro e w' ⟨rfl, rfl⟩
      go_wp2_with fail
      refine (word_dig _ y k _ HY).mono ?_
      rintro e w' ⟨rfl, rfl⟩
      go_wp2_with fail
      refine (add32_any _ _ _ (dg_lt x k) (dg_lt y k) (by omega) _).mono ?_
      rintro e w' ⟨rfl, rfl⟩
      obtain ⟨s, hs⟩ : ∃ s, s = dg x k + dg y k + cv := ⟨_, rfl⟩
      rw [← hs]
      have hsl : s < 8589934592 := by have := dg_lt x k; have := dg_lt y k; omega
      have hs2 : s / 4294967296 ≤ 1 := by have := dg_lt x k; have := dg_lt y k; omega
      have Hs := Lib.hid hs; clear hs
      obtain ⟨lo, hlo⟩ : ∃ lo, lo = s % 4294967296 := ⟨_, rfl⟩
      obtain ⟨hi, hhi⟩ : ∃ hi, hi = s / 4294967296 := ⟨_, rfl⟩
      rw [← hlo, ← hhi]
      rw [← hhi] at hs2
      have Hlo := Lib.hid hlo; clear hlo
      have Hhi := Lib.hid hhi; clear hhi
      go_wp2
      go_roundw
      case rel =>
        refine ⟨k + 1, hi, L.set k lo, by go_num, by omega, rfl, hs2, by rw [List.length_set, HL.out], hok.set (by rw [Hlo.out]; omega), hB.out.set_ k lo, hbel.setCell (Nat.le_refl _) _, ?_⟩
        rw [val_take_set (by rw [HL.out]; omega), Hlo.out, Hhi.out]
        exact add_round HV.out Hs.out
      case measure => simp [intOf]; omega
    · have hkn : k = n := by omega
      subst hkn
      go_wp2_with fail
      have hL2 : (L.set k cv).length = k + 1 := by rw [List.length_set, HL.out]
      have hv : val (L.set k cv) = x + y := by
        have e := val_take_set (l := L) (k := k) (x := cv) (by rw [HL.out]; omega)
        rw [List.take_of_length_le (by rw [hL2]; omega)] at e
        rw [e, HV.out, mod_len (by rw [← Hnx.out]; exact h1), mod_len (by rw [← Hny.out]; exact h2)]
      have hw2 := (hB.out.set_ k cv).wd (hok.set (by omega)) (by rw [hL2]; omega) (k + 1) (by rw [hL2]; omega) (by omega)
      rw [hL2] at hw2
      refine (trimE_any _ _ _ hw2).mono ?_
      rintro e w' ⟨r, rfl, hr, rfl⟩
      rw [hv] at hr
      have hb2 := hbel.setCell (p := ⟨w.heap.size, k, none⟩) (Nat.le_refl _) (.int .u32 (cv : Int))
      clear hv hL2 hw2
      go_wp2
      go_ret
      exact ⟨r, rfl, hr, hb2⟩

end Go.Proofs.YtijhbmdbnnmogaaGreat
namespace Go.Proofs.YtijhbmdbnnmogaaGreat
open Go.RowKit

theorem top_bit (n : Nat) (h : n < 4294967296) : n / 2147483648 = if n.testBit 31 then 1 else 0 := by
  rw [Nat.testBit_eq_decide_div_mod_eq]
  have : n / 2147483648 < 2 := by omega
  by_cases h1 : n / 2147483648 = 1
  · simp [h1]
  · rw [if_neg (by simp; omega)]; omega

theorem sub_borrow_nat (a b c d : Nat) (ha : a < 4294967296) (hb : b < 4294967296) (hc : c ≤ 1) (hd : d = (a + 4294967296 - b - c) % 4294967296) :
    (((4294967295 ^^^ a) &&& b) ||| ((4294967295 ^^^ (a ^^^ b)) &&& d)) / 2147483648 = if a < b + c then 1 else 0 := by
  have hd' : d < 4294967296 := by omega
  have m : (4294967295 : Nat) < 2 ^ 32 := by decide
  rw [top_bit _ (Nat.or_lt_two_pow (n := 32) (Nat.and_lt_two_pow (n := 32) _ hb) (Nat.and_lt_two_pow (n := 32) _ hd'))]
  simp only [Nat.testBit_or, Nat.testBit_and, Nat.testBit_xor]
  rw [show Nat.testBit 4294967295 31 = true from by decide]
  simp only [Nat.testBit_eq_decide_div_mod_eq]
  have e : (2 : Nat) ^ 31 = 2147483648 := by decide
  rw [e]
  rcases (by omega : a / 2147483648 % 2 = 0 ∨ a / 2147483648 % 2 = 1) with h1 | h1 <;>
  rcases (by omega : b / 2147483648 % 2 = 0 ∨ b / 2147483648 % 2 = 1) with h2 | h2 <;>
  rcases (by omega : d / 2147483648 % 2 = 0 ∨ d / 2147483648 % 2 = 1) with h3 | h3 <;>
  simp [h1, h2, h3] <;> omega

theorem max_u32 : IntKind.u32.max = ((4294967295 : Nat) : Int) := by decide

theorem sub_borrow (a b c : Nat) (ha : a < 4294967296) (hb : b < 4294967296) (hc : c ≤ 1) :
    bits BinOp.or IntKind.u32 (bits BinOp.and IntKind.u32 (bits BinOp.xor IntKind.u32 IntKind.u32.max ↑a) ↑b)
              (bits BinOp.and IntKind.u32
                (bits BinOp.xor IntKind.u32 IntKind.u32.max (bits BinOp.xor IntKind.u32 ↑a ↑b))
                (((a : Int) - ↑b - ↑c) % 4294967296)) /
            2147483648 = ((if a < b + c then 1 else 0 : Nat) : Int) := by
  have hd : ((a : Int) - ↑b - ↑c) % 4294967296 = (((a + 4294967296 - b - c) % 4294967296 : Nat) : Int) := by omega
  rw [hd, max_u32]
  have xl : ∀ x y : Nat, x < 4294967296 → y < 4294967296 → x ^^^ y < 4294967296 := fun x y h h' => Nat.xor_lt_two_pow (n := 32) h h'
  have al : ∀ x y : Nat, y < 4294967296 → x &&& y < 4294967296 := fun x y h' => Nat.and_lt_two_pow (n := 32) x h'
  rw [u32_xor_nat _ _ (by omega) ha, u32_xor_nat _ _ ha hb, u32_xor_nat _ _ (by omega) (xl _ _ ha hb), u32_and_nat _ _ (xl _ _ (by omega) ha) hb,
    u32_and_nat _ _ (xl _ _ (by omega) (xl _ _ ha hb)) (by omega), u32_or_nat _ _ (al _ _ hb) (al _ _ (by omega)), ← sub_borrow_nat a b c _ ha hb hc rfl]
  omega

set_option maxRecDepth 100000 in
theorem sub32_any (a b c : Nat) (ha : a < 4294967296) (hb : b < 4294967296) (hc : c ≤ 1) (w : World) :
    Calls Tryz.prog 242 #[.int .u32 a, .int .u32 b, .int .u32 c] w fun e w' =>
      e = .returned (.tuple #[.int .u32 ((a + 4294967296 - b - c) % 4294967296 : Nat), .int .u32 ((if a < b + c then 1 else 0 : Nat) : Int)]) ∧ w = w' := by
  have H := sub_borrow a b c ha hb hc
  obtain ⟨r, hr⟩ : ∃ r : Nat, r = if a < b + c then 1 else 0 := ⟨_, rfl⟩
  rw [← hr] at H ⊢
  clear hr
  go_enter Tryz.func242, Tryz.ntmps242
  go_wp2
  go_ret2
  exact ⟨by simp; omega, rfl⟩

set_option maxRecDepth 100000 in
/-- exact minus -/
theorem minusE_any (x y : Nat) (u v : Value) (w : World) (hx : Wd w u (dig x)) (hy : Wd w v (dig y)) (lx : (dig x).length ≤ 1000000) (hyx : y ≤ x) :
    Calls Tryz.prog 229 #[u, v] w fun e w' => ∃ r, e = .returned r ∧ Wd w' r (dig (x - y)) ∧ Below w.heap.size w w' := by
  have Hx := Lib.hid hx
  have Hy := Lib.hid hy
  have Hyx := Lib.hid hyx; clear hyx
  obtain ⟨A, c, rfl, -, -, -, hcx⟩ := hx
  obtain ⟨n, hn⟩ : ∃ n, n = (dig x).length := ⟨_, rfl⟩
  rw [← hn] at lx Hx hcx ⊢
  have Hn := Lib.hid hn; clear hn
  have hmk : ∀ w, (Instr.makeSlice 150 (.int .i64 (n : Int)) (.int .i64 (n : Int))).run Tryz.prog w = .ok (.slice (some ⟨w.heap.size, 0, none⟩) n n) (w.alloc (.cells (U32s (zeros n)) 172)) := fun w => make_u32 150 Tryz.underlying150 n (by omega) w
  have HC := Lib.hid hcx; clear hcx
  go_enter Tryz.func229, Tryz.ntmps229
  go_wp2_with fail
  go_loopw [6, 13] (fun cr i wr => ∃ (k cv : Nat) (L : List Nat), i = .int .i64 k ∧ k ≤ n ∧ cr = .int .u32 cv ∧ cv ≤ 1 ∧ L.length = n ∧ Ok L ∧ Blk wr w.heap.size L ∧ Below w.heap.size w wr ∧
      val (L.take k) + y % 4294967296 ^ k = x % 4294967296 ^ k + 4294967296 ^ k * cv) (fun _ i _ => n - (intOf i).toNat)
  case atStart => exact ⟨0, 0, zeros n, rfl, Nat.zero_le _, rfl, by omega, zeros_length _, zeros_ok _, heap_alloc_new w _, below_alloc _ _, by simp [val, Nat.mod_one]⟩
  case round =>
    obtain ⟨k, cv, L, rfl, hk, rfl, hcv, hL, hok, hblk, hbel, hval⟩ := hrel
    have HV := Lib.hid hval; clear hval
    have HL := Lib.hid hL; clear hL
    have HY : Wd wr v (dig y) := Hy.out.below hbel
    by_cases hlt : k < n
    · have hfr := hblk.frozen k
      have hce := hblk.cell (i := k) (by rw [HL.out]; omega)
      have hB := Lib.hid hblk; clear hblk
      obtain ⟨b, off, rfl, hb, hc⟩ := HC.out (by omega)
      have hxk : wr.cell? ⟨b, off + k, none⟩ = some (.int .u32 (dg x k : Nat)) := by
        rw [hbel.cell (p := ⟨b, off + k, none⟩) hb, hc k hlt, dig_dg]
      clear HC
      have HCC := Lib.hid hc; clear hc
      obtain ⟨lo, hlo⟩ : ∃ lo, lo = (dg x k + 4294967296 - dg y k - cv) % 4294967296 := ⟨_, rfl⟩
      obtain ⟨hi, hhi⟩ : ∃ hi, hi = (if dg x k < dg y k + cv then 1 else 0) := ⟨_, rfl⟩
      have hhi1 : hi ≤ 1 := by rw [hhi]; split <;> omega
      have hlo1 : lo < 4294967296 := by rw [hlo]; omega
      have es : ∀ w : World, Calls Tryz.prog 242 #[.int .u32 (dg x k : Nat), .int .u32 (dg y k : Nat), .int .u32 cv] w fun e w' => e = .returned (.tuple #[.int .u32 lo, .int .u32 hi]) ∧ w = w' := fun w => by
        have := sub32_any _ _ _ (dg_lt x k) (dg_lt y k) hcv w
        rwa [← hlo, ← hhi] at this
      have ES := Lib.hid es; clear es
      have Hlo := Lib.hid hlo; clear hlo
      have Hhi := Lib.hid hhi; clear hhi
      go_wp2_with fail
      go_region_with (first
        | (go_at_call 172; refine (word_dig v y k _ (by exact HY)).mono ?_; rintro e w' ⟨rfl, rfl⟩)
        | (go_at_call 242; refine (ES.out _).mono ?_; rintro e w' ⟨rfl, rfl⟩))
      all_goals go_wp2
      all_goals
        go_roundw
        case rel =>
          refine ⟨k + 1, hi, L.set k lo, by go_num, by omega, rfl, hhi1, by rw [List.length_set, HL.out], hok.set hlo1, (hB.out.set_ k lo).drew, (hbel.setCell (Nat.le_refl _) _).drew, ?_⟩
          rw [val_take_set (by rw [HL.out]; omega)]
          exact sub_round HV.out hcv Hlo.out Hhi.out
        case measure => simp [intOf]; omega
    · have hkn : k = n := by omega
      subst hkn
      have hB := Lib.hid hblk; clear hblk
      go_wp2_with fail
      have hv : val L = x - y := by
        have e := HV.out
        rw [List.take_of_length_le (by rw [HL.out]; omega), mod_len (x := x) (by rw [← Hn.out]; omega)] at e
        have hxl := val_lt hok
        rw [HL.out] at hxl
        have hyy : y % 4294967296 ^ k = y := mod_len (by have := dig_len_mono Hyx.out; rw [← Hn.out] at this; exact this)
        rw [hyy] at e
        have := Hyx.out
        rcases (by omega : cv = 0 ∨ cv = 1) with h | h
        · subst h; omega
        · subst h; have hlt := lt_of_dig_len (n := x) (k := k) (by rw [← Hn.out]; omega); omega
      have hw2 := hB.out.wd hok (by rw [HL.out]; omega) k (by rw [HL.out]; omega) (by omega)
      rw [HL.out] at hw2
      refine (trimE_any _ _ _ hw2).mono ?_
      rintro e w' ⟨r, rfl, hr, rfl⟩
      rw [hv] at hr
      clear hv hw2
      go_wp2
      go_ret
      exact ⟨r, rfl, hr, hbel⟩

end Go.Proofs.YtijhbmdbnnmogaaGreat
namespace Go.Proofs.YtijhbmdbnnmogaaGreat
open Go.RowKit

theorem cmpInt_any (x y : Int) (w : World) :
    Calls Tryz.prog 48 #[.int .i64 x, .int .i64 y] w fun e w' => e = .returned (.int .i64 (if x < y then -1 else if y < x then 1 else 0)) ∧ w = w' := by
  rcases Int.lt_trichotomy x y with h | h | h
  · rw [if_pos h]
    go_enter Tryz.func48, Tryz.ntmps48
    go_wp2
    go_ret
    exact ⟨rfl, rfl⟩
  · subst h
    rw [if_neg (by omega), if_neg (by omega)]
    go_enter Tryz.func48, Tryz.ntmps48
    go_wp2
    go_ret
    exact ⟨rfl, rfl⟩
  · rw [if_neg (by omega), if_pos h]
    go_enter Tryz.func48, Tryz.ntmps48
    go_wp2
    go_ret
    exact ⟨rfl, rfl⟩

theorem cmpU32_any (x y : Nat) (w : World) :
    Calls Tryz.prog 241 #[.int .u32 (x : Int), .int .u32 (y : Int)] w fun e w' => e = .returned (.int .i64 (cmpN x y)) ∧ w = w' := by
  rcases Nat.lt_trichotomy x y with h | h | h
  · rw [cmpN_lt h]
    go_enter Tryz.func241, Tryz.ntmps241
    go_wp2
    go_ret
    exact ⟨rfl, rfl⟩
  · subst h
    rw [cmpN_eq rfl]
    go_enter Tryz.func241, Tryz.ntmps241
    go_wp2
    go_ret
    exact ⟨rfl, rfl⟩
  · rw [cmpN_gt h]
    go_enter Tryz.func241, Tryz.ntmps241
    go_wp2
    go_ret
    exact ⟨rfl, rfl⟩

theorem Wd.cell {w : World} {A : Option Addr} {n c x k : Nat} (h : Wd w (.slice A n c) (dig x)) (hk : k < n) :
    ∃ b off, A = some ⟨b, off, none⟩ ∧ b < w.heap.size ∧ ∀ k, k < n → w.cell? ⟨b, off + k, none⟩ = some (.int .u32 (dg x k : Nat)) := by
  obtain ⟨A', c', he, h1, h2, h3, h4⟩ := h
  injection he with e1 e2 e3
  subst e1 e3
  rw [← e2] at h4
  obtain ⟨b, off, rfl, hb, hc⟩ := h4 (by omega)
  exact ⟨b, off, rfl, hb, fun k hk => by rw [hc k hk, dig_dg]⟩

theorem Wd.len {w : World} {A : Option Addr} {n c : Nat} {l : List Nat} (h : Wd w (.slice A n c) l) : n = l.length := by
  obtain ⟨A', c', he, _⟩ := h
  injection he
theorem Wd.shape {w : World} {v : Value} {l : List Nat} (h : Wd w v l) : ∃ A c, v = .slice A l.length c ∧ l.length ≤ c ∧ c ≤ 9223372036854775807 := by
  obtain ⟨A', c', he, h1, h2, _⟩ := h
  exact ⟨A', c', he, h1, h2⟩
theorem Wd.drewN {w : World} {v : Value} {l : List Nat} (h : Wd w v l) (n : Nat) : Wd (w.drewN n) v l := h
theorem Wd.drew {w : World} {v : Value} {l : List Nat} (h : Wd w v l) : Wd w.drew v l := h

theorem compareE_ne (x y n m c c' : Nat) (A A' : Option Addr) (w : World) (hn : n = (dig x).length) (hm : m = (dig y).length) (hne : n ≠ m) (ln : n ≤ 9223372036854775807) (lm : m ≤ 9223372036854775807) :
    Calls Tryz.prog 228 #[.slice A n c, .slice A' m c'] w fun e w' => e = .returned (.int .i64 (cmpN x y)) ∧ ∃ n, w' = w.drewN n := by
  have hc : (if (n : Int) < m then (-1 : Int) else if (m : Int) < n then 1 else 0) = cmpN x y := by
    rcases Nat.lt_or_ge n m with h | h
    · rw [if_pos (by omega), cmpN_lt (lt_of_len_lt (by omega))]
    · rw [if_neg (by omega), if_pos (by omega), cmpN_gt (lt_of_len_lt (by omega))]
  have Hn := Lib.hid hn; clear hn
  have Hm := Lib.hid hm; clear hm
  have Hc := Lib.hid hc; clear hc
  have hb : ((n : Int) != m) = true := by simp; omega
  go_enter Tryz.func228, Tryz.ntmps228
  go_wp2_with fail
  refine (cmpInt_any _ _ _).mono ?_
  rintro e w' ⟨rfl, rfl⟩
  rw [Hc.out]
  go_wp2
  go_ret
  exact ⟨rfl, 0, rfl⟩

set_option maxRecDepth 100000 in
theorem compareE_eq (x y n c c' : Nat) (A A' : Option Addr) (w : World) (hx : Wd w (.slice A n c) (dig x)) (hy : Wd w (.slice A' n c') (dig y)) (ln : n ≤ 9223372036854775807) :
    Calls Tryz.prog 228 #[.slice A n c, .slice A' n c'] w fun e w' => e = .returned (.int .i64 (cmpN x y)) ∧ ∃ n, w' = w.drewN n := by
  have Hx := Lib.hid hx
  have Hy := Lib.hid hy
  clear hx hy
  go_enter Tryz.func228, Tryz.ntmps228
  go_wp2_with fail
  go_loopw [5] (fun i wr => ∃ (k q : Nat), i = .int .i64 ((k : Int) - 1) ∧ k ≤ n ∧ wr = w.drewN q ∧ x / 4294967296 ^ k = y / 4294967296 ^ k) (fun i _ => (intOf i + 1).toNat)
  case atStart => exact ⟨n, 0, rfl, Nat.le_refl _, rfl, by rw [div_len (by rw [← Hx.out.len]; omega), div_len (by rw [← Hy.out.len]; omega)]⟩
  case round =>
    obtain ⟨k, q, rfl, hk, rfl, hq⟩ := hrel
    have HQ := Lib.hid hq; clear hq
    by_cases hk0 : k = 0
    · subst hk0
      have hr : cmpN x y = 0 := cmpN_eq (by have := HQ.out; simpa using this)
      have Hr := Lib.hid hr; clear hr
      go_wp2
      go_ret
      exact ⟨by rw [Hr.out]; rfl, q, rfl⟩
    · obtain ⟨j, rfl⟩ : ∃ j, k = j + 1 := ⟨k - 1, by omega⟩
      obtain ⟨b, off, rfl, -, hcx⟩ := Wd.cell (k := j) Hx.out (by omega)
      obtain ⟨b', off', rfl, -, hcy⟩ := Wd.cell (k := j) Hy.out (by omega)
      have h1 := hcx j (by omega)
      have h2 := hcy j (by omega)
      clear hcx hcy
      obtain ⟨p, hp⟩ : ∃ p, p = dg x j := ⟨_, rfl⟩
      obtain ⟨r, hr⟩ : ∃ r, r = dg y j := ⟨_, rfl⟩
      rw [← hp] at h1
      rw [← hr] at h2
      have Hp := Lib.hid hp; clear hp
      have Hr := Lib.hid hr; clear hr
      rw [show (((j + 1 : Nat)) : Int) - 1 = (j : Int) from by omega]
      have hjn : (j : Int) < (n : Int) := by omega
      have hj0 : (0 : Int) ≤ (j : Int) := by omega
      by_cases hpr : p = r
      · subst hpr
        go_wp2_with fail
        go_quiet (fail)
        go_wp2
        go_roundw
        case rel => exact ⟨j, _, rfl, by omega, rfl, dg_cmp_eq HQ.out (by rw [← Hp.out, ← Hr.out])⟩
        case measure => simp [intOf]
      · have hb : ((p : Int) != r) = true := by simp; omega
        have hfin : cmpN p r = cmpN x y := by
          rcases Nat.lt_or_ge p r with h | h
          · rw [cmpN_lt h, cmpN_lt (dg_cmp_lt HQ.out (by rw [← Hp.out, ← Hr.out]; exact h))]
          · rw [cmpN_gt (by omega), cmpN_gt (dg_cmp_lt HQ.out.symm (by rw [← Hp.out, ← Hr.out]; omega))]
        have Hf := Lib.hid hfin; clear hfin
        go_wp2_with fail
        go_quiet (fail)
        go_wp2_with fail
        generalize hw2 : World.drewN (World.drewN w q) _ = w2
        have h1' : w2.cell? ⟨b, off + j, none⟩ = some (.int .u32 p) := by rw [← hw2]; exact h1
        have h2' : w2.cell? ⟨b', off' + j, none⟩ = some (.int .u32 r) := by rw [← hw2]; exact h2
        have Hw := Lib.hid hw2; clear hw2 h1 h2
        go_quiet ((go_at_call 241; exact Calls.quiet_of_same ((cmpU32_any p r _).mono fun _ _ h => ⟨h.1, h.2.symm⟩)))
        go_wp2
        go_ret
        rw [← Hw.out]
        exact ⟨by rw [← Hf.out]; rfl, _, by rw [World.drewN_drewN, World.drewN_drewN]⟩

set_option maxRecDepth 100000 in
/-- natural.compare -/
theorem compareE_any (x y : Nat) (u v : Value) (w : World) (hx : Wd w u (dig x)) (hy : Wd w v (dig y)) :
    Calls Tryz.prog 228 #[u, v] w fun e w' => e = .returned (.int .i64 (cmpN x y)) ∧ ∃ n, w' = w.drewN n := by
  obtain ⟨A, c, rfl, h1, h2⟩ := hx.shape
  obtain ⟨A', c', rfl, h3, h4⟩ := hy.shape
  by_cases hne : (dig x).length = (dig y).length
  · rw [← hne] at hy ⊢
    exact compareE_eq x y _ c c' A A' w hx hy (by omega)
  · exact compareE_ne x y _ _ c c' A A' w rfl rfl hne (by omega) (by omega)
end Go.Proofs.YtijhbmdbnnmogaaGreat
namespace Go.Proofs.YtijhbmdbnnmogaaGreat
open Go.RowKit

set_option maxRecDepth 100000 in
/-- exact times -/
theorem timesE_any (x y : Nat) (u v : Value) (w : World) (hx : Wd w u (dig x)) (hy : Wd w v (dig y)) (lx : (dig x).length ≤ 1000000) (ly : (dig y).length ≤ 1000000) :
    Calls Tryz.prog 226 #[u, v] w fun e w' => ∃ r, e = .returned r ∧ Wd w' r (dig (x * y)) ∧ Below w.heap.size w w' := by
  obtain ⟨A, c, rfl, -, -⟩ := hx.shape
  obtain ⟨A', c', rfl, -, -⟩ := hy.shape
  obtain ⟨n, hn⟩ : ∃ n, n = (dig x).length := ⟨_, rfl⟩
  obtain ⟨m, hm⟩ : ∃ m, m = (dig y).length := ⟨_, rfl⟩
  rw [← hn] at lx hx ⊢
  rw [← hm] at ly hy ⊢
  have Hn := Lib.hid hn; clear hn
  have Hm := Lib.hid hm; clear hm
  have Hx := Lib.hid hx; clear hx
  have Hy := Lib.hid hy; clear hy
  have hmk : ∀ w, (Instr.makeSlice 150 (.int .i64 ((n : Int) + m)) (.int .i64 ((n : Int) + m))).run Tryz.prog w = .ok (.slice (some ⟨w.heap.size, 0, none⟩) (n + m) (n + m)) (w.alloc (.cells (U32s (zeros (n + m))) 172)) := fun w => make_u32 150 Tryz.underlying150 (n + m) (by omega) w
  go_enter Tryz.func226, Tryz.ntmps226
  go_wp2_with fail
  go_loopw [21] (fun i wr => ∃ (k : Nat) (L : List Nat), i = .int .i64 k ∧ k ≤ n ∧ L.length = n + m ∧ Ok L ∧ Blk wr w.heap.size L ∧ Below w.heap.size w wr ∧
      val L = x % 4294967296 ^ k * y ∧ ∀ p, k + m ≤ p → L.getD p 0 = 0) (fun i _ => n - (intOf i).toNat)
  case atStart => exact ⟨0, zeros (n + m), rfl, Nat.zero_le _, zeros_length _, zeros_ok _, heap_alloc_new w _, below_alloc _ _, by simp [val_zeros, Nat.mod_one], fun p _ => zeros_getD _ p⟩
  case round =>
    obtain ⟨k, L, rfl, hk, hL, hok, hblk, hbel, hval, hz⟩ := hrel
    have HV := Lib.hid hval; clear hval
    have HL := Lib.hid hL; clear hL
    have HZ := Lib.hid hz; clear hz
    have HB := Lib.hid hblk; clear hblk
    by_cases hlt : k < n
    · obtain ⟨b, off, rfl, hb, hcx⟩ := Wd.cell (k := k) Hx.out hlt
      have h1 : wr.cell? ⟨b, off + k, none⟩ = some (.int .u32 (dg x k : Nat)) := (hbel.cell (p := ⟨b, off + k, none⟩) hb).trans (hcx k hlt)
      clear hcx
      obtain ⟨p, hp⟩ : ∃ p, p = dg x k := ⟨_, rfl⟩
      have hpl : p < 4294967296 := by rw [hp]; exact dg_lt _ _
      rw [← hp] at h1
      have Hp := Lib.hid hp; clear hp
      go_wp2_with fail
      rw [show k + m + 1 - k = m + 1 from by omega]
      obtain ⟨w1, rfl⟩ : ∃ w1 : World, w1 = wr := ⟨_, rfl⟩
      go_loopw [8, 41] (fun cr j w2 => ∃ (q cv : Nat) (L2 : List Nat), j = .int .i64 q ∧ q ≤ m ∧ cr = .int .u32 cv ∧ cv < 4294967296 ∧ L2.length = n + m ∧ Ok L2 ∧ Blk w2 w.heap.size L2 ∧ Below w.heap.size w w2 ∧
          val L2 + 4294967296 ^ (k + q) * cv = x % 4294967296 ^ k * y + 4294967296 ^ k * (p * (y % 4294967296 ^ q)) ∧ ∀ r, k + m ≤ r → L2.getD r 0 = 0) (fun _ j _ => m - (intOf j).toNat)
      case atStart => exact ⟨0, 0, L, rfl, Nat.zero_le _, rfl, by omega, HL.out, hok, HB.out, hbel, by rw [HV.out]; simp [Nat.mod_one], HZ.out⟩
      case round =>
        obtain ⟨q, cv, L2, rfl, hq, rfl, hcv, hL2, hok2, hblk2, hbel2, hval2, hz2⟩ := hrel
        have HV2 := Lib.hid hval2; clear hval2
        have HL2 := Lib.hid hL2; clear hL2
        have HZ2 := Lib.hid hz2; clear hz2
        by_cases hlt2 : q < m
        · obtain ⟨b', off', rfl, hb', hcy⟩ := Wd.cell (k := q) Hy.out hlt2
          have h2 : wr.cell? ⟨b', off' + q, none⟩ = some (.int .u32 (dg y q : Nat)) := (hbel2.cell (p := ⟨b', off' + q, none⟩) hb').trans (hcy q hlt2)
          clear hcy
          obtain ⟨r, hr⟩ : ∃ r, r = dg y q := ⟨_, rfl⟩
          have hrl : r < 4294967296 := by rw [hr]; exact dg_lt _ _
          rw [← hr] at h2
          have Hr := Lib.hid hr; clear hr
          have h3 := hblk2.cell (i := k + q) (by rw [HL2.out]; omega)
          have h4 := hblk2.frozen (k + q)
          obtain ⟨a, ha⟩ : ∃ a, a = L2.getD (k + q) 0 := ⟨_, rfl⟩
          have hal : a < 4294967296 := by rw [ha]; exact hok2.getD _
          rw [← ha] at h3
          have Ha := Lib.hid ha; clear ha
          have HB2 := Lib.hid hblk2; clear hblk2
          obtain ⟨s, hs⟩ : ∃ s, s = p * r + a + cv := ⟨_, rfl⟩
          have hsl : s < 18446744073709551616 := by rw [hs]; exact mul_bound hpl hrl hal hcv
          have hprod : p * r < 18446744073709551616 := by omega
          have e1 : ((p : Int) * r + a + cv) % 4294967296 = ((s % 4294967296 : Nat) : Int) := by rw [hs]; omega
          have e2 : ((p : Int) * r + a + cv) / 4294967296 = ((s / 4294967296 : Nat) : Int) := by rw [hs]; omega
          have E1 := Lib.hid e1; clear e1
          have E2 := Lib.hid e2; clear e2
          have Hs := Lib.hid hs; clear hs
          have hsl' : (p : Int) * r + a + cv < 18446744073709551616 := by rw [Hs.out] at hsl; omega
          go_wp2_with fail
          rw [E1.out, E2.out]
          go_roundw
          case rel =>
            refine ⟨q + 1, s / 4294967296, L2.set (k + q) (s % 4294967296), by go_num, by omega, rfl, by omega, by rw [List.length_set, HL2.out], hok2.set (by omega), HB2.out.set_ _ _, hbel2.setCell (Nat.le_refl _) _, ?_, ?_⟩
            · refine mul_round HV2.out (old := a) (lo := s % 4294967296) ?_ (by rw [Hs.out, Hr.out]) rfl rfl
              have := val_set (l := L2) (p := k + q) (v := s % 4294967296) (by rw [HL2.out]; omega)
              rw [← Ha.out] at this
              exact this
            · intro t ht
              rw [getD_set_ne (by omega)]
              exact HZ2.out t ht
          case measure => simp [intOf]; omega
        · have hqm : q = m := by omega
          subst hqm
          have h3 := hblk2.cell (i := k + q) (by rw [HL2.out]; omega)
          have h4 := hblk2.frozen (k + q)
          rw [HZ2.out (k + q) (Nat.le_refl _)] at h3
          have HB2 := Lib.hid hblk2; clear hblk2
          go_wp2_with fail
          go_roundw
          case rel =>
            refine ⟨k + 1, L2.set (k + q) cv, by go_num, by omega, by rw [List.length_set, HL2.out], hok2.set hcv, HB2.out.set_ _ _, hbel2.setCell (Nat.le_refl _) _, ?_, ?_⟩
            · have h5 := val_set (l := L2) (p := k + q) (v := cv) (by rw [HL2.out]; omega)
              rw [HZ2.out (k + q) (Nat.le_refl _), HV2.out, mod_len (x := y) (by rw [← Hm.out]; omega), Hp.out, mul_done] at h5
              simpa using h5
            · intro t ht
              rw [getD_set_ne (by omega)]
              exact HZ2.out t (by omega)
          case measure => simp [intOf]; omega
    · have hkn : k = n := by omega
      subst hkn
      have hv : val L = x * y := by rw [HV.out, mod_len (x := x) (by rw [← Hn.out]; omega)]
      have hw2 := HB.out.wd hok (by rw [HL.out]; omega) (k + m) (by rw [HL.out]; omega) (by omega)
      rw [HL.out] at hw2
      have Hv := Lib.hid hv; clear hv
      have Hw := Lib.hid hw2; clear hw2
      go_wp2_with fail
      refine (trimE_any _ _ _ Hw.out).mono ?_
      rintro e w' ⟨r, rfl, hr, rfl⟩
      rw [Hv.out] at hr
      go_wp2
      go_ret
      exact ⟨r, rfl, hr, hbel⟩
end Go.Proofs.YtijhbmdbnnmogaaGreat
