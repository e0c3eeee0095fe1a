/- Walks: natural.divide, by words as digits. -/
import Derived.Test.YtmlopkkbgpfdnaaX5
namespace Go.Proofs.Ytmlopkkbgpfdnaa
open Go.RowKit

/-- the outer loop -/
def Rel3 (X D n m gd od g gq : Nat) (nl : Nat) (w : World) (a : Value) (wr : World) : Prop :=
  ∃ (k : Nat) (L Q : List Nat), a = .int .i64 ((k : Int) - 1) ∧ k ≤ m ∧ L.length = nl ∧ Ok L ∧ Blk wr g L ∧ Q.length = m ∧ Ok Q ∧ Blk wr gq Q ∧ Below w.heap.size w wr ∧
    (∀ j, j < n → wr.cell? ⟨gd, od + j, none⟩ = some (.int .u32 (dg D j : Nat))) ∧ X = val L + D * val Q ∧ val L < D * 4294967296 ^ k ∧ (∀ p, p < k → Q.getD p 0 = 0)

theorem Blk.take {g g' : Nat} {w w' : World} {l : List Nat} (h : Blk w g' l) (ht : TakeF g w w') (hne : g' ≠ g) : Blk w' g' l := (ht.2.2 g' hne).trans h

set_option maxRecDepth 100000 in
theorem divide_long (x y : Nat) (u v : Value) (w : World) (hx : Wd w u (dig x)) (hy : Wd w v (dig y)) (lx : (dig x).length ≤ 999999) (hxy : y ≤ x) (h1 : 2 ≤ (dig y).length) :
    Calls Try.prog 91 #[u, v] w (DivN x y w) := by
  have Hx := Lib.hid hx
  have Hy := Lib.hid hy
  have hlen := dig_len_mono hxy
  have hy0 : 0 < y := dig_len_pos.1 (by omega)
  obtain ⟨A, c, rfl, -, -⟩ := hx.shape
  obtain ⟨A', c', rfl, -, -⟩ := hy.shape
  obtain ⟨nx, hnx⟩ : ∃ n, n = (dig x).length := ⟨_, rfl⟩
  obtain ⟨n, hn⟩ : ∃ n, n = (dig y).length := ⟨_, rfl⟩
  rw [← hnx] at lx Hx hlen ⊢
  rw [← hn] at h1 Hy hlen ⊢
  obtain ⟨b, off, rfl, hb, hcy⟩ := Wd.cell (k := n - 1) Hy.out (by omega)
  have hc0 := hcy (n - 1) (by omega)
  obtain ⟨t, ht⟩ : ∃ t, t = dg y (n - 1) := ⟨_, rfl⟩
  have htl : t < 4294967296 := by rw [ht]; exact dg_lt _ _
  have ht0 : 0 < t := by rw [ht]; exact (top_word hn (by omega)).2
  rw [← ht] at hc0
  obtain ⟨s, hs, hs1, hs2, hs3⟩ := norm_word ht0 htl
  obtain ⟨p2, hp2⟩ : ∃ p, p = 2 ^ s := ⟨_, rfl⟩
  have hp0 : 0 < p2 := by rw [hp2]; exact Nat.pow_pos (by omega)
  have hp1 : p2 ≤ 2147483648 := by
    rw [hp2]
    have h3 : 2 ^ s ≤ 2 ^ 31 := Nat.pow_le_pow_right (by omega) (by omega)
    exact Nat.le_trans h3 (by decide)
  rw [← hp2] at hs2 hs3
  obtain ⟨hD1, hD2, hD3, hD4⟩ := norm_div hn (by omega) ht hs2 hs3
  obtain ⟨m, hm⟩ : ∃ m, m = nx + 1 - n := ⟨_, rfl⟩
  have hst := shl_start (x := x) (y := y) (by omega) hnx hm hlen hp1 hD4 hp0
  obtain ⟨cv, hcv⟩ : ∃ z, z = cmpN x y := ⟨_, rfl⟩
  have hcv0 : 0 ≤ cv := by rw [hcv]; unfold cmpN; rw [if_neg (by omega)]; split <;> omega
  have hc := compareE_any x y _ _ w Hx.out Hy.out
  rw [← hcv] at hc
  have Hc := Lib.hid hc; clear hc hcv
  have Hxy := Lib.hid hxy; clear hxy
  have Hcy := Lib.hid hcy; clear hcy
  have Ht := Lib.hid ht; clear ht
  have Hs1 := Lib.hid hs1; clear hs1
  have Hp2 := Lib.hid hp2; clear hp2
  have HD1 := Lib.hid hD1; clear hD1
  have HD2 := Lib.hid hD2; clear hD2
  have HD3 := Lib.hid hD3; clear hD3 hD4
  have Hst := Lib.hid hst; clear hst
  have su : ∀ w : World, Wd w (.slice (some ⟨b, off, none⟩) n c') (dig y) → Calls Try.prog 109 #[.slice (some ⟨b, off, none⟩) n c', .int .i64 (s : Int)] w fun e w' => ∃ g L, e = .returned (.slice (some ⟨g, 0, none⟩) (n + 1) (n + 1)) ∧ w.heap.size ≤ g ∧ Blk w' g L ∧ Ok L ∧ L.length = n + 1 ∧ val L = y * p2 ∧ Below w.heap.size w w' := fun w h => by
    have := shiftedUp_any y s _ w h (by omega) hs
    rwa [← hn, ← Hp2.out] at this
  have sv : ∀ w : World, Wd w (.slice A nx c) (dig x) → Calls Try.prog 109 #[.slice A nx c, .int .i64 (s : Int)] w fun e w' => ∃ g L, e = .returned (.slice (some ⟨g, 0, none⟩) (nx + 1) (nx + 1)) ∧ w.heap.size ≤ g ∧ Blk w' g L ∧ Ok L ∧ L.length = nx + 1 ∧ val L = x * p2 ∧ Below w.heap.size w w' := fun w h => by
    have := shiftedUp_any x s _ w h (by omega) hs
    rwa [← hnx, ← Hp2.out] at this
  have SU := Lib.hid su; clear su
  have SV := Lib.hid sv; clear sv
  have Hnx := Lib.hid hnx; clear hnx
  have Hn := Lib.hid hn; clear hn
  have hmle : m ≤ 1000000 := by omega
  have hmn : m + n = nx + 1 := by omega
  have hmI : ((nx : Int) + 1 - n) = (m : Int) := by omega
  have HmI := Lib.hid hmI; clear hmI hm
  have Hmn := Lib.hid hmn; clear hmn
  have hne : ((n : Int) == 1) = false := by simp; omega
  clear hx hy
  have hmk : ∀ w, (Instr.makeSlice 58 (.int .i64 ((nx : Int) + 1 - n)) (.int .i64 ((nx : Int) + 1 - n))).run Try.prog w = .ok (.slice (some ⟨w.heap.size, 0, none⟩) m m) (w.alloc (.cells (U32s (zeros m)) 66)) := fun w => by rw [HmI.out]; exact make_u32 58 Try.underlying58 m (by omega) w
  go_enter Try.func91, Try.ntmps91
  go_wp2_with fail
  refine Hc.out.mono ?_
  rintro e w' ⟨rfl, nd, rfl⟩
  go_wp2_with fail
  refine (Try.bits_LeadingZeros32 (t : Int) _ (by omega) (by omega)).mono ?_
  rintro e w' ⟨rfl, rfl⟩
  rw [Int.toNat_natCast, Hs1.out]
  go_wp2_with fail
  refine (SU.out _ (by exact Hy.out)).mono ?_
  rintro e w1 ⟨g1, L1, rfl, -, hbl, hok1, hln, hv1, hb1⟩
  have hw1 := hbl.wd hok1 (by omega) (n + 1) (by omega) (by omega)
  rw [hln] at hw1
  have Hw1 := Lib.hid hw1; clear hw1 hbl hok1 hln
  have Hv1 := Lib.hid hv1; clear hv1
  have Hb1 := Lib.hid (undrewN hb1); clear hb1
  go_wp2_with fail
  refine (trimE_any _ _ _ Hw1.out).mono ?_
  rintro e w' ⟨ud, rfl, hud, rfl⟩
  rw [Hv1.out] at hud
  obtain ⟨A3, c3, rfl, -, hc3⟩ := hud.shape
  rw [HD3.out] at hud ⊢
  obtain ⟨bd, od, rfl, hbd, hcd⟩ := Wd.cell (k := 0) hud (by omega)
  have Hcd := Lib.hid hcd; clear hcd
  clear hud Hw1 Hv1
  go_wp2_with fail
  refine (SV.out _ (Hx.out.below Hb1.out)).mono ?_
  rintro e w2 ⟨g, L, rfl, hg1, hbl, hok, hln, hvl, hb2⟩
  have Hcd2 := Lib.hid (fun k hk => (hb2.cell (p := ⟨bd, od + k, none⟩) hbd).trans (Hcd.out k hk))
  have Hb2 := Lib.hid (Hb1.out.trans (hb2.mono Hb1.out.size))
  have hwg : w.heap.size ≤ g := Nat.le_trans Hb1.out.size hg1
  have hbdg : bd ≠ g := by omega
  have hbd2 := Nat.lt_of_lt_of_le hbd hb2.size
  have hgl := hbl.lt
  have Hbl := Lib.hid hbl; clear hbl
  have Hvl := Lib.hid hvl; clear hvl
  clear hb2 Hb1 hbd hg1 Hcd
  go_wp2_with fail
  obtain ⟨gq, hgq⟩ : ∃ k, k = w2.heap.size := ⟨_, rfl⟩
  have hbdq : bd < gq := by rw [hgq]; exact hbd2
  rw [← hgq] at hgl ⊢
  have Hgq := Lib.hid hgq; clear hgq
  have hbel2 : Below w.heap.size w (w2.alloc (.cells (U32s (zeros m)) 66)) := Below.alloc (show Below w.heap.size w w2 from Hb2.out) Hb2.out.size _
  have hblk0 : Blk (w2.alloc (.cells (U32s (zeros m)) 66)) g L := Hbl.out.alloc _
  have hq0 : Blk (w2.alloc (.cells (U32s (zeros m)) 66)) gq (zeros m) := by rw [Hgq.out]; exact heap_alloc_new w2 _
  have hcd0 : ∀ j, j < n → (w2.alloc (.cells (U32s (zeros m)) 66)).cell? ⟨bd, od + j, none⟩ = some (.int .u32 (dg (y * p2) j : Nat)) := fun j hj => by
    have h := Hcd2.out j hj
    rw [World.cell?_alloc_past _ _ _ (by exact hbd2)]
    exact h
  have HS := Lib.hid (And.intro hbel2 (And.intro hblk0 (And.intro hq0 hcd0)))
  clear hbel2 hblk0 hq0 hcd0 Hcd2 Hbl
  go_loopw [13] (fun a wr => Rel3 (x * p2) (y * p2) n m bd od g gq (nx + 1) w a wr) (fun a _ => (intOf a + 1).toNat)
  case atStart =>
    obtain ⟨hbel2, hblk0, hq0, hcd0⟩ := HS.out
    exact ⟨m, L, zeros m, rfl, Nat.le_refl _, hln, hok, hblk0, zeros_length _, zeros_ok _, hq0, hbel2, hcd0, by rw [Hvl.out, val_zeros, Nat.mul_zero, Nat.add_zero], by rw [Hvl.out]; exact Hst.out, fun p _ => zeros_getD _ p⟩
  case round =>
    clear HS hln hok Hvl Hb2
    obtain ⟨k, L1, Q1, rfl, hk, hL1, hok1, hblk1, hQ1, hokq, hblkq, hbel, hcd, hX, hlt, hz⟩ := hrel
    have HL1 := Lib.hid hL1; clear hL1
    have HQ1 := Lib.hid hQ1; clear hQ1
    have HX := Lib.hid hX; clear hX
    have Hlt := Lib.hid hlt; clear hlt
    have HZ := Lib.hid hz; clear hz
    have Hcd := Lib.hid hcd; clear hcd
    by_cases hk0 : k = 0
    · subst hk0
      have hw1 := hblkq.wd hokq (by rw [HQ1.out]; omega) m (by rw [HQ1.out]; omega) (by omega)
      rw [HQ1.out] at hw1
      have hw2 := hblk1.wd hok1 (by rw [HL1.out]; omega) (nx + 1) (by rw [HL1.out]; omega) (by omega)
      rw [HL1.out] at hw2
      have hlt0 : val L1 < y * p2 := by have := Hlt.out; rwa [Nat.pow_zero, Nat.mul_one] at this
      obtain ⟨hd1, hd2⟩ := div_end hp0 hy0 HX.out hlt0
      have hl1 : (dig (val L1)).length ≤ 1000000 := by
        have := dig_len_le (Nat.lt_trans hlt0 HD1.out); omega
      have Hd1 := Lib.hid hd1; clear hd1
      have Hd2 := Lib.hid hd2; clear hd2 hlt0
      have Hw1 := Lib.hid hw1; clear hw1
      have Hw2 := Lib.hid hw2; clear hw2 hblkq hblk1
      go_wp2_with fail
      refine (trimE_any _ _ _ Hw1.out).mono ?_
      rintro e w' ⟨r1, rfl, hr1, rfl⟩
      rw [Hd1.out] at hr1
      obtain ⟨A5, n5, c5, rfl⟩ := hr1.slice_
      have Hr1 := Lib.hid hr1; clear hr1
      go_wp2_with fail
      refine (trimE_any _ _ _ Hw2.out).mono ?_
      rintro e w' ⟨r2, rfl, hr2, rfl⟩
      obtain ⟨A6, n6, c6, rfl⟩ := hr2.slice_
      have Hr2 := Lib.hid hr2; clear hr2
      go_wp2_with fail
      refine (shiftedDown_any (val L1) s _ _ Hr2.out hl1 hs).mono ?_
      rintro e w3 ⟨r3, rfl, hr3, hb3⟩
      rw [← Hp2.out, Hd2.out] at hr3
      obtain ⟨A7, n7, c7, rfl⟩ := hr3.slice_
      have Hr3 := Lib.hid hr3; clear hr3
      have hb03 := hbel.trans (hb3.mono hbel.size)
      have Hb3 := Lib.hid hb3; clear hb3
      go_wp2
      go_ret2
      exact ⟨_, _, rfl, Hr1.out.below Hb3.out, Hr3.out, hb03⟩
    · obtain ⟨i, rfl⟩ : ∃ j, k = j + 1 := ⟨k - 1, by omega⟩
      have hmn := Hmn.out
      have hplace : Place wr (y * p2) n bd od g i L1 := ⟨h1, by omega, hbdg, Hcd.out, HD1.out, HD2.out, hblk1, hok1, by rw [HL1.out]; omega, Hlt.out⟩
      have hDpos := hplace.D_pos
      have htk := fun cp => take_any (y * p2) n bd od c3 g i cp L1 wr hplace
      have Htk := Lib.hid htk; clear htk hplace
      have HB1 := Lib.hid hblk1; clear hblk1
      have HBq := Lib.hid hblkq; clear hblkq
      have i1 : ((i + 1 : Nat) : Int) - 1 = (i : Int) := by omega
      rw [i1]
      clear i1
      have hin : i + n + 1 ≤ nx + 1 := by omega
      clear hmn
      go_wp2_with fail
      rw [show i + n + 1 - i = n + 1 by omega]
      refine (Htk.out _).mono ?_
      rintro e w3 ⟨q, L3, rfl, hq, hql, hL3, hok3, hv3, hblk3, htf⟩
      have hblkq3 := HBq.out.take htf (by omega)
      have hfr := hblkq3.frozen i
      have hce := hblkq3.cell (i := i) (by rw [HQ1.out]; omega)
      have hb3 : Below w.heap.size w w3 := hbel.trans (htf.1.mono hwg)
      have hcd3 := fun j hj => htf.cell hbdg (Hcd.out j hj)
      have Hcd3 := Lib.hid hcd3; clear hcd3
      have HB3 := Lib.hid hblk3; clear hblk3
      have HBq3 := Lib.hid hblkq3; clear hblkq3
      have Hq := Lib.hid hq; clear hq
      have Hv3 := Lib.hid hv3; clear hv3
      have HL3 := Lib.hid hL3; clear hL3 htf HB1 HBq Hcd Htk
      have hne3 : g ≠ gq := by omega
      have hne4 : bd ≠ gq := by omega
      go_wp2
      go_roundw
      case rel =>
        refine ⟨i, L3, Q1.set i q, rfl, by omega, by rw [HL3.out, HL1.out], hok3, HB3.out.far hne3 _, by rw [List.length_set, HQ1.out], hokq.set hql, HBq3.out.set_ _ _, hb3.setCell (p := ⟨gq, i, none⟩) (by show w.heap.size ≤ gq; omega) _, ?_, ?_, ?_, ?_⟩
        · intro j hj
          rw [World.cell?_setCell_other _ _ _ _ (by intro e; injection e with e1; exact hne4 e1.symm)]
          exact Hcd3.out j hj
        · refine outer_round HX.out Hv3.out ?_
          have := val_set (l := Q1) (p := i) (v := q) (by rw [HQ1.out]; omega)
          rw [HZ.out i (by omega), Nat.mul_zero, Nat.add_zero] at this
          exact this
        · exact part_lt Hv3.out Hq.out hDpos
        · intro p hp
          rw [getD_set_ne (by omega)]
          exact HZ.out p (by omega)
      case measure => simp [intOf]

/-- natural.divide -/
theorem divide_any (x y : Nat) (u v : Value) (w : World) (hx : Wd w u (dig x)) (hy : Wd w v (dig y)) (lx : (dig x).length ≤ 999999) (hy0 : 0 < y) :
    Calls Try.prog 91 #[u, v] w (DivN x y w) := by
  by_cases hxy : x < y
  · exact divide_less x y u v w hx hy hxy
  · have := dig_len_pos.2 hy0
    by_cases h1 : (dig y).length = 1
    · exact divide_one x y u v w hx hy (by omega) (by omega) h1
    · exact divide_long x y u v w hx hy lx (by omega) (by omega)
end Go.Proofs.Ytmlopkkbgpfdnaa
