/- Walks: natural.divide. · Walks: natural.divide, by words as digits. · Walks: whole.divide. -/
import Derived.Test.YtijhbmdbnnmogaaGreatM21
import Derived.Test.YtijhbmdbnnmogaaGreatM15
namespace Go.Proofs.YtijhbmdbnnmogaaGreat
open Go.RowKit

def DivN (x y : Nat) (w : World) (e : Ending) (w' : World) : Prop :=
  ∃ q r, e = .returned (.tuple #[q, r]) ∧ Wd w' q (dig (x / y)) ∧ Wd w' r (dig (x % y)) ∧ Below w.heap.size w w'

set_option maxRecDepth 100000 in
theorem divide_less (x y : Nat) (u v : Value) (w : World) (hx : Wd w u (dig x)) (hy : Wd w v (dig y)) (hxy : x < y) :
    Calls Tryz.prog 233 #[u, v] w (DivN x y w) := by
  have Hx := Lib.hid hx
  have Hy := Lib.hid hy
  obtain ⟨A, n, c, rfl⟩ := hx.slice_
  obtain ⟨A', n', c', rfl⟩ := hy.slice_
  clear hx hy
  have hc := compareE_any x y _ _ w Hx.out Hy.out
  rw [cmpN_lt hxy] at hc
  have Hc := Lib.hid hc; clear hc
  have Hxy := Lib.hid hxy; clear hxy
  go_enter Tryz.func233, Tryz.ntmps233
  go_wp2_with fail
  refine Hc.out.mono ?_
  rintro e w' ⟨rfl, nd, rfl⟩
  go_wp2
  go_ret2
  refine ⟨_, _, rfl, ?_, ?_, Below.toDrewN (Below.refl _ _) nd⟩
  · rw [Nat.div_eq_of_lt Hxy.out, dig_zero]; exact Wd.nil_ _
  · rw [Nat.mod_eq_of_lt Hxy.out]; exact Hx.out

set_option maxRecDepth 100000 in
theorem divide_one (x y : Nat) (u v : Value) (w : World) (hx : Wd w u (dig x)) (hy : Wd w v (dig y)) (lx : (dig x).length ≤ 1000000) (hxy : y ≤ x) (h1 : (dig y).length = 1) :
    Calls Tryz.prog 233 #[u, v] w (DivN x y w) := by
  have Hx := Lib.hid hx
  have Hy := Lib.hid hy
  have hy0 : 0 < y := dig_len_pos.1 (by omega)
  have hy1 : y < 4294967296 := by have := lt_of_dig_len (n := y) (k := 1) (by omega); simpa using this
  obtain ⟨A, n, c, rfl⟩ := hx.slice_
  obtain ⟨A', c', rfl, -, -⟩ := hy.shape
  rw [h1] at Hy ⊢
  obtain ⟨b, off, rfl, hb, hcy⟩ := Wd.cell (k := 0) Hy.out (by omega)
  have hc0 := hcy 0 (by omega)
  rw [Nat.add_zero, show dg y 0 = y from by unfold dg; simp; omega] at hc0
  clear hx hy hcy
  obtain ⟨cv, hcv⟩ : ∃ z, z = cmpN x y := ⟨_, rfl⟩
  have hcv0 : 0 ≤ cv := by rw [hcv]; unfold cmpN; rw [if_neg (by omega)]; split <;> omega
  have hc := compareE_any x y _ _ w Hx.out Hy.out
  rw [← hcv] at hc
  have Hc := Lib.hid hc; clear hc hcv h1
  have Lx := Lib.hid lx; clear lx
  have Hxy := Lib.hid hxy; clear hxy
  go_enter Tryz.func233, Tryz.ntmps233
  go_wp2_with fail
  refine Hc.out.mono ?_
  rintro e w' ⟨rfl, nd, rfl⟩
  go_wp2_with fail
  refine (divideWord_any x y _ _ (by exact Hx.out) Lx.out hy0 hy1).mono ?_
  rintro e w1 ⟨q, rfl, hq, hb1⟩
  obtain ⟨A3, n3, c3, rfl⟩ := hq.slice_
  have Hq := Lib.hid hq; clear hq
  have Hb1 := Lib.hid (undrewN hb1); clear hb1
  have hr : x % y < 18446744073709551616 := by have := Nat.mod_lt x hy0; omega
  obtain ⟨r, hr'⟩ : ∃ r, r = x % y := ⟨_, rfl⟩
  rw [← hr'] at hr ⊢
  have Hr := Lib.hid hr'; clear hr'
  go_wp2_with fail
  refine (naturalOf_any r hr _).mono ?_
  rintro e w2 ⟨t, rfl, ht, hb2⟩
  obtain ⟨A4, n4, c4, rfl⟩ := ht.slice_
  have Ht := Lib.hid ht; clear ht
  have Hb2 := Lib.hid hb2; clear hb2
  go_wp2
  go_ret2
  exact ⟨_, _, rfl, Hq.out.below Hb2.out, by rw [← Hr.out]; exact Ht.out, Hb1.out.trans (Hb2.out.mono Hb1.out.size)⟩

end Go.Proofs.YtijhbmdbnnmogaaGreat
namespace Go.Proofs.YtijhbmdbnnmogaaGreat
open Go.RowKit

/-- the outer loop -/
def Rel3 (X D n m gd od g gq : Nat) (nl : Nat) (w : World) (a : Value) (wr : World) : Prop :=
  ∃ (k : Nat) (L Q : List Nat), a = .int .i64 ((k : Int) - 1) ∧ k ≤ m ∧ L.length = nl ∧ Ok L ∧ Blk wr g L ∧ Q.length = m ∧ Ok Q ∧ Blk wr gq Q ∧ Below w.heap.size w wr ∧
    (∀ j, j < n → wr.cell? ⟨gd, od + j, none⟩ = some (.int .u32 (dg D j : Nat))) ∧ X = val L + D * val Q ∧ val L < D * 4294967296 ^ k ∧ (∀ p, p < k → Q.getD p 0 = 0)

theorem Blk.take {g g' : Nat} {w w' : World} {l : List Nat} (h : Blk w g' l) (ht : TakeF g w w') (hne : g' ≠ g) : Blk w' g' l := (ht.2.2 g' hne).trans h

set_option maxRecDepth 100000 in
theorem divide_long (x y : Nat) (u v : Value) (w : World) (hx : Wd w u (dig x)) (hy : Wd w v (dig y)) (lx : (dig x).length ≤ 999999) (hxy : y ≤ x) (h1 : 2 ≤ (dig y).length) :
    Calls Tryz.prog 233 #[u, v] w (DivN x y w) := by
  have Hx := Lib.hid hx
  have Hy := Lib.hid hy
  have hlen := dig_len_mono hxy
  have hy0 : 0 < y := dig_len_pos.1 (by omega)
  obtain ⟨A, c, rfl, -, -⟩ := hx.shape
  obtain ⟨A', c', rfl, -, -⟩ := hy.shape
  obtain ⟨nx, hnx⟩ : ∃ n, n = (dig x).length := ⟨_, rfl⟩
  obtain ⟨n, hn⟩ : ∃ n, n = (dig y).length := ⟨_, rfl⟩
  rw [← hnx] at lx Hx hlen ⊢
  rw [← hn] at h1 Hy hlen ⊢
  obtain ⟨b, off, rfl, hb, hcy⟩ := Wd.cell (k := n - 1) Hy.out (by omega)
  have hc0 := hcy (n - 1) (by omega)
  obtain ⟨t, ht⟩ : ∃ t, t = dg y (n - 1) := ⟨_, rfl⟩
  have htl : t < 4294967296 := by rw [ht]; exact dg_lt _ _
  have ht0 : 0 < t := by rw [ht]; exact (top_word hn (by omega)).2
  rw [← ht] at hc0
  obtain ⟨s, hs, hs1, hs2, hs3⟩ := norm_word ht0 htl
  obtain ⟨p2, hp2⟩ : ∃ p, p = 2 ^ s := ⟨_, rfl⟩
  have hp0 : 0 < p2 := by rw [hp2]; exact Nat.pow_pos (by omega)
  have hp1 : p2 ≤ 2147483648 := by
    rw [hp2]
    have h3 : 2 ^ s ≤ 2 ^ 31 := Nat.pow_le_pow_right (by omega) (by omega)
    exact Nat.le_trans h3 (by decide)
  rw [← hp2] at hs2 hs3
  obtain ⟨hD1, hD2, hD3, hD4⟩ := norm_div hn (by omega) ht hs2 hs3
  obtain ⟨m, hm⟩ : ∃ m, m = nx + 1 - n := ⟨_, rfl⟩
  have hst := shl_start (x := x) (y := y) (by omega) hnx hm hlen hp1 hD4 hp0
  obtain ⟨cv, hcv⟩ : ∃ z, z = cmpN x y := ⟨_, rfl⟩
  have hcv0 : 0 ≤ cv := by rw [hcv]; unfold cmpN; rw [if_neg (by omega)]; split <;> omega
  have hc := compareE_any x y _ _ w Hx.out Hy.out
  rw [← hcv] at hc
  have Hc := Lib.hid hc; clear hc hcv
  have Hxy := Lib.hid hxy; clear hxy
  have Hcy := Lib.hid hcy; clear hcy
  have Ht := Lib.hid ht; clear ht
  have Hs1 := Lib.hid hs1; clear hs1
  have Hp2 := Lib.hid hp2; clear hp2
  have HD1 := Lib.hid hD1; clear hD1
  have HD2 := Lib.hid hD2; clear hD2
  have HD3 := Lib.hid hD3; clear hD3 hD4
  have Hst := Lib.hid hst; clear hst
  have su : ∀ w : World, Wd w (.slice (some ⟨b, off, none⟩) n c') (dig y) → Calls Tryz.prog 246 #[.slice (some ⟨b, off, none⟩) n c', .int .i64 (s : Int)] w fun e w' => ∃ g L, e = .returned (.slice (some ⟨g, 0, none⟩) (n + 1) (n + 1)) ∧ w.heap.size ≤ g ∧ Blk w' g L ∧ Ok L ∧ L.length = n + 1 ∧ val L = y * p2 ∧ Below w.heap.size w w' := fun w h => by
    have := shiftedUp_any y s _ w h (by omega) hs
    rwa [← hn, ← Hp2.out] at this
  have sv : ∀ w : World, Wd w (.slice A nx c) (dig x) → Calls Tryz.prog 246 #[.slice A nx c, .int .i64 (s : Int)] w fun e w' => ∃ g L, e = .returned (.slice (some ⟨g, 0, none⟩) (nx + 1) (nx + 1)) ∧ w.heap.size ≤ g ∧ Blk w' g L ∧ Ok L ∧ L.length = nx + 1 ∧ val L = x * p2 ∧ Below w.heap.size w w' := fun w h => by
    have := shiftedUp_any x s _ w h (by omega) hs
    rwa [← hnx, ← Hp2.out] at this
  have SU := Lib.hid su; clear su
  have SV := Lib.hid sv; clear sv
  have Hnx := Lib.hid hnx; clear hnx
  have Hn := Lib.hid hn; clear hn
  have hmle : m ≤ 1000000 := by omega
  have hmn : m + n = nx + 1 := by omega
  have hmI : ((nx : Int) + 1 - n) = (m : Int) := by omega
  have HmI := Lib.hid hmI; clear hmI hm
  have Hmn := Lib.hid hmn; clear hmn
  have hne : ((n : Int) == 1) = false := by simp; omega
  clear hx hy
  have hmk : ∀ w, (Instr.makeSlice 150 (.int .i64 ((nx : Int) + 1 - n)) (.int .i64 ((nx : Int) + 1 - n))).run Tryz.prog w = .ok (.slice (some ⟨w.heap.size, 0, none⟩) m m) (w.alloc (.cells (U32s (zeros m)) 172)) := fun w => by rw [HmI.out]; exact make_u32 150 Tryz.underlying150 m (by omega) w
  go_enter Tryz.func233, Tryz.ntmps233
  go_wp2_with fail
  refine Hc.out.mono ?_
  rintro e w' ⟨rfl, nd, rfl⟩
  go_wp2_with fail
  refine (Tryz.bits_LeadingZeros32 (t : Int) _ (by omega) (by omega)).mono ?_
  rintro e w' ⟨rfl, rfl⟩
  rw [Int.toNat_natCast, Hs1.out]
  go_wp2_with fail
  refine (SU.out _ (by exact Hy.out)).mono ?_
  rintro e w1 ⟨g1, L1, rfl, -, hbl, hok1, hln, hv1, hb1⟩
  have hw1 := hbl.wd hok1 (by omega) (n + 1) (by omega) (by omega)
  rw [hln] at hw1
  have Hw1 := Lib.hid hw1; clear hw1 hbl hok1 hln
  have Hv1 := Lib.hid hv1; clear hv1
  have Hb1 := Lib.hid (undrewN hb1); clear hb1
  go_wp2_with fail
  refine (trimE_any _ _ _ Hw1.out).mono ?_
  rintro e w' ⟨ud, rfl, hud, rfl⟩
  rw [Hv1.out] at hud
  obtain ⟨A3, c3, rfl, -, hc3⟩ := hud.shape
  rw [HD3.out] at hud ⊢
  obtain ⟨bd, od, rfl, hbd, hcd⟩ := Wd.cell (k := 0) hud (by omega)
  have Hcd := Lib.hid hcd; clear hcd
  clear hud Hw1 Hv1
  go_wp2_with fail
  refine (SV.out _ (Hx.out.below Hb1.out)).mono ?_
  rintro e w2 ⟨g, L, rfl, hg1, hbl, hok, hln, hvl, hb2⟩
  have Hcd2 := Lib.hid (fun k hk => (hb2.cell (p := ⟨bd, od + k, none⟩) hbd).trans (Hcd.out k hk))
  have Hb2 := Lib.hid (Hb1.out.trans (hb2.mono Hb1.out.size))
  have hwg : w.heap.size ≤ g := Nat.le_trans Hb1.out.size hg1
  have hbdg : bd ≠ g := by omega
  have hbd2 := Nat.lt_of_lt_of_le hbd hb2.size
  have hgl := hbl.lt
  have Hbl := Lib.hid hbl; clear hbl
  have Hvl := Lib.hid hvl; clear hvl
  clear hb2 Hb1 hbd hg1 Hcd
  go_wp2_with fail
  obtain ⟨gq, hgq⟩ : ∃ k, k = w2.heap.size := ⟨_, rfl⟩
  have hbdq : bd < gq := by rw [hgq]; exact hbd2
  rw [← hgq] at hgl ⊢
  have Hgq := Lib.hid hgq; clear hgq
  have hbel2 : Below w.heap.size w (w2.alloc (.cells (U32s (zeros m)) 172)) := Below.alloc (show Below w.heap.size w w2 from Hb2.out) Hb2.out.size _
  have hblk0 : Blk (w2.alloc (.cells (U32s (zeros m)) 172)) g L := Hbl.out.alloc _
  have hq0 : Blk (w2.alloc (.cells (U32s (zeros m)) 172)) gq (zeros m) := by rw [Hgq.out]; exact heap_alloc_new w2 _
  have hcd0 : ∀ j, j < n → (w2.alloc (.cells (U32s (zeros m)) 172)).cell? ⟨bd, od + j, none⟩ = some (.int .u32 (dg (y * p2) j : Nat)) := fun j hj => by
    have h := Hcd2.out j hj
    rw [World.cell?_alloc_past _ _ _ (by exact hbd2)]
    exact h
  have HS := Lib.hid (And.intro hbel2 (And.intro hblk0 (And.intro hq0 hcd0)))
  clear hbel2 hblk0 hq0 hcd0 Hcd2 Hbl
  go_loopw [13] (fun a wr => Rel3 (x * p2) (y * p2) n m bd od g gq (nx + 1) w a wr) (fun a _ => (intOf a + 1).toNat)
  case atStart =>
    obtain ⟨hbel2, hblk0, hq0, hcd0⟩ := HS.out
    exact ⟨m, L, zeros m, rfl, Nat.le_refl _, hln, hok, hblk0, zeros_length _, zeros_ok _, hq0, hbel2, hcd0, by rw [Hvl.out, val_zeros, Nat.mul_zero, Nat.add_zero], by rw [Hvl.out]; exact Hst.out, fun p _ => zeros_getD _ p⟩
  case round =>
    clear HS hln hok Hvl Hb2
    obtain ⟨k, L1, Q1, rfl, hk, hL1, hok1, hblk1, hQ1, hokq, hblkq, hbel, hcd, hX, hlt, hz⟩ := hrel
    have HL1 := Lib.hid hL1; clear hL1
    have HQ1 := Lib.hid hQ1; clear hQ1
    have HX := Lib.hid hX; clear hX
    have Hlt := Lib.hid hlt; clear hlt
    have HZ := Lib.hid hz; clear hz
    have Hcd := Lib.hid hcd; clear hcd
    by_cases hk0 : k = 0
    · subst hk0
      have hw1 := hblkq.wd hokq (by rw [HQ1.out]; omega) m (by rw [HQ1.out]; omega) (by omega)
      rw [HQ1.out] at hw1
      have hw2 := hblk1.wd hok1 (by rw [HL1.out]; omega) (nx + 1) (by rw [HL1.out]; omega) (by omega)
      rw [HL1.out] at hw2
      have hlt0 : val L1 < y * p2 := by have := Hlt.out; rwa [Nat.pow_zero, Nat.mul_one] at this
      obtain ⟨hd1, hd2⟩ := div_end hp0 hy0 HX.out hlt0
      have hl1 : (dig (val L1)).length ≤ 1000000 := by
        have := dig_len_le (Nat.lt_trans hlt0 HD1.out); omega
      have Hd1 := Lib.hid hd1; clear hd1
      have Hd2 := Lib.hid hd2; clear hd2 hlt0
      have Hw1 := Lib.hid hw1; clear hw1
      have Hw2 := Lib.hid hw2; clear hw2 hblkq hblk1
      go_wp2_with fail
      refine (trimE_any _ _ _ Hw1.out).mono ?_
      rintro e w' ⟨r1, rfl, hr1, rfl⟩
      rw [Hd1.out] at hr1
      obtain ⟨A5, n5, c5, rfl⟩ := hr1.slice_
      have Hr1 := Lib.hid hr1; clear hr1
      go_wp2_with fail
      refine (trimE_any _ _ _ Hw2.out).mono ?_
      rintro e w' ⟨r2, rfl, hr2, rfl⟩
      obtain ⟨A6, n6, c6, rfl⟩ := hr2.slice_
      have Hr2 := Lib.hid hr2; clear hr2
      go_wp2_with fail
      refine (shiftedDown_any (val L1) s _ _ Hr2.out hl1 hs).mono ?_
      rintro e w3 ⟨r3, rfl, hr3, hb3⟩
      rw [← Hp2.out, Hd2.out] at hr3
      obtain ⟨A7, n7, c7, rfl⟩ := hr3.slice_
      have Hr3 := Lib.hid hr3; clear hr3
      have hb03 := hbel.trans (hb3.mono hbel.size)
      have Hb3 := Lib.hid hb3; clear hb3
      go_wp2
      go_ret2
      exact ⟨_, _, rfl, Hr1.out.below Hb3.out, Hr3.out, hb03⟩
    · obtain ⟨i, rfl⟩ : ∃ j, k = j + 1 := ⟨k - 1, by omega⟩
      have hmn := Hmn.out
      have hplace : Place wr (y * p2) n bd od g i L1 := ⟨h1, by omega, hbdg, Hcd.out, HD1.out, HD2.out, hblk1, hok1, by rw [HL1.out]; omega, Hlt.out⟩
      have hDpos := hplace.D_pos
      have htk := fun cp => take_any (y * p2) n bd od c3 g i cp L1 wr hplace
      have Htk := Lib.hid htk; clear htk hplace
      have HB1 := Lib.hid hblk1; clear hblk1
      have HBq := Lib.hid hblkq; clear hblkq
      have i1 : ((i + 1 : Nat) : Int) - 1 = (i : Int) := by omega
      rw [i1]
      clear i1
      have hin : i + n + 1 ≤ nx + 1 := by omega
      clear hmn
      go_wp2_with fail
      rw [show i + n + 1 - i = n + 1 by omega]
      refine (Htk.out _).mono ?_
      rintro e w3 ⟨q, L3, rfl, hq, hql, hL3, hok3, hv3, hblk3, htf⟩
      have hblkq3 := HBq.out.take htf (by omega)
      have hfr := hblkq3.frozen i
      have hce := hblkq3.cell (i := i) (by rw [HQ1.out]; omega)
      have hb3 : Below w.heap.size w w3 := hbel.trans (htf.1.mono hwg)
      have hcd3 := fun j hj => htf.cell hbdg (Hcd.out j hj)
      have Hcd3 := Lib.hid hcd3; clear hcd3
      have HB3 := Lib.hid hblk3; clear hblk3
      have HBq3 := Lib.hid hblkq3; clear hblkq3
      have Hq := Lib.hid hq; clear hq
      have Hv3 := Lib.hid hv3; clear hv3
      have HL3 := Lib.hid hL3; clear hL3 htf HB1 HBq Hcd Htk
      have hne3 : g ≠ gq := by omega
      have hne4 : bd ≠ gq := by omega
      go_wp2
      go_roundw
      case rel =>
        refine ⟨i, L3, Q1.set i q, rfl, by omega, by rw [HL3.out, HL1.out], hok3, HB3.out.far hne3 _, by rw [List.length_set, HQ1.out], hokq.set hql, HBq3.out.set_ _ _, hb3.setCell (p := ⟨gq, i, none⟩) (by show w.heap.size ≤ gq; omega) _, ?_, ?_, ?_, ?_⟩
        · intro j hj
          rw [World.cell?_setCell_other _ _ _ _ (by intro e; injection e with e1; exact hne4 e1.symm)]
          exact Hcd3.out j hj
        · refine outer_round HX.out Hv3.out ?_
          have := val_set (l := Q1) (p := i) (v := q) (by rw [HQ1.out]; omega)
          rw [HZ.out i (by omega), Nat.mul_zero, Nat.add_zero] at this
          exact this
        · exact part_lt Hv3.out Hq.out hDpos
        · intro p hp
          rw [getD_set_ne (by omega)]
          exact HZ.out p (by omega)
      case measure => simp [intOf]

/-- natural.divide -/
theorem divide_any (x y : Nat) (u v : Value) (w : World) (hx : Wd w u (dig x)) (hy : Wd w v (dig y)) (lx : (dig x).length ≤ 999999) (hy0 : 0 < y) :
    Calls Tryz.prog 233 #[u, v] w (DivN x y w) := by
  by_cases hxy : x < y
  · exact divide_less x y u v w hx hy hxy
  · have := dig_len_pos.2 hy0
    by_cases h1 : (dig y).length = 1
    · exact divide_one x y u v w hx hy (by omega) (by omega) h1
    · exact divide_long x y u v w hx hy lx (by omega) (by omega)
end Go.Proofs.YtijhbmdbnnmogaaGreat
namespace Go.Proofs.YtijhbmdbnnmogaaGreat
open Go.RowKit

/-- a number of a sign and a size -/
def sz (b : Bool) (n : Nat) : Int := if b = true then -(n : Int) else n
theorem sz_abs (b : Bool) (n : Nat) : (sz b n).natAbs = n := by unfold sz; split <;> omega
theorem sz_neg (b : Bool) (n : Nat) : (b && decide (0 < (dig n).length)) = decide (sz b n < 0) := by
  unfold sz
  cases b
  · simp
  · have := @dig_len_pos n
    by_cases h : 0 < n
    · simp [this.2 h]; omega
    · have h0 : n = 0 := by omega
      subst h0; simp [dig_zero]
theorem sz_of (x : Int) : x = sz (decide (x < 0)) x.natAbs := by
  unfold sz
  by_cases h : x < 0
  · simp [h]; omega
  · simp [h]; omega

theorem ediv_nat {m n : Nat} (hn : 0 < n) (hr : m % n = 0) : (-(m : Int)) / n = -((m / n : Nat) : Int) ∧ (-(m : Int)) % n = ((m % n : Nat) : Int) := by
  have h := Nat.div_add_mod m n
  rw [Int.ediv_emod_unique (by omega)]
  rw [hr] at h ⊢
  refine ⟨?_, by omega, by omega⟩
  have : (n : Int) * ((m / n : Nat) : Int) = m := by rw [← Int.natCast_mul]; omega
  rw [Int.mul_neg, this]; omega
theorem ediv_neg_nat {m n : Nat} (hn : 0 < n) (hr : 0 < m % n) : (-(m : Int)) / n = -((m / n + 1 : Nat) : Int) ∧ (-(m : Int)) % n = ((n - m % n : Nat) : Int) := by
  have h := Nat.div_add_mod m n
  have hl := Nat.mod_lt m hn
  rw [Int.ediv_emod_unique (by omega)]
  refine ⟨?_, by omega, by omega⟩
  have h1 : (n : Int) * ((m / n : Nat) : Int) = ((n * (m / n) : Nat) : Int) := by rw [Int.natCast_mul]
  have h2 : (n : Int) * ((1 : Nat) : Int) = n := by omega
  rw [Int.natCast_add, Int.mul_neg, Int.mul_add, h1, h2]
  omega

theorem div_plain {x y : Int} (hy : y ≠ 0) (h : (decide (x < 0) && decide (0 < x.natAbs % y.natAbs)) = false) :
    x / y = sz (decide (x < 0) != decide (y < 0)) (x.natAbs / y.natAbs) ∧ x % y = ((x.natAbs % y.natAbs : Nat) : Int) := by
  obtain ⟨n, hn⟩ : ∃ n, n = y.natAbs := ⟨_, rfl⟩
  obtain ⟨m, hm⟩ : ∃ m, m = x.natAbs := ⟨_, rfl⟩
  rw [← hn, ← hm] at h ⊢
  have hn0 : 0 < n := by omega
  by_cases hx : x < 0
  · have hr : m % n = 0 := by simp [hx] at h; exact h
    have ex : x = -(m : Int) := by omega
    obtain ⟨a, b⟩ := ediv_nat hn0 hr
    by_cases hy' : y < 0
    · have ey : y = -(n : Int) := by omega
      simp only [hx, hy', decide_true, bne_self_eq_false, sz, Bool.false_eq_true, if_false]
      rw [ey, Int.ediv_neg, Int.emod_neg, ex, a, b]; simp
    · have ey : y = (n : Int) := by omega
      simp only [hx, hy', decide_true, decide_false, sz]
      rw [ey, ex, a, b]; simp
  · have ex : x = (m : Int) := by omega
    by_cases hy' : y < 0
    · have ey : y = -(n : Int) := by omega
      simp only [hx, hy', decide_true, decide_false, sz]
      rw [ey, Int.ediv_neg, Int.emod_neg, ex, ← Int.natCast_ediv, ← Int.natCast_emod]; simp
    · have ey : y = (n : Int) := by omega
      simp only [hx, hy', decide_false, bne_self_eq_false, sz, Bool.false_eq_true, if_false]
      rw [ey, ex, ← Int.natCast_ediv, ← Int.natCast_emod]; exact ⟨rfl, rfl⟩
theorem div_up {x y : Int} (hy : y ≠ 0) (hx : x < 0) (hr : 0 < x.natAbs % y.natAbs) :
    x / y = sz (decide (x < 0) != decide (y < 0)) (x.natAbs / y.natAbs + 1) ∧ x % y = ((y.natAbs - x.natAbs % y.natAbs : Nat) : Int) := by
  obtain ⟨n, hn⟩ : ∃ n, n = y.natAbs := ⟨_, rfl⟩
  obtain ⟨m, hm⟩ : ∃ m, m = x.natAbs := ⟨_, rfl⟩
  rw [← hn, ← hm] at hr ⊢
  have hn0 : 0 < n := by omega
  have ex : x = -(m : Int) := by omega
  obtain ⟨a, b⟩ := ediv_neg_nat hn0 hr
  by_cases hy' : y < 0
  · have ey : y = -(n : Int) := by omega
    simp only [hx, hy', decide_true, bne_self_eq_false, sz, Bool.false_eq_true, if_false]
    rw [ey, Int.ediv_neg, Int.emod_neg, ex, a, b]; simp
  · have ey : y = (n : Int) := by omega
    simp only [hx, hy', decide_true, decide_false, sz]
    rw [ey, ex, a, b]; simp


/-- the contract's end for two whole numbers -/
def RetZZ (w : World) (y z : Int) (e : Ending) (w' : World) : Prop := ∃ b A n c b' A' n' c', e = .returned (.tuple #[.agg #[.bool b, .slice A n c], .agg #[.bool b', .slice A' n' c']]) ∧ ZV w' (.agg #[.bool b, .slice A n c]) y ∧ ZV w' (.agg #[.bool b', .slice A' n' c']) z ∧ Below w.heap.size w w'

theorem four_blocks (w : World) (p q : Bool) (A A' : Option Addr) (n c n' c' : Nat) : ∃ W, W = ((((w.alloc (Obj.cells #[.bool p, .slice A n c] 152)).alloc (Obj.cells #[.bool q, .slice A' n' c'] 152)).alloc (Obj.cells #[.bool false, .slice none 0 0] 152)).alloc (Obj.cells #[.bool false, .slice none 0 0] 152)) ∧
    W.cell? ⟨w.heap.size, 0, none⟩ = some (.bool p) ∧ W.cell? ⟨w.heap.size, 1, none⟩ = some (.slice A n c) ∧ W.cell? ⟨w.heap.size + 1, 0, none⟩ = some (.bool q) ∧ W.cell? ⟨w.heap.size + 1, 1, none⟩ = some (.slice A' n' c') ∧
    RB W (w.heap.size + 1 + 1) ∧ RB W (w.heap.size + 1 + 1 + 1) ∧ Below w.heap.size w W ∧ W.heap.size = w.heap.size + 4 := by
  refine ⟨_, rfl, ?_, ?_, ?_, ?_, ?_, ?_, ?_, ?_⟩
  · rw [World.cell?_alloc_past _ _ _ (by simp; omega)]; exact old1 0
  · rw [World.cell?_alloc_past _ _ _ (by simp; omega)]; exact old1 1
  · rw [World.cell?_alloc_past _ _ _ (by simp)]; exact old2 0
  · rw [World.cell?_alloc_past _ _ _ (by simp)]; exact old2 1
  · exact (RB.a3 w false none 0 0 152 _ _).below (below_alloc _ _) (by simp)
  · exact ⟨false, none, 0, 0, 152, by
      have := heap_alloc_new (((w.alloc (Obj.cells #[.bool p, .slice A n c] 152)).alloc (Obj.cells #[.bool q, .slice A' n' c'] 152)).alloc (Obj.cells #[.bool false, .slice none 0 0] 152)) (Obj.cells #[.bool false, .slice none 0 0] 152)
      simpa using this⟩
  · exact (below3 w _ _ _).alloc (by simp; omega) _
  · simp

theorem RB.far' {W : World} {g h : Nat} (r : RB W g) (r' : RB W h) (hne : g ≠ h) (u u' : Value) : RB ((W.setCell ⟨h, 0, none⟩ u).setCell ⟨h, 1, none⟩ u') g := r.far r' hne u u'

theorem two_res {W : World} {g h : Nat} (R1 : RB W g) (R2 : RB W h) (hne : h ≠ g) (b1 : Bool) (A1 : Option Addr) (n1 c1 : Nat) (b2 : Bool) (A2 : Option Addr) (n2 c2 : Nat) {v1 v2 : Value} {z1 z2 : Int}
    (h1 : ZV W v1 z1) (h2 : ZV W v2 z2) {B : Nat} {w : World} (hb : Below B w W) (hg : B ≤ g) (hh : B ≤ h) :
    ∃ W', W' = (((W.setCell ⟨g, 0, none⟩ (.bool b1)).setCell ⟨g, 1, none⟩ (.slice A1 n1 c1)).setCell ⟨h, 0, none⟩ (.bool b2)).setCell ⟨h, 1, none⟩ (.slice A2 n2 c2) ∧
    W'.cell? ⟨g, 0, none⟩ = some (.bool b1) ∧ W'.cell? ⟨g, 1, none⟩ = some (.slice A1 n1 c1) ∧ W'.cell? ⟨h, 0, none⟩ = some (.bool b2) ∧ W'.cell? ⟨h, 1, none⟩ = some (.slice A2 n2 c2) ∧ ZV W' v1 z1 ∧ ZV W' v2 z2 ∧ Below B w W' := by
  have T := R2.far R1 hne (.bool b1) (.slice A1 n1 c1)
  exact ⟨_, rfl, (far2 (by omega)).trans (R1.set0 _ _), (far2 (by omega)).trans (R1.set1 _ _), T.set0 _ _, T.set1 _ _, (h1.rb R1 _ _).rb T _ _, (h2.rb R1 _ _).rb T _ _, below_set2 (below_set2 hb hg _ _) hh _ _⟩

set_option maxRecDepth 100000 in
theorem divideZ_plain (x y : Int) (u v : Value) (w : World) (hx : ZV w u x) (hy : ZV w v y) (lx : (dig x.natAbs).length ≤ 999999) (hy0 : y ≠ 0) (hpl : (decide (x < 0) && decide (0 < x.natAbs % y.natAbs)) = false) :
    Calls Tryz.prog 214 #[u, v] w (RetZZ w (x / y) (x % y)) := by
  obtain ⟨hd1, hd2⟩ := div_plain hy0 hpl
  rw [hd1, hd2]
  clear hd1 hd2
  obtain ⟨A, n, c, rfl, hx', -, -⟩ := hx.open_
  obtain ⟨A', n', c', rfl, hy', -, -⟩ := hy.open_
  clear hx hy
  obtain ⟨p, hp⟩ : ∃ p, p = decide (x < 0) := ⟨_, rfl⟩
  obtain ⟨q, hq⟩ : ∃ q, q = decide (y < 0) := ⟨_, rfl⟩
  rw [← hp] at hpl
  rw [← hp, ← hq]
  obtain ⟨m, hm⟩ : ∃ m, m = x.natAbs := ⟨_, rfl⟩
  obtain ⟨d, hd⟩ : ∃ d, d = y.natAbs := ⟨_, rfl⟩
  rw [← hm] at hx' hpl lx
  rw [← hd] at hy' hpl
  rw [← hm, ← hd]
  have hd0 : 0 < d := by omega
  obtain ⟨zq, hzq⟩ : ∃ z, z = sz (p != q) (m / d) := ⟨_, rfl⟩
  obtain ⟨zr, hzr⟩ : ∃ z, z = ((m % d : Nat) : Int) := ⟨_, rfl⟩
  rw [← hzq, ← hzr]
  have Hzq := Lib.hid hzq; clear hzq
  have Hzr := Lib.hid hzr; clear hzr
  clear hp hq hm hd hy0
  obtain ⟨W0, hW0, k10, k11, k20, k21, hR3, hR4, hb0, z0⟩ := four_blocks w p q A A' n c n' c'
  have hx0 := hx'.below hb0
  have hy0 := hy'.below hb0
  have HW0 := Lib.hid hW0
  have HX0 := Lib.hid hx0; clear hx0 hx'
  have HY0 := Lib.hid hy0; clear hy0 hy'
  have HR3 := Lib.hid hR3; clear hR3
  have HR4 := Lib.hid hR4; clear hR4
  have Hb0 := Lib.hid hb0; clear hb0
  have Hpl := Lib.hid hpl; clear hpl
  have Z0 := Lib.hid z0; clear z0
  rw [hW0] at k10 k11 k20 k21
  clear hW0
  go_enter Tryz.func214, Tryz.ntmps214
  go_wp2_with fail
  rw [← HW0.out] at k10 k11 k20 k21 ⊢
  refine (divide_any m d _ _ W0 HX0.out HY0.out lx hd0).mono ?_
  rintro e W1 ⟨q1, r1, rfl, hq1, hr1, hb1⟩
  obtain ⟨A3, n3, c3, rfl⟩ := hq1.slice_
  obtain ⟨A4, n4, c4, rfl⟩ := hr1.slice_
  have hn3 := hq1.len
  have hn4 := hr1.len
  have hl3 := hq1.len_le
  have hl4 := hr1.len_le
  have z1 : w.heap.size + 4 ≤ W1.heap.size := by have := hb1.size; have := Z0.out; omega
  have j10 := keepAt hb1 (by have := Z0.out; omega) k10
  have j11 := keepAt hb1 (by have := Z0.out; omega) k11
  have j20 := keepAt hb1 (by have := Z0.out; omega) k20
  have j21 := keepAt hb1 (by have := Z0.out; omega) k21
  have hR3 := HR3.out.below hb1 (by have := Z0.out; omega)
  have hR4 := HR4.out.below hb1 (by have := Z0.out; omega)
  have hb01 := Hb0.out.trans (hb1.mono Hb0.out.size)
  have HR3' := Lib.hid hR3; clear hR3
  have HR4' := Lib.hid hR4; clear hR4
  have HQ1 := Lib.hid hq1; clear hq1
  have HR1 := Lib.hid hr1; clear hr1
  have Hb01 := Lib.hid hb01; clear hb01
  have Hn3 := Lib.hid hn3; clear hn3
  have hpn : p = true → n4 = 0 := by
    rintro rfl
    have h := Hpl.out
    simp at h
    rw [hn4, h, dig_zero]; rfl
  have Hn4 := Lib.hid hn4; clear hn4 hb1 k10 k11 k20 k21 Hpl
  cases p
  · clear hpn
    go_wp2_with fail
    refine (signed_any q A3 n3 c3 W1 hl3).mono ?_
    rintro e W2 ⟨rfl, hb2⟩
    have R3 := HR3'.out.below hb2 (by omega)
    have R4 := HR4'.out.below hb2 (by omega)
    obtain ⟨_, _, _, _, g30, g31, g32, g33⟩ := R3.facts
    obtain ⟨_, _, _, _, g40, g41, g42, g43⟩ := R4.facts
    have hz1 : ZV W2 (.agg #[.bool (q && decide (0 < n3)), .slice A3 n3 c3]) zq := ZV.mk (by rw [Hzq.out, Hn3.out, ← sz_neg]; cases q <;> rfl) (by rw [Hzq.out, sz_abs]; exact HQ1.out.below hb2)
    have hz2 : ZV W2 (.agg #[.bool false, .slice A4 n4 c4]) zr := ZV.mk (by rw [Hzr.out]; simp; omega) (by rw [Hzr.out, Int.natAbs_natCast]; exact HR1.out.below hb2)
    obtain ⟨W', hW', f1, f2, f3, f4, hz1', hz2', hbf⟩ := two_res R3 R4 (by omega) (q && decide (0 < n3)) A3 n3 c3 false A4 n4 c4 hz1 hz2 (Hb01.out.trans (hb2.mono (by omega))) (by omega) (by omega)
    have T := R4.far R3 (by omega) (.bool (q && decide (0 < n3))) (.slice A3 n3 c3)
    obtain ⟨_, _, _, _, g50, g51, g52, g53⟩ := T.facts
    have HF := Lib.hid (And.intro hz1' (And.intro hz2' (And.intro hbf (And.intro f1 (And.intro f2 (And.intro f3 f4))))))
    have HW' := Lib.hid hW'
    clear hz1 hz2 hz1' hz2' hbf f1 f2 f3 f4 hW' T R3 R4 hb2
    go_wp2
    rw [← HW'.out]
    obtain ⟨hz1, hz2, hbf, f1, f2, f3, f4⟩ := HF.out
    exact bodyPost_ret (v := .tuple #[.agg #[.bool (q && decide (0 < n3)), .slice A3 n3 c3], .agg #[.bool false, .slice A4 n4 c4]]) (by simp [results, Tryz.results214, go_sem, f1, f2, f3, f4]) rfl ⟨_, _, _, _, _, _, _, _, rfl, hz1, hz2, hbf⟩
  · obtain rfl := hpn rfl
    clear hpn
    go_wp2_with fail
    refine (signed_any (!q) A3 n3 c3 W1 hl3).mono ?_
    rintro e W2 ⟨rfl, hb2⟩
    have R3 := HR3'.out.below hb2 (by omega)
    have R4 := HR4'.out.below hb2 (by omega)
    obtain ⟨_, _, _, _, g30, g31, g32, g33⟩ := R3.facts
    obtain ⟨_, _, _, _, g40, g41, g42, g43⟩ := R4.facts
    have hz1 : ZV W2 (.agg #[.bool (!q && decide (0 < n3)), .slice A3 n3 c3]) zq := ZV.mk (by rw [Hzq.out, Hn3.out, ← sz_neg]; cases q <;> rfl) (by rw [Hzq.out, sz_abs]; exact HQ1.out.below hb2)
    have hz2 : ZV W2 (.agg #[.bool false, .slice A4 0 c4]) zr := ZV.mk (by rw [Hzr.out]; simp; omega) (by rw [Hzr.out, Int.natAbs_natCast]; exact HR1.out.below hb2)
    obtain ⟨W', hW', f1, f2, f3, f4, hz1', hz2', hbf⟩ := two_res R3 R4 (by omega) (!q && decide (0 < n3)) A3 n3 c3 false A4 0 c4 hz1 hz2 (Hb01.out.trans (hb2.mono (by omega))) (by omega) (by omega)
    have T := R4.far R3 (by omega) (.bool (!q && decide (0 < n3))) (.slice A3 n3 c3)
    obtain ⟨_, _, _, _, g50, g51, g52, g53⟩ := T.facts
    have HF := Lib.hid (And.intro hz1' (And.intro hz2' (And.intro hbf (And.intro f1 (And.intro f2 (And.intro f3 f4))))))
    have HW' := Lib.hid hW'
    clear hz1 hz2 hz1' hz2' hbf f1 f2 f3 f4 hW' T R3 R4 hb2
    go_wp2
    rw [← HW'.out]
    obtain ⟨hz1, hz2, hbf, f1, f2, f3, f4⟩ := HF.out
    exact bodyPost_ret (v := .tuple #[.agg #[.bool (!q && decide (0 < n3)), .slice A3 n3 c3], .agg #[.bool false, .slice A4 0 c4]]) (by simp [results, Tryz.results214, go_sem, f1, f2, f3, f4]) rfl ⟨_, _, _, _, _, _, _, _, rfl, hz1, hz2, hbf⟩

set_option maxRecDepth 100000 in
theorem divideZ_up (x y : Int) (u v : Value) (w : World) (hx : ZV w u x) (hy : ZV w v y) (lx : (dig x.natAbs).length ≤ 999999) (ly : (dig y.natAbs).length ≤ 1000000) (hy0 : y ≠ 0) (hneg : x < 0) (hpl : 0 < x.natAbs % y.natAbs) :
    Calls Tryz.prog 214 #[u, v] w (RetZZ w (x / y) (x % y)) := by
  obtain ⟨hd1, hd2⟩ := div_up hy0 hneg hpl
  rw [hd1, hd2]
  clear hd1 hd2
  obtain ⟨A, n, c, rfl, hx', -, -⟩ := hx.open_
  obtain ⟨A', n', c', rfl, hy', -, -⟩ := hy.open_
  clear hx hy
  rw [show decide (x < 0) = true by simp; exact hneg]
  obtain ⟨q, hq⟩ : ∃ q, q = decide (y < 0) := ⟨_, rfl⟩
  rw [← hq]
  obtain ⟨m, hm⟩ : ∃ m, m = x.natAbs := ⟨_, rfl⟩
  obtain ⟨d, hd⟩ : ∃ d, d = y.natAbs := ⟨_, rfl⟩
  rw [← hm] at hx' hpl lx
  rw [← hd] at hy' hpl ly
  rw [← hm, ← hd]
  have hd0 : 0 < d := by omega
  have hql : (dig (m / d)).length ≤ 1000000 := by have := dig_len_mono (Nat.div_le_self m d); omega
  have hrd : m % d ≤ d := Nat.le_of_lt (Nat.mod_lt _ hd0)
  obtain ⟨zq, hzq⟩ : ∃ z, z = sz (true != q) (m / d + 1) := ⟨_, rfl⟩
  obtain ⟨zr, hzr⟩ : ∃ z, z = ((d - m % d : Nat) : Int) := ⟨_, rfl⟩
  rw [← hzq, ← hzr]
  have Hzq := Lib.hid hzq; clear hzq
  have Hzr := Lib.hid hzr; clear hzr
  clear hq hm hd hy0 hneg
  obtain ⟨W0, hW0, k10, k11, k20, k21, hR3, hR4, hb0, z0⟩ := four_blocks w true q A A' n c n' c'
  have hx0 := hx'.below hb0
  have hy0 := hy'.below hb0
  have HW0 := Lib.hid hW0
  have HX0 := Lib.hid hx0; clear hx0 hx'
  have HY0 := Lib.hid hy0; clear hy0 hy'
  have HR3 := Lib.hid hR3; clear hR3
  have HR4 := Lib.hid hR4; clear hR4
  have Hb0 := Lib.hid hb0; clear hb0
  have Hpl := Lib.hid hpl; clear hpl
  have Hrd := Lib.hid hrd; clear hrd
  have Hql := Lib.hid hql; clear hql
  have Z0 := Lib.hid z0; clear z0
  rw [hW0] at k10 k11 k20 k21
  clear hW0
  go_enter Tryz.func214, Tryz.ntmps214
  go_wp2_with fail
  rw [← HW0.out] at k10 k11 k20 k21 ⊢
  refine (divide_any m d _ _ W0 HX0.out HY0.out lx hd0).mono ?_
  rintro e W1 ⟨q1, r1, rfl, hq1, hr1, hb1⟩
  obtain ⟨A3, n3, c3, rfl⟩ := hq1.slice_
  obtain ⟨A4, n4, c4, rfl⟩ := hr1.slice_
  have hn4 := hr1.len
  have hl3 := hq1.len_le
  have hl4 := hr1.len_le
  have hn40 : 0 < n4 := by rw [hn4]; exact dig_len_pos.2 Hpl.out
  have z1 : w.heap.size + 4 ≤ W1.heap.size := by have := hb1.size; have := Z0.out; omega
  have j10 := keepAt hb1 (by have := Z0.out; omega) k10
  have j20 := keepAt hb1 (by have := Z0.out; omega) k20
  have j21 := keepAt hb1 (by have := Z0.out; omega) k21
  have hb01 := Hb0.out.trans (hb1.mono Hb0.out.size)
  have HR3' := Lib.hid (HR3.out.below hb1 (by have := Z0.out; omega))
  have HR4' := Lib.hid (HR4.out.below hb1 (by have := Z0.out; omega))
  have HY1 := Lib.hid (HY0.out.below hb1)
  have HQ1 := Lib.hid hq1; clear hq1
  have HR1 := Lib.hid hr1; clear hr1
  have Hb01 := Lib.hid hb01; clear hb01 hn4 hb1 k10 k11 k20 k21 Hpl HX0 HY0 HR3 HR4 Hb0 Z0
  go_wp2_with fail
  have hone : Wd (W1.alloc (Obj.cells #[.int .u32 1] 172)) (.slice (some ⟨W1.heap.size, 0, none⟩) 1 1) (dig 1) := by
    have e : dig 1 = [1] := by rw [dig_pos (by omega), dig_zero]
    rw [e]
    exact Wd.new W1 [1] (Ok.mk (by omega) Ok.nil) _ _ 1 1 rfl (by omega) (by omega) (fun j hj => by
      match j, hj with
      | 0, _ => simp)
  have hba := below_alloc W1 (Obj.cells #[.int .u32 1] 172)
  refine (plusE_any (m / d) 1 _ _ _ (HQ1.out.below hba) hone Hql.out (by rw [dig_pos (by omega), dig_zero]; simp)).mono ?_
  rintro e W2 ⟨q2, rfl, hq2, hb2⟩
  obtain ⟨A5, n5, c5, rfl⟩ := hq2.slice_
  have hn5 := hq2.len
  have hl5 := hq2.len_le
  have hb12 : Below W1.heap.size W1 W2 := hba.trans (hb2.mono hba.size)
  have i10 := keepAt hb12 (by omega) j10
  have i20 := keepAt hb12 (by omega) j20
  have i21 := keepAt hb12 (by omega) j21
  have HR5 := Lib.hid (HR3'.out.below hb12 (by omega))
  have HR6 := Lib.hid (HR4'.out.below hb12 (by omega))
  have HY2 := Lib.hid (HY1.out.below hb12)
  have HRr := Lib.hid (HR1.out.below hb12)
  have Hb02 := Lib.hid (Hb01.out.trans (hb12.mono Hb01.out.size))
  have z2 : w.heap.size + 4 ≤ W2.heap.size := Nat.le_trans z1 hb12.size
  have HQ2 := Lib.hid hq2; clear hq2
  have Hn5 := Lib.hid hn5; clear hn5
  clear hone hba hb2 hb12 j10 j20 j21 HR3' HR4' HY1 HR1 Hb01 z1 HQ1
  go_wp2_with fail
  refine (minusE_any d (m % d) _ _ _ HY2.out HRr.out ly Hrd.out).mono ?_
  rintro e W3 ⟨r3, rfl, hr3, hb3⟩
  obtain ⟨A6, n6, c6, rfl⟩ := hr3.slice_
  have j10 := keepAt hb3 (by omega) i10
  have j20 := keepAt hb3 (by omega) i20
  have HR3' := Lib.hid (HR5.out.below hb3 (by omega))
  have HR4' := Lib.hid (HR6.out.below hb3 (by omega))
  have HQ1 := Lib.hid (HQ2.out.below hb3)
  have Hb01 := Lib.hid (Hb02.out.trans (hb3.mono Hb02.out.size))
  have z1 : w.heap.size + 4 ≤ W3.heap.size := Nat.le_trans z2 hb3.size
  have HR1 := Lib.hid hr3
  clear hr3 hb3 i10 i20 i21 HR5 HR6 HY2 HRr Hb02 z2 HQ2
  go_wp2_with fail
  refine (signed_any (!q) A5 n5 c5 W3 hl5).mono ?_
  rintro e W4 ⟨rfl, hb2⟩
  have R3 := HR3'.out.below hb2 (by omega)
  have R4 := HR4'.out.below hb2 (by omega)
  obtain ⟨_, _, _, _, g30, g31, g32, g33⟩ := R3.facts
  obtain ⟨_, _, _, _, g40, g41, g42, g43⟩ := R4.facts
  have hz1 : ZV W4 (.agg #[.bool (!q && decide (0 < n5)), .slice A5 n5 c5]) zq := ZV.mk (by rw [Hzq.out, Hn5.out, ← sz_neg] <;> cases q <;> rfl) (by rw [Hzq.out, sz_abs]; exact HQ1.out.below hb2)
  have hz2 : ZV W4 (.agg #[.bool false, .slice A6 n6 c6]) zr := ZV.mk (by rw [Hzr.out]; simp) (by rw [Hzr.out, Int.natAbs_natCast]; exact HR1.out.below hb2)
  obtain ⟨W', hW', f1, f2, f3, f4, hz1', hz2', hbf⟩ := two_res R3 R4 (by omega) (!q && decide (0 < n5)) A5 n5 c5 false A6 n6 c6 hz1 hz2 (Hb01.out.trans (hb2.mono (by omega))) (by omega) (by omega)
  have T := R4.far R3 (by omega) (.bool (!q && decide (0 < n5))) (.slice A5 n5 c5)
  obtain ⟨_, _, _, _, g50, g51, g52, g53⟩ := T.facts
  have HF := Lib.hid (And.intro hz1' (And.intro hz2' (And.intro hbf (And.intro f1 (And.intro f2 (And.intro f3 f4))))))
  have HW' := Lib.hid hW'
  clear hz1 hz2 hz1' hz2' hbf f1 f2 f3 f4 hW' T R3 R4 hb2
  go_wp2
  rw [← HW'.out]
  obtain ⟨hz1, hz2, hbf, f1, f2, f3, f4⟩ := HF.out
  exact bodyPost_ret (v := .tuple #[.agg #[.bool (!q && decide (0 < n5)), .slice A5 n5 c5], .agg #[.bool false, .slice A6 n6 c6]]) (by simp [results, Tryz.results214, go_sem, f1, f2, f3, f4]) rfl ⟨_, _, _, _, _, _, _, _, rfl, hz1, hz2, hbf⟩

/-- whole.divide -/
theorem divideZ_any (x y : Int) (u v : Value) (w : World) (hx : ZV w u x) (hy : ZV w v y) (lx : (dig x.natAbs).length ≤ 999999) (ly : (dig y.natAbs).length ≤ 1000000) (hy0 : y ≠ 0) :
    Calls Tryz.prog 214 #[u, v] w (RetZZ w (x / y) (x % y)) := by
  by_cases h : x < 0 ∧ 0 < x.natAbs % y.natAbs
  · exact divideZ_up x y u v w hx hy lx ly hy0 h.1 h.2
  · refine divideZ_plain x y u v w hx hy lx hy0 ?_
    by_cases hn : x < 0
    · have : ¬ 0 < x.natAbs % y.natAbs := fun h' => h ⟨hn, h'⟩
      simp [hn]; omega
    · simp [hn]
end Go.Proofs.YtijhbmdbnnmogaaGreat
