/- Walks: the reference's Root. -/
import Derived.Test.YtmlopkkbgpfdnaaP2
import Derived.Test.YtmlopkkbgpfdnaaR3
namespace Go.Proofs.Ytmlopkkbgpfdnaa
open Go.RowKit

theorem two_hw (t : TypeId) (w : World) (p : Bool) (A : Option Addr) (n c : Nat) (l : List Nat) (hx : Wd w (.slice A n c) l) :
    ∃ W, W = ((w.alloc (Obj.cells #[.bool p, .slice A n c] t)).alloc (Obj.cells #[.bool false, .slice none 0 0] t)) ∧
    HW W w.heap.size p A n c l ∧ RB W (w.heap.size + 1) ∧ Below w.heap.size w W ∧ w.heap.size + 2 ≤ W.heap.size := by
  have h1 : HW (w.alloc (Obj.cells #[.bool p, .slice A n c] t)) w.heap.size p A n c l := HW.new w p A n c l t hx
  exact ⟨_, rfl, h1.alloc _, RB.b2 w false none 0 0 t _, below2 w _ _, by simp⟩

set_option maxHeartbeats 800000 in
set_option maxRecDepth 100000 in
theorem refRoot_no (p : Bool) (A : Option Addr) (n c : Nat) (l : List Nat) (k : Int) (w : World) (hx : Wd w (.slice A n c) l) (hno : rootOk p l k = false) :
    Calls Try.prog 45 #[.agg #[.bool p, .slice A n c], .int .i64 k] w fun e w' => e = .returned (.tuple #[.agg #[.bool false, .slice none 0 0], .int .i64 2]) ∧ Below w.heap.size w w' := by
  obtain ⟨W0, hW0, hH1, hR, hb, z0⟩ := two_hw 24 w p A n c l hx
  have HW0 := Lib.hid hW0; clear hW0
  have HF := Lib.hid (And.intro hH1 (And.intro hR (And.intro hb z0)))
  clear hH1 hR hb z0 hx
  have Hno := Lib.hid hno; clear hno
  go_enter Try.func45, Try.ntmps45
  go_wp2_with fail
  rw [← HW0.out]
  obtain ⟨hH1, hR, hb, z0⟩ := HF.out
  clear HF
  refine (validR_any p A n c l _ hH1.w).mono ?_
  rintro e W1 ⟨rfl, hb1⟩
  have hx1 : Ext W0 W1 := hb1
  have k1 := (hH1.ext hx1).c0
  have R := hR.ext hx1
  obtain ⟨_, _, _, _, g30, g31, g32, g33⟩ := R.facts
  obtain ⟨W', hW', f1, f2, -, hbf⟩ := one_res (w := w) R false none 0 0 (zv_nil W1) (hb.trans (Below.mono hx1 hb.size)) (by omega)
  have HG := Lib.hid (And.intro hbf (And.intro f1 f2))
  have HW' := Lib.hid hW'
  clear hbf f1 f2 hW' R hR hb hH1 hb1 hx1 HW0 z0
  have key : vld p l = false ∨ (vld p l = true ∧ p = true) ∨ (vld p l = true ∧ p = false ∧ k < 1) ∨ (vld p l = true ∧ p = false ∧ 1 ≤ k ∧ 64 < k) := by
    have := Hno.out
    unfold rootOk at this
    cases hv : vld p l <;> cases p <;> simp [hv] at this ⊢
    omega
  clear Hno
  rcases key with hv | ⟨hv, rfl⟩ | ⟨hv, rfl, hk⟩ | ⟨hv, rfl, hk1, hk2⟩
  all_goals
    rw [hv]
    clear hv
    try have d1 : decide (k < 1) = true := by simpa using hk
    try have d2 : decide (k < 1) = false := by simpa using hk1
    try have d3 : decide (64 < k) = true := by simpa using hk2
    go_wp2
    rw [← HW'.out]
    obtain ⟨hbf, f1, f2⟩ := HG.out
    exact bodyPost_ret (v := .tuple #[.agg #[.bool false, .slice none 0 0], .int .i64 2]) (by simp [results, Try.results45, go_sem, f1, f2]) rfl ⟨rfl, hbf⟩

theorem bitsN_mono {x y : Nat} (h : x ≤ y) : bitsN x ≤ bitsN y := by
  rcases Nat.eq_zero_or_pos x with h0 | h0
  · subst h0
    have : bitsN 0 = 0 := by unfold bitsN; rw [dig_zero]; rfl
    omega
  · have h1 := bitsN_le x h0
    have h2 := bitsN_lt y
    rcases Nat.lt_or_ge (bitsN y) (bitsN x) with h3 | h3
    · exfalso
      have h4 : 2 ^ (bitsN y + 1) ≤ 2 ^ bitsN x := Nat.pow_le_pow_right (by omega) h3
      rw [Nat.pow_succ] at h4
      omega
    · exact h3
theorem cmp_le {x y : Nat} : decide (cmpN x y ≤ 0) = decide (x ≤ y) := by
  unfold cmpN
  split
  · simp; omega
  · split
    · simp; omega
    · simp; omega
theorem up_of {a k r : Nat} (h : a < (r + 1) ^ k) : Up a k r := fun s hs => by
  rcases Nat.lt_or_ge r s with h1 | h1
  · have := Nat.pow_le_pow_left (show r + 1 ≤ s from h1) k
    omega
  · exact h1
theorem root_start (m k : Nat) (hk : 1 ≤ k) : m < (0 + 2 ^ (bitsN m / k + 1)) ^ k := by
  rw [Nat.zero_add, ← Nat.pow_mul]
  refine Nat.lt_of_lt_of_le (bitsN_lt m) (Nat.pow_le_pow_right (by omega) ?_)
  have h1 := Nat.div_add_mod (bitsN m) k
  have h2 := Nat.mod_lt (bitsN m) (show 0 < k by omega)
  rw [Nat.succ_mul, Nat.mul_comm]
  omega

/-- one bit, as the reference makes it -/
theorem bit_words (e : Nat) (w : World) (he : e ≤ 10000000) : Wd (w.alloc (.cells (U32s (zeros (e / 32) ++ [2 ^ (e % 32)])) 66)) (.slice (some ⟨w.heap.size, 0, none⟩) (e / 32 + 1) (e / 32 + 1)) (dig (2 ^ e)) := by
  have hp : (2 : Nat) ^ (e % 32) < 4294967296 := by
    have : 2 ^ (e % 32) ≤ 2 ^ 31 := Nat.pow_le_pow_right (by omega) (by omega)
    omega
  have h2 : Blk (w.alloc (.cells (U32s (zeros (e / 32) ++ [2 ^ (e % 32)])) 66)) w.heap.size (zeros (e / 32) ++ [2 ^ (e % 32)]) := heap_alloc_new w _
  rw [two_words e]
  have := h2.wd ((zeros_ok _).append (Ok.mk hp Ok.nil)) (by simp [zeros]; omega) (e / 32 + 1) (by simp [zeros]) (by omega)
  simpa [zeros] using this

set_option maxHeartbeats 1600000 in
set_option maxRecDepth 100000 in
theorem refRoot_yes (A : Option Addr) (n c : Nat) (l : List Nat) (k : Nat) (w : World) (hx : Wd w (.slice A n c) l) (hv : vld false l = true) (hk1 : 1 ≤ k) (hk2 : k ≤ 64) :
    Calls Try.prog 45 #[.agg #[.bool false, .slice A n c], .int .i64 (k : Int)] w (RootOf (val l) k w) := by
  have hd : dig (val l) = l := dig_val hx.ok (vld_norm hv)
  have hl := vld_len hv
  obtain ⟨m, hm⟩ : ∃ m, m = val l := ⟨_, rfl⟩
  rw [← hm] at hd ⊢
  clear hm
  obtain ⟨W0, hW0, hH1, hR, hb, z0⟩ := two_hw 24 w false A n c l hx
  have HW0 := Lib.hid hW0; clear hW0
  have HF := Lib.hid (And.intro hH1 (And.intro hR (And.intro hb z0)))
  clear hH1 hR hb z0 hx
  have Hv := Lib.hid hv; clear hv
  have HD := Lib.hid (And.intro hd hl); clear hd hl
  have d1 : decide ((k : Int) < 1) = false := by simp; omega
  have d2 : decide ((64 : Int) < k) = false := by simp; omega
  have hfield : ∀ w, (Instr.field 34 (.agg #[.bool false, .slice A n c]) 1).run Try.prog w = .ok (.slice A n c) w := fun _ => by kernel_rfl
  go_enter Try.func45, Try.ntmps45
  go_wp2_with fail
  rw [← HW0.out]
  obtain ⟨hH1, hR, hb, z0⟩ := HF.out
  clear HF
  refine (validR_any false A n c l _ hH1.w).mono ?_
  rintro e W1 ⟨rfl, hb1⟩
  rw [Hv.out]
  have hx1 : Ext W0 W1 := hb1
  have H1 := Lib.hid (hH1.ext hx1)
  have k1 := H1.out.c0
  have k2 := H1.out.c1
  have R := Lib.hid (hR.ext hx1)
  have Hb := Lib.hid (hb.trans (Below.mono hx1 hb.size))
  clear hH1 hR hb z0 hb1 hx1 HW0 W0
  go_wp2_with fail
  refine (of_any false A n c _).mono ?_
  rintro e W2 ⟨rfl, hb2⟩
  have hx2 : Ext W1 W2 := hb2
  have hw := (H1.out.ext hx2).w
  rw [← HD.out.1] at hw
  have Hw := Lib.hid hw
  have R2 := Lib.hid (R.out.ext hx2)
  have Hb2 := Lib.hid (Hb.out.trans (Below.mono hx2 Hb.out.size))
  obtain ⟨b, hbb⟩ : ∃ b, b = bitsN m := ⟨_, rfl⟩
  have hbits : ∀ W : World, Ext W2 W → Calls Try.prog 82 #[.slice A n c] W fun e w' => e = .returned (.int .i64 (b : Int)) ∧ w' = W := fun W h => by
    rw [hbb]; exact bitsR_any m _ W (Hw.out.below h) (by rw [HD.out.1]; have := HD.out.2; omega)
  have hb8 : b ≤ 8192 := by rw [hbb]; have := bitsN_bound (x := m) (k := 256) (by rw [HD.out.1]; exact HD.out.2); omega
  have HBits := Lib.hid hbits; clear hbits hw hb2 hx2 k1 k2 H1 Hb R
  have hst := root_start m k hk1
  rw [← hbb] at hst
  have Hst := Lib.hid hst; clear hst
  have Hbb := Lib.hid hbb; clear hbb
  go_wp2_with fail
  refine (HBits.out _ (Ext.refl W2)).mono ?_
  rintro e w' ⟨rfl, rfl⟩
  obtain ⟨i0, hi0⟩ : ∃ i, i = b / k := ⟨_, rfl⟩
  have hi0l : i0 ≤ 8192 := by rw [hi0]; exact Nat.le_trans (Nat.div_le_self _ _) hb8
  have heI : (b : Int) / (k : Int) = (i0 : Int) := by rw [hi0, Int.natCast_ediv]
  rw [← hi0] at Hst
  have HeI := Lib.hid heI; clear heI hi0
  have Hwr := Lib.hid (show wrap64 (i0 : Int) = (i0 : Int) by unfold wrap64; omega)
  go_wp2_with fail
  try rw [HeI.out]
  go_loopw [7, 8] (fun v i wr => ∃ (q r : Nat), i = .int .i64 ((q : Int) - 1) ∧ q ≤ i0 + 1 ∧ Wd wr v (dig r) ∧ r ^ k ≤ m ∧ m < (r + 2 ^ q) ^ k ∧ Ext w' wr) (fun _ i _ => (intOf i + 1).toNat)
  case atStart => exact ⟨i0 + 1, 0, by rw [show ((i0 + 1 : Nat) : Int) - 1 = (i0 : Int) by omega]; first | rfl | (rw [HeI.out]; done) | rw [Hwr.out], Nat.le_refl _, by rw [dig_zero]; exact Wd.nil_ _, by rw [Nat.zero_pow hk1]; exact Nat.zero_le _, Hst.out, Ext.refl _⟩
  case round =>
    obtain ⟨q, r, rfl, hq, hr, hrk, hrm, hext⟩ := hrel
    have Hr := Lib.hid hr
    obtain ⟨A1, n1, c1, rfl⟩ := hr.slice_
    clear hr
    have Hrk := Lib.hid hrk; clear hrk
    have Hrm := Lib.hid hrm; clear hrm
    have He := Lib.hid hext; clear hext
    by_cases hq0 : q = 0
    · subst hq0
      have hn1 : n1 = (dig r).length := Hr.out.len
      have hrle : r ≤ m := Nat.le_trans (by
        rcases Nat.eq_zero_or_pos r with h | h
        · rw [h]; exact Nat.zero_le _
        · calc r = r ^ 1 := (Nat.pow_one r).symm
            _ ≤ r ^ k := Nat.pow_le_pow_right h hk1) Hrk.out
      have hrl : (dig r).length ≤ 256 := Nat.le_trans (dig_len_mono hrle) (by rw [HD.out.1]; exact HD.out.2)
      have hup : Up m k r := up_of (by have := Hrm.out; rwa [Nat.pow_zero] at this)
      have HX := Lib.hid (And.intro Hrk.out hup)
      have hn9 : n1 ≤ 9223372036854775807 := by rw [hn1]; exact Nat.le_trans hrl (by decide)
      have hsg := fun W => signedR_any false A1 n1 c1 W hn9
      have Hsg := Lib.hid hsg
      clear hup hrle Hrm Hrk hsg hn9 hn1 hrl
      go_wp2_with fail
      refine (Hsg.out _).mono ?_
      rintro e w3 ⟨rfl, hb3⟩
      rw [Bool.false_and]
      have hx3 : Ext wr w3 := hb3
      have Hr3 := Lib.hid (Hr.out.below hb3)
      have E3 := Lib.hid (He.out.trans hx3)
      clear hb3 hx3
      go_wp2_with fail
      refine (int_any false A1 n1 c1 _).mono ?_
      rintro e w4 ⟨rfl, hb4⟩
      have hx4 : Ext w3 w4 := hb4
      have zr : ZV w4 (.agg #[.bool false, .slice A1 n1 c1]) (r : Int) := ZV.mk (by simp) (by rw [Int.natAbs_natCast]; exact Hr3.out.below hb4)
      have e4 := E3.out.trans hx4
      have R4 := R2.out.ext e4
      obtain ⟨_, _, _, _, g30, g31, g32, g33⟩ := R4.facts
      obtain ⟨W', hW', f1, f2, hzz, hbf⟩ := one_res (w := w) R4 false A1 n1 c1 zr (Hb2.out.trans (Below.mono e4 Hb2.out.size)) (by omega)
      have HG := Lib.hid (And.intro hzz (And.intro hbf (And.intro f1 f2)))
      have HW' := Lib.hid hW'
      clear hzz hbf f1 f2 hW' R4 hb4 hx4 e4 zr Hr3 Hr He E3
      go_wp2
      rw [← HW'.out]
      obtain ⟨hzz, hbf, f1, f2⟩ := HG.out
      exact bodyPost_ret (v := .tuple #[.agg #[.bool false, .slice A1 n1 c1], .int .i64 0]) (by simp [results, Try.results45, go_sem, f1, f2]) rfl ⟨r, _, _, _, _, rfl, hzz, HX.out.1, HX.out.2, hbf⟩
    · obtain ⟨q, rfl⟩ : ∃ j, q = j + 1 := ⟨q - 1, by omega⟩
      have i1 : ((q + 1 : Nat) : Int) - 1 = (q : Int) := by omega
      rw [i1]
      clear i1 hq0
      have hmk : ∀ w, (Instr.makeSlice 32 (.int .i64 ((q : Int) / 32 + 1)) (.int .i64 ((q : Int) / 32 + 1))).run Try.prog w = .ok (.slice (some ⟨w.heap.size, 0, none⟩) (q / 32 + 1) (q / 32 + 1)) (w.alloc (.cells (U32s (zeros (q / 32 + 1))) 66)) := fun w => by
        have := make_u32 32 Try.underlying32 (q / 32 + 1) (by omega) w
        rwa [show ((q / 32 + 1 : Nat) : Int) = (q : Int) / 32 + 1 by omega] at this
      have hsl : q % 32 ≤ 31 := by omega
      have hp : (2 : Nat) ^ (q % 32) < 4294967296 := by
        have : 2 ^ (q % 32) ≤ 2 ^ 31 := Nat.pow_le_pow_right (by omega) (by omega)
        omega
      have hvI : (2 : Int) ^ (q % 32) % 4294967296 = ((2 ^ (q % 32) : Nat) : Int) := by
        rw [show ((2 : Int) ^ (q % 32)) = ((2 ^ (q % 32) : Nat) : Int) by rw [Int.natCast_pow]; rfl]
        obtain ⟨y, hy⟩ : ∃ y, y = 2 ^ (q % 32) := ⟨_, rfl⟩
        rw [← hy] at hp ⊢
        omega
      have HvI := Lib.hid hvI; clear hvI hp
      have hblk : Blk (wr.alloc (.cells (U32s (zeros (q / 32 + 1))) 66)) wr.heap.size (zeros (q / 32 + 1)) := heap_alloc_new wr _
      have hfr := hblk.frozen (q / 32)
      have hce := hblk.cell (i := q / 32) (by rw [zeros_length]; omega)
      clear hblk
      have hb1 : (0 : Int) ≤ (q : Int) / 32 := by omega
      have hb2 : (q : Int) / 32 < ((q / 32 + 1 : Nat) : Int) := by omega
      have hb3 : (q : Int) / 32 < (q : Int) / 32 + 1 := by omega
      have hb4 : ((q : Int) / 32).toNat = q / 32 := by omega
      have hb5 : ((q : Int) % 32).toNat = q % 32 := by omega
      have hz : (zeros (q / 32 + 1)).set (q / 32) (2 ^ (q % 32)) = zeros (q / 32) ++ [2 ^ (q % 32)] := by
        unfold zeros
        rw [List.replicate_succ', List.set_append_right _ _ (by simp)]
        simp
      have Hz := Lib.hid hz; clear hz
      go_wp2_with fail
      rw [HvI.out, U32s_set, Hz.out]
      have hbw := bit_words q wr (by omega)
      have hex : Ext wr (wr.alloc (.cells (U32s (zeros (q / 32) ++ [2 ^ (q % 32)])) 66)) := (Ext.refl wr).alc _
      clear hmk hfr hce hb1 hb2 hb3 hb4 hb5 Hz HvI hsl
      have hrle : r ≤ m := Nat.le_trans (by
        rcases Nat.eq_zero_or_pos r with h | h
        · rw [h]; exact Nat.zero_le _
        · calc r = r ^ 1 := (Nat.pow_one r).symm
            _ ≤ r ^ k := Nat.pow_le_pow_right h hk1) Hrk.out
      have hrl : (dig r).length ≤ 256 := Nat.le_trans (dig_len_mono hrle) (by rw [HD.out.1]; exact HD.out.2)
      have hbl : (dig (2 ^ q)).length ≤ 257 := by
        obtain ⟨m3, hm3⟩ : ∃ m, m = 256 := ⟨_, rfl⟩
        have := len_two (x := 2 ^ q) (m := m3) (Nat.pow_le_pow_right (by omega) (by omega))
        omega
      have hnl : (dig (r + 2 ^ q)).length ≤ 258 := len_addN (by omega) hbl
      have Hnl := Lib.hid hnl; clear hnl
      clear hrle
      generalize (wr.alloc (.cells (U32s (zeros (q / 32) ++ [2 ^ (q % 32)])) 66)) = w3 at *
      have Hbw := Lib.hid hbw; clear hbw
      have Hr3 := Lib.hid (Hr.out.below hex)
      have E3 := Lib.hid (He.out.trans hex)
      clear hex
      refine (asSlice (plusR_any r (2 ^ q) _ _ _ Hr3.out Hbw.out (by omega) (by omega))).mono ?_
      rintro e w4 ⟨A5, n5, c5, rfl, h5, hb5⟩
      have hx5 : Ext w3 w4 := hb5
      have H5 := Lib.hid h5
      have Hr4 := Lib.hid (Hr3.out.below hb5)
      have E4 := Lib.hid (E3.out.trans hx5)
      clear hb5 hx5 h5 Hr3 E3 Hbw hrl hbl
      go_wp2_with fail
      refine (HBits.out _ E4.out).mono ?_
      rintro e w5 ⟨rfl, rfl⟩
      go_wp2_with fail
      refine (powerR_any (r + 2 ^ q) k b _ _ H5.out (by have := Hnl.out; omega) (by omega) (by omega)).mono ?_
      rintro e w6 ⟨u7, y, rfl, h7, hyl, hy, hb7⟩
      obtain ⟨A7, n7, c7, rfl⟩ := h7.slice_
      have hx7 : Ext w5 w6 := hb7
      have H7 := Lib.hid h7
      have H57 := Lib.hid (H5.out.below hb7)
      have Hr7 := Lib.hid (Hr4.out.below hb7)
      have E7 := Lib.hid (E4.out.trans hx7)
      have Hyl := Lib.hid hyl
      have hcase : y ≤ m ↔ (r + 2 ^ q) ^ k ≤ m := by
        rcases hy with h | ⟨h, h'⟩
        · rw [h]
        · have h2 : m < y := by
            rcases Nat.lt_or_ge m y with h3 | h3
            · exact h3
            · have := bitsN_mono h3
              rw [← Hbb.out] at this
              omega
          omega
      have Hc := Lib.hid hcase
      clear hb7 hx7 h7 hyl hy hcase
      have Hm7 := Lib.hid (Hw.out.below E7.out)
      go_wp2_with fail
      refine (orderR_any y m _ _ _ H7.out Hm7.out).mono ?_
      rintro e w8 ⟨rfl, nd, rfl⟩
      have E8 := Lib.hid (E7.out.trans (Below.toDrewN (Below.refl _ _) nd : Ext w6 (w6.drewN nd)))
      have hpw : r + 2 ^ (q + 1) = r + 2 ^ q + 2 ^ q := by rw [Nat.pow_succ]; omega
      have Hpw := Lib.hid hpw; clear hpw
      obtain ⟨cv, hcv⟩ : ∃ c, c = cmpN y m := ⟨_, rfl⟩
      rw [← hcv]
      by_cases hym : y ≤ m
      · have d3 : decide (cv ≤ 0) = true := by rw [hcv, cmp_le]; simpa using hym
        have Hn := Lib.hid (Hc.out.1 hym)
        clear hcv hym
        go_wp2
        go_roundw
        case rel => exact ⟨q, r + 2 ^ q, rfl, by omega, H57.out, Hn.out, by have := Hrm.out; rwa [Hpw.out] at this, E8.out⟩
        case measure => simp [intOf]
      · have d3 : decide (cv ≤ 0) = false := by rw [hcv, cmp_le]; simpa using hym
        have Hn := Lib.hid (show m < (r + 2 ^ q) ^ k by
          rcases Nat.lt_or_ge m ((r + 2 ^ q) ^ k) with h | h
          · exact h
          · exact absurd (Hc.out.2 h) hym)
        clear hcv hym
        go_wp2
        go_roundw
        case rel => exact ⟨q, r, rfl, by omega, Hr7.out, Hrk.out, Hn.out, E8.out⟩
        case measure => simp [intOf]
end Go.Proofs.Ytmlopkkbgpfdnaa
