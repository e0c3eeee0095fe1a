/- Walks: a multiple of the divisor is taken off a part. -/
import Derived.Test.YtmlopkkbgpfdnaaX3
namespace Go.Proofs.Ytmlopkkbgpfdnaa
open Go.RowKit

/-- w' is w but for block g -/
def TakeF (g : Nat) (w w' : World) : Prop := Below g w w' ∧ w'.heap.size = w.heap.size ∧ ∀ b, b ≠ g → w'.heap[b]? = w.heap[b]?
theorem TakeF.refl (g : Nat) (w : World) : TakeF g w w := ⟨Below.refl _ _, rfl, fun _ _ => rfl⟩
theorem TakeF.drewN {g : Nat} {w w' : World} (h : TakeF g w w') (k : Nat) : TakeF g w (w'.drewN k) := ⟨Below.toDrewN h.1 k, h.2.1, h.2.2⟩
theorem TakeF.drew {g : Nat} {w w' : World} (h : TakeF g w w') : TakeF g w w'.drew := ⟨h.1.drew, h.2.1, h.2.2⟩
theorem TakeF.set {g : Nat} {w w' : World} (h : TakeF g w w') (i : Nat) (v : Value) : TakeF g w (w'.setCell ⟨g, i, none⟩ v) :=
  ⟨h.1.setCell (p := ⟨g, i, none⟩) (Nat.le_refl _) v, by have := h.2.1; simpa [World.setCell] using this, fun b hb => (Below.heap_setCell _ ⟨g, i, none⟩ _ b hb).trans (h.2.2 b hb)⟩
theorem TakeF.cell {g b o : Nat} {w w' : World} {v : Value} (h : TakeF g w w') (hb : b ≠ g) (hc : w.cell? ⟨b, o, none⟩ = some v) : w'.cell? ⟨b, o, none⟩ = some v := by
  rw [← hc]
  have := h.2.2 b hb
  unfold World.cell?
  rw [this]

theorem kd_n {x D i n : Nat} (hn : 2 ≤ n) (hx : x < D * 4294967296 ^ (i + 1)) (hD : D < 4294967296 ^ n) (ht : 2147483648 ≤ dg D (n - 1)) :
    KD (x / 4294967296 ^ i) D (4294967296 ^ (n - 2)) (dg x (i + n) * 4294967296 + dg x (i + (n - 1))) (dg x (i + (n - 2))) (x / 4294967296 ^ i % 4294967296 ^ (n - 2)) (dg D (n - 1)) (dg D (n - 2)) (D % 4294967296 ^ (n - 2)) := by
  obtain ⟨m, rfl⟩ : ∃ m, n = m + 2 := ⟨n - 2, by omega⟩
  exact kd_of hx hD ht

/-- where the numbers stand -/
structure Place (w : World) (D n gd od g i : Nat) (L : List Nat) : Prop where
  n2 : 2 ≤ n
  n_le : n ≤ 1000000
  ne : gd ≠ g
  d : ∀ k, k < n → w.cell? ⟨gd, od + k, none⟩ = some (.int .u32 (dg D k : Nat))
  D_lt : D < 4294967296 ^ n
  top : 2147483648 ≤ dg D (n - 1)
  blk : Blk w g L
  ok : Ok L
  len : i + n + 1 ≤ L.length
  lt : val L < D * 4294967296 ^ (i + 1)

theorem Place.D_pos {w : World} {D n gd od g i : Nat} {L : List Nat} (h : Place w D n gd od g i L) : 0 < D := by
  rcases Nat.eq_zero_or_pos D with h0 | h0
  · have := h.top; rw [h0] at this; simp [dg] at this
  · exact h0
theorem Place.val_lt {w : World} {D n gd od g i : Nat} {L : List Nat} (h : Place w D n gd od g i L) : val L < 4294967296 ^ (i + n + 1) := by
  have h1 := h.lt
  have h2 : D * 4294967296 ^ (i + 1) ≤ 4294967296 ^ n * 4294967296 ^ (i + 1) := Nat.mul_le_mul_right _ (Nat.le_of_lt h.D_lt)
  rw [← Nat.pow_add, show n + (i + 1) = i + n + 1 by omega] at h2
  omega

def TakeOk (D g i : Nat) (L : List Nat) (w : World) (e : Ending) (w' : World) : Prop :=
  ∃ (q : Nat) (L' : List Nat), e = .returned (.int .u32 q) ∧ q = val L / 4294967296 ^ i / D ∧ q < 4294967296 ∧ L'.length = L.length ∧ Ok L' ∧ val L' + 4294967296 ^ i * (q * D) = val L ∧ Blk w' g L' ∧ TakeF g w w'

/-- the loop that subtracts -/
def Rel1 (D n gq g i : Nat) (L : List Nat) (w : World) (a b c : Value) (wr : World) : Prop :=
  ∃ (j cv bv : Nat) (L1 : List Nat), a = .int .u64 cv ∧ b = .int .u32 bv ∧ c = .int .i64 j ∧ j ≤ n ∧ cv < 4294967296 ∧ bv ≤ 1 ∧ L1.length = L.length ∧ Ok L1 ∧ Blk wr g L1 ∧ TakeF g w wr ∧
    val L1 + 4294967296 ^ i * (gq * (D % 4294967296 ^ j)) = val L + 4294967296 ^ (i + j) * (cv + bv) ∧ ∀ p, i + n + 1 ≤ p → L1.getD p 0 = 0
/-- the loop that adds back -/
def Rel2 (D n V g i : Nat) (L : List Nat) (w : World) (a c : Value) (wr : World) : Prop :=
  ∃ (j cv : Nat) (L1 : List Nat), a = .int .u32 cv ∧ c = .int .i64 j ∧ j ≤ n ∧ cv ≤ 1 ∧ L1.length = L.length ∧ Ok L1 ∧ Blk wr g L1 ∧ TakeF g w wr ∧
    val L1 + 4294967296 ^ (i + j) * cv = V + 4294967296 ^ i * (D % 4294967296 ^ j) ∧ ∀ p, i + n + 1 ≤ p → L1.getD p 0 = 0

theorem back_last {V V' X p old c nw : Nat} (hV : V + p * c = X) (hV' : V' + p * old = V + p * nw) (hnw : nw = (old + c) % 4294967296) : V' + p * 4294967296 * ((old + c) / 4294967296) = X := by
  have h1 : nw + 4294967296 * ((old + c) / 4294967296) = old + c := by omega
  have h2 : p * nw + p * 4294967296 * ((old + c) / 4294967296) = p * old + p * c := by
    rw [Nat.mul_assoc, ← Nat.mul_add, ← Nat.mul_add, h1]
  omega

set_option maxRecDepth 100000 in
theorem take_any (D n gd od cd g i cp : Nat) (L : List Nat) (w : World) (h : Place w D n gd od g i L) :
    Calls Try.prog 110 #[.slice (some ⟨g, i, none⟩) (n + 1) cp, .slice (some ⟨gd, od, none⟩) n cd] w (TakeOk D g i L w) := by
  have n2 := h.n2
  have nle := h.n_le
  have hne := h.ne
  have hlen := h.len
  have H := Lib.hid h; clear h
  have kd := kd_n n2 H.out.lt H.out.D_lt H.out.top
  have hg := guess_any _ D _ _ _ _ _ _ _ _ n gd od g i cd cp w n2 nle kd (dg_lt _ _) (dg_lt _ _) (H.out.d _ (by omega)) (H.out.d _ (by omega))
    (by rw [← val_dg H.out.ok]; exact H.out.blk.cell (by omega)) (by rw [← val_dg H.out.ok]; exact H.out.blk.cell (by omega)) (by rw [← val_dg H.out.ok]; exact H.out.blk.cell (by omega))
  have Hg := Lib.hid hg; clear hg kd
  go_enter Try.func110, Try.ntmps110
  go_wp2_with fail
  refine Hg.out.mono ?_
  rintro e w' ⟨gq, rfl, hgl, hq1, hq2, nd, rfl⟩
  have Hq1 := Lib.hid hq1; clear hq1
  have Hq2 := Lib.hid hq2; clear hq2
  go_wp2_with fail
  go_loopw [7, 8, 22] (fun a b c wr => Rel1 D n gq g i L w a b c wr) (fun _ _ c _ => n - (intOf c).toNat)
  case atStart => exact ⟨0, 0, 0, L, rfl, rfl, rfl, Nat.zero_le _, by omega, by omega, rfl, H.out.ok, H.out.blk, (TakeF.refl _ _).drewN _, by simp [Nat.mod_one], words_zero H.out.ok H.out.val_lt⟩
  case round =>
    obtain ⟨j, cv, bv, L1, rfl, rfl, rfl, hj, hcv, hbv, hL1, hok1, hblk1, htf, hval, hz⟩ := hrel
    have HV := Lib.hid hval; clear hval
    have HL1 := Lib.hid hL1; clear hL1
    have HZ := Lib.hid hz; clear hz
    have HT := Lib.hid htf; clear htf
    by_cases hlt : j < n
    · as_aux_lemma =>
        have h1 : wr.cell? ⟨gd, od + j, none⟩ = some (.int .u32 (dg D j : Nat)) := HT.out.cell hne (H.out.d j hlt)
        obtain ⟨d, hd⟩ : ∃ d, d = dg D j := ⟨_, rfl⟩
        have hdl : d < 4294967296 := by rw [hd]; exact dg_lt _ _
        rw [← hd] at h1
        have Hd := Lib.hid hd; clear hd
        have h3 := hblk1.cell (i := i + j) (by rw [HL1.out]; omega)
        have h4 := hblk1.frozen (i + j)
        obtain ⟨a, ha⟩ : ∃ a, a = L1.getD (i + j) 0 := ⟨_, rfl⟩
        have hal : a < 4294967296 := by rw [ha]; exact hok1.getD _
        rw [← ha] at h3
        have Ha := Lib.hid ha; clear ha
        have HB := Lib.hid hblk1; clear hblk1
        obtain ⟨s, hs⟩ : ∃ s, s = gq * d + cv := ⟨_, rfl⟩
        have hsl : s < 18446744073709551616 := by rw [hs]; have := mul_bound hgl hdl hcv (show 0 < 4294967296 by omega); omega
        have hprod : gq * d < 18446744073709551616 := by omega
        have e1 : ((gq : Int) * d + cv) % 4294967296 = ((s % 4294967296 : Nat) : Int) := by rw [hs]; omega
        have e2 : ((gq : Int) * d + cv) / 4294967296 = ((s / 4294967296 : Nat) : Int) := by rw [hs]; omega
        have hsl' : (gq : Int) * d + cv < 18446744073709551616 := by rw [hs] at hsl; omega
        obtain ⟨lo, hlo⟩ : ∃ lo, lo = s % 4294967296 := ⟨_, rfl⟩
        obtain ⟨hi, hhi⟩ : ∃ hi, hi = s / 4294967296 := ⟨_, rfl⟩
        rw [← hlo] at e1
        rw [← hhi] at e2
        have hlol : lo < 4294967296 := by rw [hlo]; omega
        have hhil : hi < 4294967296 := by rw [hhi]; omega
        have E1 := Lib.hid e1; clear e1
        have E2 := Lib.hid e2; clear e2
        have Hlo := Lib.hid hlo; clear hlo
        have Hhi := Lib.hid hhi; clear hhi
        have Hs := Lib.hid hs; clear hs
        go_wp2_with fail
        rw [E1.out]
        refine (sub32_any a lo bv hal hlol hbv wr).mono ?_
        rintro e w' ⟨rfl, rfl⟩
        obtain ⟨nw, hnw⟩ : ∃ x, x = (a + 4294967296 - lo - bv) % 4294967296 := ⟨_, rfl⟩
        obtain ⟨nb, hnb⟩ : ∃ x, x = (if a < lo + bv then 1 else 0) := ⟨_, rfl⟩
        rw [← hnw, ← hnb]
        have hnwl : nw < 4294967296 := by rw [hnw]; omega
        have hnbl : nb ≤ 1 := by rw [hnb]; split <;> omega
        have hnew : nw + lo + bv = a + 4294967296 * nb := by rw [hnw, hnb]; split <;> omega
        have Hnew := Lib.hid hnew; clear hnew hnw hnb
        go_wp2_with fail
        rw [E2.out]
        go_roundw
        case rel =>
          refine ⟨j + 1, hi, nb, L1.set (i + j) nw, rfl, rfl, by go_num, by omega, hhil, hnbl, by rw [List.length_set, HL1.out], hok1.set hnwl, HB.out.set_ _ _, HT.out.set _ _, ?_, ?_⟩
          · refine take_round HV.out (old := a) (new := nw) ?_ (by rw [Hs.out, Hd.out]) Hlo.out Hhi.out Hnew.out
            have := val_set (l := L1) (p := i + j) (v := nw) (by rw [HL1.out]; omega)
            rw [← Ha.out] at this
            exact this
          · intro t ht
            rw [getD_set_ne (by omega)]
            exact HZ.out t ht
        case measure => simp [intOf]; omega
    · have hjn : j = n := by omega
      subst hjn
      clear hj hlt
      have h3 := hblk1.cell (i := i + j) (by rw [HL1.out]; omega)
      have h4 := hblk1.frozen (i + j)
      obtain ⟨a, ha⟩ : ∃ a, a = L1.getD (i + j) 0 := ⟨_, rfl⟩
      have hal : a < 4294967296 := by rw [ha]; exact hok1.getD _
      rw [← ha] at h3
      have Ha := Lib.hid ha; clear ha
      have HB := Lib.hid hblk1; clear hblk1
      have e1 : (cv : Int) % 4294967296 = (cv : Int) := by omega
      have E1 := Lib.hid e1; clear e1
      go_wp2_with fail
      try rw [E1.out]
      refine (sub32_any a cv bv hal hcv hbv wr).mono ?_
      rintro e w' ⟨rfl, rfl⟩
      obtain ⟨nw, hnw⟩ : ∃ x, x = (a + 4294967296 - cv - bv) % 4294967296 := ⟨_, rfl⟩
      obtain ⟨nb, hnb⟩ : ∃ x, x = (if a < cv + bv then 1 else 0) := ⟨_, rfl⟩
      rw [← hnw, ← hnb]
      have hnwl : nw < 4294967296 := by rw [hnw]; omega
      have hnbl : nb ≤ 1 := by rw [hnb]; split <;> omega
      have hnew : nw + cv + bv = a + 4294967296 * nb := by rw [hnw, hnb]; split <;> omega
      have hv := HV.out
      rw [Nat.mod_eq_of_lt H.out.D_lt] at hv
      have hset := val_set (l := L1) (p := i + j) (v := nw) (by rw [HL1.out]; omega)
      rw [← Ha.out] at hset
      have hlast := take_last hv hset hnew
      rw [Nat.mul_assoc, ← Nat.mul_assoc (4294967296 ^ (i + j)), ← Nat.pow_succ] at hlast
      have htf := HT.out.set (i + j) (.int .u32 (nw : Int))
      have hblk2 := HB.out.set_ (i + j) nw
      have hok2 := hok1.set (i := i + j) hnwl
      have hlen2 : (L1.set (i + j) nw).length = L.length := by rw [List.length_set, HL1.out]
      have hz2 : ∀ p, i + j + 1 ≤ p → (L1.set (i + j) nw).getD p 0 = 0 := fun t ht => by rw [getD_set_ne (by omega)]; exact HZ.out t ht
      obtain ⟨L2, hL2⟩ : ∃ L2, L2 = L1.set (i + j) nw := ⟨_, rfl⟩
      rw [← hL2] at hlast hblk2 hok2 hlen2 hz2
      clear hset hv hnew hnw hnb hL2 E1 HV HL1 HZ HT HB Ha hok1
      have Hlast := Lib.hid hlast; clear hlast
      have Hlen2 := Lib.hid hlen2; clear hlen2
      have Hz2 := Lib.hid hz2; clear hz2
      have HT := Lib.hid htf; clear htf
      have HB := Lib.hid hblk2
      rcases (by omega : nb = 0 ∨ nb = 1) with rfl | rfl
      · as_aux_lemma =>
          have Hblk2 := Lib.hid hblk2; clear hblk2
          go_wp2
          go_ret
          have h0 : val L2 + 4294967296 ^ i * (gq * D) = val L := by have := Hlast.out; rw [Nat.mul_zero, Nat.add_zero] at this; exact this
          have hq := take_done H.out.D_pos h0 Hq1.out
          exact ⟨gq, L2, rfl, hq, hgl, Hlen2.out, hok2, h0, HB.out, HT.out⟩
      · have Hblk2 := Lib.hid hblk2; clear hblk2
        have h0 : val L2 + 4294967296 ^ i * (gq * D) = val L + 4294967296 ^ (i + j + 1) := by have := Hlast.out; rw [Nat.mul_one] at this; exact this
        have hq := take_high h0 (val_small hok2 Hz2.out) H.out.D_pos Hq2.out
        have hg0 : 1 ≤ gq := by rw [hq]; exact Nat.succ_le_succ (Nat.zero_le _)
        have H0 := Lib.hid h0; clear h0
        have Hq := Lib.hid hq; clear hq
        have HT1 := HT
        obtain ⟨wb, hwb⟩ : ∃ x, x = wr.setCell ⟨g, i + j, none⟩ (.int .u32 (nw : Int)) := ⟨_, rfl⟩
        rw [← hwb] at HT HB Hblk2
        have Hwb := Lib.hid hwb; clear hwb HT1
        go_wp2_with fail
        rw [← Hwb.out]
        clear Hwb
        go_loopw [12, 70] (fun a c wr => Rel2 D j (val L2) g i L w a c wr) (fun _ c _ => j - (intOf c).toNat)
        case atStart => exact ⟨0, 0, L2, rfl, rfl, Nat.zero_le _, by omega, Hlen2.out, hok2, HB.out, HT.out, by simp [Nat.mod_one], Hz2.out⟩
        case round =>
          obtain ⟨k, cv2, L3, rfl, rfl, hk, hcv2, hL3, hok3, hblk3, htf, hval, hz⟩ := hrel
          have HV := Lib.hid hval; clear hval
          have HL3 := Lib.hid hL3; clear hL3
          have HZ := Lib.hid hz; clear hz
          have HTT := Lib.hid htf; clear htf
          by_cases hlt : k < j
          · as_aux_lemma =>
              have h1 : wr.cell? ⟨gd, od + k, none⟩ = some (.int .u32 (dg D k : Nat)) := HTT.out.cell hne (H.out.d k hlt)
              obtain ⟨d, hd⟩ : ∃ d, d = dg D k := ⟨_, rfl⟩
              have hdl : d < 4294967296 := by rw [hd]; exact dg_lt _ _
              rw [← hd] at h1
              have Hd := Lib.hid hd; clear hd
              have h3 := hblk3.cell (i := i + k) (by rw [HL3.out]; omega)
              have h4 := hblk3.frozen (i + k)
              obtain ⟨a2, ha⟩ : ∃ a, a = L3.getD (i + k) 0 := ⟨_, rfl⟩
              have hal2 : a2 < 4294967296 := by rw [ha]; exact hok3.getD _
              rw [← ha] at h3
              have Ha := Lib.hid ha; clear ha
              have HB3 := Lib.hid hblk3; clear hblk3
              go_wp2_with fail
              refine (add32_any a2 d cv2 hal2 hdl (by omega) wr).mono ?_
              rintro e w' ⟨rfl, rfl⟩
              obtain ⟨nw2, hnw⟩ : ∃ x, x = (a2 + d + cv2) % 4294967296 := ⟨_, rfl⟩
              obtain ⟨nb2, hnb⟩ : ∃ x, x = (a2 + d + cv2) / 4294967296 := ⟨_, rfl⟩
              rw [← hnw, ← hnb]
              have hnwl2 : nw2 < 4294967296 := by rw [hnw]; omega
              have hnbl2 : nb2 ≤ 1 := by rw [hnb]; omega
              have Hnw := Lib.hid hnw; clear hnw
              have Hnb := Lib.hid hnb; clear hnb
              go_wp2_with fail
              go_roundw
              case rel =>
                refine ⟨k + 1, nb2, L3.set (i + k) nw2, rfl, by go_num, by omega, hnbl2, by rw [List.length_set, HL3.out], hok3.set hnwl2, HB3.out.set_ _ _, HTT.out.set _ _, ?_, ?_⟩
                · refine back_round HV.out (old := a2) (new := nw2) (s := a2 + d + cv2) ?_ (by rw [Hd.out]) Hnw.out Hnb.out
                  have := val_set (l := L3) (p := i + k) (v := nw2) (by rw [HL3.out]; omega)
                  rw [← Ha.out] at this
                  exact this
                · intro t ht
                  rw [getD_set_ne (by omega)]
                  exact HZ.out t ht
              case measure => simp [intOf]; omega
          · have hkj : k = j := by omega
            subst hkj
            clear hk hlt
            have h3 := hblk3.cell (i := i + k) (by rw [HL3.out]; omega)
            have h4 := hblk3.frozen (i + k)
            obtain ⟨a2, ha⟩ : ∃ a, a = L3.getD (i + k) 0 := ⟨_, rfl⟩
            have hal2 : a2 < 4294967296 := by rw [ha]; exact hok3.getD _
            rw [← ha] at h3
            have Ha := Lib.hid ha; clear ha
            have HB3 := Lib.hid hblk3; clear hblk3
            have e1 : ((a2 : Int) + cv2) % 4294967296 = (((a2 + cv2) % 4294967296 : Nat) : Int) := by omega
            obtain ⟨nw2, hnw⟩ : ∃ x, x = (a2 + cv2) % 4294967296 := ⟨_, rfl⟩
            rw [← hnw] at e1
            have hnwl2 : nw2 < 4294967296 := by rw [hnw]; omega
            have E1 := Lib.hid e1; clear e1
            have Hnw := Lib.hid hnw; clear hnw
            go_wp2
            rw [E1.out]
            go_ret
            have hv := HV.out
            rw [Nat.mod_eq_of_lt H.out.D_lt] at hv
            have hset := val_set (l := L3) (p := i + k) (v := nw2) (by rw [HL3.out]; omega)
            rw [← Ha.out] at hset
            have hl := back_last hv hset Hnw.out
            rw [← Nat.pow_succ] at hl
            have hokM := hok3.set (i := i + k) hnwl2
            have hM := val_small hokM (k := i + k + 1) (fun t ht => by rw [getD_set_ne (by omega)]; exact HZ.out t ht)
            have hq := Hq.out
            have hfin := back_done H0.out hq rfl hl (by omega) hM
            refine ⟨gq - 1, L3.set (i + k) nw2, ?_, ?_, by omega, by rw [List.length_set, HL3.out], hokM, ?_, HB3.out.set_ _ _, HTT.out.set _ _⟩
            · show Ending.returned (.int .u32 ((gq : Int) - 1)) = _
              rw [show ((gq : Int) - 1) = ((gq - 1 : Nat) : Int) by omega]
            · rw [hq, Nat.add_sub_cancel]
            · rw [hq, Nat.add_sub_cancel]; exact hfin
end Go.Proofs.Ytmlopkkbgpfdnaa
