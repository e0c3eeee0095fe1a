/- Walks: a multiple of the divisor is taken off a part. · Plain mathematics: a divisor with its top bit set; the outer loop of a long division. · The shelf's contracts at this program, laid in plain words. -/
import Derived.Test.YtijhbmdbnnmogaaGreatM20
import Derived.Test.YtijhbmdbnnmogaaGreatM19
import Derived.Lib.BitFns
import Derived.Shelf.Small.Bits
import Derived.Shelf.Bits.Mul64
import Derived.Shelf.Slices.Equal
import Derived.Ground.Names2Prog
import Derived.Shelf.Slices.Clone
import Derived.Shelf.Slices.SearchI
import Derived.Shelf.Slices.Delete
import Derived.Shelf.Slices.Cells
import Derived.Shelf.Slices.Empties
import Derived.Ground.SlgnProg
import Derived.Shelf.SlicesE.Clone
import Derived.Test.YtijhbmdbnnmogaaGreatProg
namespace Go.Proofs.YtijhbmdbnnmogaaGreat
open Go.RowKit

/-- w' is w but for block g -/
def TakeF (g : Nat) (w w' : World) : Prop := Below g w w' ∧ w'.heap.size = w.heap.size ∧ ∀ b, b ≠ g → w'.heap[b]? = w.heap[b]?
theorem TakeF.refl (g : Nat) (w : World) : TakeF g w w := ⟨Below.refl _ _, rfl, fun _ _ => rfl⟩
theorem TakeF.drewN {g : Nat} {w w' : World} (h : TakeF g w w') (k : Nat) : TakeF g w (w'.drewN k) := ⟨Below.toDrewN h.1 k, h.2.1, h.2.2⟩
theorem TakeF.drew {g : Nat} {w w' : World} (h : TakeF g w w') : TakeF g w w'.drew := ⟨h.1.drew, h.2.1, h.2.2⟩
theorem TakeF.set {g : Nat} {w w' : World} (h : TakeF g w w') (i : Nat) (v : Value) : TakeF g w (w'.setCell ⟨g, i, none⟩ v) :=
  ⟨h.1.setCell (p := ⟨g, i, none⟩) (Nat.le_refl _) v, by have := h.2.1; simpa [World.setCell] using this, fun b hb => (Below.heap_setCell _ ⟨g, i, none⟩ _ b hb).trans (h.2.2 b hb)⟩
theorem TakeF.cell {g b o : Nat} {w w' : World} {v : Value} (h : TakeF g w w') (hb : b ≠ g) (hc : w.cell? ⟨b, o, none⟩ = some v) : w'.cell? ⟨b, o, none⟩ = some v := by
  rw [← hc]
  have := h.2.2 b hb
  unfold World.cell?
  rw [this]

theorem kd_n {x D i n : Nat} (hn : 2 ≤ n) (hx : x < D * 4294967296 ^ (i + 1)) (hD : D < 4294967296 ^ n) (ht : 2147483648 ≤ dg D (n - 1)) :
    KD (x / 4294967296 ^ i) D (4294967296 ^ (n - 2)) (dg x (i + n) * 4294967296 + dg x (i + (n - 1))) (dg x (i + (n - 2))) (x / 4294967296 ^ i % 4294967296 ^ (n - 2)) (dg D (n - 1)) (dg D (n - 2)) (D % 4294967296 ^ (n - 2)) := by
  obtain ⟨m, rfl⟩ : ∃ m, n = m + 2 := ⟨n - 2, by omega⟩
  exact kd_of hx hD ht

/-- where the numbers stand -/
structure Place (w : World) (D n gd od g i : Nat) (L : List Nat) : Prop where
  n2 : 2 ≤ n
  n_le : n ≤ 1000000
  ne : gd ≠ g
  d : ∀ k, k < n → w.cell? ⟨gd, od + k, none⟩ = some (.int .u32 (dg D k : Nat))
  D_lt : D < 4294967296 ^ n
  top : 2147483648 ≤ dg D (n - 1)
  blk : Blk w g L
  ok : Ok L
  len : i + n + 1 ≤ L.length
  lt : val L < D * 4294967296 ^ (i + 1)

theorem Place.D_pos {w : World} {D n gd od g i : Nat} {L : List Nat} (h : Place w D n gd od g i L) : 0 < D := by
  rcases Nat.eq_zero_or_pos D with h0 | h0
  · have := h.top; rw [h0] at this; simp [dg] at this
  · exact h0
theorem Place.val_lt {w : World} {D n gd od g i : Nat} {L : List Nat} (h : Place w D n gd od g i L) : val L < 4294967296 ^ (i + n + 1) := by
  have h1 := h.lt
  have h2 : D * 4294967296 ^ (i + 1) ≤ 4294967296 ^ n * 4294967296 ^ (i + 1) := Nat.mul_le_mul_right _ (Nat.le_of_lt h.D_lt)
  rw [← Nat.pow_add, show n + (i + 1) = i + n + 1 by omega] at h2
  omega

def TakeOk (D g i : Nat) (L : List Nat) (w : World) (e : Ending) (w' : World) : Prop :=
  ∃ (q : Nat) (L' : List Nat), e = .returned (.int .u32 q) ∧ q = val L / 4294967296 ^ i / D ∧ q < 4294967296 ∧ L'.length = L.length ∧ Ok L' ∧ val L' + 4294967296 ^ i * (q * D) = val L ∧ Blk w' g L' ∧ TakeF g w w'

/-- the loop that subtracts -/
def Rel1 (D n gq g i : Nat) (L : List Nat) (w : World) (a b c : Value) (wr : World) : Prop :=
  ∃ (j cv bv : Nat) (L1 : List Nat), a = .int .u64 cv ∧ b = .int .u32 bv ∧ c = .int .i64 j ∧ j ≤ n ∧ cv < 4294967296 ∧ bv ≤ 1 ∧ L1.length = L.length ∧ Ok L1 ∧ Blk wr g L1 ∧ TakeF g w wr ∧
    val L1 + 4294967296 ^ i * (gq * (D % 4294967296 ^ j)) = val L + 4294967296 ^ (i + j) * (cv + bv) ∧ ∀ p, i + n + 1 ≤ p → L1.getD p 0 = 0
/-- the loop that adds back -/
def Rel2 (D n V g i : Nat) (L : List Nat) (w : World) (a c : Value) (wr : World) : Prop :=
  ∃ (j cv : Nat) (L1 : List Nat), a = .int .u32 cv ∧ c = .int .i64 j ∧ j ≤ n ∧ cv ≤ 1 ∧ L1.length = L.length ∧ Ok L1 ∧ Blk wr g L1 ∧ TakeF g w wr ∧
    val L1 + 4294967296 ^ (i + j) * cv = V + 4294967296 ^ i * (D % 4294967296 ^ j) ∧ ∀ p, i + n + 1 ≤ p → L1.getD p 0 = 0

theorem back_last {V V' X p old c nw : Nat} (hV : V + p * c = X) (hV' : V' + p * old = V + p * nw) (hnw : nw = (old + c) % 4294967296) : V' + p * 4294967296 * ((old + c) / 4294967296) = X := by
  have h1 : nw + 4294967296 * ((old + c) / 4294967296) = old + c := by omega
  have h2 : p * nw + p * 4294967296 * ((old + c) / 4294967296) = p * old + p * c := by
    rw [Nat.mul_assoc, ← Nat.mul_add, ← Nat.mul_add, h1]
  omega

set_option maxRecDepth 100000 in
theorem take_any (D n gd od cd g i cp : Nat) (L : List Nat) (w : World) (h : Place w D n gd od g i L) :
    Calls Tryz.prog 247 #[.slice (some ⟨g, i, none⟩) (n + 1) cp, .slice (some ⟨gd, od, none⟩) n cd] w (TakeOk D g i L w) := by
  have n2 := h.n2
  have nle := h.n_le
  have hne := h.ne
  have hlen := h.len
  have H := Lib.hid h; clear h
  have kd := kd_n n2 H.out.lt H.out.D_lt H.out.top
  have hg := guess_any _ D _ _ _ _ _ _ _ _ n gd od g i cd cp w n2 nle kd (dg_lt _ _) (dg_lt _ _) (H.out.d _ (by omega)) (H.out.d _ (by omega))
    (by rw [← val_dg H.out.ok]; exact H.out.blk.cell (by omega)) (by rw [← val_dg H.out.ok]; exact H.out.blk.cell (by omega)) (by rw [← val_dg H.out.ok]; exact H.out.blk.cell (by omega))
  have Hg := Lib.hid hg; clear hg kd
  go_enter Tryz.func247, Tryz.ntmps247
  go_wp2_with fail
  refine Hg.out.mono ?_
  rintro e w' ⟨gq, rfl, hgl, hq1, hq2, nd, rfl⟩
  have Hq1 := Lib.hid hq1; clear hq1
  have Hq2 := Lib.hid hq2; clear hq2
  go_wp2_with fail
  go_loopw [7, 8, 22] (fun a b c wr => Rel1 D n gq g i L w a b c wr) (fun _ _ c _ => n - (intOf c).toNat)
  case atStart => exact ⟨0, 0, 0, L, rfl, rfl, rfl, Nat.zero_le _, by omega, by omega, rfl, H.out.ok, H.out.blk, (TakeF.refl _ _).drewN _, by simp [Nat.mod_one], words_zero H.out.ok H.out.val_lt⟩
  case round =>
    obtain ⟨j, cv, bv, L1, rfl, rfl, rfl, hj, hcv, hbv, hL1, hok1, hblk1, htf, hval, hz⟩ := hrel
    have HV := Lib.hid hval; clear hval
    have HL1 := Lib.hid hL1; clear hL1
    have HZ := Lib.hid hz; clear hz
    have HT := Lib.hid htf; clear htf
    by_cases hlt : j < n
    · as_aux_lemma =>
        have h1 : wr.cell? ⟨gd, od + j, none⟩ = some (.int .u32 (dg D j : Nat)) := HT.out.cell hne (H.out.d j hlt)
        obtain ⟨d, hd⟩ : ∃ d, d = dg D j := ⟨_, rfl⟩
        have hdl : d < 4294967296 := by rw [hd]; exact dg_lt _ _
        rw [← hd] at h1
        have Hd := Lib.hid hd; clear hd
        have h3 := hblk1.cell (i := i + j) (by rw [HL1.out]; omega)
        have h4 := hblk1.frozen (i + j)
        obtain ⟨a, ha⟩ : ∃ a, a = L1.getD (i + j) 0 := ⟨_, rfl⟩
        have hal : a < 4294967296 := by rw [ha]; exact hok1.getD _
        rw [← ha] at h3
        have Ha := Lib.hid ha; clear ha
        have HB := Lib.hid hblk1; clear hblk1
        obtain ⟨s, hs⟩ : ∃ s, s = gq * d + cv := ⟨_, rfl⟩
        have hsl : s < 18446744073709551616 := by rw [hs]; have := mul_bound hgl hdl hcv (show 0 < 4294967296 by omega); omega
        have hprod : gq * d < 18446744073709551616 := by omega
        have e1 : ((gq : Int) * d + cv) % 4294967296 = ((s % 4294967296 : Nat) : Int) := by rw [hs]; omega
        have e2 : ((gq : Int) * d + cv) / 4294967296 = ((s / 4294967296 : Nat) : Int) := by rw [hs]; omega
        have hsl' : (gq : Int) * d + cv < 18446744073709551616 := by rw [hs] at hsl; omega
        obtain ⟨lo, hlo⟩ : ∃ lo, lo = s % 4294967296 := ⟨_, rfl⟩
        obtain ⟨hi, hhi⟩ : ∃ hi, hi = s / 4294967296 := ⟨_, rfl⟩
        rw [← hlo] at e1
        rw [← hhi] at e2
        have hlol : lo < 4294967296 := by rw [hlo]; omega
        have hhil : hi < 4294967296 := by rw [hhi]; omega
        have E1 := Lib.hid e1; clear e1
        have E2 := Lib.hid e2; clear e2
        have Hlo := Lib.hid hlo; clear hlo
        have Hhi := Lib.hid hhi; clear hhi
        have Hs := Lib.hid hs; clear hs
        go_wp2_with fail
        rw [E1.out]
        refine (sub32_any a lo bv hal hlol hbv wr).mono ?_
        rintro e w' ⟨rfl, rfl⟩
        obtain ⟨nw, hnw⟩ : ∃ x, x = (a + 4294967296 - lo - bv) % 4294967296 := ⟨_, rfl⟩
        obtain ⟨nb, hnb⟩ : ∃ x, x = (if a < lo + bv then 1 else 0) := ⟨_, rfl⟩
        rw [← hnw, ← hnb]
        have hnwl : nw < 4294967296 := by rw [hnw]; omega
        have hnbl : nb ≤ 1 := by rw [hnb]; split <;> omega
        have hnew : nw + lo + bv = a + 4294967296 * nb := by rw [hnw, hnb]; split <;> omega
        have Hnew := Lib.hid hnew; clear hnew hnw hnb
        go_wp2_with fail
        rw [E2.out]
        go_roundw
        case rel =>
          refine ⟨j + 1, hi, nb, L1.set (i + j) nw, rfl, rfl, by go_num, by omega, hhil, hnbl, by rw [List.length_set, HL1.out], hok1.set hnwl, HB.out.set_ _ _, HT.out.set _ _, ?_, ?_⟩
          · refine take_round HV.out (old := a) (new := nw) ?_ (by rw [Hs.out, Hd.out]) Hlo.out Hhi.out Hnew.out
            have := val_set (l := L1) (p := i + j) (v := nw) (by rw [HL1.out]; omega)
            rw [← Ha.out] at this
            exact this
          · intro t ht
            rw [getD_set_ne (by omega)]
            exact HZ.out t ht
        case measure => simp [intOf]; omega
    · have hjn : j = n := by omega
      subst hjn
      clear hj hlt
      have h3 := hblk1.cell (i := i + j) (by rw [HL1.out]; omega)
      have h4 := hblk1.frozen (i + j)
      obtain ⟨a, ha⟩ : ∃ a, a = L1.getD (i + j) 0 := ⟨_, rfl⟩
      have hal : a < 4294967296 := by rw [ha]; exact hok1.getD _
      rw [← ha] at h3
      have Ha := Lib.hid ha; clear ha
      have HB := Lib.hid hblk1; clear hblk1
      have e1 : (cv : Int) % 4294967296 = (cv : Int) := by omega
      have E1 := Lib.hid e1; clear e1
      go_wp2_with fail
      try rw [E1.out]
      refine (sub32_any a cv bv hal hcv hbv wr).mono ?_
      rintro e w' ⟨rfl, rfl⟩
      obtain ⟨nw, hnw⟩ : ∃ x, x = (a + 4294967296 - cv - bv) % 4294967296 := ⟨_, rfl⟩
      obtain ⟨nb, hnb⟩ : ∃ x, x = (if a < cv + bv then 1 else 0) := ⟨_, rfl⟩
      rw [← hnw, ← hnb]
      have hnwl : nw < 4294967296 := by rw [hnw]; omega
      have hnbl : nb ≤ 1 := by rw [hnb]; split <;> omega
      have hnew : nw + cv + bv = a + 4294967296 * nb := by rw [hnw, hnb]; split <;> omega
      have hv := HV.out
      rw [Nat.mod_eq_of_lt H.out.D_lt] at hv
      have hset := val_set (l := L1) (p := i + j) (v := nw) (by rw [HL1.out]; omega)
      rw [← Ha.out] at hset
      have hlast := take_last hv hset hnew
      rw [Nat.mul_assoc, ← Nat.mul_assoc (4294967296 ^ (i + j)), ← Nat.pow_succ] at hlast
      have htf := HT.out.set (i + j) (.int .u32 (nw : Int))
      have hblk2 := HB.out.set_ (i + j) nw
      have hok2 := hok1.set (i := i + j) hnwl
      have hlen2 : (L1.set (i + j) nw).length = L.length := by rw [List.length_set, HL1.out]
      have hz2 : ∀ p, i + j + 1 ≤ p → (L1.set (i + j) nw).getD p 0 = 0 := fun t ht => by rw [getD_set_ne (by omega)]; exact HZ.out t ht
      obtain ⟨L2, hL2⟩ : ∃ L2, L2 = L1.set (i + j) nw := ⟨_, rfl⟩
      rw [← hL2] at hlast hblk2 hok2 hlen2 hz2
      clear hset hv hnew hnw hnb hL2 E1 HV HL1 HZ HT HB Ha hok1
      have Hlast := Lib.hid hlast; clear hlast
      have Hlen2 := Lib.hid hlen2; clear hlen2
      have Hz2 := Lib.hid hz2; clear hz2
      have HT := Lib.hid htf; clear htf
      have HB := Lib.hid hblk2
      rcases (by omega : nb = 0 ∨ nb = 1) with rfl | rfl
      · as_aux_lemma =>
          have Hblk2 := Lib.hid hblk2; clear hblk2
          go_wp2
          go_ret
          have h0 : val L2 + 4294967296 ^ i * (gq * D) = val L := by have := Hlast.out; rw [Nat.mul_zero, Nat.add_zero] at this; exact this
          have hq := take_done H.out.D_pos h0 Hq1.out
          exact ⟨gq, L2, rfl, hq, hgl, Hlen2.out, hok2, h0, HB.out, HT.out⟩
      · have Hblk2 := Lib.hid hblk2; clear hblk2
        have h0 : val L2 + 4294967296 ^ i * (gq * D) = val L + 4294967296 ^ (i + j + 1) := by have := Hlast.out; rw [Nat.mul_one] at this; exact this
        have hq := take_high h0 (val_small hok2 Hz2.out) H.out.D_pos Hq2.out
        have hg0 : 1 ≤ gq := by rw [hq]; exact Nat.succ_le_succ (Nat.zero_le _)
        have H0 := Lib.hid h0; clear h0
        have Hq := Lib.hid hq; clear hq
        have HT1 := HT
        obtain ⟨wb, hwb⟩ : ∃ x, x = wr.setCell ⟨g, i + j, none⟩ (.int .u32 (nw : Int)) := ⟨_, rfl⟩
        rw [← hwb] at HT HB Hblk2
        have Hwb := Lib.hid hwb; clear hwb HT1
        go_wp2_with fail
        rw [← Hwb.out]
        clear Hwb
        go_loopw [12, 70] (fun a c wr => Rel2 D j (val L2) g i L w a c wr) (fun _ c _ => j - (intOf c).toNat)
        case atStart => exact ⟨0, 0, L2, rfl, rfl, Nat.zero_le _, by omega, Hlen2.out, hok2, HB.out, HT.out, by simp [Nat.mod_one], Hz2.out⟩
        case round =>
          obtain ⟨k, cv2, L3, rfl, rfl, hk, hcv2, hL3, hok3, hblk3, htf, hval, hz⟩ := hrel
          have HV := Lib.hid hval; clear hval
          have HL3 := Lib.hid hL3; clear hL3
          have HZ := Lib.hid hz; clear hz
          have HTT := Lib.hid htf; clear htf
          by_cases hlt : k < j
          · as_aux_lemma =>
              have h1 : wr.cell? ⟨gd, od + k, none⟩ = some (.int .u32 (dg D k : Nat)) := HTT.out.cell hne (H.out.d k hlt)
              obtain ⟨d, hd⟩ : ∃ d, d = dg D k := ⟨_, rfl⟩
              have hdl : d < 4294967296 := by rw [hd]; exact dg_lt _ _
              rw [← hd] at h1
              have Hd := Lib.hid hd; clear hd
              have h3 := hblk3.cell (i := i + k) (by rw [HL3.out]; omega)
              have h4 := hblk3.frozen (i + k)
              obtain ⟨a2, ha⟩ : ∃ a, a = L3.getD (i + k) 0 := ⟨_, rfl⟩
              have hal2 : a2 < 4294967296 := by rw [ha]; exact hok3.getD _
              rw [← ha] at h3
              have Ha := Lib.hid ha; clear ha
              have HB3 := Lib.hid hblk3; clear hblk3
              go_wp2_with fail
              refine (add32_any a2 d cv2 hal2 hdl (by omega) wr).mono ?_
              rintro e w' ⟨rfl, rfl⟩
              obtain ⟨nw2, hnw⟩ : ∃ x, x = (a2 + d + cv2) % 4294967296 := ⟨_, rfl⟩
              obtain ⟨nb2, hnb⟩ : ∃ x, x = (a2 + d + cv2) / 4294967296 := ⟨_, rfl⟩
              rw [← hnw, ← hnb]
              have hnwl2 : nw2 < 4294967296 := by rw [hnw]; omega
              have hnbl2 : nb2 ≤ 1 := by rw [hnb]; omega
              have Hnw := Lib.hid hnw; clear hnw
              have Hnb := Lib.hid hnb; clear hnb
              go_wp2_with fail
              go_roundw
              case rel =>
                refine ⟨k + 1, nb2, L3.set (i + k) nw2, rfl, by go_num, by omega, hnbl2, by rw [List.length_set, HL3.out], hok3.set hnwl2, HB3.out.set_ _ _, HTT.out.set _ _, ?_, ?_⟩
                · refine back_round HV.out (old := a2) (new := nw2) (s := a2 + d + cv2) ?_ (by rw [Hd.out]) Hnw.out Hnb.out
                  have := val_set (l := L3) (p := i + k) (v := nw2) (by rw [HL3.out]; omega)
                  rw [← Ha.out] at this
                  exact this
                · intro t ht
                  rw [getD_set_ne (by omega)]
                  exact HZ.out t ht
              case measure => simp [intOf]; omega
          · have hkj : k = j := by omega
            subst hkj
            clear hk hlt
            have h3 := hblk3.cell (i := i + k) (by rw [HL3.out]; omega)
            have h4 := hblk3.frozen (i + k)
            obtain ⟨a2, ha⟩ : ∃ a, a = L3.getD (i + k) 0 := ⟨_, rfl⟩
            have hal2 : a2 < 4294967296 := by rw [ha]; exact hok3.getD _
            rw [← ha] at h3
            have Ha := Lib.hid ha; clear ha
            have HB3 := Lib.hid hblk3; clear hblk3
            have e1 : ((a2 : Int) + cv2) % 4294967296 = (((a2 + cv2) % 4294967296 : Nat) : Int) := by omega
            obtain ⟨nw2, hnw⟩ : ∃ x, x = (a2 + cv2) % 4294967296 := ⟨_, rfl⟩
            rw [← hnw] at e1
            have hnwl2 : nw2 < 4294967296 := by rw [hnw]; omega
            have E1 := Lib.hid e1; clear e1
            have Hnw := Lib.hid hnw; clear hnw
            go_wp2
            rw [E1.out]
            go_ret
            have hv := HV.out
            rw [Nat.mod_eq_of_lt H.out.D_lt] at hv
            have hset := val_set (l := L3) (p := i + k) (v := nw2) (by rw [HL3.out]; omega)
            rw [← Ha.out] at hset
            have hl := back_last hv hset Hnw.out
            rw [← Nat.pow_succ] at hl
            have hokM := hok3.set (i := i + k) hnwl2
            have hM := val_small hokM (k := i + k + 1) (fun t ht => by rw [getD_set_ne (by omega)]; exact HZ.out t ht)
            have hq := Hq.out
            have hfin := back_done H0.out hq rfl hl (by omega) hM
            refine ⟨gq - 1, L3.set (i + k) nw2, ?_, ?_, by omega, by rw [List.length_set, HL3.out], hokM, ?_, HB3.out.set_ _ _, HTT.out.set _ _⟩
            · show Ending.returned (.int .u32 ((gq : Int) - 1)) = _
              rw [show ((gq : Int) - 1) = ((gq - 1 : Nat) : Int) by omega]
            · rw [hq, Nat.add_sub_cancel]
            · rw [hq, Nat.add_sub_cancel]; exact hfin
end Go.Proofs.YtijhbmdbnnmogaaGreat
namespace Go.Proofs.YtijhbmdbnnmogaaGreat
open Go

theorem bitLen_bounds (t : Nat) : 0 < t → t < 18446744073709551616 → 2 ^ (Lib.bitLen t) ≤ 2 * t ∧ t < 2 ^ (Lib.bitLen t) := by
  induction t using Nat.strongRecOn with
  | ind t ih =>
    intro h0 h1
    have hh := Lib.bitLen_half t (by omega) h1
    by_cases h : t = 1
    · subst h; decide
    · obtain ⟨a, b⟩ := ih (t / 2) (by omega) (by omega) (by omega)
      rw [hh, Nat.pow_add]
      omega

theorem norm_word {t : Nat} (h0 : 0 < t) (h1 : t < 4294967296) : ∃ s : Nat, s ≤ 31 ∧ (32 : Int) - (Lib.bitLen t : Int) = s ∧ 2147483648 ≤ t * 2 ^ s ∧ t * 2 ^ s + 2 ^ s ≤ 4294967296 := by
  obtain ⟨a, b⟩ := bitLen_bounds t h0 (by omega)
  have hL : Lib.bitLen t ≤ 32 := Lib.bitLen_le t 32 (by omega) h1
  have hL1 : 1 ≤ Lib.bitLen t := by
    rcases Nat.eq_zero_or_pos (Lib.bitLen t) with h | h
    · rw [h] at b; simp at b; omega
    · exact h
  have e : 2 ^ (Lib.bitLen t) * 2 ^ (32 - Lib.bitLen t) = 4294967296 := by rw [← Nat.pow_add, show Lib.bitLen t + (32 - Lib.bitLen t) = 32 by omega]
  refine ⟨32 - Lib.bitLen t, by omega, by omega, ?_, ?_⟩
  · have := Nat.mul_le_mul_right (2 ^ (32 - Lib.bitLen t)) a
    rw [e, Nat.mul_assoc] at this
    omega
  · have := Nat.mul_le_mul_right (2 ^ (32 - Lib.bitLen t)) b
    rw [e, Nat.succ_mul] at this
    exact this

theorem top_word {y n : Nat} (hn : n = (dig y).length) (h : 0 < n) : y = y % 4294967296 ^ (n - 1) + 4294967296 ^ (n - 1) * dg y (n - 1) ∧ 0 < dg y (n - 1) := by
  obtain ⟨m, rfl⟩ : ∃ m, n = m + 1 := ⟨n - 1, by omega⟩
  have h1 := mod_succ y m
  rw [mod_len (by rw [← hn]; exact Nat.le_refl _)] at h1
  refine ⟨h1, ?_⟩
  rcases Nat.eq_zero_or_pos (dg y m) with h0 | h0
  · rw [h0, Nat.mul_zero, Nat.add_zero] at h1
    have h2 : y < 4294967296 ^ m := by rw [h1]; exact Nat.mod_lt _ (pow_pos' m)
    have := dig_len_le h2
    omega
  · exact h0

/-- the divisor, shifted up -/
theorem norm_div {y n t c : Nat} (hn : n = (dig y).length) (h : 0 < n) (ht : t = dg y (n - 1)) (h1 : 2147483648 ≤ t * c) (h2 : t * c + c ≤ 4294967296) :
    y * c < 4294967296 ^ n ∧ 2147483648 ≤ dg (y * c) (n - 1) ∧ (dig (y * c)).length = n ∧ 2147483648 * 4294967296 ^ (n - 1) ≤ y * c := by
  obtain ⟨e, -⟩ := top_word hn h
  rw [← ht] at e
  obtain ⟨m, rfl⟩ : ∃ m, n = m + 1 := ⟨n - 1, by omega⟩
  rw [Nat.add_sub_cancel] at e ⊢
  have hP := pow_pos' m
  obtain ⟨lo, hlo⟩ : ∃ lo, lo = y % 4294967296 ^ m := ⟨_, rfl⟩
  have hlt : lo < 4294967296 ^ m := by rw [hlo]; exact Nat.mod_lt _ hP
  rw [← hlo] at e
  obtain ⟨P, hPd⟩ : ∃ P, P = 4294967296 ^ m := ⟨_, rfl⟩
  have hps : 4294967296 ^ (m + 1) = P * 4294967296 := by rw [Nat.pow_succ, hPd]
  rw [← hPd] at e hlt hP ⊢
  have e2 : y * c = lo * c + P * (t * c) := by rw [e, Nat.add_mul, Nat.mul_assoc]
  have a1 : lo * c ≤ P * c := Nat.mul_le_mul_right c (by omega)
  have a2 : P * (t * c + c) ≤ P * 4294967296 := Nat.mul_le_mul_left P h2
  rw [Nat.mul_add] at a2
  have hc : 0 < c := by
    rcases Nat.eq_zero_or_pos c with h0 | h0
    · rw [h0] at h1; omega
    · exact h0
  have a3 : lo * c < P * c := Nat.mul_lt_mul_of_pos_right hlt hc
  have hD : y * c < 4294967296 ^ (m + 1) := by rw [hps]; omega
  have a4 : P * 2147483648 ≤ P * (t * c) := Nat.mul_le_mul_left P h1
  have hge : 2147483648 * P ≤ y * c := by omega
  have hq : 2147483648 ≤ y * c / P := by rw [Nat.le_div_iff_mul_le hP]; exact hge
  have hq2 : y * c / P < 4294967296 := by rw [Nat.div_lt_iff_lt_mul hP]; omega
  have hdg : dg (y * c) m = y * c / P := by unfold dg; rw [← hPd, Nat.mod_eq_of_lt hq2]
  refine ⟨hD, by rw [hdg]; exact hq, ?_, hge⟩
  have l1 := dig_len_le hD
  rcases Nat.lt_or_ge (dig (y * c)).length (m + 1) with h3 | h3
  · have := dg_zero (x := y * c) (i := m) (by omega)
    omega
  · omega

theorem shl_start {x y c n nx m : Nat} (hn : 0 < n) (hx : nx = (dig x).length) (hm : m = nx + 1 - n) (hnx : n ≤ nx) (hc : c ≤ 2147483648) (hD : 2147483648 * 4294967296 ^ (n - 1) ≤ y * c) (hc0 : 0 < c) :
    x * c < y * c * 4294967296 ^ m := by
  have h1 : x < 4294967296 ^ nx := lt_of_dig_len (by omega)
  have h2 : x * c < 4294967296 ^ nx * c := Nat.mul_lt_mul_of_pos_right h1 hc0
  have h3 : 4294967296 ^ nx * c ≤ 4294967296 ^ nx * 2147483648 := Nat.mul_le_mul_left _ hc
  have h4 := Nat.mul_le_mul_right (4294967296 ^ m) hD
  rw [Nat.mul_assoc, ← Nat.pow_add, show n - 1 + m = nx by omega, Nat.mul_comm] at h4
  omega

/-- a round of the outer loop -/
theorem outer_round {X D V V' Q Q' q i : Nat} (h : X = V + D * Q) (hV : V' + 4294967296 ^ i * (q * D) = V) (hQ : Q' = Q + 4294967296 ^ i * q) : X = V' + D * Q' := by
  have e : D * (4294967296 ^ i * q) = 4294967296 ^ i * (q * D) := by ac_rfl
  rw [hQ, Nat.mul_add, e]
  omega

end Go.Proofs.YtijhbmdbnnmogaaGreat
namespace Go.Proofs
open Go.Shelf
def Tryz.lays128_ren : Go.Shelf.Ren := ⟨fun | 128 => 253 | n => n, fun | 51 => 172 | 3 => 3 | 4 => 4 | 46 => 198 | 5 => 5 | 9 => 9 | n => n, fun | n => n⟩
theorem Tryz.lays128 : Go.Proofs.Lays.n128 Tryz.prog Tryz.lays128_ren := {
  mixed := by kernel_rfl
  f128 := Tryz.func253.trans (congrArg some (by kernel_rfl))
  t3 := Tryz.underlying3
  a3 := Tryz.isAgg3
  z3 := Tryz.sizeOf3
  v3 := Tryz.zeroValue3
  t4 := Tryz.underlying4
  a4 := Tryz.isAgg4
  z4 := Tryz.sizeOf4
  v4 := Tryz.zeroValue4
  t5 := Tryz.underlying5
  a5 := Tryz.isAgg5
  z5 := Tryz.sizeOf5
  v5 := Tryz.zeroValue5
  t9 := Tryz.underlying9
  a9 := Tryz.isAgg9
  z9 := Tryz.sizeOf9
  v9 := Tryz.zeroValue9
  t46 := Tryz.underlying198
  a46 := Tryz.isAgg198
  z46 := Tryz.sizeOf198
  v46 := Tryz.zeroValue198
  t51 := Tryz.underlying172
  a51 := Tryz.isAgg172
  z51 := Tryz.sizeOf172
  v51 := Tryz.zeroValue172 }

theorem Tryz.bits_Len32 (x : Int) (w : World) (h0 : 0 ≤ x) (h1 : x ≤ 4294967295) :
    Calls Tryz.prog 253 #[.int .u32 x] w fun e w' => e = .returned (.int .i64 (Lib.bitLen x.toNat)) ∧ w' = w := Any.bits_Len32 Tryz.lays128 x w h0 h1
def Tryz.lays133_ren : Go.Shelf.Ren := ⟨fun | 133 => 245 | 128 => 253 | n => n, fun | 51 => 172 | 3 => 3 | 4 => 4 | 46 => 198 | 5 => 5 | 9 => 9 | n => n, fun | n => n⟩
theorem Tryz.lays133 : Go.Proofs.Lays.n133 Tryz.prog Tryz.lays133_ren := {
  mixed := by kernel_rfl
  f128 := Tryz.func253.trans (congrArg some (by kernel_rfl))
  f133 := Tryz.func245.trans (congrArg some (by kernel_rfl))
  t3 := Tryz.underlying3
  a3 := Tryz.isAgg3
  z3 := Tryz.sizeOf3
  v3 := Tryz.zeroValue3
  t4 := Tryz.underlying4
  a4 := Tryz.isAgg4
  z4 := Tryz.sizeOf4
  v4 := Tryz.zeroValue4
  t5 := Tryz.underlying5
  a5 := Tryz.isAgg5
  z5 := Tryz.sizeOf5
  v5 := Tryz.zeroValue5
  t9 := Tryz.underlying9
  a9 := Tryz.isAgg9
  z9 := Tryz.sizeOf9
  v9 := Tryz.zeroValue9
  t46 := Tryz.underlying198
  a46 := Tryz.isAgg198
  z46 := Tryz.sizeOf198
  v46 := Tryz.zeroValue198
  t51 := Tryz.underlying172
  a51 := Tryz.isAgg172
  z51 := Tryz.sizeOf172
  v51 := Tryz.zeroValue172 }

theorem Tryz.bits_LeadingZeros32 (x : Int) (w : World) (h0 : 0 ≤ x) (h1 : x ≤ 4294967295) :
    Calls Tryz.prog 245 #[.int .u32 x] w fun e w' => e = .returned (.int .i64 (32 - (Lib.bitLen x.toNat : Int))) ∧ w' = w := Any.bits_LeadingZeros32 Tryz.lays133 x w h0 h1
def Tryz.lays264_ren : Go.Shelf.Ren := ⟨fun | 264 => 210 | n => n, fun | 53 => 157 | 46 => 198 | n => n, fun | n => n⟩
theorem Tryz.lays264 : Go.Proofs.Lays.n264 Tryz.prog Tryz.lays264_ren := {
  mixed := by kernel_rfl
  f264 := Tryz.func210.trans (congrArg some (by kernel_rfl))
  t46 := Tryz.underlying198
  a46 := Tryz.isAgg198
  z46 := Tryz.sizeOf198
  v46 := Tryz.zeroValue198
  t53 := Tryz.underlying157
  a53 := Tryz.isAgg157
  z53 := Tryz.sizeOf157
  v53 := Tryz.zeroValue157 }
open Go.RowKit Go.Lib in
theorem Tryz.bits_Mul64 (x y : Nat) (hx : x < 18446744073709551616) (hy : y < 18446744073709551616) (w : World) :
    Calls Tryz.prog 210 #[.int .u64 x, .int .u64 y] w fun e w' => e = .returned (.tuple #[.int .u64 ((x * y / 18446744073709551616 : Nat) : Int), .int .u64 ((x * y % 18446744073709551616 : Nat) : Int)]) ∧ w' = w := Any.bits_Mul64 Tryz.lays264 x y hx hy w
def Tryz.lays212_ren : Go.Shelf.Ren := ⟨fun | 212 => 167 | 263 => 209 | 264 => 210 | n => n, fun | 46 => 198 | 51 => 172 | 146 => 242 | 53 => 157 | 148 => 244 | n => n, fun | n => n⟩
theorem Tryz.lays212 : Go.Proofs.Lays.n212 Tryz.prog Tryz.lays212_ren := {
  mixed := by kernel_rfl
  f212 := Tryz.func167.trans (congrArg some (by kernel_rfl))
  f263 := Tryz.func209.trans (congrArg some (by kernel_rfl))
  f264 := Tryz.func210.trans (congrArg some (by kernel_rfl))
  t46 := Tryz.underlying198
  a46 := Tryz.isAgg198
  z46 := Tryz.sizeOf198
  v46 := Tryz.zeroValue198
  t51 := Tryz.underlying172
  a51 := Tryz.isAgg172
  z51 := Tryz.sizeOf172
  v51 := Tryz.zeroValue172
  t53 := Tryz.underlying157
  a53 := Tryz.isAgg157
  z53 := Tryz.sizeOf157
  v53 := Tryz.zeroValue157
  t146 := Tryz.underlying242
  a146 := Tryz.isAgg242
  z146 := Tryz.sizeOf242
  v146 := Tryz.zeroValue242
  t148 := Tryz.underlying244
  a148 := Tryz.isAgg244
  z148 := Tryz.sizeOf244
  v148 := Tryz.zeroValue244 }
open Go.RowKit Go.Lib in

theorem Tryz.bits_Mul (x y : Nat) (hx : x < 18446744073709551616) (hy : y < 18446744073709551616) (w : World) :
    Calls Tryz.prog 167 #[.int .u64 x, .int .u64 y] w fun e w' => e = .returned (.tuple #[.int .u64 ((x * y / 18446744073709551616 : Nat) : Int), .int .u64 ((x * y % 18446744073709551616 : Nat) : Int)]) ∧ w' = w := Any.bits_Mul Tryz.lays212 x y hx hy w
def Tryz.lays111_ren : Go.Shelf.Ren := ⟨fun | 111 => 23 | n => n, fun | 28 => 22 | 3 => 3 | 4 => 4 | 0 => 0 | n => n, fun | n => n⟩
theorem Tryz.lays111 : Go.Proofs.Lays.n111 Tryz.prog Tryz.lays111_ren := {
  mixed := by kernel_rfl
  f111 := Tryz.func23.trans (congrArg some (by kernel_rfl))
  t0 := Tryz.underlying0
  a0 := Tryz.isAgg0
  z0 := Tryz.sizeOf0
  v0 := Tryz.zeroValue0
  t3 := Tryz.underlying3
  a3 := Tryz.isAgg3
  z3 := Tryz.sizeOf3
  v3 := Tryz.zeroValue3
  t4 := Tryz.underlying4
  a4 := Tryz.isAgg4
  z4 := Tryz.sizeOf4
  v4 := Tryz.zeroValue4
  t28 := Tryz.underlying22
  a28 := Tryz.isAgg22
  z28 := Tryz.sizeOf22
  v28 := Tryz.zeroValue22 }
open Go.RowKit Go.Lib in

theorem Tryz.slices_Equal_int (b1 o1 n c b2 o2 m d : Nat) (xs ys : List Int) (w : World) (hx : n ≤ xs.length) (hy : m ≤ ys.length) (hbig : n ≤ 9223372036854775807) (hbig2 : m ≤ 9223372036854775807) (hc1 : ∀ j, j < xs.length → w.cell? ⟨b1, o1 + j, none⟩ = some (.int .i64 (xs.getD j 0))) (hc2 : ∀ j, j < ys.length → w.cell? ⟨b2, o2 + j, none⟩ = some (.int .i64 (ys.getD j 0))) :
    Calls Tryz.prog 23 #[.slice (some ⟨b1, o1, none⟩) n c, .slice (some ⟨b2, o2, none⟩) m d] w fun e w' => e = .returned (.bool (xs.take n == ys.take m)) ∧ ∃ q, w' = w.drewN q := Any.slices_Equal_int Tryz.lays111 b1 o1 n c b2 o2 m d xs ys w hx hy hbig hbig2 hc1 hc2
open Go.RowKit Go.Lib in

theorem Tryz.slices_Equal_int_empty (a1 a2 : Option Addr) (c m d : Nat) (w : World) (hbig2 : m ≤ 9223372036854775807) :
    Calls Tryz.prog 23 #[.slice a1 0 c, .slice a2 m d] w fun e w' => e = .returned (.bool (decide (m = 0))) ∧ w' = w := Any.slices_Equal_int_empty Tryz.lays111 a1 a2 c m d w hbig2
def Tryz.laysNm215_ren : Go.Shelf.Ren := ⟨fun | 15 => 52 | n => n, fun | 22 => 22 | 3 => 3 | 4 => 4 | n => n, fun | n => n⟩
theorem Tryz.laysNm215 : Go.Proofs.Lays2.n15 Tryz.prog Tryz.laysNm215_ren := {
  mixed := by kernel_rfl
  f15 := Tryz.func52.trans (congrArg some (by kernel_rfl))
  t3 := Tryz.underlying3
  a3 := Tryz.isAgg3
  z3 := Tryz.sizeOf3
  v3 := Tryz.zeroValue3
  t4 := Tryz.underlying4
  a4 := Tryz.isAgg4
  z4 := Tryz.sizeOf4
  v4 := Tryz.zeroValue4
  t22 := Tryz.underlying22
  a22 := Tryz.isAgg22
  z22 := Tryz.sizeOf22
  v22 := Tryz.zeroValue22
  i3 := by kernel_rfl }
open Go.RowKit Go.Lib in

theorem Tryz.slices_Clone_int (b off n c : Nat) (zs : List Int) (w : World) (hz : n ≤ zs.length) (hbig : n * 8 ≤ 140737488355328) (hc : ∀ j, j < zs.length → w.cell? ⟨b, off + j, none⟩ = some (.int .i64 (zs.getD j 0))) :
    Calls Tryz.prog 52 #[.slice (some ⟨b, off, none⟩) n c] w fun e w' => ∃ v', e = .returned v' ∧ w'.ownsRow w.heap.size 3 1 v' n ((zs.take n).map (Value.int .i64)) ∧ v' ≠ .slice none 0 0 ∧ Below w.heap.size w w' := Any.slices_Clone_int Tryz.laysNm215 b off n c zs w hz hbig hc
open Go.RowKit Go.Lib in

theorem Tryz.slices_Clone_int_nil (n c : Nat) (w : World) :
    Calls Tryz.prog 52 #[.slice none n c] w fun e w' => e = .returned (.slice none 0 0) ∧ w' = w := Any.slices_Clone_int_nil Tryz.laysNm215 n c w
open Go.RowKit Go.Lib in

theorem Tryz.slices_Clone_int_zero (a : Addr) (c : Nat) (w : World) :
    Calls Tryz.prog 52 #[.slice (some a) 0 c] w fun e w' => ∃ v', e = .returned v' ∧ w'.ownsRow w.heap.size 3 1 v' 0 [] ∧ v' ≠ .slice none 0 0 ∧ Below w.heap.size w w' := Any.slices_Clone_int_zero Tryz.laysNm215 a c w
def Tryz.laysNm237_ren : Go.Shelf.Ren := ⟨fun | 37 => 112 | n => n, fun | 3 => 3 | 4 => 4 | n => n, fun | n => n⟩
theorem Tryz.laysNm237 : Go.Proofs.Lays2.n37 Tryz.prog Tryz.laysNm237_ren := {
  mixed := by kernel_rfl
  f37 := Tryz.func112.trans (congrArg some (by kernel_rfl))
  t3 := Tryz.underlying3
  a3 := Tryz.isAgg3
  z3 := Tryz.sizeOf3
  v3 := Tryz.zeroValue3
  t4 := Tryz.underlying4
  a4 := Tryz.isAgg4
  z4 := Tryz.sizeOf4
  v4 := Tryz.zeroValue4 }
open Go.RowKit Go.Lib in

theorem Tryz.cmp_isNaN_int2 (x : Int) (w : World) :
    Calls Tryz.prog 112 #[.int .i64 x] w fun e w' => e = .returned (.bool false) ∧ w' = w := Any.cmp_isNaN_int2 Tryz.laysNm237 x w
def Tryz.laysNm223_ren : Go.Shelf.Ren := ⟨fun | 23 => 184 | n => n, fun | 22 => 22 | 3 => 3 | 4 => 4 | 0 => 0 | n => n, fun | n => n⟩
theorem Tryz.laysNm223 : Go.Proofs.Lays2.n23 Tryz.prog Tryz.laysNm223_ren := {
  mixed := by kernel_rfl
  f23 := Tryz.func184.trans (congrArg some (by kernel_rfl))
  t0 := Tryz.underlying0
  a0 := Tryz.isAgg0
  z0 := Tryz.sizeOf0
  v0 := Tryz.zeroValue0
  t3 := Tryz.underlying3
  a3 := Tryz.isAgg3
  z3 := Tryz.sizeOf3
  v3 := Tryz.zeroValue3
  t4 := Tryz.underlying4
  a4 := Tryz.isAgg4
  z4 := Tryz.sizeOf4
  v4 := Tryz.zeroValue4
  t22 := Tryz.underlying22
  a22 := Tryz.isAgg22
  z22 := Tryz.sizeOf22
  v22 := Tryz.zeroValue22
  i3 := by kernel_rfl }
open Go.RowKit Go.Lib Go.Sort in

theorem Tryz.slices_Delete_int_arr (blk off cap i j : Nat) (d : Array Int) (w : World) (hH : Holds encI w blk off d) (hcap : d.size ≤ cap) (hm : cap ≤ 9223372036854775807) (hij : i ≤ j) (hj : j ≤ d.size) :
    Calls Tryz.prog 184 #[.slice (some ⟨blk, off, none⟩) d.size cap, .int .i64 i, .int .i64 j] w fun e w' => e = .returned (.slice (some ⟨blk, off, none⟩) (d.size - (j - i)) cap) ∧ ∃ q, w' = putRow encI (Sort.ahead w q) blk off (d.toList.take i ++ d.toList.drop j ++ List.replicate (j - i) 0).toArray := Any.slices_Delete_int_arr Tryz.laysNm223 blk off cap i j d w hH hcap hm hij hj
open Go.RowKit Go.Lib Go.Sort in

theorem Tryz.slices_Delete_int (blk off cap i j : Nat) (zs : List Int) (w : World) (hH : Holds (Value.int .i64) w blk off zs.toArray) (hcap : zs.length ≤ cap) (hm : cap ≤ 9223372036854775807) (hij : i ≤ j) (hj : j ≤ zs.length) :
    Calls Tryz.prog 184 #[.slice (some ⟨blk, off, none⟩) zs.length cap, .int .i64 i, .int .i64 j] w fun e w' => e = .returned (.slice (some ⟨blk, off, none⟩) (zs.length - (j - i)) cap) ∧ ∃ q, w' = putRow (Value.int .i64) (Sort.ahead w q) blk off (zs.take i ++ zs.drop j ++ List.replicate (j - i) 0).toArray := Any.slices_Delete_int Tryz.laysNm223 blk off cap i j zs w hH hcap hm hij hj
open Go.RowKit Go.Lib Go.Sort in

theorem Tryz.slices_Delete_int_cells (b off n c i j : Nat) (zs : List Int) (w : World) (hz : n ≤ zs.length) (hcap : n ≤ c) (hm : c ≤ 9223372036854775807) (hij : i ≤ j) (hj : j ≤ n) (hc : ∀ j, j < zs.length → w.cell? ⟨b, off + j, none⟩ = some (.int .i64 (zs.getD j 0))) (hf : ∀ j, j < n → w.frozen? ⟨b, off + j, none⟩ = false) :
    Calls Tryz.prog 184 #[.slice (some ⟨b, off, none⟩) n c, .int .i64 i, .int .i64 j] w fun e w' => e = .returned (.slice (some ⟨b, off, none⟩) (n - (j - i)) c) ∧ ∃ q, w' = (w.drewN q).setCells b off (((zs.take n).take i ++ (zs.take n).drop j ++ List.replicate (j - i) 0).map (Value.int .i64)) := Any.slices_Delete_int_cells Tryz.laysNm223 b off n c i j zs w hz hcap hm hij hj hc hf
open Go.RowKit Go.Lib in

theorem Tryz.slices_Delete_int_empty (a : Option Addr) (c : Nat) (w : World) :
    Calls Tryz.prog 184 #[.slice a 0 c, .int .i64 0, .int .i64 0] w fun e w' => e = .returned (.slice a 0 c) ∧ w' = w := Any.slices_Delete_int_empty Tryz.laysNm223 a c w
def Tryz.laysSlE041_f52_ren : Go.Shelf.Ren := ⟨fun | 41 => 52 | n => n, fun | 22 => 22 | 23 => 3 | 4 => 4 | n => n, fun | n => n⟩
theorem Tryz.laysSlE041_f52 : Go.Proofs.SlLaysE0.n41 Tryz.prog Tryz.laysSlE041_f52_ren := {
  mixed := by kernel_rfl
  f41 := ⟨Tryz.f52.name, by decide, Tryz.func52.trans (congrArg some (by kernel_rfl))⟩
  t4 := Tryz.underlying4
  a4 := Tryz.isAgg4
  z4 := Tryz.sizeOf4
  v4 := Tryz.zeroValue4
  t22 := Tryz.underlying22
  a22 := Tryz.isAgg22
  z22 := Tryz.sizeOf22
  v22 := Tryz.zeroValue22 }
open Go.RowKit Go.Lib in

theorem Tryz.slices_Clone_f52 (i0 : TypeInfo) (z : Value) (size bytes : Nat) (hi : Tryz.prog.info? 3 = some i0) (hz0 : i0.zero = some z) (hz1 : i0.size = size) (hz2 : i0.bytes = bytes) (hzs : z.cells.size = size) (hsz : 0 < size) (z23 : ∀ w, (Go.sizeOf 3).run Tryz.prog w = .ok size w) (b off n c : Nat) (news : List Value) (w : World) (hl : news.length = n * size) (hn : n ≤ maxLen) (hbig : n * bytes ≤ 140737488355328) (hc : ∀ j u, news[j]? = some u → w.cell? ⟨b, off + j, none⟩ = some u) (h1 : ∀ u ∈ news, u.oneCell' = true) :
    Calls Tryz.prog 52 #[.slice (some ⟨b, off, none⟩) n c] w fun e w' => ∃ v', e = .returned v' ∧ w'.ownsRow w.heap.size 3 size v' n news ∧ v' ≠ .slice none 0 0 ∧ Below w.heap.size w w' := AnyE.slices_Clone Tryz.laysSlE041_f52 i0 z size bytes hi hz0 hz1 hz2 hzs hsz z23 b off n c news w hl hn hbig hc h1
def Tryz.laysSlE041_f152_ren : Go.Shelf.Ren := ⟨fun | 41 => 152 | n => n, fun | 22 => 54 | 23 => 172 | 4 => 4 | n => n, fun | n => n⟩
theorem Tryz.laysSlE041_f152 : Go.Proofs.SlLaysE0.n41 Tryz.prog Tryz.laysSlE041_f152_ren := {
  mixed := by kernel_rfl
  f41 := ⟨Tryz.f152.name, by decide, Tryz.func152.trans (congrArg some (by kernel_rfl))⟩
  t4 := Tryz.underlying4
  a4 := Tryz.isAgg4
  z4 := Tryz.sizeOf4
  v4 := Tryz.zeroValue4
  t22 := Tryz.underlying54
  a22 := Tryz.isAgg54
  z22 := Tryz.sizeOf54
  v22 := Tryz.zeroValue54 }
open Go.RowKit Go.Lib in

theorem Tryz.slices_Clone_f152 (i0 : TypeInfo) (z : Value) (size bytes : Nat) (hi : Tryz.prog.info? 172 = some i0) (hz0 : i0.zero = some z) (hz1 : i0.size = size) (hz2 : i0.bytes = bytes) (hzs : z.cells.size = size) (hsz : 0 < size) (z23 : ∀ w, (Go.sizeOf 172).run Tryz.prog w = .ok size w) (b off n c : Nat) (news : List Value) (w : World) (hl : news.length = n * size) (hn : n ≤ maxLen) (hbig : n * bytes ≤ 140737488355328) (hc : ∀ j u, news[j]? = some u → w.cell? ⟨b, off + j, none⟩ = some u) (h1 : ∀ u ∈ news, u.oneCell' = true) :
    Calls Tryz.prog 152 #[.slice (some ⟨b, off, none⟩) n c] w fun e w' => ∃ v', e = .returned v' ∧ w'.ownsRow w.heap.size 172 size v' n news ∧ v' ≠ .slice none 0 0 ∧ Below w.heap.size w w' := AnyE.slices_Clone Tryz.laysSlE041_f152 i0 z size bytes hi hz0 hz1 hz2 hzs hsz z23 b off n c news w hl hn hbig hc h1
open Go.RowKit Go.Lib in

theorem Tryz.slices_Clone_nil_f52 (n c : Nat) (w : World) :
    Calls Tryz.prog 52 #[.slice none n c] w fun e w' => e = .returned (.slice none 0 0) ∧ w' = w := AnyE.slices_Clone_nil Tryz.laysSlE041_f52 n c w
open Go.RowKit Go.Lib in

theorem Tryz.slices_Clone_nil_f152 (n c : Nat) (w : World) :
    Calls Tryz.prog 152 #[.slice none n c] w fun e w' => e = .returned (.slice none 0 0) ∧ w' = w := AnyE.slices_Clone_nil Tryz.laysSlE041_f152 n c w
end Go.Proofs
