/- Walks of the reference: divisor. · Walks of the reference: Common. · Walks: the reference's naturals: times. · Walks: the reference's whole numbers. -/
import Derived.Test.YtmlopkkbgpfdnabGreatM16
import Derived.Test.YtmlopkkbgpfdnabGreatM8
import Derived.Test.YtmlopkkbgpfdnabGreatM15
import Derived.Test.YtmlopkkbgpfdnabGreatM1
namespace Go.Proofs.YtmlopkkbgpfdnabGreat
open Go.RowKit

theorem u32_and_one (x : Nat) (hx : x < 4294967296) : bits BinOp.and IntKind.u32 (x : Int) 1 = ((x % 2 : Nat) : Int) := by
  show IntKind.u32.wrap ((BitVec.ofInt 32 (x : Int) &&& BitVec.ofInt 32 ((1 : Nat) : Int)).toNat : Int) = _
  rw [BitVec.toNat_and, ofInt_u32 x (by omega), ofInt_u32 1 (by omega), Nat.and_one_is_mod]
  exact IntWalk.u32_in _ (by omega)
theorem dg_mod2 (x : Nat) : dg x 0 % 2 = x % 2 := by
  unfold dg
  rw [Nat.pow_zero, Nat.div_one]
  omega
/-- the parity that the loop looks at -/
theorem par_at {w : World} {v : Value} {x : Nat} (h : Wd w v (dig x)) (hx : 0 < x) : ∃ b off n c, v = .slice (some ⟨b, off, none⟩) n c ∧ 0 < n ∧ ∃ p : Nat, w.cell? ⟨b, off, none⟩ = some (.int .u32 (p : Int)) ∧ bits BinOp.and IntKind.u32 (p : Int) 1 = ((x % 2 : Nat) : Int) := by
  obtain ⟨A, n, c, rfl⟩ := h.slice_
  have hl := h.len
  have hn : 0 < n := by rw [hl]; exact dig_len_pos.2 hx
  obtain ⟨b, off, rfl, hb, hc⟩ := Wd.cell (k := 0) h (by omega)
  have h0 := hc 0 hn
  rw [Nat.add_zero] at h0
  exact ⟨b, off, n, c, rfl, hn, dg x 0, h0, by rw [u32_and_one _ (dg_lt _ _), dg_mod2]⟩
open Classical in
noncomputable def wdNum (W : World) (v : Value) : Nat := if h : ∃ n, Wd W v (dig n) then h.choose else 0
theorem wdNum_eq {W : World} {A : Option Addr} {n c x : Nat} (h : Wd W (.slice A n c) (dig x)) : wdNum W (.slice A n c) = x := by
  unfold wdNum
  rw [dif_pos ⟨x, h⟩]
  exact dig_inj ((Classical.choose_spec (p := fun n' => Wd W (.slice A n c) (dig n')) ⟨x, h⟩).uniq h)
/-- between the rounds -/
structure DI (w wr : World) (L G : Nat) (va vb : Value) (a b : Nat) : Prop where
  wa : Wd wr va (dig a)
  wb : Wd wr vb (dig b)
  b0 : 0 < b
  ax : (dig a).length ≤ L
  bY : (dig b).length ≤ L
  gcd : Nat.gcd a b = G
  odd : a % 2 = 1 ∨ b % 2 = 1
  ex : Ext w wr
set_option maxHeartbeats 800000 in
set_option maxRecDepth 100000 in
/-- divisor -/
theorem divisor_any (x y L : Nat) (u v : Value) (w : World) (hx : Wd w u (dig x)) (hy : Wd w v (dig y)) (lx : (dig x).length ≤ L) (ly : (dig y).length ≤ L) (hL : L ≤ 400000) :
    Calls Tryz.prog 122 #[u, v] w fun e w' => ∃ r, e = .returned r ∧ Wd w' r (dig (Nat.gcd x y)) ∧ Below w.heap.size w w' := by
  obtain ⟨A, n, c, rfl⟩ := hx.slice_
  obtain ⟨A', n', c', rfl⟩ := hy.slice_
  have en := hx.len; have en' := hy.len
  have pn : 0 < n ↔ 0 < x := by rw [en]; exact dig_len_pos
  have pn' : 0 < n' ↔ 0 < y := by rw [en']; exact dig_len_pos
  have Hx := Lib.hid hx; have Hy := Lib.hid hy; have HL := Lib.hid (And.intro lx ly)
  clear hx hy en en' lx ly
  by_cases hz : n = 0 ∨ n' = 0
  · have hg : Nat.gcd x y = x + y := by
      rcases hz with h | h
      · have : x = 0 := by omega
        subst this; simp
      · have : y = 0 := by omega
        subst this; simp
    have pl := plusR_any x y _ _ w Hx.out Hy.out (Nat.le_trans HL.out.1 (by omega)) (Nat.le_trans HL.out.2 (by omega))
    rw [← hg] at pl
    have PL := Lib.hid pl
    clear pl hg
    go_enter Tryz.func122, Tryz.ntmps122
    rcases Nat.eq_zero_or_pos n with hn0 | hn0
    · subst hn0
      go_wp2_with fail
      refine PL.out.mono ?_
      rintro e w1 ⟨r, rfl, hr, hb⟩
      go_wp2
      go_ret
      exact ⟨r, rfl, hr, hb⟩
    · have hn1 : n' = 0 := by omega
      subst hn1
      have hni : ¬ n = 0 := by omega
      go_wp2_with fail
      refine PL.out.mono ?_
      rintro e w1 ⟨r, rfl, hr, hb⟩
      go_wp2
      go_ret
      exact ⟨r, rfl, hr, hb⟩
  · have h1 : ¬ n = 0 := by omega
    have h2 : ¬ n' = 0 := by omega
    have hx0 : 0 < x := by omega
    have hy0 : 0 < y := by omega
    clear hz pn pn'
    have h1b : ((n : Int) == 0) = false := by simp; omega
    have h2b : ((n' : Int) == 0) = false := by simp; omega
    go_enter Tryz.func122, Tryz.ntmps122
    go_wp2_with fail
    go_loopw [0, 1, 5] (fun va vb sv wr => ∃ (A1 : Option Addr) (n1 c1 : Nat) (A2 : Option Addr) (n2 c2 a b s : Nat), va = .slice A1 n1 c1 ∧ vb = .slice A2 n2 c2 ∧ sv = .int .i64 s ∧ Hid (0 < a ∧ 0 < b ∧ x = 2 ^ s * a ∧ y = 2 ^ s * b ∧ Wd wr (.slice A1 n1 c1) (dig a) ∧ Wd wr (.slice A2 n2 c2) (dig b) ∧ Ext w wr)) (fun _ _ sv _ => x - (intOf sv).toNat)
    case atStart => exact ⟨_, _, _, _, _, _, x, y, 0, rfl, rfl, rfl, Lib.hid ⟨hx0, hy0, by rw [Nat.pow_zero, Nat.one_mul], by rw [Nat.pow_zero, Nat.one_mul], Hx.out, Hy.out, Ext.refl _⟩⟩
    case round =>
      obtain ⟨A1, n1, c1, A2, n2, c2, a, b, s, rfl, rfl, rfl, hI⟩ := hrel
      obtain ⟨ha, hb, hxa, hyb, hwa, hwb, he⟩ := hI.out
      obtain ⟨ba, oa, na, ca, he1, hna, pa, hca, hpa⟩ := par_at hwa ha
      obtain ⟨bb, ob, nb, cb, he2, hnb, pb, hcb, hpb⟩ := par_at hwb hb
      injection he1 with he11 he12 he13
      injection he2 with he21 he22 he23
      subst he11 he12 he13 he21 he22 he23
      have HPA := Lib.hid hpa; have HPB := Lib.hid hpb
      obtain ⟨ea, hea⟩ : ∃ k, k = a % 2 := ⟨_, rfl⟩
      obtain ⟨eb, heb⟩ : ∃ k, k = b % 2 := ⟨_, rfl⟩
      rw [← hea] at HPA hpa
      rw [← heb] at HPB hpb
      have hs0 : s < x := by
        have h1 : s < 2 ^ s := Nat.lt_two_pow_self
        have h2 : 2 ^ s * 1 ≤ 2 ^ s * a := Nat.mul_le_mul_left _ ha
        omega
      have hsL : s < 9223372036854775807 := by
        have h1 : 2 ^ s ≤ x := by rw [hxa]; exact Nat.le_mul_of_pos_right _ ha
        have h2 := lt_of_dig_len HL.out.1
        have h3 : (4294967296 : Nat) ^ L = 2 ^ (32 * L) := by rw [Nat.pow_mul]
        have h4 : 2 ^ s < 2 ^ (32 * L) := by omega
        have := (Nat.pow_lt_pow_iff_right (a := 2) (by omega)).1 h4
        omega
      by_cases e1 : ea = 0
      · by_cases e2 : eb = 0
        · have r1 : ((ea : Nat) : Int) = 0 := by omega
          have r2 : ((eb : Nat) : Int) = 0 := by omega
          rw [r1] at hpa
          rw [r2] at hpb
          have hax : a ≤ x := by rw [hxa]; exact Nat.le_mul_of_pos_left _ (Nat.pow_pos (by omega))
          have hby : b ≤ y := by rw [hyb]; exact Nat.le_mul_of_pos_left _ (Nat.pow_pos (by omega))
          have h1 := half_any a _ wr hwa (Nat.le_trans (len_mono hax) (Nat.le_trans HL.out.1 (by omega)))
          have h2 := fun W (e : Ext wr W) => half_any b _ W (hwb.below e) (Nat.le_trans (len_mono hby) (Nat.le_trans HL.out.2 (by omega)))
          have H1 := Lib.hid h1; have H2 := Lib.hid h2; have HE := Lib.hid he
          have HN : Hid (0 < a / 2 ∧ 0 < b / 2 ∧ x = 2 ^ (s + 1) * (a / 2) ∧ y = 2 ^ (s + 1) * (b / 2)) := Lib.hid ⟨by omega, by omega,
            by rw [Nat.pow_succ, Nat.mul_assoc, show 2 * (a / 2) = a by omega]; exact hxa, by rw [Nat.pow_succ, Nat.mul_assoc, show 2 * (b / 2) = b by omega]; exact hyb⟩
          clear h1 h2 hxa hyb hax hby hwa hwb he hI ha hb hea heb e1 e2 hx0 hy0
          go_wp2_with fail
          refine H1.out.mono ?_
          rintro e w1 ⟨r3, rfl, y1, x1⟩
          obtain ⟨A3, n3, c3, rfl⟩ := y1.slice_
          have Y1 := Lib.hid y1; have X1 := Lib.hid x1; clear y1 x1
          go_wp2_with fail
          refine (H2.out _ X1.out).mono ?_
          rintro e w2 ⟨r4, rfl, y2, x2⟩
          obtain ⟨A4, n4, c4, rfl⟩ := y2.slice_
          have Y2 := Lib.hid y2; have X2 := Lib.hid x2; clear y2 x2
          have hsn : IntKind.i64.wrap ((s : Int) + 1) = (s : Int) + 1 := IntWalk.i64_in _ (by omega)
          go_wp2
          go_roundw
          case rel => exact ⟨_, _, _, _, _, _, a / 2, b / 2, s + 1, rfl, rfl, (show Value.int .i64 ((s : Int) + 1) = .int .i64 ((s + 1 : Nat) : Int) by go_num), Lib.hid ⟨HN.out.1, HN.out.2.1, HN.out.2.2.1, HN.out.2.2.2, Wd.below Y1.out X2.out, Y2.out, (Ext.trans HE.out X1.out).trans X2.out⟩⟩
          case measure => simp [intOf]; omega
        · have r1 : ((ea : Nat) : Int) = 0 := by omega
          have r2 : ((eb : Nat) : Int) = 1 := by omega
          have hodd : a % 2 = 1 ∨ b % 2 = 1 := by omega
          rw [r1] at hpa
          rw [r2] at hpb
          go_wp2_with fail
          have hG : 2 ^ s * Nat.gcd a b = Nat.gcd x y := by rw [hxa, hyb, Nat.gcd_mul_left]
          obtain ⟨G, hGe⟩ : ∃ G, G = Nat.gcd a b := ⟨_, rfl⟩
          rw [← hGe] at hG
          have hax : a ≤ x := by rw [hxa]; exact Nat.le_mul_of_pos_left _ (Nat.pow_pos (by omega))
          have hby : b ≤ y := by rw [hyb]; exact Nat.le_mul_of_pos_left _ (Nat.pow_pos (by omega))
          have HI2 : Hid (DI w wr L G (.slice (some ⟨ba, oa, none⟩) n1 c1) (.slice (some ⟨bb, ob, none⟩) n2 c2) a b) := Lib.hid ⟨hwa, hwb, hb, Nat.le_trans (len_mono hax) HL.out.1, Nat.le_trans (len_mono hby) HL.out.2, hGe.symm, hodd, he⟩
          have HS := Lib.hid (And.intro hG (And.intro hs0 hx0))
          clear hxa hyb hax hby hGe hG hI hodd hwa hwb he hca hcb HPA HPB hs0 hx0 hy0 ha hb hea heb Hx Hy
          go_loopw [0, 1] (fun va vb wr => ∃ (A1 : Option Addr) (n1 c1 : Nat) (A2 : Option Addr) (n2 c2 a b : Nat), va = .slice A1 n1 c1 ∧ vb = .slice A2 n2 c2 ∧ Hid (DI w wr L G (.slice A1 n1 c1) (.slice A2 n2 c2) a b)) (fun va vb wr => wdNum wr va + wdNum wr vb)
          case atStart => exact ⟨_, _, _, _, _, _, _, _, rfl, rfl, HI2⟩
          case round =>
            clear HI2
            obtain ⟨A1, n1, c1, A2, n2, c2, a, b, rfl, rfl, hD⟩ := hrel
            obtain ⟨hwa, hwb, hb, hax, hby, hgc, hodd, he⟩ := hD.out
            have pn : 0 < n1 ↔ 0 < a := by rw [hwa.len]; exact dig_len_pos
            have HM := Lib.hid (And.intro (wdNum_eq hwa) (wdNum_eq hwb))
            by_cases hn1 : n1 = 0
            · have ha0 : a = 0 := by omega
              subst ha0 hn1
              rw [Nat.gcd_zero_left] at hgc
              rw [hgc] at hwb hby
              have HB := Lib.hid hwb; have HE := Lib.hid he
              have HLG : Hid (∀ i, i ≤ s → (dig (2 ^ i * G)).length ≤ 400000) := Lib.hid (fun i hi => by
                refine Nat.le_trans (len_mono (b := x) ?_) (Nat.le_trans HL.out.1 hL)
                refine Nat.le_trans (Nat.mul_le_mul_right _ (Nat.pow_le_pow_right (by omega) hi)) ?_
                rw [HS.out.1]; exact Nat.gcd_le_left _ HS.out.2.2)
              clear hwa hwb he hD hax hby hodd hb pn HM
              go_wp2_with fail
              go_loopw [1, 62] (fun vb iv w5 => ∃ (A2 : Option Addr) (n2 c2 i : Nat), vb = .slice A2 n2 c2 ∧ iv = .int .i64 i ∧ i ≤ s ∧ Hid (Wd w5 (.slice A2 n2 c2) (dig (2 ^ i * G)) ∧ Ext w w5)) (fun _ iv _ => s - (intOf iv).toNat)
              case atStart => exact ⟨_, _, _, 0, rfl, rfl, Nat.zero_le _, Lib.hid ⟨by rw [Nat.pow_zero, Nat.one_mul]; exact HB.out, HE.out⟩⟩
              case round =>
                obtain ⟨A2, n2, c2, i, rfl, rfl, hi, hI⟩ := hrel
                by_cases his : i < s
                · have hii : (i : Int) < (s : Int) := by omega
                  have pl := plusR_any (2 ^ i * G) (2 ^ i * G) _ _ _ hI.out.1 hI.out.1 (Nat.le_trans (HLG.out i hi) (by omega)) (Nat.le_trans (HLG.out i hi) (by omega))
                  rw [show 2 ^ i * G + 2 ^ i * G = 2 ^ (i + 1) * G by rw [Nat.pow_succ]; grind] at pl
                  have PL := Lib.hid pl
                  clear pl
                  have hsn : IntKind.i64.wrap ((i : Int) + 1) = (i : Int) + 1 := IntWalk.i64_in _ (by omega)
                  go_wp2_with fail
                  refine PL.out.mono ?_
                  rintro e w6 ⟨r6, rfl, y6, x6⟩
                  obtain ⟨A6, n6, c6, rfl⟩ := y6.slice_
                  have Y6 := Lib.hid y6; have X6 := Lib.hid x6; clear y6 x6
                  go_wp2
                  go_roundw
                  case rel => exact ⟨_, _, _, i + 1, rfl, by go_num, by omega, Lib.hid ⟨Y6.out, Ext.trans hI.out.2 X6.out⟩⟩
                  case measure => simp [intOf]; omega
                · have his2 : i = s := by omega
                  subst his2
                  have hii : ¬ (i : Int) < (i : Int) := by omega
                  have HF := Lib.hid (show Wd _ (.slice A2 n2 c2) (dig (Nat.gcd x y)) by rw [← HS.out.1]; exact hI.out.1)
                  go_wp2
                  go_ret
                  exact ⟨_, rfl, HF.out, hI.out.2⟩
            · have ha0 : 0 < a := by omega
              have h0n : 0 < n1 := by omega
              have HI3 : Hid (DI w wr L G (.slice A1 n1 c1) (.slice A2 n2 c2) a b ∧ 0 < a) := Lib.hid ⟨hD.out, ha0⟩
              clear hwa hwb hb hax hby hgc hodd he pn
              go_wp2_with fail
              go_loopw [0] (fun va w3 => ∃ (A1 : Option Addr) (n1 c1 a' : Nat), va = .slice A1 n1 c1 ∧ Hid (DI w w3 L G (.slice A1 n1 c1) (.slice A2 n2 c2) a' b ∧ 0 < a' ∧ a' ≤ a)) (fun va w3 => wdNum w3 va)
              case atStart => exact ⟨_, _, _, _, rfl, Lib.hid ⟨HI3.out.1, HI3.out.2, Nat.le_refl _⟩⟩
              case round =>
                obtain ⟨A3, n3, c3, a3, rfl, hD3⟩ := hrel
                obtain ⟨hI, ha3, hle⟩ := hD3.out
                obtain ⟨ba, oa, na, ca, he1, hna, pa, hca, hpa⟩ := par_at hI.wa ha3
                injection he1 with he11 he12 he13
                subst he11 he12 he13
                obtain ⟨ea, hea⟩ : ∃ k, k = a3 % 2 := ⟨_, rfl⟩
                rw [← hea] at hpa
                have HM3 := Lib.hid (wdNum_eq hI.wa)
                have HI0 := Lib.hid hI
                by_cases e1 : ea = 0
                · have r1 : ((ea : Nat) : Int) = 0 := by omega
                  rw [r1] at hpa
                  have hl := Lib.hid (half_any a3 _ _ hI.wa (Nat.le_trans hI.ax (by omega)))
                  have hg := Lib.hid ((gcd_half_left (show a3 % 2 = 0 by omega) (show b % 2 = 1 by rcases hI.odd with h | h <;> omega)).trans hI.gcd)
                  have hob := Lib.hid (show b % 2 = 1 by rcases hI.odd with h | h <;> omega)
                  have hpos3 : 0 < a3 / 2 := by omega
                  clear hI hea e1
                  go_wp2_with fail
                  refine hl.out.mono ?_
                  rintro e w4 ⟨r4, rfl, y4, x4⟩
                  obtain ⟨A4, n4, c4, rfl⟩ := y4.slice_
                  have Y4 := Lib.hid y4; have X4 := Lib.hid x4; clear y4 x4
                  go_wp2
                  go_roundw
                  case rel =>
                    have hI := HI0.out
                    exact ⟨_, _, _, a3 / 2, rfl, Lib.hid ⟨⟨Y4.out, Wd.below hI.wb X4.out, hI.b0, Nat.le_trans (len_mono (Nat.div_le_self _ _)) hI.ax, hI.bY, hg.out, .inr hob.out, Ext.trans hI.ex X4.out⟩, hpos3, by omega⟩⟩
                  case measure =>
                    rw [HM3.out, wdNum_eq Y4.out]; omega
                · have r1 : ((ea : Nat) : Int) = 1 := by omega
                  rw [r1] at hpa
                  have hoa : a3 % 2 = 1 := by omega
                  clear hI hea
                  go_wp2_with fail
                  go_loopw [1] (fun vb w4 => ∃ (A4 : Option Addr) (n4 c4 b' : Nat), vb = .slice A4 n4 c4 ∧ Hid (DI w w4 L G (.slice (some ⟨ba, oa, none⟩) n3 c3) (.slice A4 n4 c4) a3 b' ∧ b' ≤ b)) (fun vb w4 => wdNum w4 vb)
                  case atStart => exact ⟨_, _, _, _, rfl, Lib.hid ⟨HI0.out, Nat.le_refl _⟩⟩
                  case round =>
                    obtain ⟨A4, n4, c4, b4, rfl, hD4⟩ := hrel
                    obtain ⟨hI, hle4⟩ := hD4.out
                    obtain ⟨bb, ob, nb, cb, he2, hnb, pb, hcb, hpb⟩ := par_at hI.wb hI.b0
                    injection he2 with he21 he22 he23
                    subst he21 he22 he23
                    obtain ⟨eb, heb⟩ : ∃ k, k = b4 % 2 := ⟨_, rfl⟩
                    rw [← heb] at hpb
                    have HM4 := Lib.hid (wdNum_eq hI.wb)
                    have HI4 := Lib.hid hI
                    have b40 := hI.b0
                    by_cases e2 : eb = 0
                    · have r2 : ((eb : Nat) : Int) = 0 := by omega
                      rw [r2] at hpb
                      have hl := Lib.hid (half_any b4 _ _ hI.wb (Nat.le_trans hI.bY (by omega)))
                      have hg := Lib.hid ((gcd_half_right hoa (show b4 % 2 = 0 by omega)).trans hI.gcd)
                      have hpos : 0 < b4 / 2 := by omega
                      clear hI heb e2
                      go_wp2_with fail
                      refine hl.out.mono ?_
                      rintro e w5 ⟨r5, rfl, y5, x5⟩
                      obtain ⟨A5, n5, c5, rfl⟩ := y5.slice_
                      have Y5 := Lib.hid y5; have X5 := Lib.hid x5; clear y5 x5
                      go_wp2
                      go_roundw
                      case rel =>
                        have hI := HI4.out
                        exact ⟨_, _, _, b4 / 2, rfl, Lib.hid ⟨⟨Wd.below hI.wa X5.out, Y5.out, hpos, hI.ax, Nat.le_trans (len_mono (Nat.div_le_self _ _)) hI.bY, hg.out, .inl hoa, Ext.trans hI.ex X5.out⟩, by omega⟩⟩
                      case measure =>
                        rw [HM4.out, wdNum_eq Y5.out]; omega
                    · have r2 : ((eb : Nat) : Int) = 1 := by omega
                      rw [r2] at hpb
                      have hob : b4 % 2 = 1 := by omega
                      have OR := Lib.hid (orderR_any a3 b4 _ _ _ hI.wa hI.wb)
                      have hb0 : 0 < b := by omega
                      clear hI heb
                      go_wp2_with fail
                      refine OR.out.mono ?_
                      rintro e w5 ⟨rfl, q, rfl⟩
                      obtain ⟨cv, hcv⟩ : ∃ cv, cv = cmpN a3 b4 := ⟨_, rfl⟩
                      rw [← hcv]
                      by_cases hlt : a3 < b4
                      · rw [cmpN_lt hlt] at hcv
                        have hcn : cv < 0 := by omega
                        have LE := Lib.hid (fun W (h1 : Wd W (.slice (some ⟨bb, ob, none⟩) n4 c4) (dig b4)) (h2 : Wd W (.slice (some ⟨ba, oa, none⟩) n3 c3) (dig a3)) => lessR_any b4 a3 _ _ W h1 h2 (Nat.le_trans HI4.out.bY (by omega)) (by omega))
                        clear hcv OR
                        go_wp2_with fail
                        refine (LE.out _ (Wd.drewN HI4.out.wb q) (Wd.drewN HI4.out.wa q)).mono ?_
                        rintro e w6 ⟨r6, rfl, y6, x6⟩
                        obtain ⟨A6, n6, c6, rfl⟩ := y6.slice_
                        have X6 : Hid (Ext wr w6) := Lib.hid (undrewN (W := wr) (k := q) x6)
                        have Y6 := Lib.hid y6; clear y6 x6
                        go_wp2
                        go_roundw
                        case rel =>
                          have hI := HI4.out
                          exact ⟨_, _, _, _, _, _, b4 - a3, a3, rfl, rfl, Lib.hid ⟨Y6.out, Wd.below hI.wa X6.out, by omega, Nat.le_trans (len_mono (Nat.sub_le _ _)) hI.bY, hI.ax, (gcd_less (by omega)).trans ((Nat.gcd_comm _ _).trans hI.gcd), .inr hoa, Ext.trans hI.ex X6.out⟩⟩
                        case measure =>
                          have e1 := wdNum_eq Y6.out
                          have e2 := wdNum_eq (Wd.below HI4.out.wa X6.out)
                          rw [HM.out.1, HM.out.2, e1, e2]; omega
                      · have hcn : ¬ cv < 0 := by rw [hcv]; unfold cmpN; split <;> omega
                        have LE := Lib.hid (fun W (h1 : Wd W (.slice (some ⟨ba, oa, none⟩) n3 c3) (dig a3)) (h2 : Wd W (.slice (some ⟨bb, ob, none⟩) n4 c4) (dig b4)) => lessR_any a3 b4 _ _ W h1 h2 (Nat.le_trans HI4.out.ax (by omega)) (by omega))
                        clear hcv OR
                        go_wp2_with fail
                        refine (LE.out _ (Wd.drewN HI4.out.wa q) (Wd.drewN HI4.out.wb q)).mono ?_
                        rintro e w6 ⟨r6, rfl, y6, x6⟩
                        obtain ⟨A6, n6, c6, rfl⟩ := y6.slice_
                        have X6 : Hid (Ext wr w6) := Lib.hid (undrewN (W := wr) (k := q) x6)
                        have Y6 := Lib.hid y6; clear y6 x6
                        go_wp2
                        go_roundw
                        case rel =>
                          have hI := HI4.out
                          exact ⟨_, _, _, _, _, _, a3 - b4, b4, rfl, rfl, Lib.hid ⟨Y6.out, Wd.below hI.wb X6.out, by omega, Nat.le_trans (len_mono (Nat.sub_le _ _)) hI.ax, hI.bY, (gcd_less (by omega)).trans hI.gcd, .inr hob, Ext.trans hI.ex X6.out⟩⟩
                        case measure =>
                          have e1 := wdNum_eq Y6.out
                          have e2 := wdNum_eq (Wd.below HI4.out.wb X6.out)
                          rw [HM.out.1, HM.out.2, e1, e2]; omega
      · have r1 : ((ea : Nat) : Int) = 1 := by omega
        have hodd : a % 2 = 1 ∨ b % 2 = 1 := by omega
        rw [r1] at hpa
        go_wp2_with fail
        have hG : 2 ^ s * Nat.gcd a b = Nat.gcd x y := by rw [hxa, hyb, Nat.gcd_mul_left]
        obtain ⟨G, hGe⟩ : ∃ G, G = Nat.gcd a b := ⟨_, rfl⟩
        rw [← hGe] at hG
        have hax : a ≤ x := by rw [hxa]; exact Nat.le_mul_of_pos_left _ (Nat.pow_pos (by omega))
        have hby : b ≤ y := by rw [hyb]; exact Nat.le_mul_of_pos_left _ (Nat.pow_pos (by omega))
        have HI2 : Hid (DI w wr L G (.slice (some ⟨ba, oa, none⟩) n1 c1) (.slice (some ⟨bb, ob, none⟩) n2 c2) a b) := Lib.hid ⟨hwa, hwb, hb, Nat.le_trans (len_mono hax) HL.out.1, Nat.le_trans (len_mono hby) HL.out.2, hGe.symm, hodd, he⟩
        have HS := Lib.hid (And.intro hG (And.intro hs0 hx0))
        clear hxa hyb hax hby hGe hG hI hodd hwa hwb he hca hcb HPA HPB hs0 hx0 hy0 ha hb hea heb Hx Hy
        go_loopw [0, 1] (fun va vb wr => ∃ (A1 : Option Addr) (n1 c1 : Nat) (A2 : Option Addr) (n2 c2 a b : Nat), va = .slice A1 n1 c1 ∧ vb = .slice A2 n2 c2 ∧ Hid (DI w wr L G (.slice A1 n1 c1) (.slice A2 n2 c2) a b)) (fun va vb wr => wdNum wr va + wdNum wr vb)
        case atStart => exact ⟨_, _, _, _, _, _, _, _, rfl, rfl, HI2⟩
        case round =>
          clear HI2
          obtain ⟨A1, n1, c1, A2, n2, c2, a, b, rfl, rfl, hD⟩ := hrel
          obtain ⟨hwa, hwb, hb, hax, hby, hgc, hodd, he⟩ := hD.out
          have pn : 0 < n1 ↔ 0 < a := by rw [hwa.len]; exact dig_len_pos
          have HM := Lib.hid (And.intro (wdNum_eq hwa) (wdNum_eq hwb))
          by_cases hn1 : n1 = 0
          · have ha0 : a = 0 := by omega
            subst ha0 hn1
            rw [Nat.gcd_zero_left] at hgc
            rw [hgc] at hwb hby
            have HB := Lib.hid hwb; have HE := Lib.hid he
            have HLG : Hid (∀ i, i ≤ s → (dig (2 ^ i * G)).length ≤ 400000) := Lib.hid (fun i hi => by
              refine Nat.le_trans (len_mono (b := x) ?_) (Nat.le_trans HL.out.1 hL)
              refine Nat.le_trans (Nat.mul_le_mul_right _ (Nat.pow_le_pow_right (by omega) hi)) ?_
              rw [HS.out.1]; exact Nat.gcd_le_left _ HS.out.2.2)
            clear hwa hwb he hD hax hby hodd hb pn HM
            go_wp2_with fail
            go_loopw [1, 62] (fun vb iv w5 => ∃ (A2 : Option Addr) (n2 c2 i : Nat), vb = .slice A2 n2 c2 ∧ iv = .int .i64 i ∧ i ≤ s ∧ Hid (Wd w5 (.slice A2 n2 c2) (dig (2 ^ i * G)) ∧ Ext w w5)) (fun _ iv _ => s - (intOf iv).toNat)
            case atStart => exact ⟨_, _, _, 0, rfl, rfl, Nat.zero_le _, Lib.hid ⟨by rw [Nat.pow_zero, Nat.one_mul]; exact HB.out, HE.out⟩⟩
            case round =>
              obtain ⟨A2, n2, c2, i, rfl, rfl, hi, hI⟩ := hrel
              by_cases his : i < s
              · have hii : (i : Int) < (s : Int) := by omega
                have pl := plusR_any (2 ^ i * G) (2 ^ i * G) _ _ _ hI.out.1 hI.out.1 (Nat.le_trans (HLG.out i hi) (by omega)) (Nat.le_trans (HLG.out i hi) (by omega))
                rw [show 2 ^ i * G + 2 ^ i * G = 2 ^ (i + 1) * G by rw [Nat.pow_succ]; grind] at pl
                have PL := Lib.hid pl
                clear pl
                have hsn : IntKind.i64.wrap ((i : Int) + 1) = (i : Int) + 1 := IntWalk.i64_in _ (by omega)
                go_wp2_with fail
                refine PL.out.mono ?_
                rintro e w6 ⟨r6, rfl, y6, x6⟩
                obtain ⟨A6, n6, c6, rfl⟩ := y6.slice_
                have Y6 := Lib.hid y6; have X6 := Lib.hid x6; clear y6 x6
                go_wp2
                go_roundw
                case rel => exact ⟨_, _, _, i + 1, rfl, by go_num, by omega, Lib.hid ⟨Y6.out, Ext.trans hI.out.2 X6.out⟩⟩
                case measure => simp [intOf]; omega
              · have his2 : i = s := by omega
                subst his2
                have hii : ¬ (i : Int) < (i : Int) := by omega
                have HF := Lib.hid (show Wd _ (.slice A2 n2 c2) (dig (Nat.gcd x y)) by rw [← HS.out.1]; exact hI.out.1)
                go_wp2
                go_ret
                exact ⟨_, rfl, HF.out, hI.out.2⟩
          · have ha0 : 0 < a := by omega
            have h0n : 0 < n1 := by omega
            have HI3 : Hid (DI w wr L G (.slice A1 n1 c1) (.slice A2 n2 c2) a b ∧ 0 < a) := Lib.hid ⟨hD.out, ha0⟩
            clear hwa hwb hb hax hby hgc hodd he pn
            go_wp2_with fail
            go_loopw [0] (fun va w3 => ∃ (A1 : Option Addr) (n1 c1 a' : Nat), va = .slice A1 n1 c1 ∧ Hid (DI w w3 L G (.slice A1 n1 c1) (.slice A2 n2 c2) a' b ∧ 0 < a' ∧ a' ≤ a)) (fun va w3 => wdNum w3 va)
            case atStart => exact ⟨_, _, _, _, rfl, Lib.hid ⟨HI3.out.1, HI3.out.2, Nat.le_refl _⟩⟩
            case round =>
              obtain ⟨A3, n3, c3, a3, rfl, hD3⟩ := hrel
              obtain ⟨hI, ha3, hle⟩ := hD3.out
              obtain ⟨ba, oa, na, ca, he1, hna, pa, hca, hpa⟩ := par_at hI.wa ha3
              injection he1 with he11 he12 he13
              subst he11 he12 he13
              obtain ⟨ea, hea⟩ : ∃ k, k = a3 % 2 := ⟨_, rfl⟩
              rw [← hea] at hpa
              have HM3 := Lib.hid (wdNum_eq hI.wa)
              have HI0 := Lib.hid hI
              by_cases e1 : ea = 0
              · have r1 : ((ea : Nat) : Int) = 0 := by omega
                rw [r1] at hpa
                have hl := Lib.hid (half_any a3 _ _ hI.wa (Nat.le_trans hI.ax (by omega)))
                have hg := Lib.hid ((gcd_half_left (show a3 % 2 = 0 by omega) (show b % 2 = 1 by rcases hI.odd with h | h <;> omega)).trans hI.gcd)
                have hob := Lib.hid (show b % 2 = 1 by rcases hI.odd with h | h <;> omega)
                have hpos3 : 0 < a3 / 2 := by omega
                clear hI hea e1
                go_wp2_with fail
                refine hl.out.mono ?_
                rintro e w4 ⟨r4, rfl, y4, x4⟩
                obtain ⟨A4, n4, c4, rfl⟩ := y4.slice_
                have Y4 := Lib.hid y4; have X4 := Lib.hid x4; clear y4 x4
                go_wp2
                go_roundw
                case rel =>
                  have hI := HI0.out
                  exact ⟨_, _, _, a3 / 2, rfl, Lib.hid ⟨⟨Y4.out, Wd.below hI.wb X4.out, hI.b0, Nat.le_trans (len_mono (Nat.div_le_self _ _)) hI.ax, hI.bY, hg.out, .inr hob.out, Ext.trans hI.ex X4.out⟩, hpos3, by omega⟩⟩
                case measure =>
                  rw [HM3.out, wdNum_eq Y4.out]; omega
              · have r1 : ((ea : Nat) : Int) = 1 := by omega
                rw [r1] at hpa
                have hoa : a3 % 2 = 1 := by omega
                clear hI hea
                go_wp2_with fail
                go_loopw [1] (fun vb w4 => ∃ (A4 : Option Addr) (n4 c4 b' : Nat), vb = .slice A4 n4 c4 ∧ Hid (DI w w4 L G (.slice (some ⟨ba, oa, none⟩) n3 c3) (.slice A4 n4 c4) a3 b' ∧ b' ≤ b)) (fun vb w4 => wdNum w4 vb)
                case atStart => exact ⟨_, _, _, _, rfl, Lib.hid ⟨HI0.out, Nat.le_refl _⟩⟩
                case round =>
                  obtain ⟨A4, n4, c4, b4, rfl, hD4⟩ := hrel
                  obtain ⟨hI, hle4⟩ := hD4.out
                  obtain ⟨bb, ob, nb, cb, he2, hnb, pb, hcb, hpb⟩ := par_at hI.wb hI.b0
                  injection he2 with he21 he22 he23
                  subst he21 he22 he23
                  obtain ⟨eb, heb⟩ : ∃ k, k = b4 % 2 := ⟨_, rfl⟩
                  rw [← heb] at hpb
                  have HM4 := Lib.hid (wdNum_eq hI.wb)
                  have HI4 := Lib.hid hI
                  have b40 := hI.b0
                  by_cases e2 : eb = 0
                  · have r2 : ((eb : Nat) : Int) = 0 := by omega
                    rw [r2] at hpb
                    have hl := Lib.hid (half_any b4 _ _ hI.wb (Nat.le_trans hI.bY (by omega)))
                    have hg := Lib.hid ((gcd_half_right hoa (show b4 % 2 = 0 by omega)).trans hI.gcd)
                    have hpos : 0 < b4 / 2 := by omega
                    clear hI heb e2
                    go_wp2_with fail
                    refine hl.out.mono ?_
                    rintro e w5 ⟨r5, rfl, y5, x5⟩
                    obtain ⟨A5, n5, c5, rfl⟩ := y5.slice_
                    have Y5 := Lib.hid y5; have X5 := Lib.hid x5; clear y5 x5
                    go_wp2
                    go_roundw
                    case rel =>
                      have hI := HI4.out
                      exact ⟨_, _, _, b4 / 2, rfl, Lib.hid ⟨⟨Wd.below hI.wa X5.out, Y5.out, hpos, hI.ax, Nat.le_trans (len_mono (Nat.div_le_self _ _)) hI.bY, hg.out, .inl hoa, Ext.trans hI.ex X5.out⟩, by omega⟩⟩
                    case measure =>
                      rw [HM4.out, wdNum_eq Y5.out]; omega
                  · have r2 : ((eb : Nat) : Int) = 1 := by omega
                    rw [r2] at hpb
                    have hob : b4 % 2 = 1 := by omega
                    have OR := Lib.hid (orderR_any a3 b4 _ _ _ hI.wa hI.wb)
                    have hb0 : 0 < b := by omega
                    clear hI heb
                    go_wp2_with fail
                    refine OR.out.mono ?_
                    rintro e w5 ⟨rfl, q, rfl⟩
                    obtain ⟨cv, hcv⟩ : ∃ cv, cv = cmpN a3 b4 := ⟨_, rfl⟩
                    rw [← hcv]
                    by_cases hlt : a3 < b4
                    · rw [cmpN_lt hlt] at hcv
                      have hcn : cv < 0 := by omega
                      have LE := Lib.hid (fun W (h1 : Wd W (.slice (some ⟨bb, ob, none⟩) n4 c4) (dig b4)) (h2 : Wd W (.slice (some ⟨ba, oa, none⟩) n3 c3) (dig a3)) => lessR_any b4 a3 _ _ W h1 h2 (Nat.le_trans HI4.out.bY (by omega)) (by omega))
                      clear hcv OR
                      go_wp2_with fail
                      refine (LE.out _ (Wd.drewN HI4.out.wb q) (Wd.drewN HI4.out.wa q)).mono ?_
                      rintro e w6 ⟨r6, rfl, y6, x6⟩
                      obtain ⟨A6, n6, c6, rfl⟩ := y6.slice_
                      have X6 : Hid (Ext wr w6) := Lib.hid (undrewN (W := wr) (k := q) x6)
                      have Y6 := Lib.hid y6; clear y6 x6
                      go_wp2
                      go_roundw
                      case rel =>
                        have hI := HI4.out
                        exact ⟨_, _, _, _, _, _, b4 - a3, a3, rfl, rfl, Lib.hid ⟨Y6.out, Wd.below hI.wa X6.out, by omega, Nat.le_trans (len_mono (Nat.sub_le _ _)) hI.bY, hI.ax, (gcd_less (by omega)).trans ((Nat.gcd_comm _ _).trans hI.gcd), .inr hoa, Ext.trans hI.ex X6.out⟩⟩
                      case measure =>
                        have e1 := wdNum_eq Y6.out
                        have e2 := wdNum_eq (Wd.below HI4.out.wa X6.out)
                        rw [HM.out.1, HM.out.2, e1, e2]; omega
                    · have hcn : ¬ cv < 0 := by rw [hcv]; unfold cmpN; split <;> omega
                      have LE := Lib.hid (fun W (h1 : Wd W (.slice (some ⟨ba, oa, none⟩) n3 c3) (dig a3)) (h2 : Wd W (.slice (some ⟨bb, ob, none⟩) n4 c4) (dig b4)) => lessR_any a3 b4 _ _ W h1 h2 (Nat.le_trans HI4.out.ax (by omega)) (by omega))
                      clear hcv OR
                      go_wp2_with fail
                      refine (LE.out _ (Wd.drewN HI4.out.wa q) (Wd.drewN HI4.out.wb q)).mono ?_
                      rintro e w6 ⟨r6, rfl, y6, x6⟩
                      obtain ⟨A6, n6, c6, rfl⟩ := y6.slice_
                      have X6 : Hid (Ext wr w6) := Lib.hid (undrewN (W := wr) (k := q) x6)
                      have Y6 := Lib.hid y6; clear y6 x6
                      go_wp2
                      go_roundw
                      case rel =>
                        have hI := HI4.out
                        exact ⟨_, _, _, _, _, _, a3 - b4, b4, rfl, rfl, Lib.hid ⟨Y6.out, Wd.below hI.wb X6.out, by omega, Nat.le_trans (len_mono (Nat.sub_le _ _)) hI.ax, hI.bY, (gcd_less (by omega)).trans hI.gcd, .inr hob, Ext.trans hI.ex X6.out⟩⟩
                      case measure =>
                        have e1 := wdNum_eq Y6.out
                        have e2 := wdNum_eq (Wd.below HI4.out.wb X6.out)
                        rw [HM.out.1, HM.out.2, e1, e2]; omega
end Go.Proofs.YtmlopkkbgpfdnabGreat
namespace Go.Proofs.YtmlopkkbgpfdnabGreat
open Go.RowKit

set_option maxHeartbeats 800000 in
set_option maxRecDepth 100000 in
/-- Common -/
theorem commonR_any (x y : Int) (u v : Value) (w : World) (hx : ZV w u x) (hy : ZV w v y) (lx : (dig x.natAbs).length ≤ 400000) (ly : (dig y.natAbs).length ≤ 400000) :
    Calls Tryz.prog 96 #[u, v] w (RetZ w (Int.gcd x y : Nat)) := by
  obtain ⟨A, n, c, rfl, hx0, -, -⟩ := hx.open_
  obtain ⟨A', n', c', rfl, hy0, -, -⟩ := hy.open_
  obtain ⟨p, hp⟩ : ∃ p, p = decide (x < 0) := ⟨_, rfl⟩
  obtain ⟨q, hq⟩ : ∃ q, q = decide (y < 0) := ⟨_, rfl⟩
  rw [← hp, ← hq]
  clear hp hq hx hy
  obtain ⟨W1, hW1⟩ : ∃ W1, W1 = ((w.alloc (Obj.cells #[.bool p, .slice A n c] 53)).alloc (Obj.cells #[.bool q, .slice A' n' c'] 53)).alloc (Obj.cells #[.bool false, .slice none 0 0] 53) := ⟨_, rfl⟩
  have e1 : Ext w W1 := by rw [hW1]; exact (((Ext.refl w).alc _).alc _).alc _
  have R1 : RB W1 (w.heap.size + 1 + 1) := by rw [hW1]; exact RB.a3 w false none 0 0 53 _ _
  have DV := Lib.hid (divisor_any x.natAbs y.natAbs 400000 _ _ W1 (Wd.below hx0 e1) (Wd.below hy0 e1) lx ly (by omega))
  have HR := Lib.hid R1; have HE := Lib.hid e1; have HW1 := Lib.hid hW1
  clear hW1 e1 R1 hx0 hy0 lx ly
  go_enter Tryz.func96, Tryz.ntmps96
  go_wp2_with fail
  rw [← HW1.out]
  refine DV.out.mono ?_
  rintro e w2 ⟨r, rfl, h2, x2⟩
  obtain ⟨A2, n2, c2, rfl⟩ := h2.slice_
  have l2 := h2.n_le
  have H2 := Lib.hid h2; have X2 := Lib.hid x2; clear h2 x2
  go_wp2_with fail
  refine (signedR_any _ _ _ _ _ l2).mono ?_
  rintro e w3 ⟨rfl, x3⟩
  rw [Bool.false_and]
  have X3 := Lib.hid x3; clear x3
  have R3 := HR.out.ext (Ext.trans X2.out X3.out)
  obtain ⟨_, _, _, _, g0, g1, g2, g3⟩ := R3.facts
  have s0 := R3.set0 false (.slice A2 n2 c2); have s1 := R3.set1 false (.slice A2 n2 c2)
  have hz : ZV w3 (.agg #[.bool false, .slice A2 n2 c2]) ((Int.gcd x y : Nat) : Int) := ZV.mk (by simp) (by rw [Int.natAbs_natCast]; exact Wd.below H2.out X3.out)
  have hz2 := hz.rb R3 (.bool false) (.slice A2 n2 c2)
  have hbf := below_set2 ((HE.out.trans X2.out).trans X3.out) (i := 0) (j := 1) (show w.heap.size ≤ w.heap.size + 1 + 1 by omega) (.bool false) (.slice A2 n2 c2)
  have F := Lib.hid (And.intro s0 (And.intro s1 (And.intro hz2 hbf)))
  clear s0 s1 hz hz2 hbf R3
  go_wp2
  obtain ⟨s0, s1, hz, hbf⟩ := F.out
  exact bodyPost_ret (v := .agg #[.bool false, .slice A2 n2 c2]) (by simp [results, Tryz.results96, go_sem, s0, s1]) rfl ⟨_, rfl, hz, hbf⟩
end Go.Proofs.YtmlopkkbgpfdnabGreat
namespace Go.Proofs.YtmlopkkbgpfdnabGreat
open Go.RowKit

set_option maxRecDepth 100000 in
/-- ref times -/
theorem timesR_any (x y : Nat) (u v : Value) (w : World) (hx : Wd w u (dig x)) (hy : Wd w v (dig y)) (lx : (dig x).length ≤ 1000000) (ly : (dig y).length ≤ 1000000) :
    Calls Tryz.prog 116 #[u, v] w fun e w' => ∃ r, e = .returned r ∧ Wd w' r (dig (x * y)) ∧ Below w.heap.size w w' := by
  obtain ⟨A, c, rfl, -, -⟩ := hx.shape
  obtain ⟨A', c', rfl, -, -⟩ := hy.shape
  obtain ⟨n, hn⟩ : ∃ n, n = (dig x).length := ⟨_, rfl⟩
  obtain ⟨m, hm⟩ : ∃ m, m = (dig y).length := ⟨_, rfl⟩
  rw [← hn] at lx hx ⊢
  rw [← hm] at ly hy ⊢
  have Hn := Lib.hid hn; clear hn
  have Hm := Lib.hid hm; clear hm
  have Hx := Lib.hid hx; clear hx
  have Hy := Lib.hid hy; clear hy
  have hmk : ∀ w, (Instr.makeSlice 51 (.int .i64 ((n : Int) + m)) (.int .i64 ((n : Int) + m))).run Tryz.prog w = .ok (.slice (some ⟨w.heap.size, 0, none⟩) (n + m) (n + m)) (w.alloc (.cells (U32s (zeros (n + m))) 75)) := fun w => make_u32 51 Tryz.underlying51 (n + m) (by omega) w
  go_enter Tryz.func116, Tryz.ntmps116
  go_wp2_with fail
  go_loopw [19] (fun i wr => ∃ (k : Nat) (L : List Nat), i = .int .i64 k ∧ k ≤ n ∧ L.length = n + m ∧ Ok L ∧ Blk wr w.heap.size L ∧ Below w.heap.size w wr ∧
      val L = x % 4294967296 ^ k * y ∧ ∀ p, k + m ≤ p → L.getD p 0 = 0) (fun i _ => n - (intOf i).toNat)
  case atStart => exact ⟨0, zeros (n + m), rfl, Nat.zero_le _, zeros_length _, zeros_ok _, heap_alloc_new w _, below_alloc _ _, by simp [val_zeros, Nat.mod_one], fun p _ => zeros_getD _ p⟩
  case round =>
    obtain ⟨k, L, rfl, hk, hL, hok, hblk, hbel, hval, hz⟩ := hrel
    have HV := Lib.hid hval; clear hval
    have HL := Lib.hid hL; clear hL
    have HZ := Lib.hid hz; clear hz
    have HB := Lib.hid hblk; clear hblk
    by_cases hlt : k < n
    · obtain ⟨b, off, rfl, hb, hcx⟩ := Wd.cell (k := k) Hx.out hlt
      have h1 : wr.cell? ⟨b, off + k, none⟩ = some (.int .u32 (dg x k : Nat)) := (hbel.cell (p := ⟨b, off + k, none⟩) hb).trans (hcx k hlt)
      clear hcx
      obtain ⟨p, hp⟩ : ∃ p, p = dg x k := ⟨_, rfl⟩
      have hpl : p < 4294967296 := by rw [hp]; exact dg_lt _ _
      rw [← hp] at h1
      have Hp := Lib.hid hp; clear hp
      go_wp2_with fail
      obtain ⟨w1, rfl⟩ : ∃ w1 : World, w1 = wr := ⟨_, rfl⟩
      go_loopw [8, 26] (fun cr j w2 => ∃ (q cv : Nat) (L2 : List Nat), j = .int .i64 q ∧ q ≤ m ∧ cr = .int .u64 cv ∧ cv < 4294967296 ∧ L2.length = n + m ∧ Ok L2 ∧ Blk w2 w.heap.size L2 ∧ Below w.heap.size w w2 ∧
          val L2 + 4294967296 ^ (k + q) * cv = x % 4294967296 ^ k * y + 4294967296 ^ k * (p * (y % 4294967296 ^ q)) ∧ ∀ r, k + m ≤ r → L2.getD r 0 = 0) (fun _ j _ => m - (intOf j).toNat)
      case atStart => exact ⟨0, 0, L, rfl, Nat.zero_le _, rfl, by omega, HL.out, hok, HB.out, hbel, by rw [HV.out]; simp [Nat.mod_one], HZ.out⟩
      case round =>
        obtain ⟨q, cv, L2, rfl, hq, rfl, hcv, hL2, hok2, hblk2, hbel2, hval2, hz2⟩ := hrel
        have HV2 := Lib.hid hval2; clear hval2
        have HL2 := Lib.hid hL2; clear hL2
        have HZ2 := Lib.hid hz2; clear hz2
        by_cases hlt2 : q < m
        · obtain ⟨b', off', rfl, hb', hcy⟩ := Wd.cell (k := q) Hy.out hlt2
          have h2 : wr.cell? ⟨b', off' + q, none⟩ = some (.int .u32 (dg y q : Nat)) := (hbel2.cell (p := ⟨b', off' + q, none⟩) hb').trans (hcy q hlt2)
          clear hcy
          obtain ⟨r, hr⟩ : ∃ r, r = dg y q := ⟨_, rfl⟩
          have hrl : r < 4294967296 := by rw [hr]; exact dg_lt _ _
          rw [← hr] at h2
          have Hr := Lib.hid hr; clear hr
          have h3 := hblk2.cell (i := k + q) (by rw [HL2.out]; omega)
          have h4 := hblk2.frozen (k + q)
          obtain ⟨a, ha⟩ : ∃ a, a = L2.getD (k + q) 0 := ⟨_, rfl⟩
          have hal : a < 4294967296 := by rw [ha]; exact hok2.getD _
          rw [← ha] at h3
          have Ha := Lib.hid ha; clear ha
          have HB2 := Lib.hid hblk2; clear hblk2
          obtain ⟨s, hs⟩ : ∃ s, s = p * r + a + cv := ⟨_, rfl⟩
          have hsl : s < 18446744073709551616 := by rw [hs]; exact mul_bound hpl hrl hal hcv
          have hprod : p * r < 18446744073709551616 := by omega
          have e1 : ((cv : Int) + (a + p * r)) % 4294967296 = ((s % 4294967296 : Nat) : Int) := by rw [hs]; omega
          have e2 : ((cv : Int) + (a + p * r)) / 4294967296 = ((s / 4294967296 : Nat) : Int) := by rw [hs]; omega
          have E1 := Lib.hid e1; clear e1
          have E2 := Lib.hid e2; clear e2
          have Hs := Lib.hid hs; clear hs
          have hsl' : (cv : Int) + (a + p * r) < 18446744073709551616 := by rw [Hs.out] at hsl; omega
          go_wp2_with fail
          rw [E1.out, E2.out]
          go_roundw
          case rel =>
            refine ⟨q + 1, s / 4294967296, L2.set (k + q) (s % 4294967296), by go_num, by omega, rfl, by omega, by rw [List.length_set, HL2.out], hok2.set (by omega), HB2.out.set_ _ _, hbel2.setCell (Nat.le_refl _) _, ?_, ?_⟩
            · refine mul_round HV2.out (old := a) (lo := s % 4294967296) ?_ (by rw [Hs.out, Hr.out]) rfl rfl
              have := val_set (l := L2) (p := k + q) (v := s % 4294967296) (by rw [HL2.out]; omega)
              rw [← Ha.out] at this
              exact this
            · intro t ht
              rw [getD_set_ne (by omega)]
              exact HZ2.out t ht
          case measure => simp [intOf]; omega
        · have hqm : q = m := by omega
          subst hqm
          have h3 := hblk2.cell (i := k + q) (by rw [HL2.out]; omega)
          have h4 := hblk2.frozen (k + q)
          rw [HZ2.out (k + q) (Nat.le_refl _)] at h3
          have HB2 := Lib.hid hblk2; clear hblk2
          go_wp2_with fail
          go_roundw
          case rel =>
            refine ⟨k + 1, L2.set (k + q) cv, by go_num, by omega, by rw [List.length_set, HL2.out], hok2.set hcv, HB2.out.set_ _ _, hbel2.setCell (Nat.le_refl _) _, ?_, ?_⟩
            · have h5 := val_set (l := L2) (p := k + q) (v := cv) (by rw [HL2.out]; omega)
              rw [HZ2.out (k + q) (Nat.le_refl _), HV2.out, mod_len (x := y) (by rw [← Hm.out]; omega), Hp.out, mul_done] at h5
              simpa using h5
            · intro t ht
              rw [getD_set_ne (by omega)]
              exact HZ2.out t (by omega)
          case measure => simp [intOf]; omega
    · have hkn : k = n := by omega
      subst hkn
      have hv : val L = x * y := by rw [HV.out, mod_len (x := x) (by rw [← Hn.out]; omega)]
      have hw2 := HB.out.wd hok (by rw [HL.out]; omega) (k + m) (by rw [HL.out]; omega) (by omega)
      rw [HL.out] at hw2
      have Hv := Lib.hid hv; clear hv
      have Hw := Lib.hid hw2; clear hw2
      go_wp2_with fail
      refine (trimR_any _ _ _ Hw.out).mono ?_
      rintro e w' ⟨r, rfl, hr, rfl⟩
      rw [Hv.out] at hr
      go_wp2
      go_ret
      exact ⟨r, rfl, hr, hbel⟩
end Go.Proofs.YtmlopkkbgpfdnabGreat
namespace Go.Proofs.YtmlopkkbgpfdnabGreat
open Go.RowKit

set_option maxRecDepth 100000 in
theorem of_any (p : Bool) (A : Option Addr) (n c : Nat) (w : World) :
    Calls Tryz.prog 60 #[.agg #[.bool p, .slice A n c]] w fun e w' => e = .returned (.agg #[.bool p, .slice A n c]) ∧ Below w.heap.size w w' := by
  go_enter Tryz.func60, Tryz.ntmps60
  go_wp2
  exact bodyPost_ret (v := .agg #[.bool p, .slice A n c]) (by simp [results, Tryz.results60, go_sem]) rfl ⟨rfl, below2 _ _ _⟩

set_option maxRecDepth 100000 in
theorem int_any (p : Bool) (A : Option Addr) (n c : Nat) (w : World) :
    Calls Tryz.prog 94 #[.agg #[.bool p, .slice A n c]] w fun e w' => e = .returned (.agg #[.bool p, .slice A n c]) ∧ Below w.heap.size w w' := by
  go_enter Tryz.func94, Tryz.ntmps94
  go_wp2
  exact bodyPost_ret (v := .agg #[.bool p, .slice A n c]) (by simp [results, Tryz.results94, go_sem]) rfl ⟨rfl, below2 _ _ _⟩

set_option maxRecDepth 100000 in
/-- ref Minus -/
theorem minusR_any (z : Int) (a : Value) (w : World) (ha : ZV w a z) : Calls Tryz.prog 83 #[a] w (RetZ w (-z)) := by
  obtain ⟨A, n, c, rfl, hv, hn, hl⟩ := ha.open_
  obtain ⟨p, hp⟩ : ∃ p, p = decide (z < 0) := ⟨_, rfl⟩
  rw [← hp]
  have Hp := Lib.hid hp; clear hp ha
  have Hn := Lib.hid hn; clear hn
  have Hv := Lib.hid hv; clear hv
  go_enter Tryz.func83, Tryz.ntmps83
  go_wp2_with fail
  refine (signedR_any (!p) A n c _ hl).mono ?_
  rintro e w1 ⟨rfl, hb1⟩
  have hR := (RB.b2 w false none 0 0 53 (Obj.cells #[.bool p, .slice A n c] 53)).below hb1 (by simp)
  obtain ⟨a0, A0, n0, c0, k10, k11, k20, k21⟩ := hR.facts
  have s0 := hR.set0 (!p && decide (0 < n)) (.slice A n c)
  have s1 := hR.set1 (!p && decide (0 < n)) (.slice A n c)
  have hb := (below2 w (Obj.cells #[.bool p, .slice A n c] 53) (Obj.cells #[.bool false, .slice none 0 0] 53)).trans (hb1.mono (by simp; omega))
  have fin := And.intro ((Hv.out.below hb).rb hR (.bool (!p && decide (0 < n))) (.slice A n c)) (below_set2 (g := w.heap.size + 1) (i := 0) (j := 1) hb (by omega) (.bool (!p && decide (0 < n))) (.slice A n c))
  have Fin := Lib.hid fin; clear fin hR hb hb1
  go_wp2
  refine bodyPost_ret (v := .agg #[.bool (!p && decide (0 < n)), .slice A n c]) (by simp [results, Tryz.results83, go_sem, s0, s1]) rfl ⟨_, rfl, ZV.mk ?_ ?_, Fin.out.2⟩
  · rw [Hp.out, Hn.out, Bool.eq_iff_iff]
    simp only [Bool.and_eq_true, Bool.not_eq_true', decide_eq_false_iff_not, decide_eq_true_eq, dig_len_pos]
    omega
  · rw [Int.natAbs_neg]; exact Fin.out.1

/-- ref Sign -/
theorem signR_any (z : Int) (a : Value) (w : World) (ha : ZV w a z) : Calls Tryz.prog 91 #[a] w fun e w' => e = .returned (.int .i64 z.sign) ∧ Below w.heap.size w w' := by
  obtain ⟨A, n, c, rfl, hv, hn, hl⟩ := ha.open_
  have hn0 := @dig_len_pos z.natAbs
  rw [← hn] at hn0
  have Hb := Lib.hid (below_alloc w (Obj.cells #[.bool (decide (z < 0)), .slice A n c] 53))
  clear ha hv hn
  rcases Int.lt_trichotomy z 0 with h | h | h
  · have e1 : decide (z < 0) = true := by simpa using h
    have h0 : 0 < n := hn0.2 (by omega)
    rw [Int.sign_eq_neg_one_of_neg h]
    rw [e1] at Hb ⊢
    clear e1 hn0
    go_enter Tryz.func91, Tryz.ntmps91
    go_wp2
    go_ret
    exact ⟨rfl, Hb.out⟩
  · have e1 : decide (z < 0) = false := by simp; omega
    have h0 : n = 0 := by
      rcases Nat.eq_zero_or_pos n with h1 | h1
      · exact h1
      · have := hn0.1 h1; omega
    subst h0 h
    rw [Int.sign_zero]
    rw [e1] at Hb ⊢
    clear hn0 e1
    go_enter Tryz.func91, Tryz.ntmps91
    go_wp2
    go_ret
    exact ⟨rfl, Hb.out⟩
  · have e1 : decide (z < 0) = false := by simp; omega
    have h0 : 0 < n := hn0.2 (by omega)
    rw [Int.sign_eq_one_of_pos h]
    rw [e1] at Hb ⊢
    clear e1 hn0
    go_enter Tryz.func91, Tryz.ntmps91
    go_wp2
    go_ret
    exact ⟨rfl, Hb.out⟩
theorem zeroR_any (z : Int) (a : Value) (w : World) (ha : ZV w a z) : Calls Tryz.prog 59 #[a] w fun e w' => e = .returned (.bool (decide (z = 0))) ∧ Below w.heap.size w w' := by
  obtain ⟨A, n, c, rfl, -, hn, -⟩ := ha.open_
  have he : decide (z = 0) = decide (n = 0) := by
    rw [hn, decide_eq_decide]
    have := @dig_len_pos z.natAbs
    omega
  rw [he]
  clear ha hn
  have hb := below_alloc w (Obj.cells #[.bool (decide (z < 0)), .slice A n c] 53)
  obtain ⟨p, hp⟩ : ∃ p, p = decide (z < 0) := ⟨_, rfl⟩
  rw [← hp] at hb ⊢
  have Hb := Lib.hid hb; clear hb hp he
  go_enter Tryz.func59, Tryz.ntmps59
  go_wp2
  go_ret
  refine ⟨?_, Hb.out⟩
  by_cases h : n = 0
  · subst h; rfl
  · simp [h]

theorem fitsR_any (z : Int) (a : Value) (w : World) (ha : ZV w a z) : Calls Tryz.prog 93 #[a] w fun e w' => e = .returned (.bool (decide ((dig z.natAbs).length ≤ 256))) ∧ Below w.heap.size w w' := by
  obtain ⟨A, n, c, rfl, -, hn, -⟩ := ha.open_
  rw [← hn]
  clear ha hn
  have hb := below_alloc w (Obj.cells #[.bool (decide (z < 0)), .slice A n c] 53)
  obtain ⟨p, hp⟩ : ∃ p, p = decide (z < 0) := ⟨_, rfl⟩
  rw [← hp] at hb ⊢
  have Hb := Lib.hid hb; clear hb hp
  go_enter Tryz.func93, Tryz.ntmps93
  go_wp2
  go_ret
  exact ⟨by simp; omega, Hb.out⟩

end Go.Proofs.YtmlopkkbgpfdnabGreat
