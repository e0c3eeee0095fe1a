/- Walks: the reference's Digits. · Walks: the reference's Print. · Walks: reading a group of digits; digits; a whole number. · Walks: decimal, read, exact.Parse. · Walks: read, exact.Parse. · Walks: exact.Parse. · Walks: combine, Sub. -/
import Derived.Test.YtmlopkkbgpfdnaaGreatDoorM21
import Derived.Test.YtmlopkkbgpfdnaaGreatDoorM17
import Derived.Test.YtmlopkkbgpfdnaaGreatDoorM15
import Derived.Test.YtmlopkkbgpfdnaaGreatDoorM3
import Derived.Lib.PathFns
import Derived.Test.YtmlopkkbgpfdnaaGreatDoorM2
namespace Go.Proofs.YtmlopkkbgpfdnaaGreatDoor
open Go.RowKit

/-- the cell of a string -/
def sw (x : List UInt8) : Value := .string ⟨x.toArray⟩

/-- parts: nothing yet, or a row of strings -/
def PV (B : Nat) (w : World) (v : Value) (ps : List (List UInt8)) : Prop :=
  (ps = [] ∧ v = .slice none 0 0) ∨ ∃ g c, v = .slice (some ⟨g, 0, none⟩) ps.length c ∧ ps.length ≤ c ∧ w.ownsRow B 9 1 v ps.length (ps.map sw)

theorem PV.below {B : Nat} {w w' : World} {v : Value} {ps : List (List UInt8)} (h : PV B w v ps) (hb : Below w.heap.size w w') : PV B w' v ps := by
  rcases h with h | ⟨g, c, hv, hc, ho⟩
  · exact .inl h
  · exact .inr ⟨g, c, hv, hc, own_below ho hb⟩
theorem PV.len {B : Nat} {w : World} {v : Value} {ps : List (List UInt8)} (h : PV B w v ps) : sLen v = ps.length := by
  rcases h with ⟨rfl, rfl⟩ | ⟨g, c, rfl, -, -⟩
  · rfl
  · rfl
theorem PV.news {B g c : Nat} {w : World} {ps : List (List UInt8)} (h : w.ownsRow B 9 1 (.slice (some ⟨g, 0, none⟩) ps.length c) ps.length (ps.map sw)) : ∀ j u, (ps.map sw)[j]? = some u → w.cell? ((⟨g, 0, none⟩ : Addr).add j) = some u := h.cells rfl

/-- what the parts say: n is the digits of what is left and the parts -/
structure Parts (n : Nat) (k : Nat) (ps : List (List UInt8)) : Prop where
  len : ps.length = k
  more : 0 < n / 1000000000 ^ k → dec n = dec (n / 1000000000 ^ k) ++ ps.flatten
  all : 0 < k → n / 1000000000 ^ k = 0 → dec n = ps.flatten
  top : k = 0 ∨ 0 < n / 1000000000 ^ (k - 1)

theorem Parts.next {n k : Nat} {ps : List (List UInt8)} (h : Parts n k ps) (hm : 0 < n / 1000000000 ^ k) (p : List UInt8)
    (hp : p = if 0 < n / 1000000000 ^ (k + 1) then List.replicate (9 - (dec (n / 1000000000 ^ k % 1000000000)).length) 48 ++ dec (n / 1000000000 ^ k % 1000000000) else dec (n / 1000000000 ^ k % 1000000000)) : Parts n (k + 1) (p :: ps) := by
  refine ⟨by simp [h.len], fun h1 => ?_, fun _ h1 => ?_, Or.inr (by rw [Nat.add_sub_cancel]; exact hm)⟩
  · rw [h.more hm, hp, if_pos h1]
    rw [gdiv_succ] at h1 ⊢
    rw [dec_group _ h1]
    simp [List.append_assoc]
  · rw [h.more hm, hp, if_neg (by omega)]
    rw [gdiv_succ] at h1
    rw [Nat.mod_eq_of_lt (by omega)]
    simp

theorem dig_giga' : dig 1000000000 = [1000000000] := by rw [dig_pos (by decide)]; rw [show 1000000000 / 4294967296 = 0 by decide, dig_zero]
theorem info9 : (Tryz.prog.info? 9).map (fun i => (i.zero, i.size, i.bytes)) = some (some (.string ⟨#[]⟩), 1, 16) := by kernel_rfl
theorem join_empty (xs : List (List UInt8)) : Lib.join xs [] = xs.flatten := by
  unfold Lib.join
  induction xs with
  | nil => rfl
  | cons x xs ih => cases xs with
    | nil => simp [List.intercalate]
    | cons y ys => simp [List.intercalate] at ih ⊢; rw [ih]

theorem itoa_pub (u : Nat) (hu : u < 1000000000) (w : World) (htab : Tab w) :
    Calls Tryz.prog 62 #[.int .i64 (u : Int)] w fun e w' => e = .returned (.string ⟨(dec u).toArray⟩) ∧ Below w.heap.size w w' := by
  refine (Tryz.strconv_Itoa (u : Int) (by omega) (by omega) w htab).mono ?_
  rintro e w' ⟨rfl, k, os, rfl⟩
  exact ⟨by rw [Lib.itoa_nonneg], Lib.below_grow _ w (Nat.le_refl _) k os⟩
theorem repeat_pub (k : Nat) (hk : k ≤ 9) (w : World) :
    Calls Tryz.prog 63 #[.string ⟨#[48]⟩, .int .i64 (k : Int)] w fun e w' => e = .returned (.string ⟨(List.replicate k 48).toArray⟩) ∧ Below w.heap.size w w' := by
  have h := Tryz.strings_Repeat ⟨#[48]⟩ k w (by omega) (by show 1 * k ≤ _; omega)
  have e4 := Lib.repeatL_replicate 48 1 k
  rw [Nat.mul_one] at e4
  have e5 : Lib.repeatL (⟨#[48]⟩ : ByteArray).data.toList k = List.replicate k 48 := e4
  rw [e5] at h
  exact h

set_option maxHeartbeats 400000 in
set_option maxRecDepth 100000 in
theorem digits_any (z : Int) (a : Value) (w : World) (ha : ZV w a z) (hlen : (dig z.natAbs).length ≤ 1000) (htab : Tab w) :
    Calls Tryz.prog 38 #[a] w fun e w' => e = .returned (.string ⟨(txt z).toArray⟩) ∧ Below w.heap.size w w' := by
  obtain ⟨i0, hi, hz0, hz1, hz2⟩ := info_parts info9
  obtain ⟨A, c0, c, rfl, hv, -, -⟩ := ha.open_
  obtain ⟨neg, hneg⟩ : ∃ neg, neg = decide (z < 0) := ⟨_, rfl⟩
  obtain ⟨n, hn⟩ : ∃ n, n = z.natAbs := ⟨_, rfl⟩
  have htx : txt z = if neg then 45 :: dec n else dec n := by rw [hneg, hn]; unfold txt; by_cases h : z < 0 <;> simp [h]
  rw [← hn] at hv hlen
  rw [← hneg, htx]
  clear htx ha
  have Hlen := Lib.hid hlen; clear hlen
  have Htab := Lib.hid htab; clear htab
  have Hv := Lib.hid hv; clear hv
  have H0 : Hid (n = 0 → z = 0) := Lib.hid (by omega)
  have Hneg := Lib.hid hneg; clear hneg hn
  go_enter Tryz.func38, Tryz.ntmps38
  go_wp2_with fail
  have hb1 := below_alloc w (Obj.cells #[.bool neg, .slice A c0 c] 55)
  have q0 : (w.alloc (Obj.cells #[.bool neg, .slice A c0 c] 55)).cell? ⟨w.heap.size, 0, none⟩ = some (.bool neg) := by rw [World.cell?_alloc_new]; rfl
  obtain ⟨W1, hW1⟩ : ∃ W1, W1 = w.alloc (Obj.cells #[.bool neg, .slice A c0 c] 55) := ⟨_, rfl⟩
  have hs1 : W1.heap.size = w.heap.size + 1 := by rw [hW1]; simp
  rw [← hW1] at hb1 q0 ⊢
  clear hW1
  have HB1 := Lib.hid hb1; clear hb1
  have Q0 := Lib.hid q0; clear q0
  go_loopw [3, 4] (fun pv mv wr => ∃ (k : Nat) (ps : List (List UInt8)), Wd wr mv (dig (n / 1000000000 ^ k)) ∧ PV W1.heap.size wr pv ps ∧ Parts n k ps ∧ Below W1.heap.size W1 wr) (fun pv _ _ => n - sLen pv)
  case atStart => exact ⟨0, [], by rw [Nat.pow_zero, Nat.div_one]; exact Hv.out.below HB1.out, .inl ⟨rfl, rfl⟩, ⟨rfl, fun _ => by simp, fun h => absurd h (by omega), .inl rfl⟩, Below.refl _ _⟩
  case round =>
    obtain ⟨k, ps, hmv, hpv, hps, hbel⟩ := hrel
    have Hps := Lib.hid hps; clear hps
    obtain ⟨m, hm⟩ : ∃ m, m = n / 1000000000 ^ k := ⟨_, rfl⟩
    rw [← hm] at hmv
    have Hm := Lib.hid hm; clear hm
    have Hmv := Lib.hid hmv
    obtain ⟨A1, c1, rfl, -, -⟩ := hmv.shape
    clear hmv
    by_cases hm0 : m = 0
    · subst hm0
      rw [dig_zero, List.length_nil]
      by_cases hk0 : k = 0
      · have hps0 : ps = [] := List.eq_nil_of_length_eq_zero (by rw [Hps.out.len, hk0])
        have hn0 : n = 0 := by have := Hm.out; rw [hk0, Nat.pow_zero, Nat.div_one] at this; omega
        have hz0 : neg = false := by have := H0.out hn0; rw [Hneg.out, this]; rfl
        rcases hpv with ⟨-, rfl⟩ | ⟨g, c5, rfl, -, -⟩
        · subst hz0
          clear hps0
          have Hn0 := Lib.hid hn0; clear hn0
          go_wp2
          go_ret
          exact ⟨by rw [Hn0.out, dec_small (by decide)]; rfl, (HB1.out.trans (hbel.mono (by omega)))⟩
        · rw [hps0] at *
          subst hz0
          have Hn0 := Lib.hid hn0; clear hn0
          rw [List.length_nil]
          go_wp2
          go_ret
          exact ⟨by rw [Hn0.out, dec_small (by decide)]; rfl, (HB1.out.trans (hbel.mono (by omega)))⟩
      · have hk1 : 0 < k := by omega
        have hall := Hps.out.all hk1 Hm.out.symm
        have hpl := Hps.out.len
        rcases hpv with ⟨hps0, rfl⟩ | ⟨g, c5, rfl, hc5, hown⟩
        · rw [hps0] at hpl; simp at hpl; omega
        have hk2 : k ≤ 2000 := groups_few Hps.out.top (lt_of_dig_len Hlen.out)
        have hg : g < wr.heap.size := (hown.lt g rfl).2
        have hdl : (dec n).length ≤ 10000 := dec_len_words (lt_of_dig_len Hlen.out) (by decide)
        have e1 : (ps.map fun x => (⟨x.toArray⟩ : ByteArray)).map (·.data.toList) = ps := by
          rw [List.map_map]
          exact (List.map_congr_left (fun _ _ => rfl)).trans (List.map_id ps)
        have hj := Tryz.strings_Join g 0 c5 (ps.map fun x => ⟨x.toArray⟩) ⟨#[]⟩ wr
          (fun j x hx => by
            have := PV.news hown j (.string x) (by rw [List.getElem?_map] at hx ⊢; cases hq : ps[j]? with
              | none => rw [hq] at hx; cases hx
              | some y => rw [hq] at hx; cases hx; rfl)
            have e : (⟨g, 0, none⟩ : Addr).add j = ⟨g, 0 + j, none⟩ := by unfold Addr.add; split <;> simp_all
            rw [e] at this
            exact this) hg (by rw [List.length_map]; omega) (by rw [List.length_map]; exact hc5) (by
              rw [e1]
              show (Lib.join ps []).length ≤ _
              rw [join_empty, ← hall]; omega)
        rw [e1] at hj
        have e2 : Lib.join ps (⟨#[]⟩ : ByteArray).data.toList = dec n := by show Lib.join ps [] = _; rw [join_empty, hall]
        rw [e2, List.length_map, hpl] at hj
        have HJ := Lib.hid hj; clear hj
        rw [hpl]
        have hq0 := (hbel.cell (p := ⟨w.heap.size, 0, none⟩) (by show w.heap.size < _; omega)).trans Q0.out
        have hpz : ((k : Int) == 0) = false := by rw [beq_eq_false_iff_ne]; omega
        have Hbel := Lib.hid hbel
        have Hdl := Lib.hid hdl
        clear hall e1 e2 hown hbel hdl hpl hc5 hg
        cases neg
        · go_wp2_with fail
          refine HJ.out.mono ?_
          rintro e w9 ⟨rfl, hb9⟩
          go_wp2
          go_ret
          exact ⟨rfl, HB1.out.trans ((Hbel.out.trans (hb9.mono Hbel.out.size)).mono (by omega))⟩
        · go_wp2_with fail
          refine HJ.out.mono ?_
          rintro e w9 ⟨rfl, hb9⟩
          have hcat : 1 + (dec n).length ≤ 9223372036854775807 := by have := Hdl.out; omega
          have Hap := Lib.hid (str_append [45] (dec n))
          go_wp2
          go_ret
          exact ⟨by rw [Hap.out]; rfl, HB1.out.trans ((Hbel.out.trans (hb9.mono Hbel.out.size)).mono (by omega))⟩
    · have hm1 : 0 < m := by omega
      have hml : 0 < (dig m).length := dig_len_pos.2 hm1
      obtain ⟨ml, hml'⟩ : ∃ ml, ml = (dig m).length := ⟨_, rfl⟩
      have hml2 : (dig m).length ≤ 999999 := Nat.le_trans (dig_len_mono (by rw [Hm.out]; exact Nat.div_le_self _ _)) (by have := Hlen.out; omega)
      have Hml2 := Lib.hid hml2; clear hml2
      rw [← hml'] at Hmv hml ⊢
      have Hml' := Lib.hid hml'; clear hml'
      have hg1 : (dig 1000000000).length ≤ 999990 := by rw [dig_giga']; decide
      have Hg1 := Lib.hid hg1; clear hg1
      have Hpv := Lib.hid hpv; clear hpv
      go_wp2_with fail
      refine (naturalR_any 1000000000 (by decide) wr).mono ?_
      rintro e w1 ⟨u, rfl, hu, hb1⟩
      obtain ⟨A2, n2, c2, rfl⟩ := hu.slice_
      go_wp2_with fail
      refine (dividedR_any m 1000000000 _ _ w1 (Hmv.out.below hb1) hu Hml2.out Hg1.out (by decide)).mono ?_
      rintro e w2 ⟨q, r, rfl, hq, hr, hb2⟩
      have hb3 := hb1.trans (hb2.mono hb1.size)
      obtain ⟨A3, n3, c3, rfl⟩ := hq.slice_
      obtain ⟨A4, n4, c4, rfl⟩ := hr.slice_
      have hbel2 := hbel.trans (hb3.mono hbel.size)
      clear hu hb1 hb2
      obtain ⟨rr, hrr⟩ : ∃ rr, rr = m % 1000000000 := ⟨_, rfl⟩
      obtain ⟨qq, hqq⟩ : ∃ qq, qq = m / 1000000000 := ⟨_, rfl⟩
      have hrl : rr < 1000000000 := by rw [hrr]; exact Nat.mod_lt _ (by decide)
      rw [← hrr] at hr
      rw [← hqq] at hq
      have Hrr := Lib.hid hrr; clear hrr
      have Hqq := Lib.hid hqq; clear hqq
      have Hbel2 := Lib.hid hbel2; clear hbel2 hbel
      have Hb3 := Lib.hid hb3; clear hb3
      have Hq := Lib.hid hq; clear hq
      have HT2 : Hid (Tab w2) := Lib.hid (tab_below (tab_below Htab.out HB1.out) (Hbel2.out))
      go_upto_region 6 with fail
      have hn4 : n4 = (dig rr).length := hr.len
      have hn4' : decide (0 < n4) = decide (0 < rr) := by
        have := @dig_len_pos rr
        by_cases h : 0 < rr
        · have h2 := this.2 h
          rw [decide_eq_true h]; exact decide_eq_true (by omega)
        · have h2 : ¬ 0 < (dig rr).length := fun e => h (this.1 e)
          rw [decide_eq_false h]; exact decide_eq_false (by omega)
      have Hn4 := Lib.hid hn4; clear hn4
      have Hn4' := Lib.hid hn4'; clear hn4'
      go_cut [22] (fun v wx => v = .bool (decide (0 < rr)) ∧ wx = w2)
      case first =>
        go_wp2_with fail
        go_meet
        exact ⟨congrArg Value.bool Hn4'.out, rfl⟩
      case rest =>
      obtain ⟨rfl, hwc⟩ := hcut
      rw [hwc]
      clear hwc
      go_upto_if 22 with fail
      go_cut [7] (fun v wx => v = .int .i64 (rr : Int) ∧ wx = w2)
      case first =>
        by_cases hr0 : rr = 0
        · subst hr0
          go_wp2_with fail
          go_meet
          exact ⟨rfl, rfl⟩
        · have hn1 : n4 = 1 := by
            have h1 := Hn4.out
            have h2 := dig_len_pos.2 (show 0 < rr by omega)
            have h3 := dig_len_le (n := rr) (k := 1) (by omega)
            omega
          subst hn1
          obtain ⟨b4, o4, rfl, hb4, hc4⟩ := Wd.cell (k := 0) hr (by omega)
          have hce := hc4 0 (by omega)
          rw [Nat.add_zero] at hce
          have hdg : dg rr 0 = rr := by unfold dg; rw [Nat.pow_zero, Nat.div_one]; omega
          rw [hdg] at hce
          have hrp : 0 < rr := by omega
          clear hc4 hdg
          go_wp2_with fail
          go_meet
          exact ⟨rfl, rfl⟩
      case rest =>
      obtain ⟨rfl, hwc⟩ := hcut
      rw [hwc]
      clear hwc
      go_wp2_with fail
      refine (itoa_pub rr hrl _ HT2.out).mono ?_
      rintro e w5 ⟨rfl, hb5⟩
      have hdl1 := dec_len rr
      have hdl9 := group_len rr hrl
      obtain ⟨sg, hsg⟩ : ∃ s : ByteArray, s = ⟨(dec rr).toArray⟩ := ⟨_, rfl⟩
      have hsz : sg.size = (dec rr).length := by rw [hsg]; rfl
      rw [← hsz] at hdl1 hdl9
      rw [← hsg]
      have Hsg := Lib.hid hsg; clear hsg
      have Hsz := Lib.hid hsz; clear hsz
      have Hb5 := Lib.hid hb5; clear hb5
      obtain ⟨p, hp⟩ : ∃ p : List UInt8, p = if 0 < qq then List.replicate (9 - (dec rr).length) 48 ++ dec rr else dec rr := ⟨_, rfl⟩
      go_upto_region 9 with fail
      have hn3 : decide (0 < n3) = decide (0 < qq) := by
        have h1 := Hq.out.len
        have h3 := @dig_len_pos qq
        by_cases h : 0 < qq
        · have h2 := h3.2 h
          rw [decide_eq_true h]; exact decide_eq_true (by omega)
        · have h2 : ¬ 0 < (dig qq).length := fun e => h (h3.1 e)
          rw [decide_eq_false h]; exact decide_eq_false (by omega)
      have Hn3 := Lib.hid hn3; clear hn3
      have Hp := Lib.hid hp; clear hp
      go_cut [31] (fun v wx => v = .bool (decide (0 < qq)) ∧ wx = w5)
      case first =>
        go_wp2_with fail
        go_meet
        exact ⟨congrArg Value.bool Hn3.out, rfl⟩
      case rest =>
      obtain ⟨rfl, hwc⟩ := hcut
      rw [hwc]
      clear hwc
      go_upto_if 31 with fail
      go_cut [8] (fun v wx => v = .string ⟨p.toArray⟩ ∧ Below w5.heap.size w5 wx)
      case first =>
        by_cases hq0 : qq = 0
        · subst hq0
          have hpe : Value.string sg = sw p := by rw [Hp.out, if_neg (by omega), Hsg.out]; rfl
          have Hpe := Lib.hid hpe; clear hpe
          go_wp2_with fail
          go_meet
          exact ⟨Hpe.out, Below.refl _ _⟩
        · have hqp : 0 < qq := by omega
          obtain ⟨pad, hpad⟩ : ∃ x : Nat, x = 9 - sg.size := ⟨_, rfl⟩
          have hpi : (9 : Int) - (sg.size : Int) = (pad : Int) := by omega
          have hpl : pad ≤ 8 := by omega
          have hpe : Value.string ((⟨(List.replicate pad 48).toArray⟩ : ByteArray) ++ sg) = sw p := by
            rw [Hp.out, if_pos hqp, Hsg.out, str_append, hpad, Hsz.out]; rfl
          have Hpe := Lib.hid hpe; clear hpe
          have Hpad := Lib.hid hpad; clear hpad
          go_wp2_with fail
          refine (repeat_pub pad (by omega) _).mono ?_
          rintro e w6 ⟨rfl, hb6⟩
          go_wp2_with fail
          go_meet
          exact ⟨Hpe.out, hb6⟩
      case rest =>
      obtain ⟨rfl, hb6⟩ := hcut
      rename World => W6
      have hb7 := (Hb3.out.trans (Hb5.out.mono Hb3.out.size)).trans (hb6.mono (Hb3.out.trans (Hb5.out.mono Hb3.out.size)).size)
      have hb8 := Hbel2.out.trans ((Hb5.out.trans (hb6.mono Hb5.out.size)).mono Hbel2.out.size)
      have hq6 := (Hq.out.below Hb5.out).below hb6
      have hpv6 := Hpv.out.below hb7
      have Hb8 := Lib.hid hb8; clear hb8 hb7 hb6
      have hk2 : k ≤ 2000 := groups_few Hps.out.top (lt_of_dig_len Hlen.out)
      have hpl := Hps.out.len
      have hsl := hpv6.len
      have hnx := Parts.next Hps.out (by rw [← Hm.out]; exact hm1) p (by rw [gdiv_succ, ← Hm.out, ← Hqq.out, ← Hrr.out]; exact Hp.out)
      have Hnx := Lib.hid hnx; clear hnx
      have hms : n - (k + 1) < n - k := by
        have := groups_le (n := n) (k := k + 1) (Or.inr (by rw [Nat.add_sub_cancel, ← Hm.out]; exact hm1))
        omega
      rcases hpv6 with ⟨hps0, rfl⟩ | ⟨g, c5, rfl, hc5, hown⟩
      · have hown6 : (W6.alloc (Obj.cells #[.string ⟨p.toArray⟩] 9)).ownsRow W1.heap.size 9 1 (.slice (some ⟨W6.heap.size, 0, none⟩) 1 1) 1 [sw p] := World.ownsRow_lit W6 #[sw p] 1 Hb8.out.size (by unfold maxLen; omega) rfl
        have hb9 := Hb8.out.alloc (o := Obj.cells #[.string ⟨p.toArray⟩] 9) Hb8.out.size
        have hqd := hq6.below (below_alloc W6 (Obj.cells #[.string ⟨p.toArray⟩] 9))
        have Hown := Lib.hid hown6; clear hown6
        have hk0 : k = 0 := by rw [← hpl, hps0]; rfl
        have Hps0 := Lib.hid hps0
        have Hk0 := Lib.hid hk0
        clear hps0 hsl hpl hk0
        go_wp2
        go_roundw
        case rel =>
          refine ⟨k + 1, p :: ps, by rw [gdiv_succ, ← Hm.out, ← Hqq.out]; exact hqd, .inr ⟨W6.heap.size, 1, ?_, ?_, ?_⟩, Hnx.out, hb9⟩
          · rw [Hps0.out]; rfl
          · rw [Hps0.out]; exact Nat.le_refl _
          · rw [Hps0.out]; exact Hown.out
        case measure =>
          rw [Hk0.out] at hms
          simp [sLen]
          omega
      · go_wp2_with (at_builtin; refine wpList_append_own _ rfl _ _ 94 rfl W1.heap.size 9 i0 (.string ⟨#[]⟩) 1 16 Tryz.underlying94 hi hz0 hz1 hz2 rfl (by decide) _ 1 [sw p] rfl (World.ownsRow_lit W6 #[sw p] 1 Hb8.out.size (by unfold maxLen; omega) rfl) ⟨g, 0, none⟩ ps.length c5 (ps.map sw) rfl ?c1 ?c2 ?c3 ?c4 ?c5 ?c6 ?_)
        case c1 => rw [List.length_map, Nat.mul_one]
        case c2 => exact fun j u hj => PV.news (own_below hown (below_alloc W6 _)) j u hj
        case c3 =>
          intro u hu
          obtain ⟨t, -, rfl⟩ := List.mem_map.1 hu
          rfl
        case c4 => unfold maxLen; omega
        case c5 => omega
        case c6 => have := Hb8.out.size; simp; omega
        intro v' w8 hown8 hgrow _
        have hown9 : w8.ownsRow W1.heap.size 9 1 v' (p :: ps).length ((p :: ps).map sw) := by
          rw [List.length_cons, List.map_cons, Nat.add_comm, hpl, hs1]; exact hown8
        have hb9 : Below W1.heap.size W1 w8 := (Hb8.out.alloc (o := Obj.cells #[.string ⟨p.toArray⟩] 9) Hb8.out.size).grown hgrow (by have := Hb8.out.size; simp; omega) (fun k hk => (World.ownsRow_lit W6 #[sw p] 1 (base := W1.heap.size) (size := 1) (e := 9) Hb8.out.size (by unfold maxLen; omega) rfl).lt k hk |>.1)
        have hb10 : Below W6.heap.size W6 w8 := (below_alloc W6 _).grown hgrow (by simp) (fun k hk => (World.ownsRow_lit W6 #[sw p] 1 (base := W6.heap.size) (size := 1) (e := 9) (Nat.le_refl _) (by unfold maxLen; omega) rfl).lt k hk |>.1)
        have hqd : Wd w8 (.slice A3 n3 c3) (dig qq) := hq6.below hb10
        have hpv8 : ∃ g2 c9, v' = .slice (some ⟨g2, 0, none⟩) (p :: ps).length c9 ∧ (p :: ps).length ≤ c9 := by
          rcases hown9.2 with ⟨_, h0⟩ | ⟨g2, cap, cur, hv, hbg, hg, hn, rest⟩
          · simp at h0
          · exact ⟨g2, cap, hv, hn⟩
        obtain ⟨g2, c9, rfl, hc9⟩ := hpv8
        have Hown := Lib.hid hown9; clear hown9 hown8 hgrow hown
        have Hc9 := Lib.hid hc9; clear hc9
        have Hqd := Lib.hid hqd; clear hqd hq6
        have Hb9 := Lib.hid hb9; clear hb9
        have Hpl := Lib.hid hpl
        clear hsl hc5 hpl
        go_wp2
        go_roundw
        case rel =>
          exact ⟨k + 1, p :: ps, by rw [gdiv_succ, ← Hm.out, ← Hqq.out]; exact Hqd.out, .inr ⟨g2, c9, rfl, Hc9.out, Hown.out⟩, Hnx.out, Hb9.out⟩
        case measure =>
          have := Hpl.out
          simp [sLen]
          omega
end Go.Proofs.YtmlopkkbgpfdnaaGreatDoor
namespace Go.Proofs.YtmlopkkbgpfdnaaGreatDoor
open Go.RowKit

end Go.Proofs.YtmlopkkbgpfdnaaGreatDoor
namespace Go.Proofs.YtmlopkkbgpfdnaaGreatDoor
open Go.RowKit

theorem ba_len (s : ByteArray) : s.data.toList.length = s.size := rfl
theorem ba_get (s : ByteArray) (k : Nat) (h : k < s.size) : s[k] = s.data.toList[k]'h := rfl
theorem ofD_take (l : List UInt8) (k : Nat) (h : k < l.length) : ofD (l.take (k + 1)) = 10 * ofD (l.take k) + (l[k].toNat - 48) := by
  rw [← ofD_snoc, List.take_append_getElem]
theorem take_isD {l : List UInt8} (h : ∀ c ∈ l, isD c) (k : Nat) : ∀ c ∈ l.take k, isD c := fun c hc => h c (List.mem_of_mem_take hc)
theorem drop_isD {l : List UInt8} (h : ∀ c ∈ l, isD c) (k : Nat) : ∀ c ∈ l.drop k, isD c := fun c hc => h c (List.mem_of_mem_drop hc)

/-- the length of a string -/
def bLen : Value → Nat
  | .string t => t.size
  | _ => 0

set_option maxHeartbeats 400000 in
set_option maxRecDepth 100000 in
theorem readGroup_any (s : ByteArray) (w : World) (hd : ∀ c ∈ s.data.toList, isD c) (hl : s.size ≤ 9) :
    Calls Tryz.prog 102 #[.string s] w fun e w' => ∃ u, e = .returned u ∧ Wd w' u (dig (ofD s.data.toList)) ∧ Below w.heap.size w w' := by
  have Hd := Lib.hid hd; clear hd
  go_enter Tryz.func102, Tryz.ntmps102
  go_wp2
  go_loop [3, 7] (fun nv iv => ∃ k : Nat, iv = .int .i64 k ∧ k ≤ s.size ∧ nv = .int .u64 (ofD (s.data.toList.take k) : Nat)) (fun _ iv => s.size - (intOf iv).toNat)
  case atStart => exact ⟨0, rfl, Nat.zero_le _, rfl⟩
  case round =>
    obtain ⟨k, rfl, hk, rfl⟩ := hrel
    by_cases hlt : k < s.size
    · obtain ⟨c, hc⟩ : ∃ c, c = s.data.toList[k]'hlt := ⟨_, rfl⟩
      have hcd : isD c := by rw [hc]; exact Hd.out _ (List.getElem_mem _)
      have h1 := hcd.1
      have h2 := hcd.2
      have ht := ofD_take s.data.toList k hlt
      rw [← hc] at ht
      have hb := ofD_group (s.data.toList.take k) (take_isD Hd.out k) (by rw [List.length_take, ba_len]; omega)
      obtain ⟨v, hv⟩ : ∃ v, v = ofD (s.data.toList.take k) := ⟨_, rfl⟩
      rw [← hv] at ht hb ⊢
      have Ht := Lib.hid ht; clear ht
      have Hc := Lib.hid hc
      clear hc hv hcd
      go_wp2
      go_round
      case rel =>
        refine ⟨k + 1, rfl, by omega, ?_⟩
        rw [Ht.out]
        congr 1
        rw [ba_get, ← Hc.out]
        have e1 : IntKind.u64.wrap (10 * (v : Int)) = 10 * (v : Int) := by rw [IntKind.wrap_u64]; omega
        have e2 : ((c.toNat : Int) - 48) % 256 = ((c.toNat - 48 : Nat) : Int) := by omega
        rw [e2]
        try rw [e1]
        try rw [IntKind.wrap_u64]
        omega
      case measure => simp [intOf]; omega
    · have hk' : k = s.size := by omega
      subst hk'
      have hb := ofD_group s.data.toList Hd.out (by rw [ba_len]; omega)
      rw [List.take_of_length_le (by rw [ba_len]; exact Nat.le_refl _)]
      obtain ⟨v, hv⟩ : ∃ v, v = ofD s.data.toList := ⟨_, rfl⟩
      rw [← hv] at hb ⊢
      have Hv := Lib.hid hv; clear hv
      go_wp2_with fail
      refine (naturalOf_any v (by omega) w).mono ?_
      rintro e w1 ⟨u, rfl, hu, hb1⟩
      go_wp2
      go_ret
      exact ⟨u, rfl, by rw [← Hv.out]; exact hu, hb1⟩

theorem ba_empty (t : ByteArray) : t.toList.isEmpty = decide (t.size = 0) := by
  rw [Lib.toList_data, ← ba_len]
  cases t.data.toList <;> simp
theorem ba_extract (t : ByteArray) (a b : Nat) : (t.extract a b).data.toList = (t.data.toList.drop a).take (b - a) := by
  rw [ByteArray.data_extract, Array.toList_extract, List.extract_eq_take_drop]
theorem dig_mul_giga {P L : Nat} (h : (dig P).length ≤ L) : (dig (P * 1000000000)).length ≤ L + 1 := by
  refine dig_len_le ?_
  have h1 := lt_of_dig_len h
  rw [Nat.pow_succ]
  exact Nat.lt_of_le_of_lt (Nat.mul_le_mul_right _ (Nat.le_of_lt h1)) (Nat.mul_lt_mul_of_pos_left (by omega) (Nat.pow_pos (by omega)))
theorem ofD_len (l : List UInt8) (L : Nat) (h : ∀ c ∈ l, isD c) (hl : l.length ≤ 9 * L) : (dig (ofD l)).length ≤ L := dig_len_le (ofD_lt_words l L h hl)
theorem dig_giga : dig 1000000000 = [1000000000] := by rw [dig_pos (by decide)]; rw [show 1000000000 / 4294967296 = 0 by decide, dig_zero]
theorem wd_one (X : World) : Wd (X.alloc (.cells #[.int .u32 1000000000] 66)) (.slice (some ⟨X.heap.size, 0, none⟩) 1 1) (dig 1000000000) := by
  rw [dig_giga]
  exact Wd.new X [1000000000] (Ok.mk (by decide) Ok.nil) _ _ 1 1 rfl (by decide) (by decide) (fun j hj => by match j, hj with | 0, _ => rfl)
theorem asSl {f : Nat} {args : Array Value} {w W : World} {l : List Nat} (h : Calls Tryz.prog f args w fun e w' => ∃ r, e = .returned r ∧ Wd w' r l ∧ Below W.heap.size W w') :
    Calls Tryz.prog f args w fun e w' => ∃ A n c, e = .returned (.slice A n c) ∧ Wd w' (.slice A n c) l ∧ Below W.heap.size W w' := by
  refine h.mono ?_
  rintro e w' ⟨r, rfl, hr, hb⟩
  obtain ⟨A, n, c, rfl⟩ := hr.slice_
  exact ⟨A, n, c, rfl, hr, hb⟩

theorem drop_lt {l : List UInt8} {k : Nat} (h : k < l.length) : 0 < (l.drop k).length := by rw [List.length_drop]; omega

set_option maxHeartbeats 400000 in
set_option maxRecDepth 100000 in
theorem readDigits_any (s : ByteArray) (w : World) (hd : ∀ c ∈ s.data.toList, isD c) (hl : s.size ≤ 2500) :
    Calls Tryz.prog 72 #[.string s] w fun e w' => ∃ u, e = .returned u ∧ Wd w' u (dig (ofD s.data.toList)) ∧ Below w.heap.size w w' := by
  have Hd := Lib.hid hd; clear hd
  go_enter Tryz.func72, Tryz.ntmps72
  go_wp2
  go_loopw [0, 3] (fun sv av wr => ∃ (t : ByteArray) (m : Nat), sv = .string t ∧ m + t.size = s.size ∧ t.data.toList = s.data.toList.drop m ∧ (m = 0 ∨ t.size % 9 = 0) ∧ Wd wr av (dig (ofD (s.data.toList.take m))) ∧ Below w.heap.size w wr) (fun sv _ _ => bLen sv)
  case atStart => exact ⟨s, 0, rfl, by omega, by simp, Or.inl rfl, by simp [ofD_nil, dig_zero]; exact Wd.nil_ _, Below.refl _ _⟩
  case round =>
    obtain ⟨t, m, rfl, hm, ht, h9, hav, hbel⟩ := hrel
    obtain ⟨A, c, rfl, -, -⟩ := hav.shape
    have Hav := Lib.hid hav; clear hav
    have Ht := Lib.hid ht; clear ht
    have hte := ba_empty t
    by_cases ht0 : t.size = 0
    · rw [ht0] at hte
      have hte' : t.toList.isEmpty = true := by rw [hte]; rfl
      clear hte
      have hms : m = s.size := by omega
      subst hms
      rw [List.take_of_length_le (by rw [ba_len]; exact Nat.le_refl _)] at Hav ⊢
      go_wp2
      go_ret
      exact ⟨_, rfl, Hav.out, hbel⟩
    · have hte' : t.toList.isEmpty = false := by rw [hte]; simp [ht0]
      clear hte
      obtain ⟨P, hP⟩ : ∃ P, P = ofD (s.data.toList.take m) := ⟨_, rfl⟩
      have hPl : (dig P).length ≤ 278 := by rw [hP]; exact ofD_len _ _ (take_isD Hd.out m) (by rw [List.length_take, ba_len]; omega)
      rw [← hP] at Hav ⊢
      obtain ⟨nP, hnP⟩ : ∃ n, n = (dig P).length := ⟨_, rfl⟩
      rw [← hnP] at Hav ⊢
      obtain ⟨nn, hnn⟩ : ∃ nn : Nat, ((t.size : Int) - 1) % 9 + 1 = (nn : Int) := ⟨(t.size - 1) % 9 + 1, by omega⟩
      have hn1 : 1 ≤ nn := by omega
      have hn2 : nn ≤ t.size := by omega
      have hn3 : nn ≤ 9 := by omega
      obtain ⟨g, hg⟩ : ∃ g : ByteArray, g = t.extract 0 nn := ⟨_, rfl⟩
      have hgt : g.data.toList = t.data.toList.take nn := by rw [hg, ba_extract, List.drop_zero, Nat.sub_zero]
      have HP : Hid ((dig P).length ≤ 1000000) := Lib.hid (by omega)
      have HP2 : Hid ((dig (P * 1000000000)).length ≤ 1000000) := Lib.hid (by have := dig_mul_giga hPl; omega)
      have HGd : Hid (∀ c ∈ g.data.toList, isD c) := Lib.hid (by rw [hgt]; exact take_isD (by rw [Ht.out]; exact drop_isD Hd.out m) nn)
      have HGl : Hid (g.size ≤ 9) := Lib.hid (by rw [← ba_len, hgt, List.length_take]; omega)
      have HG2 : Hid ((dig (ofD g.data.toList)).length ≤ 1000000) := Lib.hid (by
        have h1 := ofD_group g.data.toList HGd.out (by rw [ba_len]; exact HGl.out)
        have h2 := dig_len_le (n := ofD g.data.toList) (k := 1) (by omega)
        omega)
      have Hnn := Lib.hid hnn
      have HnP := Lib.hid hnP; clear hnP
      have HPe := Lib.hid hP; clear hP hPl
      have Hgt := Lib.hid hgt; clear hgt
      have Hg := Lib.hid hg; clear hg
      go_upto_region 4 with fail
      refine wp_region_noPanic ?_
      refine wp_pool 8 [some 12, some 13, some 14, some 15, some 16, some 17, some 18, some 19] [] [] [(fun (v : Value) (X : World) => ∃ A n c, v = .slice A n c ∧ Wd X (.slice A n c) (dig (P))), (fun (v : Value) (X : World) => ∃ A n c, v = .slice A n c ∧ Wd X (.slice A n c) (dig (1000000000))), (fun (v : Value) (X : World) => ∃ A n c, v = .slice A n c ∧ Wd X (.slice A n c) (dig (P * 1000000000))), (fun (v : Value) (_ : World) => v = .string t), (fun (v : Value) (_ : World) => v = .int .i64 (nn : Int)), (fun (v : Value) (_ : World) => v = .string g), (fun (v : Value) (X : World) => ∃ A n c, v = .slice A n c ∧ Wd X (.slice A n c) (dig (ofD g.data.toList))), (fun (v : Value) (X : World) => ∃ A n c, v = .slice A n c ∧ Wd X (.slice A n c) (dig (P * 1000000000 + ofD g.data.toList)))] [noF, noF, noF, noF, noF, noF, noF, noF] (by kernel_rfl) (by kernel_rfl) (by kernel_rfl) (by kernel_rfl) (by kernel_rfl) (by kernel_rfl) (by kernel_rfl) (by kernel_rfl) (fun _ _ _ _ h => h) ⟨(fun _ _ _ e ⟨A, n, c, h1, h2⟩ => ⟨A, n, c, h1, h2.below e⟩), (fun _ _ _ e ⟨A, n, c, h1, h2⟩ => ⟨A, n, c, h1, h2.below e⟩), (fun _ _ _ e ⟨A, n, c, h1, h2⟩ => ⟨A, n, c, h1, h2.below e⟩), Stays.pure _, Stays.pure _, Stays.pure _, (fun _ _ _ e ⟨A, n, c, h1, h2⟩ => ⟨A, n, c, h1, h2.below e⟩), (fun _ _ _ e ⟨A, n, c, h1, h2⟩ => ⟨A, n, c, h1, h2.below e⟩), True.intro⟩ ?steps ?done
      case steps =>
        simp only [List.take_succ_cons, List.take_zero]
        refine Steps.cons (fun (v : Value) (X : World) => ∃ A n c, v = .slice A n c ∧ Wd X (.slice A n c) (dig (P))) [] rfl (by kernel_rfl) rfl (by kernel_rfl) (fun y X ex0 hf K hK => ?_) ?_
        · clear hf
          have ex := (Ext.drw (Ext.refl _)).trans ex0
          refine Box.mk ?_
          simp only [fill, Act.put, Nat.reduceAdd, List.setIfInBounds_toArray, List.set_cons_zero, List.set_cons_succ] at hK ⊢
          have kw := Hav.out.below ex
          go_simp
          exact hK.out _ _ ⟨_, _, _, rfl, kw⟩ (Ext.refl _) (fun b hb => by cases hb)
        refine Steps.cons (fun (v : Value) (X : World) => ∃ A n c, v = .slice A n c ∧ Wd X (.slice A n c) (dig (1000000000))) [] rfl (by kernel_rfl) rfl (by kernel_rfl) (fun y X ex0 hf K hK => ?_) ?_
        · clear hf
          have ex := (Ext.drw (Ext.refl _)).trans ex0
          refine Box.mk ?_
          simp only [fill, Act.put, Nat.reduceAdd, List.setIfInBounds_toArray, List.set_cons_zero, List.set_cons_succ] at hK ⊢
          have kw := wd_one X
          go_simp
          exact hK.out _ _ ⟨_, _, _, rfl, kw⟩ (Ext.alc (Ext.refl X) (.cells #[.int .u32 1000000000] 66)) (fun b hb => by cases hb)
        refine Steps.cons (fun (v : Value) (X : World) => ∃ A n c, v = .slice A n c ∧ Wd X (.slice A n c) (dig (P * 1000000000))) [0, 1] rfl (by kernel_rfl) rfl (by kernel_rfl) (fun y X ex0 hf K hK => ?_) ?_
        · obtain ⟨A0, n0, c0, h0, z0⟩ : ((fun (v : Value) (X : World) => ∃ A n c, v = .slice A n c ∧ Wd X (.slice A n c) (dig (P)))) (y 0) X := hf.1
          obtain ⟨A1, n1, c1, h1, z1⟩ : ((fun (v : Value) (X : World) => ∃ A n c, v = .slice A n c ∧ Wd X (.slice A n c) (dig (1000000000)))) (y 1) X := hf.2.1
          clear hf
          have ex := (Ext.drw (Ext.refl _)).trans ex0
          refine Box.mk ?_
          simp only [fill, Act.put, Nat.reduceAdd, List.setIfInBounds_toArray, List.set_cons_zero, List.set_cons_succ, h0, h1] at hK ⊢
          go_simp
          refine (asSl (timesE_any _ _ _ _ _ z0 z1 HP.out (by rw [dig_giga]; decide))).mono ?_
          rintro e V ⟨A9, n9, c9, rfl, hz, hb⟩
          try go_wp2_with fail
          exact hK.out _ _ ⟨_, _, _, rfl, hz⟩ hb (fun b hb => by cases hb)
        refine Steps.cons (fun (v : Value) (_ : World) => v = .string t) [] rfl (by kernel_rfl) rfl (by kernel_rfl) (fun y X ex0 hf K hK => ?_) ?_
        · clear hf
          have ex := (Ext.drw (Ext.refl _)).trans ex0
          refine Box.mk ?_
          simp only [fill, Act.put, Nat.reduceAdd, List.setIfInBounds_toArray, List.set_cons_zero, List.set_cons_succ] at hK ⊢
          go_simp
          exact hK.out _ _ rfl (Ext.refl _) (fun b hb => by cases hb)
        refine Steps.cons (fun (v : Value) (_ : World) => v = .int .i64 (nn : Int)) [] rfl (by kernel_rfl) rfl (by kernel_rfl) (fun y X ex0 hf K hK => ?_) ?_
        · clear hf
          have ex := (Ext.drw (Ext.refl _)).trans ex0
          refine Box.mk ?_
          simp only [fill, Act.put, Nat.reduceAdd, List.setIfInBounds_toArray, List.set_cons_zero, List.set_cons_succ] at hK ⊢
          go_simp
          exact hK.out _ _ rfl (Ext.refl _) (fun b hb => by cases hb)
        refine Steps.cons (fun (v : Value) (_ : World) => v = .string g) [3, 4] rfl (by kernel_rfl) rfl (by kernel_rfl) (fun y X ex0 hf K hK => ?_) ?_
        · have h3 : ((fun (v : Value) (_ : World) => v = .string t)) (y 3) X := hf.1
          have h4 : ((fun (v : Value) (_ : World) => v = .int .i64 (nn : Int))) (y 4) X := hf.2.1
          clear hf
          have ex := (Ext.drw (Ext.refl _)).trans ex0
          refine Box.mk ?_
          simp only [fill, Act.put, Nat.reduceAdd, List.setIfInBounds_toArray, List.set_cons_zero, List.set_cons_succ, h3, h4] at hK ⊢
          go_simp
          exact hK.out _ _ (by rw [Hg.out]) (Ext.refl _) (fun b hb => by cases hb)
        refine Steps.cons (fun (v : Value) (X : World) => ∃ A n c, v = .slice A n c ∧ Wd X (.slice A n c) (dig (ofD g.data.toList))) [5, 2] rfl (by kernel_rfl) rfl (by kernel_rfl) (fun y X ex0 hf K hK => ?_) ?_
        · have h5 : ((fun (v : Value) (_ : World) => v = .string g)) (y 5) X := hf.1
          obtain ⟨A2, n2, c2, h2, z2⟩ : ((fun (v : Value) (X : World) => ∃ A n c, v = .slice A n c ∧ Wd X (.slice A n c) (dig (P * 1000000000)))) (y 2) X := hf.2.1
          clear hf
          have ex := (Ext.drw (Ext.refl _)).trans ex0
          refine Box.mk ?_
          simp only [fill, Act.put, Nat.reduceAdd, List.setIfInBounds_toArray, List.set_cons_zero, List.set_cons_succ, h5, h2] at hK ⊢
          go_simp
          refine (asSl (readGroup_any g _ HGd.out HGl.out)).mono ?_
          rintro e V ⟨A9, n9, c9, rfl, hz, hb⟩
          try go_wp2_with fail
          exact hK.out _ _ ⟨_, _, _, rfl, hz⟩ hb (fun b hb => by cases hb)
        refine Steps.cons (fun (v : Value) (X : World) => ∃ A n c, v = .slice A n c ∧ Wd X (.slice A n c) (dig (P * 1000000000 + ofD g.data.toList))) [2, 6] rfl (by kernel_rfl) rfl (by kernel_rfl) (fun y X ex0 hf K hK => ?_) ?_
        · obtain ⟨A2, n2, c2, h2, z2⟩ : ((fun (v : Value) (X : World) => ∃ A n c, v = .slice A n c ∧ Wd X (.slice A n c) (dig (P * 1000000000)))) (y 2) X := hf.1
          obtain ⟨A6, n6, c6, h6, z6⟩ : ((fun (v : Value) (X : World) => ∃ A n c, v = .slice A n c ∧ Wd X (.slice A n c) (dig (ofD g.data.toList)))) (y 6) X := hf.2.1
          clear hf
          have ex := (Ext.drw (Ext.refl _)).trans ex0
          refine Box.mk ?_
          simp only [fill, Act.put, Nat.reduceAdd, List.setIfInBounds_toArray, List.set_cons_zero, List.set_cons_succ, h2, h6] at hK ⊢
          go_simp
          refine (asSl (plusE_any _ _ _ _ _ z2 z6 HP2.out HG2.out)).mono ?_
          rintro e V ⟨A9, n9, c9, rfl, hz, hb⟩
          try go_wp2_with fail
          exact hK.out _ _ ⟨_, _, _, rfl, hz⟩ hb (fun b hb => by cases hb)
        exact Steps.nil
      case done =>
        intro y X ex hf hlt hsep
        obtain ⟨A0, n0, c0, h0, z0⟩ : ((fun (v : Value) (X : World) => ∃ A n c, v = .slice A n c ∧ Wd X (.slice A n c) (dig (P)))) (y 0) X := hf.1
        obtain ⟨A1, n1, c1, h1, z1⟩ : ((fun (v : Value) (X : World) => ∃ A n c, v = .slice A n c ∧ Wd X (.slice A n c) (dig (1000000000)))) (y 1) X := hf.2.1
        obtain ⟨A2, n2, c2, h2, z2⟩ : ((fun (v : Value) (X : World) => ∃ A n c, v = .slice A n c ∧ Wd X (.slice A n c) (dig (P * 1000000000)))) (y 2) X := hf.2.2.1
        have h3 : ((fun (v : Value) (_ : World) => v = .string t)) (y 3) X := hf.2.2.2.1
        have h4 : ((fun (v : Value) (_ : World) => v = .int .i64 (nn : Int))) (y 4) X := hf.2.2.2.2.1
        have h5 : ((fun (v : Value) (_ : World) => v = .string g)) (y 5) X := hf.2.2.2.2.2.1
        obtain ⟨A6, n6, c6, h6, z6⟩ : ((fun (v : Value) (X : World) => ∃ A n c, v = .slice A n c ∧ Wd X (.slice A n c) (dig (ofD g.data.toList)))) (y 6) X := hf.2.2.2.2.2.2.1
        obtain ⟨A7, n7, c7, h7, z7⟩ : ((fun (v : Value) (X : World) => ∃ A n c, v = .slice A n c ∧ Wd X (.slice A n c) (dig (P * 1000000000 + ofD g.data.toList)))) (y 7) X := hf.2.2.2.2.2.2.2.1
        clear hf
        clear hsep hlt
        refine Box.mk ?_
        simp only [List.drop_succ_cons, List.drop_zero, fill, Act.put, Nat.reduceAdd, List.setIfInBounds_toArray, List.set_cons_zero, List.set_cons_succ, h0, h1, h2, h3, h4, h5, h6, h7]
        clear h0 h1 h2 h3 h4 h5 h6 h7
        have EX := Lib.hid ex; clear ex
        have kz := Lib.hid z7
        clear z0 z1 z2 z6 z7
        go_wp2_with fail
        refine NoPanic.normal ?_
        go_wp2_with fail
        go_roundw
        case rel =>
          have e1 : (t.extract nn t.size).data.toList = t.data.toList.drop nn := by
            rw [ba_extract, List.take_of_length_le (by rw [List.length_drop, ba_len]; exact Nat.le_refl _)]
          have e2 : (t.extract nn t.size).size = t.size - nn := by rw [← ba_len, e1, List.length_drop, ba_len]
          refine ⟨t.extract nn t.size, m + nn, rfl, by rw [e2]; omega, by rw [e1, Ht.out, List.drop_drop], Or.inr (by rw [e2]; omega), ?_, hbel.trans (EX.out.mono hbel.size)⟩
          have e3 : ofD (s.data.toList.take (m + nn)) = P * 1000000000 + ofD g.data.toList := by
            rw [List.take_add, ofD_append, ← HPe.out, ← Ht.out, ← Hgt.out]
            rcases h9 with h9 | h9
            · have : P = 0 := by rw [HPe.out, h9, List.take_zero, ofD_nil]
              rw [this, Nat.zero_mul, Nat.zero_mul]
            · have e4 : g.data.toList.length = 9 := by rw [Hgt.out, List.length_take, ba_len]; omega
              rw [e4]
          rw [e3]
          exact kz.out
        case measure =>
          have e2 : (t.extract nn t.size).size = t.size - nn := by rw [← ba_len, ba_extract, List.length_take, List.length_drop, ba_len]; omega
          simp only [bLen, e2]
          omega

end Go.Proofs.YtmlopkkbgpfdnaaGreatDoor
namespace Go.Proofs.YtmlopkkbgpfdnaaGreatDoor
open Go.RowKit

set_option maxHeartbeats 400000 in
set_option maxRecDepth 100000 in
theorem decimal_none (s : ByteArray) (w : World) (h : s.size = 0) : Calls Tryz.prog 71 #[.string s] w fun e w' => e = .returned (.bool false) ∧ w' = w := by
  have hte : s.toList.isEmpty = true := by rw [ba_empty, h]; rfl
  go_enter Tryz.func71, Tryz.ntmps71
  go_wp2
  go_ret
  exact ⟨rfl, rfl⟩

set_option maxHeartbeats 400000 in
set_option maxRecDepth 100000 in
theorem decimal_long (s : ByteArray) (w : World) (h : 2500 < s.size) : Calls Tryz.prog 71 #[.string s] w fun e w' => e = .returned (.bool false) ∧ w' = w := by
  have hte : s.toList.isEmpty = false := by rw [ba_empty]; exact decide_eq_false (by omega)
  go_enter Tryz.func71, Tryz.ntmps71
  go_wp2
  go_ret
  exact ⟨rfl, rfl⟩

set_option maxHeartbeats 400000 in
set_option maxRecDepth 100000 in
theorem decimal_zero (s : ByteArray) (w : World) (h : 1 < s.size) (h2 : s.size ≤ 2500) (h3 : s[0] = 48) : Calls Tryz.prog 71 #[.string s] w fun e w' => e = .returned (.bool false) ∧ w' = w := by
  have hte : s.toList.isEmpty = false := by rw [ba_empty]; exact decide_eq_false (by omega)
  go_enter Tryz.func71, Tryz.ntmps71
  go_wp2
  go_ret
  exact ⟨rfl, rfl⟩

/-- all are digits -/
def allD (l : List UInt8) : Bool := l.all fun c => decide (48 ≤ c.toNat) && decide (c.toNat ≤ 57)
theorem allD_iff {l : List UInt8} : allD l = true ↔ ∀ c ∈ l, isD c := by
  simp [allD, isD]
theorem allD_take {l : List UInt8} {k : Nat} (hk : k < l.length) (h : allD (l.take k) = true) (hc : isD l[k]) : allD (l.take (k + 1)) = true := by
  rw [allD_iff] at h ⊢
  intro c hm
  rw [← List.take_append_getElem hk] at hm
  rcases List.mem_append.1 hm with hm | hm
  · exact h c hm
  · rw [List.mem_singleton.1 hm]; exact hc

set_option maxHeartbeats 400000 in
set_option maxRecDepth 100000 in
theorem decimal_loop (s : ByteArray) (w : World) (h : 0 < s.size) (h2 : s.size ≤ 2500) (h3 : s[0] = 48 → s.size = 1) : Calls Tryz.prog 71 #[.string s] w fun e w' => e = .returned (.bool (allD s.data.toList)) ∧ w' = w := by
  have hte : s.toList.isEmpty = false := by rw [ba_empty]; exact decide_eq_false (by omega)
  have H3 := Lib.hid h3; clear h3
  go_enter Tryz.func71, Tryz.ntmps71
  go_upto_region 1 with fail
  go_cut [20] (fun a wx => a = .bool false ∧ wx = w)
  case first =>
    by_cases hz : (s[0].toNat : Int) = 48
    · have hz2 : s[0] = 48 := UInt8.toNat_inj.1 (by show s[0].toNat = 48; omega)
      have h1 : s.size = 1 := H3.out hz2
      have h4 : (s.size : Int) ≤ 1 := by omega
      go_wp2_with fail
      go_meet
      exact ⟨rfl, rfl⟩
    · go_wp2_with fail
      go_meet
      exact ⟨rfl, rfl⟩
  case rest =>
    obtain ⟨rfl, rfl⟩ := hcut
    go_wp2_with fail
    go_loop [23] (fun iv => ∃ k : Nat, iv = .int .i64 k ∧ k ≤ s.size ∧ allD (s.data.toList.take k) = true) (fun iv => s.size - (intOf iv).toNat)
    case atStart => exact ⟨0, rfl, Nat.zero_le _, rfl⟩
    case round =>
      obtain ⟨k, rfl, hk, hall⟩ := hrel
      have HA := Lib.hid hall; clear hall
      by_cases hlt : k < s.size
      · obtain ⟨c, hc⟩ : ∃ c : UInt8, c = s[k] := ⟨_, rfl⟩
        have HC := Lib.hid hc
        clear hc
        by_cases hc1 : (s[k].toNat : Int) < 48
        · go_wp2
          go_ret
          have hn : allD s.data.toList = false := by
            rw [Bool.eq_false_iff]
            intro e
            have := (allD_iff.1 e _ (List.getElem_mem (l := s.data.toList) hlt)).1
            rw [← ba_get] at this
            omega
          exact ⟨by rw [hn]; rfl, rfl⟩
        · by_cases hc2 : (57 : Int) < (s[k].toNat : Int)
          · go_wp2
            go_ret
            have hn : allD s.data.toList = false := by
              rw [Bool.eq_false_iff]
              intro e
              have := (allD_iff.1 e _ (List.getElem_mem (l := s.data.toList) hlt)).2
              rw [← ba_get] at this
              omega
            exact ⟨by rw [hn]; rfl, rfl⟩
          · go_wp2
            go_round
            case rel =>
              refine ⟨k + 1, by go_num, by omega, allD_take hlt HA.out ?_⟩
              rw [← ba_get]
              unfold isD
              omega
            case measure => simp [intOf]; omega
      · have hk' : k = s.size := by omega
        subst hk'
        have h6 := HA.out
        rw [List.take_of_length_le (by rw [ba_len]; exact Nat.le_refl _)] at h6
        have H6 := Lib.hid h6; clear h6
        go_wp2
        go_ret
        exact ⟨by rw [H6.out]; rfl, rfl⟩

theorem decimal_yes (s : ByteArray) (w : World) (h : canon s.data.toList) (h2 : s.size ≤ 2500) : Calls Tryz.prog 71 #[.string s] w fun e w' => e = .returned (.bool true) ∧ w' = w := by
  have h0 : 0 < s.size := List.length_pos_iff.2 h.1
  have hl := decimal_loop s w h0 h2 (fun e => h.2.2 (by rw [List.head?_eq_getElem?, List.getElem?_eq_getElem (show 0 < s.data.toList.length from h0)]; exact congrArg some e))
  rw [allD_iff.2 h.2.1] at hl
  exact hl
theorem decimal_no (s : ByteArray) (w : World) (h : ¬(canon s.data.toList ∧ s.size ≤ 2500)) : Calls Tryz.prog 71 #[.string s] w fun e w' => e = .returned (.bool false) ∧ w' = w := by
  by_cases h0 : s.size = 0
  · exact decimal_none s w h0
  by_cases h2 : 2500 < s.size
  · exact decimal_long s w h2
  by_cases h3 : s[0]'(by omega) = 48 ∧ 1 < s.size
  · exact decimal_zero s w h3.2 (by omega) h3.1
  have hl := decimal_loop s w (by omega) (by omega) (fun e => by
    by_cases h4 : 1 < s.size
    · exact absurd ⟨e, h4⟩ h3
    · omega)
  by_cases ha : allD s.data.toList = true
  · refine absurd ⟨⟨?_, allD_iff.1 ha, fun e => ?_⟩, by omega⟩ h
    · intro e
      exact h0 (by rw [← ba_len, e]; rfl)
    · rw [List.head?_eq_getElem?, List.getElem?_eq_getElem (show 0 < s.data.toList.length from by rw [ba_len]; omega)] at e
      rw [ba_len]
      by_cases h4 : 1 < s.size
      · exact absurd ⟨Option.some.inj e, h4⟩ h3
      · omega
  · rw [Bool.eq_false_iff.2 ha] at hl
    exact hl
end Go.Proofs.YtmlopkkbgpfdnaaGreatDoor
namespace Go.Proofs.YtmlopkkbgpfdnaaGreatDoor
open Go.RowKit

/-- the digits, and whether a minus stands in front -/
def digT (l : List UInt8) : List UInt8 := Lib.trimPrefix l [45]
def negT (l : List UInt8) : Bool := Lib.hasPrefix l [45]
/-- the text of a number -/
def okT (l : List UInt8) : Prop := (canon (digT l) ∧ (digT l).length ≤ 2500) ∧ ¬(negT l = true ∧ digT l = [48])
def numT (l : List UInt8) : Int := if negT l then -(ofD (digT l) : Int) else (ofD (digT l) : Int)

theorem ba_mk (d : ByteArray) : d = ⟨d.data.toList.toArray⟩ := by cases d; simp
theorem cut_minus (s : ByteArray) (d : ByteArray) (neg : Bool) (hd : d.data.toList = digT s.data.toList) (hn : neg = negT s.data.toList) (w : World) :
    Calls Tryz.prog 70 #[.string s, .string ⟨#[45]⟩] w fun e w' => e = .returned (.tuple #[.string d, .bool neg]) ∧ w' = w := by
  have h := Tryz.strings_CutPrefix s ⟨#[45]⟩ w
  have e1 : (⟨(Lib.trimPrefix s.data.toList (⟨#[45]⟩ : ByteArray).data.toList).toArray⟩ : ByteArray) = d := by rw [ba_mk d, hd]; rfl
  have e2 : Lib.hasPrefix s.data.toList (⟨#[45]⟩ : ByteArray).data.toList = neg := by rw [hn]; rfl
  rw [e1, e2] at h
  exact h

set_option maxHeartbeats 400000 in
set_option maxRecDepth 100000 in
theorem read_nodec (s : ByteArray) (w : World) (h : ¬(canon (digT s.data.toList) ∧ (digT s.data.toList).length ≤ 2500)) :
    Calls Tryz.prog 45 #[.string s] w fun e w' => e = .returned (.tuple #[.agg #[.bool false, .slice none 0 0], .bool false]) ∧ Below w.heap.size w w' := by
  obtain ⟨d, hd⟩ : ∃ d : ByteArray, d.data.toList = digT s.data.toList := ⟨⟨(digT s.data.toList).toArray⟩, rfl⟩
  obtain ⟨neg, hn⟩ : ∃ neg, neg = negT s.data.toList := ⟨_, rfl⟩
  have CM := Lib.hid (cut_minus s d neg hd hn)
  rw [← hd] at h
  have HD := Lib.hid (fun W => decimal_no d W h)
  clear hd hn h
  go_enter Tryz.func45, Tryz.ntmps45
  go_wp2_with fail
  refine (CM.out _).mono ?_
  rintro e w1 ⟨rfl, rfl⟩
  go_wp2_with fail
  refine (HD.out _).mono ?_
  rintro e w1 ⟨rfl, rfl⟩
  go_wp2_with fail
  exact bodyPost_ret (v := .tuple #[.agg #[.bool false, .slice none 0 0], .bool false]) (by simp [results, Tryz.results45, go_sem]) rfl ⟨rfl, below_alloc _ _⟩

theorem canon_zero : canon [48] := ⟨by simp, by intro c hc; rw [List.mem_singleton.1 hc]; exact ⟨by decide, by decide⟩, by intro _; rfl⟩

set_option maxHeartbeats 400000 in
set_option maxRecDepth 100000 in
theorem read_minus0 (s : ByteArray) (w : World) (h1 : negT s.data.toList = true) (h2 : digT s.data.toList = [48]) :
    Calls Tryz.prog 45 #[.string s] w fun e w' => e = .returned (.tuple #[.agg #[.bool false, .slice none 0 0], .bool false]) ∧ Below w.heap.size w w' := by
  have CM := Lib.hid (cut_minus s ⟨#[48]⟩ true h2.symm h1.symm)
  have HD := Lib.hid (fun W => decimal_yes ⟨#[48]⟩ W canon_zero (by decide))
  clear h1 h2
  go_enter Tryz.func45, Tryz.ntmps45
  go_wp2_with fail
  refine (CM.out _).mono ?_
  rintro e w1 ⟨rfl, rfl⟩
  go_wp2_with fail
  refine (HD.out _).mono ?_
  rintro e w1 ⟨rfl, rfl⟩
  go_wp2_with fail
  exact bodyPost_ret (v := .tuple #[.agg #[.bool false, .slice none 0 0], .bool false]) (by simp [results, Tryz.results45, go_sem]) rfl ⟨rfl, below_alloc _ _⟩

theorem read_no (s : ByteArray) (w : World) (h : ¬ okT s.data.toList) :
    Calls Tryz.prog 45 #[.string s] w fun e w' => e = .returned (.tuple #[.agg #[.bool false, .slice none 0 0], .bool false]) ∧ Below w.heap.size w w' := by
  by_cases h1 : canon (digT s.data.toList) ∧ (digT s.data.toList).length ≤ 2500
  · by_cases h2 : negT s.data.toList = true ∧ digT s.data.toList = [48]
    · exact read_minus0 s w h2.1 h2.2
    · exact absurd ⟨h1, h2⟩ h
  · exact read_nodec s w h1

set_option maxHeartbeats 400000 in
set_option maxRecDepth 100000 in
theorem read_yes0 (s d : ByteArray) (neg : Bool) (w : World) (hd : d.data.toList = digT s.data.toList) (h1 : neg = negT s.data.toList) (h2 : canon d.data.toList) (h3 : d.size ≤ 2500) (h4 : neg = true → (d.toList == [48]) = false) (z : Int) (hz : neg = decide (z < 0)) (hz0 : z.natAbs = ofD d.data.toList) :
    Calls Tryz.prog 45 #[.string s] w fun e w' => ∃ b A n c, e = .returned (.tuple #[.agg #[.bool b, .slice A n c], .bool (decide ((dig z.natAbs).length ≤ 256))]) ∧ ZV w' (.agg #[.bool b, .slice A n c]) z ∧ Below w.heap.size w w' := by
  have CM := Lib.hid (cut_minus s d neg hd h1)
  have HD := Lib.hid (fun W => decimal_yes d W h2 h3)
  have RD := Lib.hid (fun W => readDigits_any d W h2.2.1 h3)
  have H4 := Lib.hid h4
  have Hz := Lib.hid (And.intro hz hz0)
  clear h1 h2 hd h4 hz hz0
  go_enter Tryz.func45, Tryz.ntmps45
  go_wp2_with fail
  refine (CM.out _).mono ?_
  rintro e w1 ⟨rfl, rfl⟩
  have hR := RB.c1 w false none 0 0 44
  have he := below_alloc w (Obj.cells #[.bool false, .slice none 0 0] 44)
  obtain ⟨W1, hW1⟩ : ∃ W1, W1 = w.alloc (Obj.cells #[.bool false, .slice none 0 0] 44) := ⟨_, rfl⟩
  have hs1 : W1.heap.size = w.heap.size + 1 := by rw [hW1]; simp
  rw [← hW1] at hR he ⊢
  clear hW1
  have HR1 := Lib.hid hR; clear hR
  have HE1 := Lib.hid he; clear he
  go_upto_region 2 with fail
  go_cut [21] (fun a wx => a = .bool false ∧ wx = W1)
  case first =>
    cases neg
    · go_wp2_with fail
      refine (HD.out _).mono ?_
      rintro e w1 ⟨rfl, rfl⟩
      go_wp2_with fail
      go_meet
      exact ⟨rfl, rfl⟩
    · have h5 := H4.out rfl
      go_wp2_with fail
      refine (HD.out _).mono ?_
      rintro e w1 ⟨rfl, rfl⟩
      go_wp2_with fail
      go_meet
      exact ⟨rfl, rfl⟩
  case rest =>
  obtain ⟨rfl, rfl⟩ := hcut
  go_wp2_with fail
  refine (RD.out _).mono ?_
  rintro e w2 ⟨u, rfl, hu, hb2⟩
  obtain ⟨A, n, c, rfl⟩ := hu.slice_
  have hzv : ZV w2 (.agg #[.bool neg, .slice A n c]) z := ZV.mk Hz.out.1 (by rw [Hz.out.2]; exact hu)
  have hz6 := HZ.lit w2 neg A n c 44 hzv
  have hb6 := below_alloc w2 (Obj.cells #[.bool neg, .slice A n c] 44)
  have hr6 := (HR1.out.below hb2 (by omega)).below hb6 (by have := hb2.size; omega)
  have he6 := HE1.out.trans ((hb2.trans (hb6.mono hb2.size)).mono HE1.out.size)
  have HZ6 := Lib.hid hz6
  have HR := Lib.hid hr6
  have HE := Lib.hid he6
  have hs2 := hb2.size
  have hs6 : (w2.alloc (Obj.cells #[.bool neg, .slice A n c] 44)).heap.size = w2.heap.size + 1 := by simp
  clear hzv hz6 hr6 he6 hu hb2 hb6
  go_upto_region 5 with fail
  refine wp_region_noPanic ?_
  refine wp_pool 3 [some 27, some 28, some 29] [] [] [(fun (v : Value) (X : World) => ∃ b A n c, v = .agg #[.bool b, .slice A n c] ∧ ZV X (.agg #[.bool b, .slice A n c]) (z)), (fun (v : Value) (X : World) => ∃ b A n c, v = .agg #[.bool b, .slice A n c] ∧ ZV X (.agg #[.bool b, .slice A n c]) (z)), (fun (v : Value) (_ : World) => v = .bool (decide ((dig z.natAbs).length ≤ 256)))] [noF, noF, noF] (by kernel_rfl) (by kernel_rfl) (by kernel_rfl) (by kernel_rfl) (by kernel_rfl) (by kernel_rfl) (by kernel_rfl) (by kernel_rfl) (fun _ _ _ _ h => h) ⟨(fun _ _ _ e ⟨b, A, n, c, h1, h2⟩ => ⟨b, A, n, c, h1, h2.ext e⟩), (fun _ _ _ e ⟨b, A, n, c, h1, h2⟩ => ⟨b, A, n, c, h1, h2.ext e⟩), Stays.pure _, True.intro⟩ ?steps ?done
  case steps =>
    simp only [List.take_succ_cons, List.take_zero]
    refine Steps.cons (fun (v : Value) (X : World) => ∃ b A n c, v = .agg #[.bool b, .slice A n c] ∧ ZV X (.agg #[.bool b, .slice A n c]) (z)) [] rfl (by kernel_rfl) rfl (by kernel_rfl) (fun y X ex0 hf K hK => ?_) ?_
    · clear hf
      have ex := (Ext.drw (Ext.refl _)).trans ex0
      refine Box.mk ?_
      simp only [fill, Act.put, Nat.reduceAdd, List.setIfInBounds_toArray, List.set_cons_zero, List.set_cons_succ] at hK ⊢
      obtain ⟨bl, Al, nl, cl, k0, k1, kz⟩ := (HZ6.out.ext (by omega) ex)
      go_simp
      exact hK.out _ _ ⟨_, _, _, _, rfl, kz⟩ (Ext.refl _) (fun b hb => by cases hb)
    refine Steps.cons (fun (v : Value) (X : World) => ∃ b A n c, v = .agg #[.bool b, .slice A n c] ∧ ZV X (.agg #[.bool b, .slice A n c]) (z)) [] rfl (by kernel_rfl) rfl (by kernel_rfl) (fun y X ex0 hf K hK => ?_) ?_
    · clear hf
      have ex := (Ext.drw (Ext.refl _)).trans ex0
      refine Box.mk ?_
      simp only [fill, Act.put, Nat.reduceAdd, List.setIfInBounds_toArray, List.set_cons_zero, List.set_cons_succ] at hK ⊢
      obtain ⟨bl, Al, nl, cl, k0, k1, kz⟩ := (HZ6.out.ext (by omega) ex)
      go_simp
      exact hK.out _ _ ⟨_, _, _, _, rfl, kz⟩ (Ext.refl _) (fun b hb => by cases hb)
    refine Steps.cons (fun (v : Value) (_ : World) => v = .bool (decide ((dig z.natAbs).length ≤ 256))) [1] rfl (by kernel_rfl) rfl (by kernel_rfl) (fun y X ex0 hf K hK => ?_) ?_
    · obtain ⟨b1, A1, n1, c1, h1, z1⟩ : ((fun (v : Value) (X : World) => ∃ b A n c, v = .agg #[.bool b, .slice A n c] ∧ ZV X (.agg #[.bool b, .slice A n c]) (z))) (y 1) X := hf.1
      clear hf
      have ex := (Ext.drw (Ext.refl _)).trans ex0
      refine Box.mk ?_
      simp only [fill, Act.put, Nat.reduceAdd, List.setIfInBounds_toArray, List.set_cons_zero, List.set_cons_succ, h1] at hK ⊢
      go_simp
      refine (fits_any z _ _ z1).mono ?_
      rintro e V ⟨rfl, hb⟩
      try go_wp2_with fail
      exact hK.out _ _ rfl hb (fun b hb => by cases hb)
    exact Steps.nil
  case done =>
    intro y X ex hf hlt hsep
    obtain ⟨b0, A0, n0, c0, h0, z0⟩ : ((fun (v : Value) (X : World) => ∃ b A n c, v = .agg #[.bool b, .slice A n c] ∧ ZV X (.agg #[.bool b, .slice A n c]) (z))) (y 0) X := hf.1
    obtain ⟨b1, A1, n1, c1, h1, z1⟩ : ((fun (v : Value) (X : World) => ∃ b A n c, v = .agg #[.bool b, .slice A n c] ∧ ZV X (.agg #[.bool b, .slice A n c]) (z))) (y 1) X := hf.2.1
    have h2 : ((fun (v : Value) (_ : World) => v = .bool (decide ((dig z.natAbs).length ≤ 256)))) (y 2) X := hf.2.2.1
    clear hf
    clear hsep hlt
    refine Box.mk ?_
    simp only [List.drop_succ_cons, List.drop_zero, fill, Act.put, Nat.reduceAdd, List.setIfInBounds_toArray, List.set_cons_zero, List.set_cons_succ, h0, h1, h2]
    clear h0 h1 h2
    have hR7 := HR.out.below ex (by omega)
    have hR8 := Lib.hid hR7
    have kz := z0.rb hR7 (.bool b0) (.slice A0 n0 c0)
    have s0 := hR7.set0 b0 (.slice A0 n0 c0)
    have s1 := hR7.set1 b0 (.slice A0 n0 c0)
    have fin := below_set2 (g := w.heap.size) (i := 0) (j := 1) (HE.out.trans (ex.mono HE.out.size)) (Nat.le_refl _) (.bool b0) (.slice A0 n0 c0)
    have Fin := Lib.hid (And.intro kz fin)
    obtain ⟨a9, A9, n9, c9, k10, k11, k20, k21⟩ := hR7.facts
    clear kz fin ex z0 z1
    go_wp2_with fail
    refine NoPanic.normal ?_
    go_wp2
    exact bodyPost_ret (v := .tuple #[.agg #[.bool b0, .slice A0 n0 c0], .bool (decide ((dig z.natAbs).length ≤ 256))]) (by simp [results, Tryz.results45, go_sem, s0, s1]) rfl ⟨b0, A0, n0, c0, rfl, Fin.out.1, Fin.out.2⟩

end Go.Proofs.YtmlopkkbgpfdnaaGreatDoor
namespace Go.Proofs.YtmlopkkbgpfdnaaGreatDoor
open Go.RowKit

theorem okT_neg {l : List UInt8} (h : okT l) : negT l = decide (numT l < 0) := by
  unfold numT
  cases hn : negT l with
  | false => simp
  | true =>
    have h0 : 0 < ofD (digT l) := by
      refine ofD_pos _ h.1.1.2.1 h.1.1.1 (fun e => ?_)
      have h1 := h.1.1.2.2 e
      refine h.2 ⟨hn, ?_⟩
      match hd : digT l, h1, e with
      | [x], _, e => simp at e; rw [e]
    simp; omega
theorem okT_abs (l : List UInt8) : (numT l).natAbs = ofD (digT l) := by
  unfold numT
  split <;> omega

theorem read_yes (s : ByteArray) (w : World) (h : okT s.data.toList) (z : Int) (hz : z = numT s.data.toList) :
    Calls Tryz.prog 45 #[.string s] w fun e w' => ∃ b A n c, e = .returned (.tuple #[.agg #[.bool b, .slice A n c], .bool (decide ((dig z.natAbs).length ≤ 256))]) ∧ ZV w' (.agg #[.bool b, .slice A n c]) z ∧ Below w.heap.size w w' := by
  subst hz
  refine read_yes0 s ⟨(digT s.data.toList).toArray⟩ (negT s.data.toList) w rfl rfl h.1.1 h.1.2 (fun hn => ?_) _ (okT_neg h) (okT_abs _)
  rw [Bool.eq_false_iff]
  intro e
  have e2 : (⟨(digT s.data.toList).toArray⟩ : ByteArray).toList = digT s.data.toList := by rw [Lib.toList_data]
  rw [e2] at e
  exact h.2 ⟨hn, by simpa using e⟩

end Go.Proofs.YtmlopkkbgpfdnaaGreatDoor
namespace Go.Proofs.YtmlopkkbgpfdnaaGreatDoor
open Go.RowKit

end Go.Proofs.YtmlopkkbgpfdnaaGreatDoor
