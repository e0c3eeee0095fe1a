/- Walks: the reference's Digits. · Walks: the reference's naturals: plus. · Walks: the reference's whole numbers. · Walks: the reference: Valid, Same, answer. · Walks: the reference's Print. · A block that holds a sign and words, kept over what follows. (L4 has the same words: never import both.) · Worlds that only grow: for regions that draw the order of calls and new blocks. -/
import Derived.Test.YtmlopkkbgpfdnaaDoorM4
import Derived.Test.YtmlopkkbgpfdnaaDoorM5
import Derived.Test.YtmlopkkbgpfdnaaDoorM3
namespace Go.Proofs.YtmlopkkbgpfdnaaDoor
open Go.RowKit

/-- the cell of a string -/
def sw (x : List UInt8) : Value := .string ⟨x.toArray⟩

/-- parts: nothing yet, or a row of strings -/
def PV (B : Nat) (w : World) (v : Value) (ps : List (List UInt8)) : Prop :=
  (ps = [] ∧ v = .slice none 0 0) ∨ ∃ g c, v = .slice (some ⟨g, 0, none⟩) ps.length c ∧ ps.length ≤ c ∧ w.ownsRow B 9 1 v ps.length (ps.map sw)

theorem PV.below {B : Nat} {w w' : World} {v : Value} {ps : List (List UInt8)} (h : PV B w v ps) (hb : Below w.heap.size w w') : PV B w' v ps := by
  rcases h with h | ⟨g, c, hv, hc, ho⟩
  · exact .inl h
  · exact .inr ⟨g, c, hv, hc, own_below ho hb⟩
theorem PV.len {B : Nat} {w : World} {v : Value} {ps : List (List UInt8)} (h : PV B w v ps) : sLen v = ps.length := by
  rcases h with ⟨rfl, rfl⟩ | ⟨g, c, rfl, -, -⟩
  · rfl
  · rfl
theorem PV.news {B g c : Nat} {w : World} {ps : List (List UInt8)} (h : w.ownsRow B 9 1 (.slice (some ⟨g, 0, none⟩) ps.length c) ps.length (ps.map sw)) : ∀ j u, (ps.map sw)[j]? = some u → w.cell? ((⟨g, 0, none⟩ : Addr).add j) = some u := h.cells rfl

/-- what the parts say: n is the digits of what is left and the parts -/
structure Parts (n : Nat) (k : Nat) (ps : List (List UInt8)) : Prop where
  len : ps.length = k
  more : 0 < n / 1000000000 ^ k → dec n = dec (n / 1000000000 ^ k) ++ ps.flatten
  all : 0 < k → n / 1000000000 ^ k = 0 → dec n = ps.flatten
  top : k = 0 ∨ 0 < n / 1000000000 ^ (k - 1)

theorem Parts.next {n k : Nat} {ps : List (List UInt8)} (h : Parts n k ps) (hm : 0 < n / 1000000000 ^ k) (p : List UInt8)
    (hp : p = if 0 < n / 1000000000 ^ (k + 1) then List.replicate (9 - (dec (n / 1000000000 ^ k % 1000000000)).length) 48 ++ dec (n / 1000000000 ^ k % 1000000000) else dec (n / 1000000000 ^ k % 1000000000)) : Parts n (k + 1) (p :: ps) := by
  refine ⟨by simp [h.len], fun h1 => ?_, fun _ h1 => ?_, Or.inr (by rw [Nat.add_sub_cancel]; exact hm)⟩
  · rw [h.more hm, hp, if_pos h1]
    rw [gdiv_succ] at h1 ⊢
    rw [dec_group _ h1]
    simp [List.append_assoc]
  · rw [h.more hm, hp, if_neg (by omega)]
    rw [gdiv_succ] at h1
    rw [Nat.mod_eq_of_lt (by omega)]
    simp

theorem dig_giga' : dig 1000000000 = [1000000000] := by rw [dig_pos (by decide)]; rw [show 1000000000 / 4294967296 = 0 by decide, dig_zero]
theorem info9 : (Tryd.prog.info? 9).map (fun i => (i.zero, i.size, i.bytes)) = some (some (.string ⟨#[]⟩), 1, 16) := by kernel_rfl
theorem join_empty (xs : List (List UInt8)) : Lib.join xs [] = xs.flatten := by
  unfold Lib.join
  induction xs with
  | nil => rfl
  | cons x xs ih => cases xs with
    | nil => simp [List.intercalate]
    | cons y ys => simp [List.intercalate] at ih ⊢; rw [ih]

theorem itoa_pub (u : Nat) (hu : u < 1000000000) (w : World) (htab : Tab w) :
    Calls Tryd.prog 31 #[.int .i64 (u : Int)] w fun e w' => e = .returned (.string ⟨(dec u).toArray⟩) ∧ Below w.heap.size w w' := by
  refine (Tryd.strconv_Itoa (u : Int) (by omega) (by omega) w htab).mono ?_
  rintro e w' ⟨rfl, k, os, rfl⟩
  exact ⟨by rw [Lib.itoa_nonneg], Lib.below_grow _ w (Nat.le_refl _) k os⟩
theorem repeat_pub (k : Nat) (hk : k ≤ 9) (w : World) :
    Calls Tryd.prog 32 #[.string ⟨#[48]⟩, .int .i64 (k : Int)] w fun e w' => e = .returned (.string ⟨(List.replicate k 48).toArray⟩) ∧ Below w.heap.size w w' := by
  have h := Tryd.strings_Repeat ⟨#[48]⟩ k w (by omega) (by show 1 * k ≤ _; omega)
  have e4 := Lib.repeatL_replicate 48 1 k
  rw [Nat.mul_one] at e4
  have e5 : Lib.repeatL (⟨#[48]⟩ : ByteArray).data.toList k = List.replicate k 48 := e4
  rw [e5] at h
  exact h

set_option maxHeartbeats 400000 in
set_option maxRecDepth 100000 in
theorem digits_any (z : Int) (a : Value) (w : World) (ha : ZV w a z) (hlen : (dig z.natAbs).length ≤ 1000) (htab : Tab w) :
    Calls Tryd.prog 15 #[a] w fun e w' => e = .returned (.string ⟨(txt z).toArray⟩) ∧ Below w.heap.size w w' := by
  obtain ⟨i0, hi, hz0, hz1, hz2⟩ := info_parts info9
  obtain ⟨A, c0, c, rfl, hv, -, -⟩ := ha.open_
  obtain ⟨neg, hneg⟩ : ∃ neg, neg = decide (z < 0) := ⟨_, rfl⟩
  obtain ⟨n, hn⟩ : ∃ n, n = z.natAbs := ⟨_, rfl⟩
  have htx : txt z = if neg then 45 :: dec n else dec n := by rw [hneg, hn]; unfold txt; by_cases h : z < 0 <;> simp [h]
  rw [← hn] at hv hlen
  rw [← hneg, htx]
  clear htx ha
  have Hlen := Lib.hid hlen; clear hlen
  have Htab := Lib.hid htab; clear htab
  have Hv := Lib.hid hv; clear hv
  have H0 : Hid (n = 0 → z = 0) := Lib.hid (by omega)
  have Hneg := Lib.hid hneg; clear hneg hn
  go_enter Tryd.func15, Tryd.ntmps15
  go_wp2_with fail
  have hb1 := below_alloc w (Obj.cells #[.bool neg, .slice A c0 c] 43)
  have q0 : (w.alloc (Obj.cells #[.bool neg, .slice A c0 c] 43)).cell? ⟨w.heap.size, 0, none⟩ = some (.bool neg) := by rw [World.cell?_alloc_new]; rfl
  obtain ⟨W1, hW1⟩ : ∃ W1, W1 = w.alloc (Obj.cells #[.bool neg, .slice A c0 c] 43) := ⟨_, rfl⟩
  have hs1 : W1.heap.size = w.heap.size + 1 := by rw [hW1]; simp
  rw [← hW1] at hb1 q0 ⊢
  clear hW1
  have HB1 := Lib.hid hb1; clear hb1
  have Q0 := Lib.hid q0; clear q0
  go_loopw [3, 4] (fun pv mv wr => ∃ (k : Nat) (ps : List (List UInt8)), Wd wr mv (dig (n / 1000000000 ^ k)) ∧ PV W1.heap.size wr pv ps ∧ Parts n k ps ∧ Below W1.heap.size W1 wr) (fun pv _ _ => n - sLen pv)
  case atStart => exact ⟨0, [], by rw [Nat.pow_zero, Nat.div_one]; exact Hv.out.below HB1.out, .inl ⟨rfl, rfl⟩, ⟨rfl, fun _ => by simp, fun h => absurd h (by omega), .inl rfl⟩, Below.refl _ _⟩
  case round =>
    obtain ⟨k, ps, hmv, hpv, hps, hbel⟩ := hrel
    have Hps := Lib.hid hps; clear hps
    obtain ⟨m, hm⟩ : ∃ m, m = n / 1000000000 ^ k := ⟨_, rfl⟩
    rw [← hm] at hmv
    have Hm := Lib.hid hm; clear hm
    have Hmv := Lib.hid hmv
    obtain ⟨A1, c1, rfl, -, -⟩ := hmv.shape
    clear hmv
    by_cases hm0 : m = 0
    · subst hm0
      rw [dig_zero, List.length_nil]
      by_cases hk0 : k = 0
      · have hps0 : ps = [] := List.eq_nil_of_length_eq_zero (by rw [Hps.out.len, hk0])
        have hn0 : n = 0 := by have := Hm.out; rw [hk0, Nat.pow_zero, Nat.div_one] at this; omega
        have hz0 : neg = false := by have := H0.out hn0; rw [Hneg.out, this]; rfl
        rcases hpv with ⟨-, rfl⟩ | ⟨g, c5, rfl, -, -⟩
        · subst hz0
          clear hps0
          have Hn0 := Lib.hid hn0; clear hn0
          go_wp2
          go_ret
          exact ⟨by rw [Hn0.out, dec_small (by decide)]; rfl, (HB1.out.trans (hbel.mono (by omega)))⟩
        · rw [hps0] at *
          subst hz0
          have Hn0 := Lib.hid hn0; clear hn0
          rw [List.length_nil]
          go_wp2
          go_ret
          exact ⟨by rw [Hn0.out, dec_small (by decide)]; rfl, (HB1.out.trans (hbel.mono (by omega)))⟩
      · have hk1 : 0 < k := by omega
        have hall := Hps.out.all hk1 Hm.out.symm
        have hpl := Hps.out.len
        rcases hpv with ⟨hps0, rfl⟩ | ⟨g, c5, rfl, hc5, hown⟩
        · rw [hps0] at hpl; simp at hpl; omega
        have hk2 : k ≤ 2000 := groups_few Hps.out.top (lt_of_dig_len Hlen.out)
        have hg : g < wr.heap.size := (hown.lt g rfl).2
        have hdl : (dec n).length ≤ 10000 := dec_len_words (lt_of_dig_len Hlen.out) (by decide)
        have e1 : (ps.map fun x => (⟨x.toArray⟩ : ByteArray)).map (·.data.toList) = ps := by
          rw [List.map_map]
          exact (List.map_congr_left (fun _ _ => rfl)).trans (List.map_id ps)
        have hj := Tryd.strings_Join g 0 c5 (ps.map fun x => ⟨x.toArray⟩) ⟨#[]⟩ wr
          (fun j x hx => by
            have := PV.news hown j (.string x) (by rw [List.getElem?_map] at hx ⊢; cases hq : ps[j]? with
              | none => rw [hq] at hx; cases hx
              | some y => rw [hq] at hx; cases hx; rfl)
            have e : (⟨g, 0, none⟩ : Addr).add j = ⟨g, 0 + j, none⟩ := by unfold Addr.add; split <;> simp_all
            rw [e] at this
            exact this) hg (by rw [List.length_map]; omega) (by rw [List.length_map]; exact hc5) (by
              rw [e1]
              show (Lib.join ps []).length ≤ _
              rw [join_empty, ← hall]; omega)
        rw [e1] at hj
        have e2 : Lib.join ps (⟨#[]⟩ : ByteArray).data.toList = dec n := by show Lib.join ps [] = _; rw [join_empty, hall]
        rw [e2, List.length_map, hpl] at hj
        have HJ := Lib.hid hj; clear hj
        rw [hpl]
        have hq0 := (hbel.cell (p := ⟨w.heap.size, 0, none⟩) (by show w.heap.size < _; omega)).trans Q0.out
        have hpz : ((k : Int) == 0) = false := by rw [beq_eq_false_iff_ne]; omega
        have Hbel := Lib.hid hbel
        have Hdl := Lib.hid hdl
        clear hall e1 e2 hown hbel hdl hpl hc5 hg
        cases neg
        · go_wp2_with fail
          refine HJ.out.mono ?_
          rintro e w9 ⟨rfl, hb9⟩
          go_wp2
          go_ret
          exact ⟨rfl, HB1.out.trans ((Hbel.out.trans (hb9.mono Hbel.out.size)).mono (by omega))⟩
        · go_wp2_with fail
          refine HJ.out.mono ?_
          rintro e w9 ⟨rfl, hb9⟩
          have hcat : 1 + (dec n).length ≤ 9223372036854775807 := by have := Hdl.out; omega
          have Hap := Lib.hid (str_append [45] (dec n))
          go_wp2
          go_ret
          exact ⟨by rw [Hap.out]; rfl, HB1.out.trans ((Hbel.out.trans (hb9.mono Hbel.out.size)).mono (by omega))⟩
    · have hm1 : 0 < m := by omega
      have hml : 0 < (dig m).length := dig_len_pos.2 hm1
      obtain ⟨ml, hml'⟩ : ∃ ml, ml = (dig m).length := ⟨_, rfl⟩
      have hml2 : (dig m).length ≤ 999999 := Nat.le_trans (dig_len_mono (by rw [Hm.out]; exact Nat.div_le_self _ _)) (by have := Hlen.out; omega)
      have Hml2 := Lib.hid hml2; clear hml2
      rw [← hml'] at Hmv hml ⊢
      have Hml' := Lib.hid hml'; clear hml'
      have hg1 : (dig 1000000000).length ≤ 999990 := by rw [dig_giga']; decide
      have Hg1 := Lib.hid hg1; clear hg1
      have Hpv := Lib.hid hpv; clear hpv
      go_wp2_with fail
      refine (naturalR_any 1000000000 (by decide) wr).mono ?_
      rintro e w1 ⟨u, rfl, hu, hb1⟩
      obtain ⟨A2, n2, c2, rfl⟩ := hu.slice_
      go_wp2_with fail
      refine (dividedR_any m 1000000000 _ _ w1 (Hmv.out.below hb1) hu Hml2.out Hg1.out (by decide)).mono ?_
      rintro e w2 ⟨q, r, rfl, hq, hr, hb2⟩
      have hb3 := hb1.trans (hb2.mono hb1.size)
      obtain ⟨A3, n3, c3, rfl⟩ := hq.slice_
      obtain ⟨A4, n4, c4, rfl⟩ := hr.slice_
      have hbel2 := hbel.trans (hb3.mono hbel.size)
      clear hu hb1 hb2
      obtain ⟨rr, hrr⟩ : ∃ rr, rr = m % 1000000000 := ⟨_, rfl⟩
      obtain ⟨qq, hqq⟩ : ∃ qq, qq = m / 1000000000 := ⟨_, rfl⟩
      have hrl : rr < 1000000000 := by rw [hrr]; exact Nat.mod_lt _ (by decide)
      rw [← hrr] at hr
      rw [← hqq] at hq
      have Hrr := Lib.hid hrr; clear hrr
      have Hqq := Lib.hid hqq; clear hqq
      have Hbel2 := Lib.hid hbel2; clear hbel2 hbel
      have Hb3 := Lib.hid hb3; clear hb3
      have Hq := Lib.hid hq; clear hq
      have HT2 : Hid (Tab w2) := Lib.hid (tab_below (tab_below Htab.out HB1.out) (Hbel2.out))
      go_upto_region 6 with fail
      have hn4 : n4 = (dig rr).length := hr.len
      have hn4' : decide (0 < n4) = decide (0 < rr) := by
        have := @dig_len_pos rr
        by_cases h : 0 < rr
        · have h2 := this.2 h
          rw [decide_eq_true h]; exact decide_eq_true (by omega)
        · have h2 : ¬ 0 < (dig rr).length := fun e => h (this.1 e)
          rw [decide_eq_false h]; exact decide_eq_false (by omega)
      have Hn4 := Lib.hid hn4; clear hn4
      have Hn4' := Lib.hid hn4'; clear hn4'
      go_cut [22] (fun v wx => v = .bool (decide (0 < rr)) ∧ wx = w2)
      case first =>
        go_wp2_with fail
        go_meet
        exact ⟨congrArg Value.bool Hn4'.out, rfl⟩
      case rest =>
      obtain ⟨rfl, hwc⟩ := hcut
      rw [hwc]
      clear hwc
      go_upto_if 22 with fail
      go_cut [7] (fun v wx => v = .int .i64 (rr : Int) ∧ wx = w2)
      case first =>
        by_cases hr0 : rr = 0
        · subst hr0
          go_wp2_with fail
          go_meet
          exact ⟨rfl, rfl⟩
        · have hn1 : n4 = 1 := by
            have h1 := Hn4.out
            have h2 := dig_len_pos.2 (show 0 < rr by omega)
            have h3 := dig_len_le (n := rr) (k := 1) (by omega)
            omega
          subst hn1
          obtain ⟨b4, o4, rfl, hb4, hc4⟩ := Wd.cell (k := 0) hr (by omega)
          have hce := hc4 0 (by omega)
          rw [Nat.add_zero] at hce
          have hdg : dg rr 0 = rr := by unfold dg; rw [Nat.pow_zero, Nat.div_one]; omega
          rw [hdg] at hce
          have hrp : 0 < rr := by omega
          clear hc4 hdg
          go_wp2_with fail
          go_meet
          exact ⟨rfl, rfl⟩
      case rest =>
      obtain ⟨rfl, hwc⟩ := hcut
      rw [hwc]
      clear hwc
      go_wp2_with fail
      refine (itoa_pub rr hrl _ HT2.out).mono ?_
      rintro e w5 ⟨rfl, hb5⟩
      have hdl1 := dec_len rr
      have hdl9 := group_len rr hrl
      obtain ⟨sg, hsg⟩ : ∃ s : ByteArray, s = ⟨(dec rr).toArray⟩ := ⟨_, rfl⟩
      have hsz : sg.size = (dec rr).length := by rw [hsg]; rfl
      rw [← hsz] at hdl1 hdl9
      rw [← hsg]
      have Hsg := Lib.hid hsg; clear hsg
      have Hsz := Lib.hid hsz; clear hsz
      have Hb5 := Lib.hid hb5; clear hb5
      obtain ⟨p, hp⟩ : ∃ p : List UInt8, p = if 0 < qq then List.replicate (9 - (dec rr).length) 48 ++ dec rr else dec rr := ⟨_, rfl⟩
      go_upto_region 9 with fail
      have hn3 : decide (0 < n3) = decide (0 < qq) := by
        have h1 := Hq.out.len
        have h3 := @dig_len_pos qq
        by_cases h : 0 < qq
        · have h2 := h3.2 h
          rw [decide_eq_true h]; exact decide_eq_true (by omega)
        · have h2 : ¬ 0 < (dig qq).length := fun e => h (h3.1 e)
          rw [decide_eq_false h]; exact decide_eq_false (by omega)
      have Hn3 := Lib.hid hn3; clear hn3
      have Hp := Lib.hid hp; clear hp
      go_cut [31] (fun v wx => v = .bool (decide (0 < qq)) ∧ wx = w5)
      case first =>
        go_wp2_with fail
        go_meet
        exact ⟨congrArg Value.bool Hn3.out, rfl⟩
      case rest =>
      obtain ⟨rfl, hwc⟩ := hcut
      rw [hwc]
      clear hwc
      go_upto_if 31 with fail
      go_cut [8] (fun v wx => v = .string ⟨p.toArray⟩ ∧ Below w5.heap.size w5 wx)
      case first =>
        by_cases hq0 : qq = 0
        · subst hq0
          have hpe : Value.string sg = sw p := by rw [Hp.out, if_neg (by omega), Hsg.out]; rfl
          have Hpe := Lib.hid hpe; clear hpe
          go_wp2_with fail
          go_meet
          exact ⟨Hpe.out, Below.refl _ _⟩
        · have hqp : 0 < qq := by omega
          obtain ⟨pad, hpad⟩ : ∃ x : Nat, x = 9 - sg.size := ⟨_, rfl⟩
          have hpi : (9 : Int) - (sg.size : Int) = (pad : Int) := by omega
          have hpl : pad ≤ 8 := by omega
          have hpe : Value.string ((⟨(List.replicate pad 48).toArray⟩ : ByteArray) ++ sg) = sw p := by
            rw [Hp.out, if_pos hqp, Hsg.out, str_append, hpad, Hsz.out]; rfl
          have Hpe := Lib.hid hpe; clear hpe
          have Hpad := Lib.hid hpad; clear hpad
          go_wp2_with fail
          refine (repeat_pub pad (by omega) _).mono ?_
          rintro e w6 ⟨rfl, hb6⟩
          go_wp2_with fail
          go_meet
          exact ⟨Hpe.out, hb6⟩
      case rest =>
      obtain ⟨rfl, hb6⟩ := hcut
      rename World => W6
      have hb7 := (Hb3.out.trans (Hb5.out.mono Hb3.out.size)).trans (hb6.mono (Hb3.out.trans (Hb5.out.mono Hb3.out.size)).size)
      have hb8 := Hbel2.out.trans ((Hb5.out.trans (hb6.mono Hb5.out.size)).mono Hbel2.out.size)
      have hq6 := (Hq.out.below Hb5.out).below hb6
      have hpv6 := Hpv.out.below hb7
      have Hb8 := Lib.hid hb8; clear hb8 hb7 hb6
      have hk2 : k ≤ 2000 := groups_few Hps.out.top (lt_of_dig_len Hlen.out)
      have hpl := Hps.out.len
      have hsl := hpv6.len
      have hnx := Parts.next Hps.out (by rw [← Hm.out]; exact hm1) p (by rw [gdiv_succ, ← Hm.out, ← Hqq.out, ← Hrr.out]; exact Hp.out)
      have Hnx := Lib.hid hnx; clear hnx
      have hms : n - (k + 1) < n - k := by
        have := groups_le (n := n) (k := k + 1) (Or.inr (by rw [Nat.add_sub_cancel, ← Hm.out]; exact hm1))
        omega
      rcases hpv6 with ⟨hps0, rfl⟩ | ⟨g, c5, rfl, hc5, hown⟩
      · have hown6 : (W6.alloc (Obj.cells #[.string ⟨p.toArray⟩] 9)).ownsRow W1.heap.size 9 1 (.slice (some ⟨W6.heap.size, 0, none⟩) 1 1) 1 [sw p] := World.ownsRow_lit W6 #[sw p] 1 Hb8.out.size (by unfold maxLen; omega) rfl
        have hb9 := Hb8.out.alloc (o := Obj.cells #[.string ⟨p.toArray⟩] 9) Hb8.out.size
        have hqd := hq6.below (below_alloc W6 (Obj.cells #[.string ⟨p.toArray⟩] 9))
        have Hown := Lib.hid hown6; clear hown6
        have hk0 : k = 0 := by rw [← hpl, hps0]; rfl
        have Hps0 := Lib.hid hps0
        have Hk0 := Lib.hid hk0
        clear hps0 hsl hpl hk0
        go_wp2
        go_roundw
        case rel =>
          refine ⟨k + 1, p :: ps, by rw [gdiv_succ, ← Hm.out, ← Hqq.out]; exact hqd, .inr ⟨W6.heap.size, 1, ?_, ?_, ?_⟩, Hnx.out, hb9⟩
          · rw [Hps0.out]; rfl
          · rw [Hps0.out]; exact Nat.le_refl _
          · rw [Hps0.out]; exact Hown.out
        case measure =>
          rw [Hk0.out] at hms
          simp [sLen]
          omega
      · go_wp2_with (at_builtin; refine wpList_append_own _ rfl _ _ 61 rfl W1.heap.size 9 i0 (.string ⟨#[]⟩) 1 16 Tryd.underlying61 hi hz0 hz1 hz2 rfl (by decide) _ 1 [sw p] rfl (World.ownsRow_lit W6 #[sw p] 1 Hb8.out.size (by unfold maxLen; omega) rfl) ⟨g, 0, none⟩ ps.length c5 (ps.map sw) rfl ?c1 ?c2 ?c3 ?c4 ?c5 ?c6 ?_)
        case c1 => rw [List.length_map, Nat.mul_one]
        case c2 => exact fun j u hj => PV.news (own_below hown (below_alloc W6 _)) j u hj
        case c3 =>
          intro u hu
          obtain ⟨t, -, rfl⟩ := List.mem_map.1 hu
          rfl
        case c4 => unfold maxLen; omega
        case c5 => omega
        case c6 => have := Hb8.out.size; simp; omega
        intro v' w8 hown8 hgrow _
        have hown9 : w8.ownsRow W1.heap.size 9 1 v' (p :: ps).length ((p :: ps).map sw) := by
          rw [List.length_cons, List.map_cons, Nat.add_comm, hpl, hs1]; exact hown8
        have hb9 : Below W1.heap.size W1 w8 := (Hb8.out.alloc (o := Obj.cells #[.string ⟨p.toArray⟩] 9) Hb8.out.size).grown hgrow (by have := Hb8.out.size; simp; omega) (fun k hk => (World.ownsRow_lit W6 #[sw p] 1 (base := W1.heap.size) (size := 1) (e := 9) Hb8.out.size (by unfold maxLen; omega) rfl).lt k hk |>.1)
        have hb10 : Below W6.heap.size W6 w8 := (below_alloc W6 _).grown hgrow (by simp) (fun k hk => (World.ownsRow_lit W6 #[sw p] 1 (base := W6.heap.size) (size := 1) (e := 9) (Nat.le_refl _) (by unfold maxLen; omega) rfl).lt k hk |>.1)
        have hqd : Wd w8 (.slice A3 n3 c3) (dig qq) := hq6.below hb10
        have hpv8 : ∃ g2 c9, v' = .slice (some ⟨g2, 0, none⟩) (p :: ps).length c9 ∧ (p :: ps).length ≤ c9 := by
          rcases hown9.2 with ⟨_, h0⟩ | ⟨g2, cap, cur, hv, hbg, hg, hn, rest⟩
          · simp at h0
          · exact ⟨g2, cap, hv, hn⟩
        obtain ⟨g2, c9, rfl, hc9⟩ := hpv8
        have Hown := Lib.hid hown9; clear hown9 hown8 hgrow hown
        have Hc9 := Lib.hid hc9; clear hc9
        have Hqd := Lib.hid hqd; clear hqd hq6
        have Hb9 := Lib.hid hb9; clear hb9
        have Hpl := Lib.hid hpl
        clear hsl hc5 hpl
        go_wp2
        go_roundw
        case rel =>
          exact ⟨k + 1, p :: ps, by rw [gdiv_succ, ← Hm.out, ← Hqq.out]; exact Hqd.out, .inr ⟨g2, c9, rfl, Hc9.out, Hown.out⟩, Hnx.out, Hb9.out⟩
        case measure =>
          have := Hpl.out
          simp [sLen]
          omega
end Go.Proofs.YtmlopkkbgpfdnaaDoor
namespace Go.Proofs.YtmlopkkbgpfdnaaDoor
open Go.RowKit

theorem make_u32_cap (t : TypeId) (ht : Tryd.prog.underlying t = some (.slice 45)) (k : Nat) (hk : k ≤ 70368744177664) (w : World) :
    (Instr.makeSlice t (.int .i64 0) (.int .i64 (k : Int))).run Tryd.prog w = .ok (.slice (some ⟨w.heap.size, 0, none⟩) 0 k) (w.alloc (.cells (U32s (zeros k)) 45)) := by
  obtain ⟨i0, hi, hz0, hz1, hz2⟩ := info_parts info45
  have hr := run_make (P := Tryd.prog) w t 45 i0 _ ht hi hz0 .i64 .i64 0 k (by omega) (by omega) (by rw [hz2]; omega) (by omega)
  rw [hr, Int.toNat_natCast, hz1, Nat.mul_one, made_zeros]
  rfl

theorem step_own {w wr w1 : World} {v v' : Value} {ds : List Nat} {x : Nat} {o : Obj} (hbel : Below w.heap.size w wr) (hown : wr.ownsRow w.heap.size 45 1 v ds.length (ds.map uw))
    (hown' : w1.ownsRow w.heap.size 45 1 v' (ds.length + 1) (ds.map uw ++ [uw x])) (hgrow : (wr.alloc o).grownBy w1 v.ownBlock) :
    Below w.heap.size w w1 ∧ w1.ownsRow w.heap.size 45 1 v' (ds ++ [x]).length ((ds ++ [x]).map uw) :=
  ⟨(hbel.alloc hbel.size _).grown hgrow (by have := hbel.size; simp; omega) (fun k hk => (hown.lt k hk).1), by
    rw [List.length_append, List.map_append]; exact hown'⟩

set_option maxHeartbeats 1600000 in
set_option maxRecDepth 100000 in
/-- ref plus -/
theorem plusR_any (x y : Nat) (u v : Value) (w : World) (hx : Wd w u (dig x)) (hy : Wd w v (dig y)) (lx : (dig x).length ≤ 1000000) (ly : (dig y).length ≤ 1000000) :
    Calls Tryd.prog 22 #[u, v] w fun e w' => ∃ r, e = .returned r ∧ Wd w' r (dig (x + y)) ∧ Below w.heap.size w w' := by
  obtain ⟨i0, hi, hz0, hz1, hz2⟩ := info_parts info45
  obtain ⟨A, c, rfl, -, -⟩ := hx.shape
  obtain ⟨A', c', rfl, -, -⟩ := hy.shape
  obtain ⟨nx, hnx⟩ : ∃ n, n = (dig x).length := ⟨_, rfl⟩
  obtain ⟨ny, hny⟩ : ∃ n, n = (dig y).length := ⟨_, rfl⟩
  rw [← hnx] at lx hx ⊢
  rw [← hny] at ly hy ⊢
  have Hx := Lib.hid hx; clear hx
  have Hy := Lib.hid hy; clear hy
  have Hnx := Lib.hid hnx; clear hnx
  have Hny := Lib.hid hny; clear hny
  obtain ⟨n, hn, h1, h2, h3⟩ : ∃ n : Nat, max (nx : Int) (ny : Int) = (n : Int) ∧ nx ≤ n ∧ ny ≤ n ∧ n ≤ 1000000 := ⟨max nx ny, by omega, by omega, by omega, by omega⟩
  have hn' : n = nx ∨ n = ny := by omega
  have Hn' := Lib.hid hn'; clear hn'
  have hmk : ∀ w, (Instr.makeSlice 41 (.int .i64 0) (.int .i64 ((n : Int) + 1))).run Tryd.prog w = .ok (.slice (some ⟨w.heap.size, 0, none⟩) 0 (n + 1)) (w.alloc (.cells (U32s (zeros (n + 1))) 45)) := fun w => make_u32_cap 41 Tryd.underlying41 (n + 1) (by omega) w
  have hsz0 : (U32s (zeros (n + 1))).size = n + 1 := by simp [U32s, zeros]
  have Hsz0 := Lib.hid hsz0; clear hsz0
  go_enter Tryd.func22, Tryd.ntmps22
  go_wp2_with fail
  go_loopw [5, 6, 7] (fun ov cr i wr => ∃ (k cv : Nat) (ds : List Nat), i = .int .i64 k ∧ k ≤ n ∧ cr = .int .u64 cv ∧ cv ≤ 1 ∧ ds.length = k ∧ Ok ds ∧ wr.ownsRow w.heap.size 45 1 ov ds.length (ds.map uw) ∧ Below w.heap.size w wr ∧
      val ds + 4294967296 ^ k * cv = x % 4294967296 ^ k + y % 4294967296 ^ k) (fun _ _ i _ => n - (intOf i).toNat)
  case atStart => exact ⟨0, 0, [], rfl, Nat.zero_le _, rfl, by omega, rfl, Ok.nil, World.ownsRow_made w _ (n + 1) (Nat.le_refl _) (by unfold maxLen; omega) (by rw [Hsz0.out]; omega), below_alloc _ _, by simp [val, Nat.mod_one]⟩
  case round =>
    obtain ⟨k, cv, ds, rfl, hk, rfl, hcv, hL, hok, hown, hbel, hval⟩ := hrel
    have HV := Lib.hid hval; clear hval
    have hL1 : ds.length ≤ 1000000 := by omega
    have HL := Lib.hid hL; clear hL
    have HX := Lib.hid (Hx.out.below hbel)
    have HY := Lib.hid (Hy.out.below hbel)
    by_cases hlx : k < nx
    · by_cases hly : k < ny
      · have hpx : (k : Int) < (nx : Int) := by omega
        have hdx : decide ((k : Int) < (nx : Int)) = true := by simp; omega
        obtain ⟨bx, ox, rfl, -, hcx⟩ := Wd.cell (k := k) HX.out (by omega)
        have c1 := hcx k (by omega)
        clear hcx
        obtain ⟨p, hp⟩ : ∃ p, p = dg x k := ⟨_, rfl⟩
        have hpl : p < 4294967296 := by rw [hp]; exact dg_lt _ _
        rw [← hp] at c1
        have Hp := Lib.hid hp; clear hp
        have hpy : (k : Int) < (ny : Int) := by omega
        have hdy : decide ((k : Int) < (ny : Int)) = true := by simp; omega
        obtain ⟨by_, oy, rfl, -, hcy⟩ := Wd.cell (k := k) HY.out (by omega)
        have c2 := hcy k (by omega)
        clear hcy
        obtain ⟨q, hq⟩ : ∃ q, q = dg y k := ⟨_, rfl⟩
        have hql : q < 4294967296 := by rw [hq]; exact dg_lt _ _
        rw [← hq] at c2
        have Hq := Lib.hid hq; clear hq
        go_wp2_with (at_builtin; refine wpList_append_own _ rfl _ _ 41 rfl w.heap.size 45 i0 (.int .u32 0) 1 4 Tryd.underlying41 hi hz0 hz1 hz2 rfl (by decide) _ _ _ rfl (hown.alloc _) ⟨wr.heap.size, 0, none⟩ 1 1 [uw ((cv + p + q) % 4294967296)] rfl rfl ?c1 ?c2 ?c3 ?c4 ?c5 ?_)
        case c1 =>
          intro j u hj
          match j, hj with
          | 0, hj => simp at hj; subst hj; simp [Addr.add, uw]
        case c2 => intro u hu; simp at hu; subst hu; rfl
        case c3 => unfold maxLen; omega
        case c4 => omega
        case c5 => have := hbel.size; simp; omega
        intro v' w1 hown' hgrow _
        obtain ⟨hb1, ho1⟩ := step_own hbel hown hown' hgrow
        have Ho := Lib.hid ho1; clear ho1 hown' hgrow hown hbel
        go_wp2
        go_roundw
        case rel =>
          refine ⟨k + 1, (cv + p + q) / 4294967296, ds ++ [(cv + p + q) % 4294967296], by simp, by omega, by simp, by omega, by rw [List.length_append, HL.out]; rfl, hok.append (Ok.mk (by omega) Ok.nil), Ho.out, hb1, ?_⟩
          rw [val_append, HL.out]
          simp only [val, Nat.mul_zero, Nat.add_zero]
          exact add_round HV.out (by rw [← Hp.out, ← Hq.out]; omega)
        case measure => simp [intOf]; omega
      · have hpx : (k : Int) < (nx : Int) := by omega
        have hdx : decide ((k : Int) < (nx : Int)) = true := by simp; omega
        obtain ⟨bx, ox, rfl, -, hcx⟩ := Wd.cell (k := k) HX.out (by omega)
        have c1 := hcx k (by omega)
        clear hcx
        obtain ⟨p, hp⟩ : ∃ p, p = dg x k := ⟨_, rfl⟩
        have hpl : p < 4294967296 := by rw [hp]; exact dg_lt _ _
        rw [← hp] at c1
        have Hp := Lib.hid hp; clear hp
        have hpy : (ny : Int) ≤ (k : Int) := by omega
        have hdy : decide ((k : Int) < (ny : Int)) = false := by simp; omega
        obtain ⟨q, hq0⟩ : ∃ q, q = 0 := ⟨_, rfl⟩
        have hq : q = dg y k := by rw [hq0, dg_zero (by rw [← Hny.out]; omega)]
        have hql : q < 4294967296 := by omega
        have Hq := Lib.hid hq; clear hq
        have Hq0 := Lib.hid hq0; clear hq0
        go_wp2_with (at_builtin; refine wpList_append_own _ rfl _ _ 41 rfl w.heap.size 45 i0 (.int .u32 0) 1 4 Tryd.underlying41 hi hz0 hz1 hz2 rfl (by decide) _ _ _ rfl (hown.alloc _) ⟨wr.heap.size, 0, none⟩ 1 1 [uw ((cv + p) % 4294967296)] rfl rfl ?c1 ?c2 ?c3 ?c4 ?c5 ?_)
        case c1 =>
          intro j u hj
          match j, hj with
          | 0, hj => simp at hj; subst hj; simp [Addr.add, uw]
        case c2 => intro u hu; simp at hu; subst hu; rfl
        case c3 => unfold maxLen; omega
        case c4 => omega
        case c5 => have := hbel.size; simp; omega
        intro v' w1 hown' hgrow _
        obtain ⟨hb1, ho1⟩ := step_own hbel hown hown' hgrow
        have Ho := Lib.hid ho1; clear ho1 hown' hgrow hown hbel
        go_wp2
        go_roundw
        case rel =>
          refine ⟨k + 1, (cv + p) / 4294967296, ds ++ [(cv + p) % 4294967296], by simp, by omega, by simp, by omega, by rw [List.length_append, HL.out]; rfl, hok.append (Ok.mk (by omega) Ok.nil), Ho.out, hb1, ?_⟩
          rw [val_append, HL.out]
          simp only [val, Nat.mul_zero, Nat.add_zero]
          exact add_round HV.out (by rw [← Hp.out, ← Hq.out, Hq0.out]; omega)
        case measure => simp [intOf]; omega
    · by_cases hly : k < ny
      · have hpx : (nx : Int) ≤ (k : Int) := by omega
        have hdx : decide ((k : Int) < (nx : Int)) = false := by simp; omega
        obtain ⟨p, hp0⟩ : ∃ p, p = 0 := ⟨_, rfl⟩
        have hp : p = dg x k := by rw [hp0, dg_zero (by rw [← Hnx.out]; omega)]
        have hpl : p < 4294967296 := by omega
        have Hp := Lib.hid hp; clear hp
        have Hp0 := Lib.hid hp0; clear hp0
        have hpy : (k : Int) < (ny : Int) := by omega
        have hdy : decide ((k : Int) < (ny : Int)) = true := by simp; omega
        obtain ⟨by_, oy, rfl, -, hcy⟩ := Wd.cell (k := k) HY.out (by omega)
        have c2 := hcy k (by omega)
        clear hcy
        obtain ⟨q, hq⟩ : ∃ q, q = dg y k := ⟨_, rfl⟩
        have hql : q < 4294967296 := by rw [hq]; exact dg_lt _ _
        rw [← hq] at c2
        have Hq := Lib.hid hq; clear hq
        go_wp2_with (at_builtin; refine wpList_append_own _ rfl _ _ 41 rfl w.heap.size 45 i0 (.int .u32 0) 1 4 Tryd.underlying41 hi hz0 hz1 hz2 rfl (by decide) _ _ _ rfl (hown.alloc _) ⟨wr.heap.size, 0, none⟩ 1 1 [uw ((cv + q) % 4294967296)] rfl rfl ?c1 ?c2 ?c3 ?c4 ?c5 ?_)
        case c1 =>
          intro j u hj
          match j, hj with
          | 0, hj => simp at hj; subst hj; simp [Addr.add, uw]
        case c2 => intro u hu; simp at hu; subst hu; rfl
        case c3 => unfold maxLen; omega
        case c4 => omega
        case c5 => have := hbel.size; simp; omega
        intro v' w1 hown' hgrow _
        obtain ⟨hb1, ho1⟩ := step_own hbel hown hown' hgrow
        have Ho := Lib.hid ho1; clear ho1 hown' hgrow hown hbel
        go_wp2
        go_roundw
        case rel =>
          refine ⟨k + 1, (cv + q) / 4294967296, ds ++ [(cv + q) % 4294967296], by simp, by omega, by simp, by omega, by rw [List.length_append, HL.out]; rfl, hok.append (Ok.mk (by omega) Ok.nil), Ho.out, hb1, ?_⟩
          rw [val_append, HL.out]
          simp only [val, Nat.mul_zero, Nat.add_zero]
          exact add_round HV.out (by rw [← Hp.out, ← Hq.out, Hp0.out]; omega)
        case measure => simp [intOf]; omega
      · have hkn : k = n := by rcases Hn'.out with h | h <;> omega
        have hdx : decide ((k : Int) < (nx : Int)) = false := by simp; omega
        have hdy : decide ((k : Int) < (ny : Int)) = false := by simp; omega
        clear Hn' hn
        subst hkn
        go_wp2_with (at_builtin; refine wpList_append_own _ rfl _ _ 41 rfl w.heap.size 45 i0 (.int .u32 0) 1 4 Tryd.underlying41 hi hz0 hz1 hz2 rfl (by decide) _ _ _ rfl (hown.alloc _) ⟨wr.heap.size, 0, none⟩ 1 1 [uw (cv)] rfl rfl ?c1 ?c2 ?c3 ?c4 ?c5 ?_)
        case c1 =>
          intro j u hj
          match j, hj with
          | 0, hj => simp at hj; subst hj; simp [Addr.add, uw]
        case c2 => intro u hu; simp at hu; subst hu; rfl
        case c3 => unfold maxLen; omega
        case c4 => omega
        case c5 => have := hbel.size; simp; omega
        intro v' w1 hown' hgrow _
        obtain ⟨hb1, ho1⟩ := step_own hbel hown hown' hgrow
        have hw := Wd.of_own ho1 (hok.append (Ok.mk (by omega) Ok.nil))
        have hv : val (ds ++ [cv]) = x + y := by
          rw [val_append, HL.out]
          simp only [val, Nat.mul_zero, Nat.add_zero]
          rw [HV.out, mod_len (x := x) (by rw [← Hnx.out]; omega), mod_len (x := y) (by rw [← Hny.out]; omega)]
        have Hw := Lib.hid hw; clear hw hown' hgrow hown hbel ho1
        have Hv := Lib.hid hv; clear hv
        go_wp2_with fail
        refine (trimR_any _ _ _ Hw.out).mono ?_
        rintro e w' ⟨r, rfl, hr, rfl⟩
        rw [Hv.out] at hr
        go_wp2
        go_ret
        exact ⟨r, rfl, hr, hb1⟩
end Go.Proofs.YtmlopkkbgpfdnaaDoor
namespace Go.Proofs.YtmlopkkbgpfdnaaDoor
open Go.RowKit

set_option maxRecDepth 100000 in
theorem of_any (p : Bool) (A : Option Addr) (n c : Nat) (w : World) :
    Calls Tryd.prog 16 #[.agg #[.bool p, .slice A n c]] w fun e w' => e = .returned (.agg #[.bool p, .slice A n c]) ∧ Below w.heap.size w w' := by
  go_enter Tryd.func16, Tryd.ntmps16
  go_wp2
  exact bodyPost_ret (v := .agg #[.bool p, .slice A n c]) (by simp [results, Tryd.results16, go_sem]) rfl ⟨rfl, below2 _ _ _⟩

set_option maxRecDepth 100000 in
theorem int_any (p : Bool) (A : Option Addr) (n c : Nat) (w : World) :
    Calls Tryd.prog 27 #[.agg #[.bool p, .slice A n c]] w fun e w' => e = .returned (.agg #[.bool p, .slice A n c]) ∧ Below w.heap.size w w' := by
  go_enter Tryd.func27, Tryd.ntmps27
  go_wp2
  exact bodyPost_ret (v := .agg #[.bool p, .slice A n c]) (by simp [results, Tryd.results27, go_sem]) rfl ⟨rfl, below2 _ _ _⟩

theorem fitsR_any (z : Int) (a : Value) (w : World) (ha : ZV w a z) : Calls Tryd.prog 26 #[a] w fun e w' => e = .returned (.bool (decide ((dig z.natAbs).length ≤ 256))) ∧ Below w.heap.size w w' := by
  obtain ⟨A, n, c, rfl, -, hn, -⟩ := ha.open_
  rw [← hn]
  clear ha hn
  have hb := below_alloc w (Obj.cells #[.bool (decide (z < 0)), .slice A n c] 43)
  obtain ⟨p, hp⟩ : ∃ p, p = decide (z < 0) := ⟨_, rfl⟩
  rw [← hp] at hb ⊢
  have Hb := Lib.hid hb; clear hb hp
  go_enter Tryd.func26, Tryd.ntmps26
  go_wp2
  go_ret
  exact ⟨by simp; omega, Hb.out⟩

end Go.Proofs.YtmlopkkbgpfdnaaDoor
namespace Go.Proofs.YtmlopkkbgpfdnaaDoor
open Go.RowKit

set_option maxHeartbeats 400000 in
set_option maxRecDepth 100000 in
/-- ref Valid -/
theorem validR_any (neg : Bool) (A : Option Addr) (n c : Nat) (l : List Nat) (w : World) (hv : Wd w (.slice A n c) l) :
    Calls Tryd.prog 14 #[.agg #[.bool neg, .slice A n c]] w fun e w' => e = .returned (.bool (vld neg l)) ∧ Below w.heap.size w w' := by
  have hb := below1 w (Obj.cells #[.bool neg, .slice A n c] 24)
  have Hb := Lib.hid hb; clear hb
  have hn := hv.len
  have hl := hv.len_le
  obtain ⟨A', c', he, -, -, hok, hcells⟩ := hv
  injection he with e1 e2 e3
  subst e1 e3
  rw [← e2] at hcells
  clear e2
  by_cases h0 : n = 0
  · subst h0
    have hr : vld neg l = !neg := by unfold vld; rw [if_pos hn.symm]
    have Hr := Lib.hid hr; clear hr hcells hn
    cases neg
    · go_enter Tryd.func14, Tryd.ntmps14
      go_wp2
      go_ret
      exact ⟨by rw [Hr.out]; rfl, Hb.out⟩
    · go_enter Tryd.func14, Tryd.ntmps14
      go_wp2
      go_ret
      exact ⟨by rw [Hr.out]; rfl, Hb.out⟩
  · obtain ⟨b, off, rfl, hbl, hc⟩ := hcells (by omega)
    have h1 := hc (n - 1) (by omega)
    obtain ⟨x, hx⟩ : ∃ x, x = l.getD (n - 1) 0 := ⟨_, rfl⟩
    rw [← hx] at h1
    have h1' : (w.alloc (Obj.cells #[.bool neg, .slice (some ⟨b, off, none⟩) n c] 24)).cell? ⟨b, off + (n - 1), none⟩ = some (.int .u32 x) := by rw [World.cell?_alloc_past _ _ _ hbl]; exact h1
    have hr : vld neg l = (decide (n ≤ 256) && !decide (x = 0)) := by unfold vld; rw [if_neg (by omega), ← hn, ← hx]
    have Hr := Lib.hid hr; clear hr hcells hc hx hn
    have hp : decide ((0 : Int) < (n : Int)) = true := by simp; omega
    have hpn : decide (0 < n) = true := by simp; omega
    have he0 : ((n : Int) == 0) = false := by simp; omega
    by_cases h2 : n ≤ 256
    · have h2b : decide ((n : Int) ≤ 256) = true := by simp; omega
      by_cases h3 : x = 0
      · subst h3
        go_enter Tryd.func14, Tryd.ntmps14
        go_wp2
        go_ret
        exact ⟨by rw [Hr.out]; simp [h2], Hb.out⟩
      · have h4 : ((x : Int) != 0) = true := by simp; omega
        go_enter Tryd.func14, Tryd.ntmps14
        go_wp2
        go_ret
        exact ⟨by rw [Hr.out]; simp [h2, h3], Hb.out⟩
    · have h4 : decide ((n : Int) ≤ 256) = false := by simp; omega
      go_enter Tryd.func14, Tryd.ntmps14
      go_wp2
      go_ret
      exact ⟨by rw [Hr.out]; simp [h2], Hb.out⟩

theorem same_iff {x y : Int} {p q : Bool} (hp : p = decide (x < 0)) (hq : q = decide (y < 0)) : x = y ↔ p = q ∧ x.natAbs = y.natAbs := by
  subst hp hq
  rw [decide_eq_decide]
  omega

set_option maxHeartbeats 400000 in
set_option maxRecDepth 100000 in
/-- ref Same, of numbers in their only form -/
theorem sameR_any (x y : Int) (a b : Value) (w : World) (ha : ZV w a x) (hb : ZV w b y) :
    Calls Tryd.prog 9 #[a, b] w fun e w' => e = .returned (.bool (decide (x = y))) ∧ Below w.heap.size w w' := by
  obtain ⟨A, n, c, rfl, hv, hn, hl⟩ := ha.open_
  obtain ⟨A', n', c', rfl, hv', hn', hl'⟩ := hb.open_
  obtain ⟨p, hp⟩ : ∃ p, p = decide (x < 0) := ⟨_, rfl⟩
  obtain ⟨q, hq⟩ : ∃ q, q = decide (y < 0) := ⟨_, rfl⟩
  rw [← hp, ← hq]
  have hs := same_iff hp hq
  have hb2 := below2 w (Obj.cells #[.bool p, .slice A n c] 24) (Obj.cells #[.bool q, .slice A' n' c'] 24)
  have Hv := Lib.hid (hv.below hb2)
  have Hv' := Lib.hid (hv'.below hb2)
  have Hb := Lib.hid hb2; clear hb2 ha hb hv hv' hp hq
  by_cases h1 : p = q
  · subst h1
    have hpp : (p == p) = true := by simp
    by_cases h2 : n = n'
    · subst h2
      have hnn : ((n : Int) == (n : Int)) = true := by simp
      have hr : decide (x = y) = (cmpN x.natAbs y.natAbs == 0) := by
        rw [Bool.eq_iff_iff]
        simp only [decide_eq_true_eq, beq_iff_eq, hs, true_and]
        constructor
        · intro h; exact cmpN_eq h
        · intro h
          rcases Nat.lt_trichotomy x.natAbs y.natAbs with h3 | h3 | h3
          · rw [cmpN_lt h3] at h; omega
          · exact h3
          · rw [cmpN_gt h3] at h; omega
      rw [hr]
      clear hr hs hn hn'
      obtain ⟨cm, hcm⟩ : ∃ cm, cm = cmpN x.natAbs y.natAbs := ⟨_, rfl⟩
      rw [← hcm]
      have Hcm := Lib.hid hcm; clear hcm
      go_enter Tryd.func9, Tryd.ntmps9
      go_wp2_with fail
      refine (orderR_any x.natAbs y.natAbs _ _ _ Hv.out Hv'.out).mono ?_
      rintro e w2 ⟨rfl, nq, rfl⟩
      rw [← Hcm.out]
      go_wp2
      go_ret
      exact ⟨rfl, Below.toDrewN Hb.out nq⟩
    · have hnn : ((n : Int) == (n' : Int)) = false := by simp; omega
      have hr : decide (x = y) = false := by
        rw [decide_eq_false_iff_not]; intro e; subst e; exact h2 (by rw [hn, hn'])
      rw [hr]
      clear hr hs hn hn'
      go_enter Tryd.func9, Tryd.ntmps9
      go_wp2
      go_ret
      exact ⟨rfl, Hb.out⟩
  · have hpq : (p == q) = false := by simpa using h1
    have hr : decide (x = y) = false := by
      rw [decide_eq_false_iff_not]; intro e; exact h1 (hs.1 e).1
    rw [hr]
    clear hr hs h1 hn hn'
    go_enter Tryd.func9, Tryd.ntmps9
    go_wp2
    go_ret
    exact ⟨rfl, Hb.out⟩

end Go.Proofs.YtmlopkkbgpfdnaaDoor
namespace Go.Proofs.YtmlopkkbgpfdnaaDoor
open Go.RowKit

set_option maxHeartbeats 400000 in
set_option maxRecDepth 100000 in
theorem printR_no (p : Bool) (A : Option Addr) (n c : Nat) (l : List Nat) (w : World) (hx : Wd w (.slice A n c) l) (h : vld p l = false) :
    Calls Tryd.prog 6 #[.agg #[.bool p, .slice A n c]] w fun e w' => e = .returned (.tuple #[.string ⟨#[]⟩, .int .i64 2]) ∧ Below w.heap.size w w' := by
  have Hx := Lib.hid hx; clear hx
  have H := Lib.hid h; clear h
  go_enter Tryd.func6, Tryd.ntmps6
  go_wp2_with fail
  have hb0 := (below_alloc w (Obj.cells #[.bool p, .slice A n c] 24))
  refine (validR_any p A n c l _ (Hx.out.below hb0)).mono ?_
  rintro e w1 ⟨rfl, hb2⟩
  rw [H.out]
  go_wp2
  go_ret2
  exact ⟨rfl, hb0.trans (hb2.mono hb0.size)⟩

set_option maxHeartbeats 400000 in
set_option maxRecDepth 100000 in
theorem printR_yes (p : Bool) (A : Option Addr) (n c : Nat) (l : List Nat) (w : World) (hx : Wd w (.slice A n c) l) (h : vld p l = true) (htab : Tab w) :
    Calls Tryd.prog 6 #[.agg #[.bool p, .slice A n c]] w fun e w' => e = .returned (.tuple #[.string ⟨(txt (numOf p l)).toArray⟩, .int .i64 0]) ∧ Below w.heap.size w w' := by
  have hz := vld_zv hx h
  have hlen : (dig (numOf p l).natAbs).length ≤ 1000 := by rw [vld_dig hx.ok h]; have := vld_len h; omega
  obtain ⟨z, hze⟩ : ∃ z, z = numOf p l := ⟨_, rfl⟩
  rw [← hze] at hz hlen ⊢
  have Hx := Lib.hid hx; clear hx
  have Hz := Lib.hid hz; clear hz
  have Hlen := Lib.hid hlen; clear hlen
  have Hze := Lib.hid hze; clear hze
  have Htab := Lib.hid htab; clear htab
  have H := Lib.hid h; clear h
  go_enter Tryd.func6, Tryd.ntmps6
  go_wp2_with fail
  have hb0 := (below_alloc w (Obj.cells #[.bool p, .slice A n c] 24))
  refine (validR_any p A n c l _ (Hx.out.below hb0)).mono ?_
  rintro e w1 ⟨rfl, hb2⟩
  rw [H.out]
  have hb3 := hb0.trans (hb2.mono hb0.size)
  have q0 := keepAt hb2 (by simp) (show (w.alloc (Obj.cells #[.bool p, .slice A n c] 24)).cell? ⟨w.heap.size, 0, none⟩ = some (.bool p) by rw [World.cell?_alloc_new]; rfl)
  have q1 := keepAt hb2 (by simp) (show (w.alloc (Obj.cells #[.bool p, .slice A n c] 24)).cell? ⟨w.heap.size, 1, none⟩ = some (.slice A n c) by rw [World.cell?_alloc_new]; rfl)
  have Hb3 := Lib.hid hb3
  clear hb0 hb2 hb3
  go_wp2_with fail
  refine (of_any p A n c _).mono ?_
  rintro e w2 ⟨rfl, hb4⟩
  have hb5 := Hb3.out.trans (hb4.mono Hb3.out.size)
  go_wp2_with fail
  refine (digits_any z _ _ (Hz.out.below hb5) Hlen.out (tab_below Htab.out hb5)).mono ?_
  rintro e w3 ⟨rfl, hb6⟩
  go_wp2
  go_ret2
  exact ⟨rfl, hb5.trans (hb6.mono hb5.size)⟩
end Go.Proofs.YtmlopkkbgpfdnaaDoor
namespace Go.Proofs.YtmlopkkbgpfdnaaDoor
open Go.RowKit

/-- block g holds a struct of the sign p and the words l -/
structure HW (W : World) (g : Nat) (p : Bool) (A : Option Addr) (n c : Nat) (l : List Nat) : Prop where
  r : RB W g
  c0 : W.cell? ⟨g, 0, none⟩ = some (.bool p)
  c1 : W.cell? ⟨g, 1, none⟩ = some (.slice A n c)
  w : Wd W (.slice A n c) l

section
variable {W W' : World} {g h : Nat} {p : Bool} {A : Option Addr} {n c : Nat} {l : List Nat}
theorem HW.next (H : HW W g p A n c l) (hb : Below W.heap.size W W') : HW W' g p A n c l :=
  ⟨H.r.below hb H.r.lt, keepAt hb H.r.lt H.c0, keepAt hb H.r.lt H.c1, H.w.below hb⟩
theorem HW.alloc (H : HW W g p A n c l) (o : Obj) : HW (W.alloc o) g p A n c l := H.next (below1 _ _)
theorem HW.far (H : HW W g p A n c l) (r : RB W h) (hne : g ≠ h) (u v : Value) : HW ((W.setCell ⟨h, 0, none⟩ u).setCell ⟨h, 1, none⟩ v) g p A n c l :=
  ⟨H.r.far r hne u v, (far2 hne).trans H.c0, (far2 hne).trans H.c1, H.w.rb r u v⟩
theorem HW.new (W : World) (p : Bool) (A : Option Addr) (n c : Nat) (l : List Nat) (t : TypeId) (hw : Wd W (.slice A n c) l) : HW (W.alloc (.cells #[.bool p, .slice A n c] t)) W.heap.size p A n c l :=
  ⟨RB.c1 W p A n c t, by rw [World.cell?_alloc_new]; rfl, by rw [World.cell?_alloc_new]; rfl, hw.below (below1 _ _)⟩
theorem HW.set (r : RB W g) (p : Bool) (A : Option Addr) (n c : Nat) (l : List Nat) (hw : Wd W (.slice A n c) l) : HW ((W.setCell ⟨g, 0, none⟩ (.bool p)).setCell ⟨g, 1, none⟩ (.slice A n c)) g p A n c l :=
  ⟨r.set p A n c, r.set0 p _, r.set1 p _, hw.rb r _ _⟩
end

theorem ZV.words {W : World} {b : Bool} {A : Option Addr} {n c : Nat} {z : Int} (h : ZV W (.agg #[.bool b, .slice A n c]) z) : b = decide (z < 0) ∧ Wd W (.slice A n c) (dig z.natAbs) := by
  obtain ⟨v, he, hv⟩ := h
  injection he with he
  have e0 : (.bool b : Value) = .bool (decide (z < 0)) := by
    have := congrArg (fun a : Array Value => a[0]?) he
    simpa using this
  have e1 : (.slice A n c : Value) = v := by
    have := congrArg (fun a : Array Value => a[1]?) he
    simpa using this
  refine ⟨?_, by rw [e1]; exact hv⟩
  injection e0


/-- what Div answers -/
def divQ (p q : Bool) (l l' : List Nat) : Int := if (vld p l && vld q l') = true then (if numOf q l' = 0 then 0 else numOf p l / numOf q l') else 0
def divR (p q : Bool) (l l' : List Nat) : Int := if (vld p l && vld q l') = true then (if numOf q l' = 0 then 0 else numOf p l % numOf q l') else 0
def divE (p q : Bool) (l l' : List Nat) : Int := if (vld p l && vld q l') = true then (if numOf q l' = 0 then 4 else 0) else 2

def RetDiv (w : World) (y z er : Int) (e : Ending) (w' : World) : Prop := ∃ b A n c b' A' n' c', e = .returned (.tuple #[.agg #[.bool b, .slice A n c], .agg #[.bool b', .slice A' n' c'], .int .i64 er]) ∧ ZV w' (.agg #[.bool b, .slice A n c]) y ∧ ZV w' (.agg #[.bool b', .slice A' n' c']) z ∧ Below w.heap.size w w'

end Go.Proofs.YtmlopkkbgpfdnaaDoor
namespace Go.Proofs.YtmlopkkbgpfdnaaDoor
open Go.RowKit

/-- Y is X and more -/
def Ext (X Y : World) : Prop := Below X.heap.size X Y
theorem Ext.of {X Y : World} (h : Below X.heap.size X Y) : Ext X Y := h
theorem Ext.below {X Y : World} (h : Ext X Y) : Below X.heap.size X Y := h
theorem Ext.refl (X : World) : Ext X X := Below.refl _ _
theorem Ext.drew (X : World) : Ext X X.drew := (Below.refl _ _).drew
theorem Ext.drw {X Y : World} (h : Ext X Y) : Ext X Y.drew := Below.drew (B := X.heap.size) h
theorem Ext.trans {X Y Z : World} (h : Ext X Y) (k : Ext Y Z) : Ext X Z := Below.trans (B := X.heap.size) h (Below.mono k (Below.size h))
theorem Ext.alc {X Y : World} (h : Ext X Y) (o : Obj) : Ext X (Y.alloc o) := Below.alloc (B := X.heap.size) h (Below.size h) o
theorem Ext.sc {X Y : World} (h : Ext X Y) {g i : Nat} {v : Value} (hg : X.heap.size ≤ g) : Ext X (Y.setCell ⟨g, i, none⟩ v) := Below.setCell (B := X.heap.size) h (p := ⟨g, i, none⟩) hg v
theorem Ext.size {X Y : World} (h : Ext X Y) : X.heap.size ≤ Y.heap.size := Below.size h
theorem RB.ext {X Y : World} {g : Nat} (r : RB X g) (h : Ext X Y) : RB Y g := r.below h r.lt
theorem ZV.ext {X Y : World} {a : Value} {z : Int} (r : ZV X a z) (h : Ext X Y) : ZV Y a z := r.below h
theorem HW.ext {X Y : World} {g : Nat} {p : Bool} {A : Option Addr} {n c : Nat} {l : List Nat} (r : HW X g p A n c l) (h : Ext X Y) : HW Y g p A n c l := r.next h
theorem RB.extAt {X Y : World} {g : Nat} (r : RB X g) (h : Ext X Y) (g' : Nat) (e : g' = g) : RB Y g' := by subst e; exact r.ext h

/-- block g holds a struct that stands for z -/
def HZ (W : World) (g : Nat) (z : Int) : Prop := ∃ b A n c, W.cell? ⟨g, 0, none⟩ = some (.bool b) ∧ W.cell? ⟨g, 1, none⟩ = some (.slice A n c) ∧ ZV W (.agg #[.bool b, .slice A n c]) z

/-- two results in two new blocks of the last steps -/
theorem hz_new (X : World) (b1 : Bool) (A1 : Option Addr) (n1 c1 : Nat) (b2 : Bool) (A2 : Option Addr) (n2 c2 : Nat) (t : TypeId) {z1 z2 : Int}
    (h1 : ZV X (.agg #[.bool b1, .slice A1 n1 c1]) z1) (h2 : ZV X (.agg #[.bool b2, .slice A2 n2 c2]) z2) :
    HZ ((X.alloc (.cells #[.bool b1, .slice A1 n1 c1] t)).alloc (.cells #[.bool b2, .slice A2 n2 c2] t)) X.heap.size z1 ∧ HZ ((X.alloc (.cells #[.bool b1, .slice A1 n1 c1] t)).alloc (.cells #[.bool b2, .slice A2 n2 c2] t)) (X.heap.size + 1) z2 :=
  ⟨⟨b1, A1, n1, c1, by rw [World.cell?_alloc_past _ _ _ (by simp), World.cell?_alloc_new]; rfl, by rw [World.cell?_alloc_past _ _ _ (by simp), World.cell?_alloc_new]; rfl, (h1.below (below1 _ _)).below (below1 _ _)⟩,
   ⟨b2, A2, n2, c2, by rw [World.cell?_alloc_at _ _ _ _ (by simp)]; rfl, by rw [World.cell?_alloc_at _ _ _ _ (by simp)]; rfl, (h2.below (below1 _ _)).below (below1 _ _)⟩⟩

theorem HZ.ext {X Y : World} {g : Nat} {z : Int} (h : HZ X g z) (hg : g < X.heap.size) (e : Ext X Y) : HZ Y g z := by
  obtain ⟨b, A, n, c, h0, h1, h2⟩ := h
  exact ⟨b, A, n, c, keepAt e hg h0, keepAt e hg h1, h2.ext e⟩
theorem HZ.put {X : World} {g : Nat} {z : Int} (r : RB X g) {b : Bool} {A : Option Addr} {n c : Nat} (h : ZV X (.agg #[.bool b, .slice A n c]) z) : HZ ((X.setCell ⟨g, 0, none⟩ (.bool b)).setCell ⟨g, 1, none⟩ (.slice A n c)) g z :=
  ⟨b, A, n, c, r.set0 _ _, r.set1 _ _, h.rb r _ _⟩
theorem HZ.far {X : World} {g h : Nat} {z : Int} (H : HZ X g z) (r : RB X h) (hne : g ≠ h) (u v : Value) : HZ ((X.setCell ⟨h, 0, none⟩ u).setCell ⟨h, 1, none⟩ v) g z := by
  obtain ⟨b, A, n, c, h0, h1, h2⟩ := H
  exact ⟨b, A, n, c, (far2 hne).trans h0, (far2 hne).trans h1, h2.rb r _ _⟩
theorem HZ.lit (X : World) (b : Bool) (A : Option Addr) (n c : Nat) (t : TypeId) {z : Int} (h : ZV X (.agg #[.bool b, .slice A n c]) z) : HZ (X.alloc (.cells #[.bool b, .slice A n c] t)) X.heap.size z :=
  ⟨b, A, n, c, by rw [World.cell?_alloc_new]; rfl, by rw [World.cell?_alloc_new]; rfl, h.below (below1 _ _)⟩
theorem HZ.lt {X : World} {g : Nat} {z : Int} (H : HZ X g z) : g < X.heap.size := by
  obtain ⟨b, A, n, c, h0, -, -⟩ := H
  exact World.block_lt_of_cell? X ⟨g, 0, none⟩ h0

/-- behind a call with two struct results: two blocks hold them -/
def DivCut (w : World) (z1 z2 : Int) (g3 g4 : Nat) (a b : Value) (wx : World) : Prop :=
  ∃ g8 g9, a = .pointer (some ⟨g8, 0, none⟩) ∧ b = .pointer (some ⟨g9, 0, none⟩) ∧ HZ wx g8 z1 ∧ HZ wx g9 z2 ∧ RB wx g3 ∧ RB wx g4 ∧ Below w.heap.size w wx ∧ (g8 ≠ g3 ∧ g8 ≠ g4 ∧ g9 ≠ g3 ∧ g9 ≠ g4)

/-- the world behind the call -/
structure TwoZ (w X : World) (z1 z2 : Int) (g3 g4 B : Nat) (b1 : Bool) (A1 : Option Addr) (n1 c1 : Nat) (b2 : Bool) (A2 : Option Addr) (n2 c2 : Nat) : Prop where
  v1 : ZV X (.agg #[.bool b1, .slice A1 n1 c1]) z1
  v2 : ZV X (.agg #[.bool b2, .slice A2 n2 c2]) z2
  r3 : RB X g3
  r4 : RB X g4
  hb : Below w.heap.size w X
  l3 : g3 < B
  l4 : g4 < B
  lB : w.heap.size ≤ B

section
variable {w X : World} {z1 z2 : Int} {g3 g4 B : Nat} {b1 : Bool} {A1 : Option Addr} {n1 c1 : Nat} {b2 : Bool} {A2 : Option Addr} {n2 c2 : Nat} {t : TypeId}
theorem TwoZ.new (T : TwoZ w X z1 z2 g3 g4 B b1 A1 n1 c1 b2 A2 n2 c2) :
    DivCut w z1 z2 g3 g4 (.pointer (some ⟨X.heap.size, 0, none⟩)) (.pointer (some ⟨X.heap.size + 1, 0, none⟩)) ((X.alloc (.cells #[.bool b1, .slice A1 n1 c1] t)).alloc (.cells #[.bool b2, .slice A2 n2 c2] t)) := by
  obtain ⟨h1, h2⟩ := hz_new X b1 A1 n1 c1 b2 A2 n2 c2 t T.v1 T.v2
  exact ⟨_, _, rfl, rfl, h1, h2, T.r3.ext (((Ext.refl X).alc _).alc _), T.r4.ext (((Ext.refl X).alc _).alc _), T.hb.trans (Below.mono (((Ext.refl X).alc _).alc _) T.hb.size), by have := T.r3.lt; have := T.r4.lt; omega⟩
theorem TwoZ.new' (T : TwoZ w X z1 z2 g3 g4 B b1 A1 n1 c1 b2 A2 n2 c2) :
    DivCut w z1 z2 g3 g4 (.pointer (some ⟨X.heap.size + 1, 0, none⟩)) (.pointer (some ⟨X.heap.size, 0, none⟩)) ((X.alloc (.cells #[.bool b2, .slice A2 n2 c2] t)).alloc (.cells #[.bool b1, .slice A1 n1 c1] t)) := by
  obtain ⟨h1, h2⟩ := hz_new X b2 A2 n2 c2 b1 A1 n1 c1 t T.v2 T.v1
  exact ⟨_, _, rfl, rfl, h2, h1, T.r3.ext (((Ext.refl X).alc _).alc _), T.r4.ext (((Ext.refl X).alc _).alc _), T.hb.trans (Below.mono (((Ext.refl X).alc _).alc _) T.hb.size), by have := T.r3.lt; have := T.r4.lt; omega⟩
theorem TwoZ.mix (T : TwoZ w X z1 z2 g3 g4 B b1 A1 n1 c1 b2 A2 n2 c2) {g : Nat} (r : RB X g) (hg : B ≤ g) :
    DivCut w z1 z2 g3 g4 (.pointer (some ⟨g, 0, none⟩)) (.pointer (some ⟨X.heap.size, 0, none⟩)) (((X.setCell ⟨g, 0, none⟩ (.bool b1)).setCell ⟨g, 1, none⟩ (.slice A1 n1 c1)).alloc (.cells #[.bool b2, .slice A2 n2 c2] t)) := by
  have h1 := HZ.put r T.v1
  have h2 := T.v2.rb r (.bool b1) (.slice A1 n1 c1)
  have hl := HZ.lit _ b2 A2 n2 c2 t h2
  have hs : ((X.setCell ⟨g, 0, none⟩ (.bool b1)).setCell ⟨g, 1, none⟩ (.slice A1 n1 c1)).heap.size = X.heap.size := by simp [World.setCell]
  rw [hs] at hl
  have e := (Ext.refl ((X.setCell ⟨g, 0, none⟩ (.bool b1)).setCell ⟨g, 1, none⟩ (.slice A1 n1 c1))).alc (.cells #[.bool b2, .slice A2 n2 c2] t)
  have hb := below_set2 (i := 0) (j := 1) T.hb (Nat.le_trans T.lB hg) (.bool b1) (.slice A1 n1 c1)
  exact ⟨_, _, rfl, rfl, h1.ext h1.lt e, hl, (T.r3.far r (by have := T.l3; omega) _ _).ext e, (T.r4.far r (by have := T.l4; omega) _ _).ext e, hb.trans (Below.mono e hb.size), by have := T.r3.lt; have := T.r4.lt; have := T.l3; have := T.l4; omega⟩
theorem TwoZ.mix' (T : TwoZ w X z1 z2 g3 g4 B b1 A1 n1 c1 b2 A2 n2 c2) {g : Nat} (r : RB X g) (hg : B ≤ g) :
    DivCut w z1 z2 g3 g4 (.pointer (some ⟨X.heap.size, 0, none⟩)) (.pointer (some ⟨g, 0, none⟩)) (((X.setCell ⟨g, 0, none⟩ (.bool b2)).setCell ⟨g, 1, none⟩ (.slice A2 n2 c2)).alloc (.cells #[.bool b1, .slice A1 n1 c1] t)) := by
  have T' : TwoZ w X z2 z1 g3 g4 B b2 A2 n2 c2 b1 A1 n1 c1 := ⟨T.v2, T.v1, T.r3, T.r4, T.hb, T.l3, T.l4, T.lB⟩
  obtain ⟨_, _, e1, e2, h1, h2, h3, h4, h5, h6, h7, h8, h9⟩ := T'.mix (t := t) r hg
  exact ⟨_, _, e2, e1, h2, h1, h3, h4, h5, h8, h9, h6, h7⟩
theorem TwoZ.old (T : TwoZ w X z1 z2 g3 g4 B b1 A1 n1 c1 b2 A2 n2 c2) {g h : Nat} (r : RB X g) (s : RB X h) (hne : h ≠ g) (hg : B ≤ g) (hh : B ≤ h) :
    DivCut w z1 z2 g3 g4 (.pointer (some ⟨g, 0, none⟩)) (.pointer (some ⟨h, 0, none⟩)) ((((X.setCell ⟨g, 0, none⟩ (.bool b1)).setCell ⟨g, 1, none⟩ (.slice A1 n1 c1)).setCell ⟨h, 0, none⟩ (.bool b2)).setCell ⟨h, 1, none⟩ (.slice A2 n2 c2)) := by
  have h1 := HZ.put r T.v1
  have s' := s.far r hne (.bool b1) (.slice A1 n1 c1)
  have h2 := HZ.put s' (T.v2.rb r (.bool b1) (.slice A1 n1 c1))
  exact ⟨_, _, rfl, rfl, h1.far s' (by omega) _ _, h2, (T.r3.far r (by have := T.l3; omega) _ _).far s' (by have := T.l3; omega) _ _, (T.r4.far r (by have := T.l4; omega) _ _).far s' (by have := T.l4; omega) _ _, below_set2 (below_set2 T.hb (Nat.le_trans T.lB hg) _ _) (Nat.le_trans T.lB hh) _ _, by have := T.l3; have := T.l4; omega⟩
end
end Go.Proofs.YtmlopkkbgpfdnaaDoor
