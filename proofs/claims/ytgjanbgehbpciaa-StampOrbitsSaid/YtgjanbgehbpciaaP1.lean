/- Walks: the reference's order of stamps. -/
import Derived.Test.YtgjanbgehbpciaaF1
import Derived.Test.YtgjanbgehbpciaaV11
import Derived.Test.YtgjanbgehbpciaaA2
namespace Go.Proofs.Ytgjanbgehbpciaa
open Go.RowKit

theorem row_ints {W : World} {base n : Nat} {v : Value} {L : List Int} (hn : n = L.length) (hn1 : 1 ≤ n) (ho : W.ownsRow base 3 1 v n (L.map iv)) :
    ∃ g cap, v = .slice (some ⟨g, 0, none⟩) n cap ∧ base ≤ g ∧ g < W.heap.size ∧ ∀ j, j < n → W.cell? ⟨g, j, none⟩ = some (.int .i64 (L.getD j 0)) := by
  have h0 := ho
  obtain ⟨h1, h2 | ⟨g, cap, cur, rfl, hg, hh, hnc, hcap, hsz, htake⟩⟩ := ho
  · omega
  · refine ⟨g, cap, rfl, hg, (Array.getElem?_eq_some_iff.1 hh).1, fun j hj => ?_⟩
    have := h0.cells (g := g) rfl j (iv (L.getD j 0)) (by
      rw [List.getElem?_map, List.getElem?_eq_getElem (by omega)]
      simp [List.getD_eq_getElem?_getD, List.getElem?_eq_getElem (show j < L.length by omega)])
    have e : (⟨g, 0, none⟩ : Addr).add j = ⟨g, j, none⟩ := by unfold Addr.add; split <;> simp_all
    rw [← e]
    exact this
theorem row_two (W : World) (x y : Int) (base : Nat) (hb : base ≤ W.heap.size) : (W.alloc (.cells #[.int .i64 x, .int .i64 y] 3)).ownsRow base 3 1 (.slice (some ⟨W.heap.size, 0, none⟩) 2 2) 2 ([x, y].map iv) :=
  ⟨rfl, .inr ⟨W.heap.size, 2, _, rfl, hb, heap_alloc_new _ _, Nat.le_refl _, by decide, rfl, rfl⟩⟩
theorem cells_map {W : World} {b o n : Nat} {l : List Int} (hl : l.length = n) (hc : ∀ j, j < n → W.cell? ⟨b, o + j, none⟩ = some (.int .i64 (l.getD j 0))) :
    ∀ j u, (l.map iv)[j]? = some u → W.cell? ((⟨b, o, none⟩ : Addr).add j) = some u := fun j u hj => by
  rw [List.getElem?_map] at hj
  by_cases h : j < n
  · rw [List.getElem?_eq_getElem (by omega)] at hj
    simp only [Option.map_some, Option.some.injEq] at hj
    have e : (⟨b, o, none⟩ : Addr).add j = ⟨b, o + j, none⟩ := by unfold Addr.add; split <;> simp_all
    rw [e, hc j h, ← hj, List.getD_eq_getElem?_getD, List.getElem?_eq_getElem (by omega)]
    rfl
  · rw [List.getElem?_eq_none (by omega)] at hj
    cases hj
theorem ones_map (l : List Int) : ∀ u ∈ l.map iv, u.oneCell' = true := fun u hu => by
  obtain ⟨x, -, rfl⟩ := List.mem_map.1 hu
  rfl

set_option maxHeartbeats 2000000 in
set_option maxRecDepth 100000 in
theorem order_c (w h : Int) (b1 o1 c1 b2 o2 c2 n : Nat) (l k : List Int) (W : World) (hn : n ≤ 1000) (hl : l.length = n) (hk : k.length = n) (hb1 : b1 < W.heap.size) (hb2 : b2 < W.heap.size)
    (hc1 : ∀ j, j < n → W.cell? ⟨b1, o1 + j, none⟩ = some (.int .i64 (l.getD j 0))) (hc2 : ∀ j, j < n → W.cell? ⟨b2, o2 + j, none⟩ = some (.int .i64 (k.getD j 0))) :
    Calls Try.prog 69 #[.agg #[.int .i64 w, .int .i64 h, .slice (some ⟨b1, o1, none⟩) n c1], .agg #[.int .i64 w, .int .i64 h, .slice (some ⟨b2, o2, none⟩) n c2]] W fun e W' => e = .returned (.int .i64 (cmpL l k)) ∧ Ext W W' := by
  obtain ⟨i0, hi, hz0, hz1, hz2⟩ := info_parts info3
  have HC1 := Lib.hid hc1; have HC2 := Lib.hid hc2; have HL := Lib.hid hl; have HK := Lib.hid hk; have HB1 := Lib.hid hb1; have HB2 := Lib.hid hb2
  clear hc1 hc2 hl hk hb1 hb2
  obtain ⟨r, hr⟩ : ∃ r, r = cmpL l k := ⟨_, rfl⟩
  rw [← hr]
  have hr2 : r = cmpL (w :: h :: l) (w :: h :: k) := by
    rw [hr]
    show _ = cmpL (w :: h :: l) (w :: h :: k)
    conv => rhs; unfold cmpL
    rw [if_pos rfl]
    conv => rhs; unfold cmpL
    rw [if_pos rfl]
  have HR := Lib.hid hr2; clear hr hr2
  go_enter Try.func69, Try.ntmps69
  go_upto_region 1 with fail
  have q1 : Q3 ((W.alloc (.cells #[.int .i64 w, .int .i64 h, .slice (some ⟨b1, o1, none⟩) n c1] 24)).alloc (.cells #[.int .i64 w, .int .i64 h, .slice (some ⟨b2, o2, none⟩) n c2] 24)) W.heap.size (.int .i64 w) (.int .i64 h) (.slice (some ⟨b1, o1, none⟩) n c1) := by
    refine ⟨?_, ?_, ?_⟩ <;> (rw [World.cell?_alloc_past _ _ _ (by simp), World.cell?_alloc_new]; rfl)
  have q2 : Q3 ((W.alloc (.cells #[.int .i64 w, .int .i64 h, .slice (some ⟨b1, o1, none⟩) n c1] 24)).alloc (.cells #[.int .i64 w, .int .i64 h, .slice (some ⟨b2, o2, none⟩) n c2] 24)) (W.heap.size + 1) (.int .i64 w) (.int .i64 h) (.slice (some ⟨b2, o2, none⟩) n c2) := by
    refine ⟨?_, ?_, ?_⟩ <;> (rw [World.cell?_alloc_at _ _ _ _ (by simp)]; rfl)
  have bb := al2 W (.cells #[.int .i64 w, .int .i64 h, .slice (some ⟨b1, o1, none⟩) n c1] 24) (.cells #[.int .i64 w, .int .i64 h, .slice (some ⟨b2, o2, none⟩) n c2] 24)
  have zz : ((W.alloc (.cells #[.int .i64 w, .int .i64 h, .slice (some ⟨b1, o1, none⟩) n c1] 24)).alloc (.cells #[.int .i64 w, .int .i64 h, .slice (some ⟨b2, o2, none⟩) n c2] 24)).heap.size = W.heap.size + 1 + 1 := by simp
  generalize ((W.alloc (.cells #[.int .i64 w, .int .i64 h, .slice (some ⟨b1, o1, none⟩) n c1] 24)).alloc (.cells #[.int .i64 w, .int .i64 h, .slice (some ⟨b2, o2, none⟩) n c2] 24)) = W2 at *
  have zle : W.heap.size + 1 + 1 ≤ W2.heap.size := by omega
  have BB : Hid (Ext W W2) := Lib.hid bb; have H2 := Lib.hid q2
  clear bb zz q2
  have hown := row_two W2 w h W2.heap.size (Nat.le_refl _)
  have hcm := cells_map HL.out (fun j hj => keepAt (BB.out.trans ((Ext.refl W2).alc (.cells #[.int .i64 w, .int .i64 h] 3))) HB1.out (HC1.out j hj))
  obtain ⟨p0, p1, p2⟩ := q1
  have p3 := keepAt ((Ext.refl W2).alc (.cells #[.int .i64 w, .int .i64 h] 3)) (by omega) p2
  go_wp2_with (at_builtin; refine wpList_append_own _ rfl _ _ 22 rfl W2.heap.size 3 i0 (.int .i64 0) 1 8 Try.underlying22 hi hz0 hz1 hz2 rfl (by decide) _ _ _ rfl hown ⟨b1, o1, none⟩ n c1 (l.map iv) rfl ?c0 hcm (ones_map l) ?c3 ?c4 ?c5 ?_)
  case c0 => rw [List.length_map, HL.out, Nat.mul_one]
  case c3 => unfold maxLen; omega
  case c4 => omega
  case c5 => simp
  intro v' w9 hown' hgrow _
  have e9 : Ext W2 w9 := Below.grown ((Ext.refl W2).alc (.cells #[.int .i64 w, .int .i64 h] 3)) hgrow (by simp) (fun k hk => by have := (hown.lt k hk).1; omega)
  replace hown' : w9.ownsRow W2.heap.size 3 1 v' (2 + n) ((w :: h :: l).map iv) := hown'
  obtain ⟨g, cap, rfl, -, hg, hrow⟩ := row_ints (L := w :: h :: l) (by simp [HL.out]; omega) (by omega) hown'
  have E9 := Lib.hid e9; have ROW := Lib.hid hrow; have HG := Lib.hid hg
  clear e9 hown' hgrow hown hcm hrow hg p0 p1 p2 p3
  obtain ⟨N2, hN2⟩ : ∃ N2, N2 = 2 + n := ⟨_, rfl⟩
  rw [← hN2] at ROW ⊢
  have hN2b : N2 ≤ 1002 := by omega
  have HN2 := Lib.hid hN2; clear hN2
  go_wp2_with fail
  go_loopw [17] (fun i wr => ∃ j : Nat, i = .int .i64 j ∧ j ≤ N2 ∧ (w :: h :: l).take j = (w :: h :: k).take j ∧ Ext w9 wr) (fun i _ => N2 - (intOf i).toNat)
  case atStart => exact ⟨0, rfl, by omega, rfl, Ext.refl _⟩
  case round =>
    obtain ⟨j, rfl, hj, ht, hx⟩ := hrel
    have HT := Lib.hid ht; have EX := Lib.hid hx; clear ht hx
    have hll : (w :: h :: l).length = N2 := by have := HN2.out; simp [HL.out]; omega
    have hkk : (w :: h :: k).length = N2 := by have := HN2.out; simp [HK.out]; omega
    by_cases hlt : j < N2
    · have a1 := keepAt EX.out HG.out (ROW.out j hlt)
      have hat := cmpL_at (w :: h :: l) (w :: h :: k) j HT.out (by rw [hll]; exact hlt) (by rw [hkk]; exact hlt)
      have hx1 : (w :: h :: l)[j]? = some ((w :: h :: l).getD j 0) := by rw [List.getD_eq_getElem?_getD, List.getElem?_eq_getElem (by rw [hll]; exact hlt)]; rfl
      have hy1 : (w :: h :: k)[j]? = some ((w :: h :: k).getD j 0) := by rw [List.getD_eq_getElem?_getD, List.getElem?_eq_getElem (by rw [hkk]; exact hlt)]; rfl
      rw [← HR.out] at hat
      have ew : Ext W wr := BB.out.trans (E9.out.trans EX.out)
      have hsz : W2.heap.size ≤ wr.heap.size := (E9.out.trans EX.out).size
      have hown := row_two wr w h wr.heap.size (Nat.le_refl _)
      have hcm := cells_map HK.out (fun j hj => keepAt (ew.trans ((Ext.refl wr).alc (.cells #[.int .i64 w, .int .i64 h] 3))) HB2.out (HC2.out j hj))
      obtain ⟨p0, p1, p2⟩ := H2.out.ext (by omega) (E9.out.trans EX.out)
      have p3 := keepAt ((Ext.refl wr).alc (.cells #[.int .i64 w, .int .i64 h] 3)) (by omega) p2
      obtain ⟨x, hx⟩ : ∃ x, x = (w :: h :: l).getD j 0 := ⟨_, rfl⟩
      obtain ⟨y, hy⟩ : ∃ y, y = (w :: h :: k).getD j 0 := ⟨_, rfl⟩
      rw [← hx] at hat hx1 a1
      rw [← hy] at hat hy1
      have HAT := Lib.hid hat; have HX1 := Lib.hid hx1; have HY1 := Lib.hid hy1; have HYE := Lib.hid hy
      clear hat hx1 hy1 ew hll hx hy
      go_wp2_with (at_builtin; refine wpList_append_own _ rfl _ _ 22 rfl wr.heap.size 3 i0 (.int .i64 0) 1 8 Try.underlying22 hi hz0 hz1 hz2 rfl (by decide) _ _ _ rfl hown ⟨b2, o2, none⟩ n c2 (k.map iv) rfl ?c0 hcm (ones_map k) ?c3 ?c4 ?c5 ?_)
      case c0 => rw [List.length_map, HK.out, Nat.mul_one]
      case c3 => unfold maxLen; omega
      case c4 => omega
      case c5 => simp
      intro v' w10 hown' hgrow _
      have e10 : Ext wr w10 := Below.grown ((Ext.refl wr).alc (.cells #[.int .i64 w, .int .i64 h] 3)) hgrow (by simp) (fun k hk => by have := (hown.lt k hk).1; omega)
      replace hown' : w10.ownsRow wr.heap.size 3 1 v' (2 + n) ((w :: h :: k).map iv) := hown'
      rw [← HN2.out] at hown'
      obtain ⟨g2, cap2, rfl, -, hg2, hrow⟩ := row_ints (L := w :: h :: k) hkk.symm (by have := HN2.out; omega) hown'
      have a2 := hrow j (by omega)
      have E10 := Lib.hid (EX.out.trans e10)
      clear e10 hown' hgrow hown hcm hrow hg2 p0 p1 p2 p3 a1 hkk
      rw [← HYE.out] at a2
      by_cases hxy : x = y
      · subst hxy
        go_wp2_with fail
        go_roundw
        case rel => exact ⟨j + 1, by go_num, by omega, by rw [List.take_add_one, List.take_add_one, HT.out, HX1.out, HY1.out], E10.out⟩
        case measure => simp [intOf]; omega
      · have hat := HAT.out hxy
        have hd2 : (x != y) = true := by simp [hxy]
        by_cases hlt2 : x < y
        · rw [if_pos hlt2] at hat
          have EF := Lib.hid (BB.out.trans (E9.out.trans E10.out))
          have HAT2 := Lib.hid hat; clear hat
          go_wp2
          go_ret
          exact ⟨by rw [HAT2.out]; rfl, EF.out⟩
        · rw [if_neg hlt2] at hat
          have EF := Lib.hid (BB.out.trans (E9.out.trans E10.out))
          have HAT2 := Lib.hid hat; clear hat
          go_wp2
          go_ret
          exact ⟨by rw [HAT2.out]; rfl, EF.out⟩
    · obtain rfl : j = N2 := by omega
      have hlk : w :: h :: l = w :: h :: k := by
        have := HT.out
        rwa [List.take_of_length_le (by rw [hll]; exact Nat.le_refl _), List.take_of_length_le (by rw [hkk]; exact Nat.le_refl _)] at this
      have hr0 : r = 0 := by rw [HR.out, hlk, cmpL_self]
      have HR0 := Lib.hid hr0; clear hr0 hlk
      have EF := Lib.hid (BB.out.trans (E9.out.trans EX.out))
      go_wp2
      go_ret
      exact ⟨by rw [HR0.out]; rfl, EF.out⟩
end Go.Proofs.Ytgjanbgehbpciaa
