/- Walks: the reference's pairs. · Walks: the reference's Valid and Side. · Walks: the reference's priced, Woven and Rise. -/
import Derived.Test.YtilcbbdmenknfaaM13
import Derived.Test.YtilcbbdmenknfaaM11
namespace Go.Proofs.Ytilcbbdmenknfaa
open Go.RowKit

set_option maxRecDepth 100000 in
theorem info126 : (Try.prog.info? 126).map (fun i => (i.zero, i.size, i.bytes)) = some (some (.agg #[.int .i64 0, .int .i64 0, .int .i64 0]), 3, 24) := by kernel_rfl

set_option maxHeartbeats 4000000 in
set_option maxRecDepth 100000 in
theorem pairsR_own (c : Cl) (V : Value) (W : World) (hV : Kl W V c) (hc : vCl c = true) :
    Calls Try.prog 86 #[V] W fun e W' => ∃ U, e = .returned U ∧ W'.ownsRow W.heap.size 126 3 U c.prs.n (acl c.prs c.prs.n) ∧ Ext W W' := by
  obtain ⟨⟨hw1, hw2⟩, ⟨hh1, hh2⟩, -, -, ⟨hnr, hr⟩, ⟨hnd, hd⟩⟩ := vCl_ok hc
  clear hc
  obtain ⟨B, X, R, D, rfl, hB, hX, hR, hD⟩ := hV
  obtain ⟨w, h, nb, b, nx, x, nr, r, nd, d⟩ := c
  dsimp only at hB hX hR hD hw1 hw2 hh1 hh2 hnr hr hnd hd ⊢
  obtain ⟨a, ha⟩ : ∃ a : Ar, a = Cl.prs ⟨w, h, nb, b, nx, x, nr, r, nd, d⟩ := ⟨_, rfl⟩
  rw [← ha]
  have han : a.n = nr + nd := by rw [ha]; rfl
  obtain ⟨Z, hZ⟩ : ∃ Z : Nat, w - 1 = (Z : Int) := ⟨(w - 1).toNat, by omega⟩
  have hwZ : w = (Z : Int) + 1 := by omega
  have hZ5 : Z ≤ 5 := by omega
  have hnr2 : nr ≤ 30 := by have := (side_prod (show 0 ≤ w - 1 by omega) (show w - 1 ≤ 5 by omega) (show 0 ≤ h by omega) hh2).2; omega
  have hnd2 : nd ≤ 30 := by have := (side_prod (show 0 ≤ w by omega) hw2 (show 0 ≤ h - 1 by omega) (show h - 1 ≤ 5 by omega)).2; omega
  have hZp : 0 < nr → 0 < Z := by
    intro h0
    rcases Nat.eq_zero_or_pos Z with e | e
    · rw [hZ, e] at hnr; simp at hnr; omega
    · exact e
  have haf : ∀ k, k < nr → a.f k = ((k / Z * (Z + 1) + k % Z : Nat) : Int) ∧ a.t k = ((k / Z * (Z + 1) + k % Z + 1 : Nat) : Int) ∧ a.c k = r k := by
    intro k hk
    have e1 : (w - 1).toNat = Z := by omega
    have e2 : w.toNat = Z + 1 := by omega
    rw [ha]; unfold Cl.prs; dsimp only
    rw [if_pos hk, if_pos hk, if_pos hk, e1, e2]
    exact ⟨rfl, rfl, rfl⟩
  have hag : ∀ k, a.f (nr + k) = (k : Int) ∧ a.t (nr + k) = (k : Int) + w ∧ a.c (nr + k) = d k := by
    intro k
    have e2 : w.toNat = Z + 1 := by omega
    rw [ha]; unfold Cl.prs; dsimp only
    rw [if_neg (by omega), if_neg (by omega), if_neg (by omega), e2, show nr + k - nr = k by omega]
    exact ⟨rfl, by rw [hwZ, Int.natCast_add]; rfl, rfl⟩
  have HAF := Lib.hid haf; have HAG := Lib.hid hag; have HAN := Lib.hid han
  have HL := Lib.hid (And.intro hR hD)
  have HZ := Lib.hid (And.intro hZ (And.intro hwZ hZp))
  have HRD := Lib.hid (And.intro hr hd)
  clear haf hag han hB hX ha hnr hnd hr hd hZ hwZ hZp hh1 hh2
  obtain ⟨AR, cR, rfl, hcR, hdR, -⟩ := hR
  obtain ⟨AD, cD, rfl, hcD, hdD, -⟩ := hD
  obtain ⟨i0, hi, hz0, hz1, hz2⟩ := info_parts info126
  have HI := Lib.hid (And.intro hi (And.intro hz0 (And.intro hz1 hz2)))
  clear hi hz0 hz1 hz2
  go_enter Try.func86, Try.ntmps86
  go_upto_region 1 with fail
  have bb := al1 W (.cells #[.int .i64 w, .int .i64 h, B, X, .slice AR nr cR, .slice AD nd cD] 68)
  obtain ⟨m0, -, -, -, m4, m5, mz, -⟩ := six (heap_alloc_new W (.cells #[.int .i64 w, .int .i64 h, B, X, .slice AR nr cR, .slice AD nd cD] 68))
  generalize W.alloc (.cells #[.int .i64 w, .int .i64 h, B, X, .slice AR nr cR, .slice AD nd cD] 68) = W1 at *
  have HB : Hid (Ext W W1) := Lib.hid bb
  have HM := Lib.hid (And.intro m0 (And.intro m4 m5))
  clear bb m0 m5
  go_wp2_with fail
  clear m4
  go_loopw [3, 12] (fun q i wr => ∃ (k : Nat), i = .int .i64 k ∧ k ≤ nr ∧ Hid (wr.ownsRow W1.heap.size 126 3 q k (acl a k) ∧ Ext W1 wr)) (fun _ i _ => nr - (intOf i).toNat)
  case atStart => exact ⟨0, rfl, Nat.zero_le _, Lib.hid ⟨World.ownsRow_nil _ _ _ _, Ext.refl _⟩⟩
  case round =>
    obtain ⟨k, rfl, hk, hin⟩ := hrel
    obtain ⟨Av, cv, rfl⟩ := shape_own hin.out.1
    by_cases hlt : k < nr
    · obtain ⟨b1, o1, rfl, -, e1⟩ := Vl.at HL.out.1 (HB.out.trans hin.out.2) hlt
      have m0 := keepAt hin.out.2 mz HM.out.1
      obtain ⟨p, hp⟩ : ∃ p, p = r k := ⟨_, rfl⟩
      rw [← hp] at e1
      go_upto_region 5 with fail
      have hZ0 : 0 < Z := HZ.out.2.2 (by omega)
      obtain ⟨q, hq⟩ : ∃ q, q = k / Z := ⟨_, rfl⟩
      obtain ⟨z, hz⟩ : ∃ z, z = k % Z := ⟨_, rfl⟩
      obtain ⟨P, hP⟩ : ∃ P, P = q * (Z + 1) := ⟨_, rfl⟩
      have hq30 : q ≤ 30 := by have := Nat.div_le_self k Z; omega
      have hz30 : z ≤ 30 := by have := Nat.mod_le k Z; omega
      have hP2 : P ≤ 180 := by rw [hP]; exact Nat.mul_le_mul hq30 (show Z + 1 ≤ 6 by omega)
      have hsub := HZ.out.1
      have hdq : ((k : Int)).tdiv Z = q := by rw [Int.tdiv_eq_ediv_of_nonneg (by omega), ← Int.natCast_ediv, hq]
      have hdq2 : ((k : Int)) / Z = q := by rw [← Int.natCast_ediv, hq]
      have hdm : ((k : Int)).tmod Z = z := by rw [Int.tmod_eq_emod_of_nonneg (by omega), ← Int.natCast_emod, hz]
      have hdm2 : ((k : Int)) % Z = z := by rw [← Int.natCast_emod, hz]
      have hmul : (q : Int) * w = P := by rw [HZ.out.2.1, hP, Int.natCast_mul, Int.natCast_add]; rfl
      have HP3 := Lib.hid (And.intro hp (And.intro hq (And.intro hz hP)))
      have m0d : wr.drew.cell? ⟨W.heap.size, 0, none⟩ = some (.int .i64 w) := m0
      clear hp hq hz hP m0 e1
      go_region
      try clear m0d
      have hown := World.ownsRow.ext hin.out.1 (Ext.alc (Ext.drw (Ext.refl wr)) (.cells #[.int .i64 ((P : Int) + z), .int .i64 ((P : Int) + z + 1), .int .i64 (r k)] 126))
      go_wp2_with (at_builtin; refine wpList_append_own _ rfl _ _ 124 rfl W1.heap.size 126 i0 (.agg #[.int .i64 0, .int .i64 0, .int .i64 0]) 3 24 Try.underlying124 HI.out.1 HI.out.2.1 HI.out.2.2.1 HI.out.2.2.2 rfl (by decide) _ k _ rfl hown ⟨wr.heap.size, 0, none⟩ 1 1 [.int .i64 ((P : Int) + z), .int .i64 ((P : Int) + z + 1), .int .i64 (r k)] rfl rfl ?c1 ?c2 ?c3 ?c4 ?c5 ?_)
      case c1 =>
        intro jj uu hj
        match jj, hj with
        | 0, hj => simp at hj; subst hj; simp [Addr.add]
        | 1, hj => simp at hj; subst hj; simp [Addr.add]
        | 2, hj => simp at hj; subst hj; simp [Addr.add]
        | jj + 3, hj => simp at hj
      case c2 => intro uu hu; simp at hu; rcases hu with rfl | rfl | rfl <;> rfl
      case c3 => unfold maxLen; omega
      case c4 => omega
      case c5 => have := hin.out.2.size; simp; omega
      intro v' w2 hown' hgrow _hnil
      clear _hnil
      have hex : Ext W1 w2 := ext_grow ((hin.out.2.drw).alc _) hgrow (fun b' hb' => (World.ownsRow.lt hown b' hb').1) (Nat.le_refl _)
      have HN := Lib.hid (And.intro hown' hex)
      clear hown' hex hgrow hown
      go_wp2
      go_roundw
      case rel =>
        refine ⟨k + 1, by go_num, by omega, Lib.hid ⟨?_, HN.out.2⟩⟩
        obtain ⟨y1, y2, y3⟩ := HAF.out k hlt
        have s1 : a.f k = (P : Int) + z := by rw [y1, HP3.out.2.2.2, HP3.out.2.1, HP3.out.2.2.1, Int.natCast_add]
        have s2 : a.t k = (P : Int) + z + 1 := by rw [y2, HP3.out.2.2.2, HP3.out.2.1, HP3.out.2.2.1, Int.natCast_add, Int.natCast_add]; rfl
        rw [acl_succ, s1, s2, y3]
        exact HN.out.1
      case measure => simp [intOf]; omega
    · obtain rfl : nr = k := by omega
      have hnl : ¬ (nr : Int) < nr := by omega
      obtain ⟨wo, rfl⟩ : ∃ w, w = wr := ⟨_, rfl⟩
      have m5 := keepAt hin.out.2 mz HM.out.2.2
      have HO := hin
      clear hin
      go_wp2_with fail
      clear m5
      go_loopw [3, 43] (fun q i wr => ∃ (k : Nat), i = .int .i64 k ∧ k ≤ nd ∧ Hid (wr.ownsRow W1.heap.size 126 3 q (nr + k) (acl a (nr + k)) ∧ Ext W1 wr)) (fun _ i _ => nd - (intOf i).toNat)
      case atStart => exact ⟨0, rfl, Nat.zero_le _, HO⟩
      case round =>
        obtain ⟨k, rfl, hk, hin⟩ := hrel
        obtain ⟨Aw, cw, rfl⟩ := shape_own hin.out.1
        by_cases hlt : k < nd
        · obtain ⟨b2, o2, rfl, -, e2⟩ := Vl.at HL.out.2 (HB.out.trans hin.out.2) hlt
          have m0 := keepAt hin.out.2 mz HM.out.1
          have hown := World.ownsRow.ext hin.out.1 (Ext.alc (Ext.refl wr) (.cells #[.int .i64 k, .int .i64 ((k : Int) + w), .int .i64 (d k)] 126))
          go_wp2_with (at_builtin; refine wpList_append_own _ rfl _ _ 124 rfl W1.heap.size 126 i0 (.agg #[.int .i64 0, .int .i64 0, .int .i64 0]) 3 24 Try.underlying124 HI.out.1 HI.out.2.1 HI.out.2.2.1 HI.out.2.2.2 rfl (by decide) _ (nr + k) _ rfl hown ⟨wr.heap.size, 0, none⟩ 1 1 [.int .i64 k, .int .i64 ((k : Int) + w), .int .i64 (d k)] rfl rfl ?c1 ?c2 ?c3 ?c4 ?c5 ?_)
          case c1 =>
            intro jj uu hj
            match jj, hj with
            | 0, hj => simp at hj; subst hj; simp [Addr.add]
            | 1, hj => simp at hj; subst hj; simp [Addr.add]
            | 2, hj => simp at hj; subst hj; simp [Addr.add]
            | jj + 3, hj => simp at hj
          case c2 => intro uu hu; simp at hu; rcases hu with rfl | rfl | rfl <;> rfl
          case c3 => unfold maxLen; omega
          case c4 => omega
          case c5 => have := hin.out.2.size; simp; omega
          intro v' w2 hown' hgrow _hnil
          clear _hnil
          have hex : Ext W1 w2 := ext_grow (hin.out.2.alc _) hgrow (fun b' hb' => (World.ownsRow.lt hown b' hb').1) (Nat.le_refl _)
          have HN := Lib.hid (And.intro hown' hex)
          clear hown' hex hgrow hown
          clear m0 e2
          go_wp2
          go_roundw
          case rel =>
            refine ⟨k + 1, by go_num, by omega, Lib.hid ⟨?_, HN.out.2⟩⟩
            obtain ⟨y1, y2, y3⟩ := HAG.out k
            rw [show nr + (k + 1) = nr + k + 1 by omega, acl_succ, y1, y2, y3]
            exact HN.out.1
          case measure => simp [intOf]; omega
        · obtain rfl : nd = k := by omega
          have hR : wr.ownsRow W.heap.size 126 3 (.slice Aw (nr + nd) cw) a.n (acl a a.n) := own_mono (by rw [HAN.out]; exact hin.out.1) HB.out.size
          have HR := Lib.hid hR
          clear hR
          go_wp2
          go_ret
          exact ⟨_, rfl, HR.out, HB.out.trans hin.out.2⟩
theorem Al.own126 {W : World} {base : Nat} {v : Value} {a : Ar} (h : W.ownsRow base 126 3 v a.n (acl a a.n)) : Al W v a := by
  obtain ⟨hl, ⟨rfl, h0⟩ | ⟨g, cap, cur, rfl, hg, hh, h1, h2, h3, h4⟩⟩ := h
  · exact ⟨none, 0, by rw [h0], by omega, by omega, fun hp => by omega⟩
  · refine ⟨_, cap, rfl, h1, by simp only [maxLen] at h2; omega, fun hp => ⟨g, 0, rfl, (Array.getElem?_eq_some_iff.1 hh).1, fun j hj => ?_⟩⟩
    have key : ∀ i u, (acl a a.n)[i]? = some u → i < a.n * 3 → W.cell? ⟨g, 0 + i, none⟩ = some u := by
      intro i u hu hi
      rw [← h4, List.getElem?_take, if_pos hi] at hu
      rw [Nat.zero_add, cell_of_row W g i cur 126 (0, 0) hh]
      simpa using hu
    obtain ⟨k1, k2, k3⟩ := acl_get a hj
    exact ⟨key _ _ k1 (by omega), key _ _ k2 (by omega), key _ _ k3 (by omega)⟩
theorem pairsR_any (c : Cl) (V : Value) (W : World) (hV : Kl W V c) (hc : vCl c = true) :
    Calls Try.prog 86 #[V] W fun e W' => ∃ U, e = .returned U ∧ Al W' U c.prs ∧ Ext W W' := by
  refine (pairsR_own c V W hV hc).mono ?_
  rintro e w ⟨U, rfl, h, hx⟩
  exact ⟨U, rfl, Al.own126 h, hx⟩
end Go.Proofs.Ytilcbbdmenknfaa
namespace Go.Proofs.Ytilcbbdmenknfaa
open Go.RowKit

theorem bw_f1 {x lo hi : Int} (h : x < lo) : bw x lo hi = false := by
  cases e : bw x lo hi
  · rfl
  · have := bw_iff.1 e; omega
theorem bw_f2 {x lo hi : Int} (h : hi < x) : bw x lo hi = false := by
  cases e : bw x lo hi
  · rfl
  · have := bw_iff.1 e; omega
set_option maxHeartbeats 4000000 in
set_option maxRecDepth 100000 in
theorem validR_any (N : Int) (a : Ar) (AV : Value) (W : World) (hA : Al W AV a) :
    Calls Try.prog 50 #[.agg #[.int .i64 N, AV]] W fun e W' => e = .returned (.bool (vNet N a)) ∧ Ext W W' := by
  have HA := Lib.hid hA
  obtain ⟨A, c, rfl, hac, hcm, -⟩ := hA
  obtain ⟨r, hr⟩ : ∃ r, r = vNet N a := ⟨_, rfl⟩
  rw [← hr]
  have HR := Lib.hid hr; clear hr
  have bb := al1 W (.cells #[.int .i64 N, .slice A a.n c] 24)
  go_enter Try.func50, Try.ntmps50
  by_cases hN1 : N < 2
  · have hr : vNet N a = false := by unfold vNet; rw [bw_f1 hN1]; rfl
    rw [← HR.out] at hr
    have HR2 := Lib.hid hr; clear hr HR
    go_wp2
    go_ret
    exact ⟨by rw [HR2.out]; rfl, bb⟩
  by_cases hN2 : 40 < N
  · have hr : vNet N a = false := by unfold vNet; rw [bw_f2 hN2]; rfl
    rw [← HR.out] at hr
    have HR2 := Lib.hid hr; clear hr HR
    go_wp2
    go_ret
    exact ⟨by rw [HR2.out]; rfl, bb⟩
  by_cases hn : a.n ≤ 160
  · go_wp2_with fail
    go_loopw [22] (fun i wr => ∃ k : Nat, i = .int .i64 k ∧ k ≤ a.n ∧ Hid ((∀ j, j < k → okA N a j = true) ∧ wr.cell? ⟨W.heap.size, 0, none⟩ = some (.int .i64 N) ∧ W.heap.size < wr.heap.size ∧ Ext W wr)) (fun i _ => a.n - (intOf i).toNat)
    case atStart => exact ⟨0, rfl, Nat.zero_le _, Lib.hid ⟨fun j hj => by omega, by rw [World.cell?_alloc_new]; rfl, by simp, bb⟩⟩
    case round =>
      clear bb
      obtain ⟨k, rfl, hk, hin⟩ := hrel
      by_cases hlt : k < a.n
      · obtain ⟨b, off, rfl, d1, d2, d3⟩ := HA.out.arc hin.out.2.2.2 hlt
        have m0 := hin.out.2.1
        have mz := hin.out.2.2.1
        obtain ⟨ok, hok⟩ : ∃ ok, ok = okA N a k := ⟨_, rfl⟩
        have hok2 := hok
        unfold okA at hok2
        obtain ⟨fk, hfk⟩ : ∃ x, x = a.f k := ⟨_, rfl⟩
        obtain ⟨tk, htk⟩ : ∃ x, x = a.t k := ⟨_, rfl⟩
        obtain ⟨ck, hck⟩ : ∃ x, x = a.c k := ⟨_, rfl⟩
        rw [← hfk, ← htk, ← hck] at hok2
        rw [← hfk] at d1; rw [← htk] at d2; rw [← hck] at d3
        have HOK := Lib.hid hok; have HO2 := Lib.hid hok2
        clear hfk htk hck hok hok2
        have hEX : Hid (Ext W (wr.alloc (.cells #[.int .i64 fk, .int .i64 tk, .int .i64 ck] 64))) := Lib.hid (hin.out.2.2.2.alc _)
        have hno : ok = false → r = false := fun h => by rw [HR.out]; exact vNet_no hlt (by rw [← HOK.out]; exact h)
        have HNO := Lib.hid hno; clear hno
        by_cases h1 : fk < 0
        · have hr := Lib.hid (HNO.out (by rw [HO2.out]; rw [bw_f1 h1]; rfl))
          go_wp2
          go_ret
          exact ⟨by rw [hr.out]; rfl, hEX.out⟩
        by_cases h2 : N ≤ fk
        · have hr := Lib.hid (HNO.out (by rw [HO2.out]; rw [bw_f2 (by omega)]; rfl))
          go_wp2
          go_ret
          exact ⟨by rw [hr.out]; rfl, hEX.out⟩
        by_cases h3 : tk < 0
        · have hr := Lib.hid (HNO.out (by rw [HO2.out]; rw [bw_f1 (x := tk) h3]; simp))
          go_wp2
          go_ret
          exact ⟨by rw [hr.out]; rfl, hEX.out⟩
        by_cases h4 : N ≤ tk
        · have hr := Lib.hid (HNO.out (by rw [HO2.out]; rw [bw_f2 (x := tk) (by omega)]; simp))
          go_wp2
          go_ret
          exact ⟨by rw [hr.out]; rfl, hEX.out⟩
        by_cases h5 : fk = tk
        · have hr := Lib.hid (HNO.out (by rw [HO2.out, decide_eq_true h5]; simp))
          subst h5
          go_wp2
          go_ret
          exact ⟨by rw [hr.out]; rfl, hEX.out⟩
        by_cases h6 : ck < 0
        · have hr := Lib.hid (HNO.out (by rw [HO2.out]; rw [bw_f1 (x := ck) h6]; simp))
          go_wp2
          go_ret
          exact ⟨by rw [hr.out]; rfl, hEX.out⟩
        by_cases h7 : 1000000 < ck
        · have hr := Lib.hid (HNO.out (by rw [HO2.out]; rw [bw_f2 (x := ck) h7]; simp))
          go_wp2
          go_ret
          exact ⟨by rw [hr.out]; rfl, hEX.out⟩
        have hok3 : okA N a k = true := by
          rw [← HOK.out, HO2.out, decide_eq_false h5, bw_iff.2 (show 0 ≤ fk ∧ fk ≤ N - 1 by omega), bw_iff.2 (show 0 ≤ tk ∧ tk ≤ N - 1 by omega), bw_iff.2 (show 0 ≤ ck ∧ ck ≤ 1000000 by omega)]; rfl
        have HK := Lib.hid hok3
        have hcell : Hid ((wr.alloc (.cells #[.int .i64 fk, .int .i64 tk, .int .i64 ck] 64)).cell? ⟨W.heap.size, 0, none⟩ = some (.int .i64 N)) := Lib.hid (keepAt (Ext.alc (Ext.refl wr) _) mz m0)
        clear hok3
        go_wp2
        go_roundw
        case rel =>
          refine ⟨k + 1, by go_num, by omega, Lib.hid ⟨fun j hj => ?_, hcell.out, by simp; omega, hEX.out⟩⟩
          by_cases e : j = k
          · subst e; exact HK.out
          · exact hin.out.1 j (by omega)
        case measure => simp [intOf]; omega
      · obtain rfl : k = a.n := by omega
        have hr : r = true := by rw [HR.out]; exact vNet_iff.2 ⟨⟨by omega, by omega⟩, hn, hin.out.1⟩
        have HR2 := Lib.hid hr; clear hr
        go_wp2
        go_ret
        exact ⟨by rw [HR2.out]; rfl, hin.out.2.2.2⟩
  · have hr : vNet N a = false := by unfold vNet; rw [decide_eq_false hn, Bool.and_false, Bool.false_and]
    rw [← HR.out] at hr
    have HR2 := Lib.hid hr; clear hr HR
    have hn3 : (160 : Int) < a.n := by omega
    go_wp2
    go_ret
    exact ⟨by rw [HR2.out]; rfl, bb⟩

end Go.Proofs.Ytilcbbdmenknfaa
namespace Go.Proofs.Ytilcbbdmenknfaa
open Go.RowKit

set_option maxHeartbeats 4000000 in
set_option maxRecDepth 100000 in
theorem priced_any (n : Nat) (x : Nat → Int) (l : Int) (V : Value) (W : World) (hV : Il W V n x) :
    Calls Try.prog 76 #[V, .int .i64 l] W fun e W' => e = .returned (.bool (okL n x l)) ∧ Ext W W' := by
  obtain ⟨y, hy⟩ : ∃ y, y = okL n x l := ⟨_, rfl⟩
  rw [← hy]
  have HY := Lib.hid hy; clear hy
  have HV := Lib.hid hV
  obtain ⟨A, c, rfl, hac, hcm, -⟩ := hV
  go_enter Try.func76, Try.ntmps76
  go_wp2_with fail
  go_loopw [9] (fun i wr => ∃ k : Nat, i = .int .i64 k ∧ k ≤ n ∧ Hid ((∀ j, j < k → 0 ≤ x j ∧ x j ≤ 1000) ∧ Ext W wr)) (fun i _ => n - (intOf i).toNat)
  case atStart => exact ⟨0, rfl, Nat.zero_le _, Lib.hid ⟨fun j hj => by omega, Ext.refl _⟩⟩
  case round =>
    obtain ⟨k, rfl, hk, hin⟩ := hrel
    by_cases hlt : k < n
    · obtain ⟨b, off, rfl, -, e1⟩ := Vl.at HV.out hin.out.2 hlt
      obtain ⟨p, hp⟩ : ∃ p, p = x k := ⟨_, rfl⟩
      rw [← hp] at e1
      have HP := Lib.hid hp; clear hp
      by_cases h1 : p < 0
      · have hy : y = false := by rw [HY.out]; exact okL_no fun h => by have := h.2 k hlt; rw [← HP.out] at this; omega
        have HY2 := Lib.hid hy; clear hy
        go_wp2
        go_ret
        exact ⟨by rw [HY2.out]; rfl, hin.out.2⟩
      · by_cases h2 : 1000 < p
        · have hy : y = false := by rw [HY.out]; exact okL_no fun h => by have := h.2 k hlt; rw [← HP.out] at this; omega
          have HY2 := Lib.hid hy; clear hy
          go_wp2
          go_ret
          exact ⟨by rw [HY2.out]; rfl, hin.out.2⟩
        · go_wp2
          go_roundw
          case rel =>
            refine ⟨k + 1, by go_num, by omega, Lib.hid ⟨fun j hj => ?_, hin.out.2⟩⟩
            by_cases e : j = k
            · subst e; rw [← HP.out]; omega
            · exact hin.out.1 j (by omega)
          case measure => simp [intOf]; omega
    · obtain rfl : k = n := by omega
      by_cases hl : (k : Int) = l
      · have hy : y = true := by rw [HY.out]; exact okL_iff.2 ⟨hl, hin.out.1⟩
        have HY2 := Lib.hid hy; clear hy
        subst hl
        go_wp2
        go_ret
        exact ⟨by rw [HY2.out]; rfl, hin.out.2⟩
      · have hy : y = false := by rw [HY.out]; exact okL_no fun h => hl h.1
        have HY2 := Lib.hid hy; clear hy
        have hl2 : ((k : Int) == l) = false := by simp; exact hl
        go_wp2
        go_ret
        exact ⟨by rw [HY2.out]; rfl, hin.out.2⟩
theorem rise_any (r : Int) (W : World) : Calls Try.prog 69 #[.int .i64 r] W fun e W' => e = .returned (.bool (bw r (-10000) 10000)) ∧ W = W' := by
  by_cases h : -10000 ≤ r
  · by_cases h2 : r ≤ 10000
    · rw [bw_iff.2 ⟨h, h2⟩]
      go_enter Try.func69, Try.ntmps69
      go_wp2
      go_ret
      exact ⟨rfl, rfl⟩
    · rw [bw_f2 (by omega)]
      go_enter Try.func69, Try.ntmps69
      go_wp2
      go_ret
      exact ⟨rfl, rfl⟩
  · rw [bw_f1 (by omega)]
    go_enter Try.func69, Try.ntmps69
    go_wp2
    go_ret
    exact ⟨rfl, rfl⟩

set_option maxHeartbeats 4000000 in
set_option maxRecDepth 100000 in
theorem wovenR_any (c : Cl) (V : Value) (W : World) (hV : Kl W V c) :
    Calls Try.prog 44 #[V] W fun e W' => e = .returned (.bool (vCl c)) ∧ Ext W W' := by
  obtain ⟨y, hy⟩ : ∃ y, y = vCl c := ⟨_, rfl⟩
  rw [← hy]
  have HY := Lib.hid hy; clear hy
  obtain ⟨B, X, R, D, rfl, hB, hX, hR, hD⟩ := hV
  obtain ⟨w, h, nb, b, nx, x, nr, r, nd, d⟩ := c
  dsimp only at hB hX hR hD ⊢
  have HL := Lib.hid (And.intro hB (And.intro hX (And.intro hR hD)))
  go_enter Try.func44, Try.ntmps44
  go_upto_region 1 with fail
  have bb := al1 W (.cells #[.int .i64 w, .int .i64 h, B, X, R, D] 68)
  obtain ⟨m0, m1, m2, m3, m4, m5, mz, -⟩ := six (heap_alloc_new W (.cells #[.int .i64 w, .int .i64 h, B, X, R, D] 68))
  generalize W.alloc (.cells #[.int .i64 w, .int .i64 h, B, X, R, D] 68) = W1 at *
  have HB : Hid (Ext W W1) := Lib.hid bb
  clear bb hB hX hR hD
  by_cases a0 : w < 1
  · have q : bw w 1 6 = false := bw_f1 (by omega)
    have hy : y = false := by rw [HY.out]; simp only [vCl, q, Bool.false_and, Bool.and_false]
    have HY2 := Lib.hid hy; clear hy HY q m2 m3 m4 m5
    go_wp2
    go_ret
    exact ⟨by rw [HY2.out]; rfl, HB.out⟩
  by_cases a1 : 6 < w
  · have q : bw w 1 6 = false := bw_f2 (by omega)
    have hy : y = false := by rw [HY.out]; simp only [vCl, q, Bool.false_and, Bool.and_false]
    have HY2 := Lib.hid hy; clear hy HY q m2 m3 m4 m5
    go_wp2
    go_ret
    exact ⟨by rw [HY2.out]; rfl, HB.out⟩
  by_cases a2 : h < 1
  · have q : bw h 1 6 = false := bw_f1 (by omega)
    have hy : y = false := by rw [HY.out]; simp only [vCl, q, Bool.false_and, Bool.and_false]
    have HY2 := Lib.hid hy; clear hy HY q m2 m3 m4 m5
    go_wp2
    go_ret
    exact ⟨by rw [HY2.out]; rfl, HB.out⟩
  by_cases a3 : 6 < h
  · have q : bw h 1 6 = false := bw_f2 (by omega)
    have hy : y = false := by rw [HY.out]; simp only [vCl, q, Bool.false_and, Bool.and_false]
    have HY2 := Lib.hid hy; clear hy HY q m2 m3 m4 m5
    go_wp2
    go_ret
    exact ⟨by rw [HY2.out]; rfl, HB.out⟩
  have q1 : bw w 1 6 = true := bw_iff.2 ⟨by omega, by omega⟩
  have q2 : bw h 1 6 = true := bw_iff.2 ⟨by omega, by omega⟩
  obtain ⟨pa1, pa2⟩ := side_prod (show 0 ≤ w by omega) (show w ≤ 6 by omega) (show 0 ≤ h by omega) (show h ≤ 6 by omega)
  obtain ⟨pb1, pb2⟩ := side_prod (show 0 ≤ w - 1 by omega) (show w - 1 ≤ 5 by omega) (show 0 ≤ h by omega) (show h ≤ 6 by omega)
  obtain ⟨pc1, pc2⟩ := side_prod (show 0 ≤ w by omega) (show w ≤ 6 by omega) (show 0 ≤ h - 1 by omega) (show h - 1 ≤ 5 by omega)
  have HQ0 := Lib.hid (And.intro q1 q2)
  clear q1 q2
  go_wp2_with fail
  refine (priced_any nb b (w * h) B _ (HL.out.1.ext HB.out)).mono ?_
  rintro e w1 ⟨rfl, hx⟩
  replace m0 := keepAt hx mz m0
  replace m1 := keepAt hx mz m1
  replace m2 := keepAt hx mz m2
  replace m3 := keepAt hx mz m3
  replace m4 := keepAt hx mz m4
  replace m5 := keepAt hx mz m5
  replace mz := Nat.lt_of_lt_of_le mz hx.size
  have HX1 : Hid (Ext W w1) := Lib.hid (HB.out.trans hx)
  clear hx
  cases p0 : okL nb b (w * h)
  · have hy : y = false := by rw [HY.out]; simp only [vCl, HQ0.out.1, HQ0.out.2, p0, Bool.false_and, Bool.true_and]
    have HY2 := Lib.hid hy; clear hy HY
    clear p0 m2 m3 m4 m5
    go_wp2
    go_ret
    exact ⟨by rw [HY2.out]; rfl, HX1.out⟩
  have HP0 := Lib.hid p0; clear p0
  go_wp2_with fail
  refine (priced_any nx x (w * h) X _ (HL.out.2.1.ext HX1.out)).mono ?_
  rintro e w2 ⟨rfl, hx⟩
  replace m0 := keepAt hx mz m0
  replace m1 := keepAt hx mz m1
  replace m2 := keepAt hx mz m2
  replace m3 := keepAt hx mz m3
  replace m4 := keepAt hx mz m4
  replace m5 := keepAt hx mz m5
  replace mz := Nat.lt_of_lt_of_le mz hx.size
  have HX2 : Hid (Ext W w2) := Lib.hid (HX1.out.trans hx)
  clear hx
  cases p1 : okL nx x (w * h)
  · have hy : y = false := by rw [HY.out]; simp only [vCl, HQ0.out.1, HQ0.out.2, HP0.out, p1, Bool.false_and, Bool.true_and]
    have HY2 := Lib.hid hy; clear hy HY
    clear p1 m2 m3 m4 m5
    go_wp2
    go_ret
    exact ⟨by rw [HY2.out]; rfl, HX2.out⟩
  have HP1 := Lib.hid p1; clear p1
  go_wp2_with fail
  refine (priced_any nr r ((w - 1) * h) R _ (HL.out.2.2.1.ext HX2.out)).mono ?_
  rintro e w3 ⟨rfl, hx⟩
  replace m0 := keepAt hx mz m0
  replace m1 := keepAt hx mz m1
  replace m2 := keepAt hx mz m2
  replace m3 := keepAt hx mz m3
  replace m4 := keepAt hx mz m4
  replace m5 := keepAt hx mz m5
  replace mz := Nat.lt_of_lt_of_le mz hx.size
  have HX3 : Hid (Ext W w3) := Lib.hid (HX2.out.trans hx)
  clear hx
  cases p2 : okL nr r ((w - 1) * h)
  · have hy : y = false := by rw [HY.out]; simp only [vCl, HQ0.out.1, HQ0.out.2, HP0.out, HP1.out, p2, Bool.false_and, Bool.true_and]
    have HY2 := Lib.hid hy; clear hy HY
    clear p2 m2 m3 m4 m5
    go_wp2
    go_ret
    exact ⟨by rw [HY2.out]; rfl, HX3.out⟩
  have HP2 := Lib.hid p2; clear p2
  go_wp2_with fail
  refine (priced_any nd d (w * (h - 1)) D _ (HL.out.2.2.2.ext HX3.out)).mono ?_
  rintro e w4 ⟨rfl, hx⟩
  replace m0 := keepAt hx mz m0
  replace m1 := keepAt hx mz m1
  replace m2 := keepAt hx mz m2
  replace m3 := keepAt hx mz m3
  replace m4 := keepAt hx mz m4
  replace m5 := keepAt hx mz m5
  replace mz := Nat.lt_of_lt_of_le mz hx.size
  have HX4 : Hid (Ext W w4) := Lib.hid (HX3.out.trans hx)
  clear hx
  cases p3 : okL nd d (w * (h - 1))
  · have hy : y = false := by rw [HY.out]; simp only [vCl, HQ0.out.1, HQ0.out.2, HP0.out, HP1.out, HP2.out, p3, Bool.false_and, Bool.true_and]
    have HY2 := Lib.hid hy; clear hy HY
    clear p3 m2 m3 m4 m5
    go_wp2
    go_ret
    exact ⟨by rw [HY2.out]; rfl, HX4.out⟩
  have HP3 := Lib.hid p3; clear p3
  have hy : y = true := by rw [HY.out]; simp only [vCl, HQ0.out.1, HQ0.out.2, HP0.out, HP1.out, HP2.out, HP3.out, Bool.true_and]
  have HY2 := Lib.hid hy; clear hy HY m0 m1 m2 m3 m4 m5
  go_wp2
  go_ret
  exact ⟨by rw [HY2.out]; rfl, HX4.out⟩
end Go.Proofs.Ytilcbbdmenknfaa
