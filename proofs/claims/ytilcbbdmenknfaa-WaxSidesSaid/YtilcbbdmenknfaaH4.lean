/- Walks: the pairs of neighbours. -/
import Derived.Test.YtilcbbdmenknfaaH3
namespace Go.Proofs.Ytilcbbdmenknfaa
open Go.RowKit

/-- the pairs of neighbours as arcs -/
def Cl.prs (c : Cl) : Ar := ⟨c.nr + c.nd, fun k => if k < c.nr then ((k / (c.w - 1).toNat * c.w.toNat + k % (c.w - 1).toNat : Nat) : Int) else ((k - c.nr : Nat) : Int),
  fun k => if k < c.nr then ((k / (c.w - 1).toNat * c.w.toNat + k % (c.w - 1).toNat + 1 : Nat) : Int) else ((k - c.nr + c.w.toNat : Nat) : Int), fun k => if k < c.nr then c.r k else c.d (k - c.nr)⟩
theorem vCl_ok {c : Cl} (h : vCl c = true) : (1 ≤ c.w ∧ c.w ≤ 6) ∧ (1 ≤ c.h ∧ c.h ≤ 6) ∧ ((c.nb : Int) = c.w * c.h ∧ ∀ k, k < c.nb → 0 ≤ c.b k ∧ c.b k ≤ 1000) ∧ ((c.nx : Int) = c.w * c.h ∧ ∀ k, k < c.nx → 0 ≤ c.x k ∧ c.x k ≤ 1000) ∧ ((c.nr : Int) = (c.w - 1) * c.h ∧ ∀ k, k < c.nr → 0 ≤ c.r k ∧ c.r k ≤ 1000) ∧ ((c.nd : Int) = c.w * (c.h - 1) ∧ ∀ k, k < c.nd → 0 ≤ c.d k ∧ c.d k ≤ 1000) := by
  unfold vCl at h
  simp only [Bool.and_eq_true, bw_iff, okL_iff] at h
  exact h

theorem ext_grow {X w w' : World} {base : Nat} {r : Option Nat} (e : Ext X w) (hg : w.grownBy w' r) (hr : ∀ b, r = some b → base ≤ b) (hb : X.heap.size ≤ base) : Ext X w' :=
  ⟨hg.os.trans e.os, hg.tape.trans e.tape, hg.output.trans e.output, Nat.le_trans e.size hg.size, fun b hb' => (hg.block b (Nat.lt_of_lt_of_le hb' e.size) (fun e2 => by have := hr b e2.symm; omega)).trans (e.block b hb')⟩
set_option maxHeartbeats 4000000 in
set_option maxRecDepth 100000 in
theorem pairs_own (c : Cl) (V : Value) (W : World) (hV : Kl W V c) (hc : vCl c = true) :
    Calls Try.prog 67 #[V] W fun e W' => ∃ U, e = .returned U ∧ W'.ownsRow W.heap.size 65 3 U c.prs.n (acl c.prs c.prs.n) ∧ Ext W W' := by
  obtain ⟨⟨hw1, hw2⟩, ⟨hh1, hh2⟩, -, -, ⟨hnr, hr⟩, ⟨hnd, hd⟩⟩ := vCl_ok hc
  clear hc
  obtain ⟨B, X, R, D, rfl, hB, hX, hR, hD⟩ := hV
  obtain ⟨w, h, nb, b, nx, x, nr, r, nd, d⟩ := c
  dsimp only at hB hX hR hD hw1 hw2 hh1 hh2 hnr hr hnd hd ⊢
  obtain ⟨a, ha⟩ : ∃ a : Ar, a = Cl.prs ⟨w, h, nb, b, nx, x, nr, r, nd, d⟩ := ⟨_, rfl⟩
  rw [← ha]
  have han : a.n = nr + nd := by rw [ha]; rfl
  obtain ⟨Z, hZ⟩ : ∃ Z : Nat, w - 1 = (Z : Int) := ⟨(w - 1).toNat, by omega⟩
  have hwZ : w = (Z : Int) + 1 := by omega
  have hZ5 : Z ≤ 5 := by omega
  have hnr2 : nr ≤ 30 := by have := (side_prod (show 0 ≤ w - 1 by omega) (show w - 1 ≤ 5 by omega) (show 0 ≤ h by omega) hh2).2; omega
  have hnd2 : nd ≤ 30 := by have := (side_prod (show 0 ≤ w by omega) hw2 (show 0 ≤ h - 1 by omega) (show h - 1 ≤ 5 by omega)).2; omega
  have hZp : 0 < nr → 0 < Z := by
    intro h0
    rcases Nat.eq_zero_or_pos Z with e | e
    · rw [hZ, e] at hnr; simp at hnr; omega
    · exact e
  have haf : ∀ k, k < nr → a.f k = ((k / Z * (Z + 1) + k % Z : Nat) : Int) ∧ a.t k = ((k / Z * (Z + 1) + k % Z + 1 : Nat) : Int) ∧ a.c k = r k := by
    intro k hk
    have e1 : (w - 1).toNat = Z := by omega
    have e2 : w.toNat = Z + 1 := by omega
    rw [ha]; unfold Cl.prs; dsimp only
    rw [if_pos hk, if_pos hk, if_pos hk, e1, e2]
    exact ⟨rfl, rfl, rfl⟩
  have hag : ∀ k, a.f (nr + k) = (k : Int) ∧ a.t (nr + k) = (k : Int) + w ∧ a.c (nr + k) = d k := by
    intro k
    have e2 : w.toNat = Z + 1 := by omega
    rw [ha]; unfold Cl.prs; dsimp only
    rw [if_neg (by omega), if_neg (by omega), if_neg (by omega), e2, show nr + k - nr = k by omega]
    exact ⟨rfl, by rw [hwZ, Int.natCast_add]; rfl, rfl⟩
  have HAF := Lib.hid haf; have HAG := Lib.hid hag; have HAN := Lib.hid han
  have HL := Lib.hid (And.intro hR hD)
  have HZ := Lib.hid (And.intro hZ (And.intro hwZ hZp))
  have HRD := Lib.hid (And.intro hr hd)
  clear haf hag han hB hX ha hnr hnd hr hd hZ hwZ hZp hh1 hh2
  obtain ⟨AR, cR, rfl, hcR, hdR, -⟩ := hR
  obtain ⟨AD, cD, rfl, hcD, hdD, -⟩ := hD
  obtain ⟨i0, hi, hz0, hz1, hz2⟩ := info_parts info65
  have HI := Lib.hid (And.intro hi (And.intro hz0 (And.intro hz1 hz2)))
  clear hi hz0 hz1 hz2
  go_enter Try.func67, Try.ntmps67
  go_upto_region 1 with fail
  have bb := al1 W (.cells #[.int .i64 w, .int .i64 h, B, X, .slice AR nr cR, .slice AD nd cD] 70)
  obtain ⟨m0, -, -, -, m4, m5, mz, -⟩ := six (heap_alloc_new W (.cells #[.int .i64 w, .int .i64 h, B, X, .slice AR nr cR, .slice AD nd cD] 70))
  generalize W.alloc (.cells #[.int .i64 w, .int .i64 h, B, X, .slice AR nr cR, .slice AD nd cD] 70) = W1 at *
  have HB : Hid (Ext W W1) := Lib.hid bb
  have HM := Lib.hid (And.intro m0 (And.intro m4 m5))
  clear bb m0 m5
  go_wp2_with fail
  clear m4
  go_loopw [3, 12] (fun q i wr => ∃ (k : Nat), i = .int .i64 k ∧ k ≤ nr ∧ Hid (wr.ownsRow W1.heap.size 65 3 q k (acl a k) ∧ Ext W1 wr)) (fun _ i _ => nr - (intOf i).toNat)
  case atStart => exact ⟨0, rfl, Nat.zero_le _, Lib.hid ⟨World.ownsRow_nil _ _ _ _, Ext.refl _⟩⟩
  case round =>
    obtain ⟨k, rfl, hk, hin⟩ := hrel
    obtain ⟨Av, cv, rfl⟩ := shape_own hin.out.1
    by_cases hlt : k < nr
    · obtain ⟨b1, o1, rfl, -, e1⟩ := Vl.at HL.out.1 (HB.out.trans hin.out.2) hlt
      have m0 := keepAt hin.out.2 mz HM.out.1
      obtain ⟨p, hp⟩ : ∃ p, p = r k := ⟨_, rfl⟩
      rw [← hp] at e1
      go_upto_region 5 with fail
      have hZ0 : 0 < Z := HZ.out.2.2 (by omega)
      obtain ⟨q, hq⟩ : ∃ q, q = k / Z := ⟨_, rfl⟩
      obtain ⟨z, hz⟩ : ∃ z, z = k % Z := ⟨_, rfl⟩
      obtain ⟨P, hP⟩ : ∃ P, P = q * (Z + 1) := ⟨_, rfl⟩
      have hq30 : q ≤ 30 := by have := Nat.div_le_self k Z; omega
      have hz30 : z ≤ 30 := by have := Nat.mod_le k Z; omega
      have hP2 : P ≤ 180 := by rw [hP]; exact Nat.mul_le_mul hq30 (show Z + 1 ≤ 6 by omega)
      have hsub := HZ.out.1
      have hdq : ((k : Int)).tdiv Z = q := by rw [Int.tdiv_eq_ediv_of_nonneg (by omega), ← Int.natCast_ediv, hq]
      have hdq2 : ((k : Int)) / Z = q := by rw [← Int.natCast_ediv, hq]
      have hdm : ((k : Int)).tmod Z = z := by rw [Int.tmod_eq_emod_of_nonneg (by omega), ← Int.natCast_emod, hz]
      have hdm2 : ((k : Int)) % Z = z := by rw [← Int.natCast_emod, hz]
      have hmul : (q : Int) * w = P := by rw [HZ.out.2.1, hP, Int.natCast_mul, Int.natCast_add]; rfl
      have HP3 := Lib.hid (And.intro hp (And.intro hq (And.intro hz hP)))
      have m0d : wr.drew.cell? ⟨W.heap.size, 0, none⟩ = some (.int .i64 w) := m0
      clear hp hq hz hP m0 e1
      go_region
      try clear m0d
      have hown := World.ownsRow.ext hin.out.1 (Ext.alc (Ext.drw (Ext.refl wr)) (.cells #[.int .i64 ((P : Int) + z), .int .i64 ((P : Int) + z + 1), .int .i64 (r k)] 65))
      go_wp2_with (at_builtin; refine wpList_append_own _ rfl _ _ 28 rfl W1.heap.size 65 i0 (.agg #[.int .i64 0, .int .i64 0, .int .i64 0]) 3 24 Try.underlying28 HI.out.1 HI.out.2.1 HI.out.2.2.1 HI.out.2.2.2 rfl (by decide) _ k _ rfl hown ⟨wr.heap.size, 0, none⟩ 1 1 [.int .i64 ((P : Int) + z), .int .i64 ((P : Int) + z + 1), .int .i64 (r k)] rfl rfl ?c1 ?c2 ?c3 ?c4 ?c5 ?_)
      case c1 =>
        intro jj uu hj
        match jj, hj with
        | 0, hj => simp at hj; subst hj; simp [Addr.add]
        | 1, hj => simp at hj; subst hj; simp [Addr.add]
        | 2, hj => simp at hj; subst hj; simp [Addr.add]
        | jj + 3, hj => simp at hj
      case c2 => intro uu hu; simp at hu; rcases hu with rfl | rfl | rfl <;> rfl
      case c3 => unfold maxLen; omega
      case c4 => omega
      case c5 => have := hin.out.2.size; simp; omega
      intro v' w2 hown' hgrow _hnil
      clear _hnil
      have hex : Ext W1 w2 := ext_grow ((hin.out.2.drw).alc _) hgrow (fun b' hb' => (World.ownsRow.lt hown b' hb').1) (Nat.le_refl _)
      have HN := Lib.hid (And.intro hown' hex)
      clear hown' hex hgrow hown
      go_wp2
      go_roundw
      case rel =>
        refine ⟨k + 1, by go_num, by omega, Lib.hid ⟨?_, HN.out.2⟩⟩
        obtain ⟨y1, y2, y3⟩ := HAF.out k hlt
        have s1 : a.f k = (P : Int) + z := by rw [y1, HP3.out.2.2.2, HP3.out.2.1, HP3.out.2.2.1, Int.natCast_add]
        have s2 : a.t k = (P : Int) + z + 1 := by rw [y2, HP3.out.2.2.2, HP3.out.2.1, HP3.out.2.2.1, Int.natCast_add, Int.natCast_add]; rfl
        rw [acl_succ, s1, s2, y3]
        exact HN.out.1
      case measure => simp [intOf]; omega
    · obtain rfl : nr = k := by omega
      have hnl : ¬ (nr : Int) < nr := by omega
      obtain ⟨wo, rfl⟩ : ∃ w, w = wr := ⟨_, rfl⟩
      have m5 := keepAt hin.out.2 mz HM.out.2.2
      have HO := hin
      clear hin
      go_wp2_with fail
      clear m5
      go_loopw [3, 43] (fun q i wr => ∃ (k : Nat), i = .int .i64 k ∧ k ≤ nd ∧ Hid (wr.ownsRow W1.heap.size 65 3 q (nr + k) (acl a (nr + k)) ∧ Ext W1 wr)) (fun _ i _ => nd - (intOf i).toNat)
      case atStart => exact ⟨0, rfl, Nat.zero_le _, HO⟩
      case round =>
        obtain ⟨k, rfl, hk, hin⟩ := hrel
        obtain ⟨Aw, cw, rfl⟩ := shape_own hin.out.1
        by_cases hlt : k < nd
        · obtain ⟨b2, o2, rfl, -, e2⟩ := Vl.at HL.out.2 (HB.out.trans hin.out.2) hlt
          have m0 := keepAt hin.out.2 mz HM.out.1
          have hown := World.ownsRow.ext hin.out.1 (Ext.alc (Ext.refl wr) (.cells #[.int .i64 k, .int .i64 ((k : Int) + w), .int .i64 (d k)] 65))
          go_wp2_with (at_builtin; refine wpList_append_own _ rfl _ _ 28 rfl W1.heap.size 65 i0 (.agg #[.int .i64 0, .int .i64 0, .int .i64 0]) 3 24 Try.underlying28 HI.out.1 HI.out.2.1 HI.out.2.2.1 HI.out.2.2.2 rfl (by decide) _ (nr + k) _ rfl hown ⟨wr.heap.size, 0, none⟩ 1 1 [.int .i64 k, .int .i64 ((k : Int) + w), .int .i64 (d k)] rfl rfl ?c1 ?c2 ?c3 ?c4 ?c5 ?_)
          case c1 =>
            intro jj uu hj
            match jj, hj with
            | 0, hj => simp at hj; subst hj; simp [Addr.add]
            | 1, hj => simp at hj; subst hj; simp [Addr.add]
            | 2, hj => simp at hj; subst hj; simp [Addr.add]
            | jj + 3, hj => simp at hj
          case c2 => intro uu hu; simp at hu; rcases hu with rfl | rfl | rfl <;> rfl
          case c3 => unfold maxLen; omega
          case c4 => omega
          case c5 => have := hin.out.2.size; simp; omega
          intro v' w2 hown' hgrow _hnil
          clear _hnil
          have hex : Ext W1 w2 := ext_grow (hin.out.2.alc _) hgrow (fun b' hb' => (World.ownsRow.lt hown b' hb').1) (Nat.le_refl _)
          have HN := Lib.hid (And.intro hown' hex)
          clear hown' hex hgrow hown
          clear m0 e2
          go_wp2
          go_roundw
          case rel =>
            refine ⟨k + 1, by go_num, by omega, Lib.hid ⟨?_, HN.out.2⟩⟩
            obtain ⟨y1, y2, y3⟩ := HAG.out k
            rw [show nr + (k + 1) = nr + k + 1 by omega, acl_succ, y1, y2, y3]
            exact HN.out.1
          case measure => simp [intOf]; omega
        · obtain rfl : nd = k := by omega
          have hR : wr.ownsRow W.heap.size 65 3 (.slice Aw (nr + nd) cw) a.n (acl a a.n) := own_mono (by rw [HAN.out]; exact hin.out.1) HB.out.size
          have HR := Lib.hid hR
          clear hR
          go_wp2
          go_ret
          exact ⟨_, rfl, HR.out, HB.out.trans hin.out.2⟩
theorem pairs_any (c : Cl) (V : Value) (W : World) (hV : Kl W V c) (hc : vCl c = true) :
    Calls Try.prog 67 #[V] W fun e W' => ∃ U, e = .returned U ∧ Al W' U c.prs ∧ Ext W W' := by
  refine (pairs_own c V W hV hc).mono ?_
  rintro e w ⟨U, rfl, h, hx⟩
  exact ⟨U, rfl, Al.own h, hx⟩
end Go.Proofs.Ytilcbbdmenknfaa
