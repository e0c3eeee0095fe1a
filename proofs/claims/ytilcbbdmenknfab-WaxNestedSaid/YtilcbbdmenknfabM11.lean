/- Walks: the pairs of neighbours. · The energy of a labelling: mathematics. · Walks: Energy. · Webs: every arc in both directions: mathematics. · The network whose cuts are energies: mathematics. · Walks: Value, Flow, awake. · Walks: isWeb, parted. · The least and the greatest minimum side: mathematics. · Sides by their numbers: mathematics. -/
import Derived.Test.YtilcbbdmenknfabM10
import Derived.Test.YtilcbbdmenknfabM9
namespace Go.Proofs.Ytilcbbdmenknfab
open Go.RowKit

/-- the pairs of neighbours as arcs -/
def Cl.prs (c : Cl) : Ar := ⟨c.nr + c.nd, fun k => if k < c.nr then ((k / (c.w - 1).toNat * c.w.toNat + k % (c.w - 1).toNat : Nat) : Int) else ((k - c.nr : Nat) : Int),
  fun k => if k < c.nr then ((k / (c.w - 1).toNat * c.w.toNat + k % (c.w - 1).toNat + 1 : Nat) : Int) else ((k - c.nr + c.w.toNat : Nat) : Int), fun k => if k < c.nr then c.r k else c.d (k - c.nr)⟩
theorem vCl_ok {c : Cl} (h : vCl c = true) : (1 ≤ c.w ∧ c.w ≤ 6) ∧ (1 ≤ c.h ∧ c.h ≤ 6) ∧ ((c.nb : Int) = c.w * c.h ∧ ∀ k, k < c.nb → 0 ≤ c.b k ∧ c.b k ≤ 1000) ∧ ((c.nx : Int) = c.w * c.h ∧ ∀ k, k < c.nx → 0 ≤ c.x k ∧ c.x k ≤ 1000) ∧ ((c.nr : Int) = (c.w - 1) * c.h ∧ ∀ k, k < c.nr → 0 ≤ c.r k ∧ c.r k ≤ 1000) ∧ ((c.nd : Int) = c.w * (c.h - 1) ∧ ∀ k, k < c.nd → 0 ≤ c.d k ∧ c.d k ≤ 1000) := by
  unfold vCl at h
  simp only [Bool.and_eq_true, bw_iff, okL_iff] at h
  exact h

theorem ext_grow {X w w' : World} {base : Nat} {r : Option Nat} (e : Ext X w) (hg : w.grownBy w' r) (hr : ∀ b, r = some b → base ≤ b) (hb : X.heap.size ≤ base) : Ext X w' :=
  ⟨hg.os.trans e.os, hg.tape.trans e.tape, hg.output.trans e.output, Nat.le_trans e.size hg.size, fun b hb' => (hg.block b (Nat.lt_of_lt_of_le hb' e.size) (fun e2 => by have := hr b e2.symm; omega)).trans (e.block b hb')⟩
set_option maxHeartbeats 4000000 in
set_option maxRecDepth 100000 in
theorem pairs_own (c : Cl) (V : Value) (W : World) (hV : Kl W V c) (hc : vCl c = true) :
    Calls Try.prog 22 #[V] W fun e W' => ∃ U, e = .returned U ∧ W'.ownsRow W.heap.size 55 3 U c.prs.n (acl c.prs c.prs.n) ∧ Ext W W' := by
  obtain ⟨⟨hw1, hw2⟩, ⟨hh1, hh2⟩, -, -, ⟨hnr, hr⟩, ⟨hnd, hd⟩⟩ := vCl_ok hc
  clear hc
  obtain ⟨B, X, R, D, rfl, hB, hX, hR, hD⟩ := hV
  obtain ⟨w, h, nb, b, nx, x, nr, r, nd, d⟩ := c
  dsimp only at hB hX hR hD hw1 hw2 hh1 hh2 hnr hr hnd hd ⊢
  obtain ⟨a, ha⟩ : ∃ a : Ar, a = Cl.prs ⟨w, h, nb, b, nx, x, nr, r, nd, d⟩ := ⟨_, rfl⟩
  rw [← ha]
  have han : a.n = nr + nd := by rw [ha]; rfl
  obtain ⟨Z, hZ⟩ : ∃ Z : Nat, w - 1 = (Z : Int) := ⟨(w - 1).toNat, by omega⟩
  have hwZ : w = (Z : Int) + 1 := by omega
  have hZ5 : Z ≤ 5 := by omega
  have hnr2 : nr ≤ 30 := by have := (side_prod (show 0 ≤ w - 1 by omega) (show w - 1 ≤ 5 by omega) (show 0 ≤ h by omega) hh2).2; omega
  have hnd2 : nd ≤ 30 := by have := (side_prod (show 0 ≤ w by omega) hw2 (show 0 ≤ h - 1 by omega) (show h - 1 ≤ 5 by omega)).2; omega
  have hZp : 0 < nr → 0 < Z := by
    intro h0
    rcases Nat.eq_zero_or_pos Z with e | e
    · rw [hZ, e] at hnr; simp at hnr; omega
    · exact e
  have haf : ∀ k, k < nr → a.f k = ((k / Z * (Z + 1) + k % Z : Nat) : Int) ∧ a.t k = ((k / Z * (Z + 1) + k % Z + 1 : Nat) : Int) ∧ a.c k = r k := by
    intro k hk
    have e1 : (w - 1).toNat = Z := by omega
    have e2 : w.toNat = Z + 1 := by omega
    rw [ha]; unfold Cl.prs; dsimp only
    rw [if_pos hk, if_pos hk, if_pos hk, e1, e2]
    exact ⟨rfl, rfl, rfl⟩
  have hag : ∀ k, a.f (nr + k) = (k : Int) ∧ a.t (nr + k) = (k : Int) + w ∧ a.c (nr + k) = d k := by
    intro k
    have e2 : w.toNat = Z + 1 := by omega
    rw [ha]; unfold Cl.prs; dsimp only
    rw [if_neg (by omega), if_neg (by omega), if_neg (by omega), e2, show nr + k - nr = k by omega]
    exact ⟨rfl, by rw [hwZ, Int.natCast_add]; rfl, rfl⟩
  have HAF := Lib.hid haf; have HAG := Lib.hid hag; have HAN := Lib.hid han
  have HL := Lib.hid (And.intro hR hD)
  have HZ := Lib.hid (And.intro hZ (And.intro hwZ hZp))
  have HRD := Lib.hid (And.intro hr hd)
  clear haf hag han hB hX ha hnr hnd hr hd hZ hwZ hZp hh1 hh2
  obtain ⟨AR, cR, rfl, hcR, hdR, -⟩ := hR
  obtain ⟨AD, cD, rfl, hcD, hdD, -⟩ := hD
  obtain ⟨i0, hi, hz0, hz1, hz2⟩ := info_parts info55
  have HI := Lib.hid (And.intro hi (And.intro hz0 (And.intro hz1 hz2)))
  clear hi hz0 hz1 hz2
  go_enter Try.func22, Try.ntmps22
  go_upto_region 1 with fail
  have bb := al1 W (.cells #[.int .i64 w, .int .i64 h, B, X, .slice AR nr cR, .slice AD nd cD] 29)
  obtain ⟨m0, -, -, -, m4, m5, mz, -⟩ := six (heap_alloc_new W (.cells #[.int .i64 w, .int .i64 h, B, X, .slice AR nr cR, .slice AD nd cD] 29))
  generalize W.alloc (.cells #[.int .i64 w, .int .i64 h, B, X, .slice AR nr cR, .slice AD nd cD] 29) = W1 at *
  have HB : Hid (Ext W W1) := Lib.hid bb
  have HM := Lib.hid (And.intro m0 (And.intro m4 m5))
  clear bb m0 m5
  go_wp2_with fail
  clear m4
  go_loopw [3, 12] (fun q i wr => ∃ (k : Nat), i = .int .i64 k ∧ k ≤ nr ∧ Hid (wr.ownsRow W1.heap.size 55 3 q k (acl a k) ∧ Ext W1 wr)) (fun _ i _ => nr - (intOf i).toNat)
  case atStart => exact ⟨0, rfl, Nat.zero_le _, Lib.hid ⟨World.ownsRow_nil _ _ _ _, Ext.refl _⟩⟩
  case round =>
    obtain ⟨k, rfl, hk, hin⟩ := hrel
    obtain ⟨Av, cv, rfl⟩ := shape_own hin.out.1
    by_cases hlt : k < nr
    · obtain ⟨b1, o1, rfl, -, e1⟩ := Vl.at HL.out.1 (HB.out.trans hin.out.2) hlt
      have m0 := keepAt hin.out.2 mz HM.out.1
      obtain ⟨p, hp⟩ : ∃ p, p = r k := ⟨_, rfl⟩
      rw [← hp] at e1
      go_upto_region 5 with fail
      have hZ0 : 0 < Z := HZ.out.2.2 (by omega)
      obtain ⟨q, hq⟩ : ∃ q, q = k / Z := ⟨_, rfl⟩
      obtain ⟨z, hz⟩ : ∃ z, z = k % Z := ⟨_, rfl⟩
      obtain ⟨P, hP⟩ : ∃ P, P = q * (Z + 1) := ⟨_, rfl⟩
      have hq30 : q ≤ 30 := by have := Nat.div_le_self k Z; omega
      have hz30 : z ≤ 30 := by have := Nat.mod_le k Z; omega
      have hP2 : P ≤ 180 := by rw [hP]; exact Nat.mul_le_mul hq30 (show Z + 1 ≤ 6 by omega)
      have hsub := HZ.out.1
      have hdq : ((k : Int)).tdiv Z = q := by rw [Int.tdiv_eq_ediv_of_nonneg (by omega), ← Int.natCast_ediv, hq]
      have hdq2 : ((k : Int)) / Z = q := by rw [← Int.natCast_ediv, hq]
      have hdm : ((k : Int)).tmod Z = z := by rw [Int.tmod_eq_emod_of_nonneg (by omega), ← Int.natCast_emod, hz]
      have hdm2 : ((k : Int)) % Z = z := by rw [← Int.natCast_emod, hz]
      have hmul : (q : Int) * w = P := by rw [HZ.out.2.1, hP, Int.natCast_mul, Int.natCast_add]; rfl
      have HP3 := Lib.hid (And.intro hp (And.intro hq (And.intro hz hP)))
      have m0d : wr.drew.cell? ⟨W.heap.size, 0, none⟩ = some (.int .i64 w) := m0
      clear hp hq hz hP m0 e1
      go_region
      try clear m0d
      have hown := World.ownsRow.ext hin.out.1 (Ext.alc (Ext.drw (Ext.refl wr)) (.cells #[.int .i64 ((P : Int) + z), .int .i64 ((P : Int) + z + 1), .int .i64 (r k)] 55))
      go_wp2_with (at_builtin; refine wpList_append_own _ rfl _ _ 43 rfl W1.heap.size 55 i0 (.agg #[.int .i64 0, .int .i64 0, .int .i64 0]) 3 24 Try.underlying43 HI.out.1 HI.out.2.1 HI.out.2.2.1 HI.out.2.2.2 rfl (by decide) _ k _ rfl hown ⟨wr.heap.size, 0, none⟩ 1 1 [.int .i64 ((P : Int) + z), .int .i64 ((P : Int) + z + 1), .int .i64 (r k)] rfl rfl ?c1 ?c2 ?c3 ?c4 ?c5 ?_)
      case c1 =>
        intro jj uu hj
        match jj, hj with
        | 0, hj => simp at hj; subst hj; simp [Addr.add]
        | 1, hj => simp at hj; subst hj; simp [Addr.add]
        | 2, hj => simp at hj; subst hj; simp [Addr.add]
        | jj + 3, hj => simp at hj
      case c2 => intro uu hu; simp at hu; rcases hu with rfl | rfl | rfl <;> rfl
      case c3 => unfold maxLen; omega
      case c4 => omega
      case c5 => have := hin.out.2.size; simp; omega
      intro v' w2 hown' hgrow _hnil
      clear _hnil
      have hex : Ext W1 w2 := ext_grow ((hin.out.2.drw).alc _) hgrow (fun b' hb' => (World.ownsRow.lt hown b' hb').1) (Nat.le_refl _)
      have HN := Lib.hid (And.intro hown' hex)
      clear hown' hex hgrow hown
      go_wp2
      go_roundw
      case rel =>
        refine ⟨k + 1, by go_num, by omega, Lib.hid ⟨?_, HN.out.2⟩⟩
        obtain ⟨y1, y2, y3⟩ := HAF.out k hlt
        have s1 : a.f k = (P : Int) + z := by rw [y1, HP3.out.2.2.2, HP3.out.2.1, HP3.out.2.2.1, Int.natCast_add]
        have s2 : a.t k = (P : Int) + z + 1 := by rw [y2, HP3.out.2.2.2, HP3.out.2.1, HP3.out.2.2.1, Int.natCast_add, Int.natCast_add]; rfl
        rw [acl_succ, s1, s2, y3]
        exact HN.out.1
      case measure => simp [intOf]; omega
    · obtain rfl : nr = k := by omega
      have hnl : ¬ (nr : Int) < nr := by omega
      obtain ⟨wo, rfl⟩ : ∃ w, w = wr := ⟨_, rfl⟩
      have m5 := keepAt hin.out.2 mz HM.out.2.2
      have HO := hin
      clear hin
      go_wp2_with fail
      clear m5
      go_loopw [3, 43] (fun q i wr => ∃ (k : Nat), i = .int .i64 k ∧ k ≤ nd ∧ Hid (wr.ownsRow W1.heap.size 55 3 q (nr + k) (acl a (nr + k)) ∧ Ext W1 wr)) (fun _ i _ => nd - (intOf i).toNat)
      case atStart => exact ⟨0, rfl, Nat.zero_le _, HO⟩
      case round =>
        obtain ⟨k, rfl, hk, hin⟩ := hrel
        obtain ⟨Aw, cw, rfl⟩ := shape_own hin.out.1
        by_cases hlt : k < nd
        · obtain ⟨b2, o2, rfl, -, e2⟩ := Vl.at HL.out.2 (HB.out.trans hin.out.2) hlt
          have m0 := keepAt hin.out.2 mz HM.out.1
          have hown := World.ownsRow.ext hin.out.1 (Ext.alc (Ext.refl wr) (.cells #[.int .i64 k, .int .i64 ((k : Int) + w), .int .i64 (d k)] 55))
          go_wp2_with (at_builtin; refine wpList_append_own _ rfl _ _ 43 rfl W1.heap.size 55 i0 (.agg #[.int .i64 0, .int .i64 0, .int .i64 0]) 3 24 Try.underlying43 HI.out.1 HI.out.2.1 HI.out.2.2.1 HI.out.2.2.2 rfl (by decide) _ (nr + k) _ rfl hown ⟨wr.heap.size, 0, none⟩ 1 1 [.int .i64 k, .int .i64 ((k : Int) + w), .int .i64 (d k)] rfl rfl ?c1 ?c2 ?c3 ?c4 ?c5 ?_)
          case c1 =>
            intro jj uu hj
            match jj, hj with
            | 0, hj => simp at hj; subst hj; simp [Addr.add]
            | 1, hj => simp at hj; subst hj; simp [Addr.add]
            | 2, hj => simp at hj; subst hj; simp [Addr.add]
            | jj + 3, hj => simp at hj
          case c2 => intro uu hu; simp at hu; rcases hu with rfl | rfl | rfl <;> rfl
          case c3 => unfold maxLen; omega
          case c4 => omega
          case c5 => have := hin.out.2.size; simp; omega
          intro v' w2 hown' hgrow _hnil
          clear _hnil
          have hex : Ext W1 w2 := ext_grow (hin.out.2.alc _) hgrow (fun b' hb' => (World.ownsRow.lt hown b' hb').1) (Nat.le_refl _)
          have HN := Lib.hid (And.intro hown' hex)
          clear hown' hex hgrow hown
          clear m0 e2
          go_wp2
          go_roundw
          case rel =>
            refine ⟨k + 1, by go_num, by omega, Lib.hid ⟨?_, HN.out.2⟩⟩
            obtain ⟨y1, y2, y3⟩ := HAG.out k
            rw [show nr + (k + 1) = nr + k + 1 by omega, acl_succ, y1, y2, y3]
            exact HN.out.1
          case measure => simp [intOf]; omega
        · obtain rfl : nd = k := by omega
          have hR : wr.ownsRow W.heap.size 55 3 (.slice Aw (nr + nd) cw) a.n (acl a a.n) := own_mono (by rw [HAN.out]; exact hin.out.1) HB.out.size
          have HR := Lib.hid hR
          clear hR
          go_wp2
          go_ret
          exact ⟨_, rfl, HR.out, HB.out.trans hin.out.2⟩
theorem pairs_any (c : Cl) (V : Value) (W : World) (hV : Kl W V c) (hc : vCl c = true) :
    Calls Try.prog 22 #[V] W fun e W' => ∃ U, e = .returned U ∧ Al W' U c.prs ∧ Ext W W' := by
  refine (pairs_own c V W hV hc).mono ?_
  rintro e w ⟨U, rfl, h, hx⟩
  exact ⟨U, rfl, Al.own h, hx⟩
end Go.Proofs.Ytilcbbdmenknfab
namespace Go.Proofs.Ytilcbbdmenknfab
open Go.RowKit

theorem prs_in {c : Cl} (hc : vCl c = true) {k : Nat} (hk : k < c.prs.n) : ∃ u v : Nat, c.prs.f k = (u : Int) ∧ c.prs.t k = (v : Int) ∧ u < c.nb ∧ v < c.nb ∧ 0 ≤ c.prs.c k ∧ c.prs.c k ≤ 1000 := by
  obtain ⟨⟨hw1, hw2⟩, ⟨hh1, hh2⟩, ⟨hnb, -⟩, -, ⟨hnr, hr⟩, ⟨hnd, hd⟩⟩ := vCl_ok hc
  obtain ⟨Z, hZ⟩ : ∃ Z : Nat, (c.w - 1).toNat = Z := ⟨_, rfl⟩
  obtain ⟨H, hH⟩ : ∃ H : Nat, c.h = (H : Int) + 1 := ⟨(c.h - 1).toNat, by omega⟩
  have hw : c.w = (Z : Int) + 1 := by omega
  have hw3 : c.w.toNat = Z + 1 := by omega
  have n1 : c.nb = (Z + 1) * (H + 1) := by rw [hw, hH] at hnb; exact_mod_cast hnb
  have n2 : c.nr = Z * (H + 1) := by
    have : c.w - 1 = (Z : Int) := by omega
    rw [this, hH] at hnr; exact_mod_cast hnr
  have n3 : c.nd = (Z + 1) * H := by
    have : c.h - 1 = (H : Int) := by omega
    rw [this, hw] at hnd; exact_mod_cast hnd
  have hk' : k < c.nr + c.nd := hk
  have n4 : (Z + 1) * (H + 1) = (Z + 1) * H + (Z + 1) := by rw [Nat.mul_add, Nat.mul_one]
  unfold Cl.prs
  dsimp only
  rw [hZ, hw3]
  by_cases h : k < c.nr
  · rw [if_pos h, if_pos h, if_pos h]
    have hZ0 : 0 < Z := by
      rcases Nat.eq_zero_or_pos Z with e | e
      · rw [n2, e] at h; simp at h
      · exact e
    have q1 : k / Z < H + 1 := by rw [Nat.div_lt_iff_lt_mul hZ0, Nat.mul_comm, ← n2]; exact h
    have q2 : k % Z < Z := Nat.mod_lt _ hZ0
    have q3 : k / Z * (Z + 1) ≤ H * (Z + 1) := Nat.mul_le_mul_right _ (by omega)
    have q4 : H * (Z + 1) = (Z + 1) * H := Nat.mul_comm _ _
    exact ⟨_, _, rfl, rfl, by omega, by omega, (hr k h).1, (hr k h).2⟩
  · rw [if_neg h, if_neg h, if_neg h]
    exact ⟨_, _, rfl, rfl, by omega, by omega, (hd _ (by omega)).1, (hd _ (by omega)).2⟩

/-- what cell k costs -/
def Cl.dt (c : Cl) (r : Int) (l : Nat → Bool) (k : Nat) : Int := if l k = true then c.x k + r else c.b k
/-- what pair k costs -/
def Cl.pt (c : Cl) (l : Nat → Bool) (k : Nat) : Int := if l (c.prs.f k).toNat = l (c.prs.t k).toNat then 0 else c.prs.c k
/-- the energy -/
def Cl.en (c : Cl) (r : Int) (l : Nat → Bool) : Int := sm c.nb (c.dt r l) + sm c.prs.n (c.pt l)

theorem sm_abs {n : Nat} {f : Nat → Int} (h : ∀ i, i < n → -11000 ≤ f i ∧ f i ≤ 11000) : -(11000 * (n : Int)) ≤ sm n f ∧ sm n f ≤ 11000 * (n : Int) := by
  induction n with
  | zero => simp [sm]
  | succ n ih =>
    have h1 := ih (fun i hi => h i (by omega))
    have h2 := h n (by omega)
    show -(11000 * ((n + 1 : Nat) : Int)) ≤ sm n f + f n ∧ sm n f + f n ≤ 11000 * ((n + 1 : Nat) : Int)
    omega
theorem en_sub {c : Cl} (hc : vCl c = true) (r : Int) (s t : Nat → Bool) : c.en r (fun k => s k && t k) + c.en r (fun k => s k || t k) ≤ c.en r s + c.en r t := by
  have h1 : sm c.nb (c.dt r fun k => s k && t k) + sm c.nb (c.dt r fun k => s k || t k) = sm c.nb (c.dt r s) + sm c.nb (c.dt r t) := by
    rw [← sm_add, ← sm_add]
    refine sm_congr fun k hk => ?_
    unfold Cl.dt
    dsimp only
    have tt : ∀ a b : Bool, (if (a && b) = true then c.x k + r else c.b k) + (if (a || b) = true then c.x k + r else c.b k) = (if a = true then c.x k + r else c.b k) + (if b = true then c.x k + r else c.b k) := by
      intro a b
      cases a <;> cases b <;> simp <;> omega
    exact tt _ _
  have h2 : sm c.prs.n (c.pt fun k => s k && t k) + sm c.prs.n (c.pt fun k => s k || t k) ≤ sm c.prs.n (c.pt s) + sm c.prs.n (c.pt t) := by
    rw [← sm_add, ← sm_add]
    refine sm_le fun k hk => ?_
    obtain ⟨u, v, -, -, -, -, h0, -⟩ := prs_in hc hk
    unfold Cl.pt
    dsimp only
    have tt : ∀ a b e g : Bool, (if (a && e) = (b && g) then 0 else c.prs.c k) + (if (a || e) = (b || g) then 0 else c.prs.c k) ≤ (if a = b then 0 else c.prs.c k) + (if e = g then 0 else c.prs.c k) := by
      intro a b e g
      cases a <;> cases b <;> cases e <;> cases g <;> simp <;> omega
    exact tt _ _ _ _
  unfold Cl.en
  omega
theorem en_congr {c : Cl} (hc : vCl c = true) (r : Int) {s t : Nat → Bool} (h : ∀ k, k < c.nb → s k = t k) : c.en r s = c.en r t := by
  unfold Cl.en
  congr 1
  · exact sm_congr fun k hk => by unfold Cl.dt; rw [h k hk]
  · refine sm_congr fun k hk => ?_
    obtain ⟨u, v, h1, h2, h3, h4, -⟩ := prs_in hc hk
    unfold Cl.pt
    rw [h1, h2, Int.toNat_natCast, Int.toNat_natCast, h u h3, h v h4]
end Go.Proofs.Ytilcbbdmenknfab
namespace Go.Proofs.Ytilcbbdmenknfab
open Go.RowKit

end Go.Proofs.Ytilcbbdmenknfab
namespace Go.Proofs.Ytilcbbdmenknfab

/-- every arc, and behind it the same one back -/
def dbl (a : Ar) : Ar := ⟨2 * a.n, fun k => if k % 2 = 0 then a.f (k / 2) else a.t (k / 2), fun k => if k % 2 = 0 then a.t (k / 2) else a.f (k / 2), fun k => a.c (k / 2)⟩
theorem dbl_ok {a : Ar} {N : Nat} {M : Int} (h : a.Ok N M) : (dbl a).Ok N M := by
  have hk : ∀ k, k < (dbl a).n → k / 2 < a.n := fun k hk => by have : k < 2 * a.n := hk; omega
  refine ⟨fun k h1 => ?_, fun k h1 => ?_, fun k h1 => ?_, fun k h1 => ?_, fun k h1 => ?_, fun k h1 => h.c0 _ (hk k h1), fun k h1 => h.cM _ (hk k h1)⟩
  · show 0 ≤ if k % 2 = 0 then a.f (k / 2) else a.t (k / 2); split; exact h.f0 _ (hk k h1); exact h.t0 _ (hk k h1)
  · show (if k % 2 = 0 then a.f (k / 2) else a.t (k / 2)) < (N : Int); split; exact h.fN _ (hk k h1); exact h.tN _ (hk k h1)
  · show 0 ≤ if k % 2 = 0 then a.t (k / 2) else a.f (k / 2); split; exact h.t0 _ (hk k h1); exact h.f0 _ (hk k h1)
  · show (if k % 2 = 0 then a.t (k / 2) else a.f (k / 2)) < (N : Int); split; exact h.tN _ (hk k h1); exact h.fN _ (hk k h1)
  · show (if k % 2 = 0 then a.f (k / 2) else a.t (k / 2)) ≠ if k % 2 = 0 then a.t (k / 2) else a.f (k / 2); split; exact h.ne _ (hk k h1); exact fun e => h.ne _ (hk k h1) e.symm
theorem acl_dbl (a : Ar) (k : Nat) : acl (dbl a) (2 * (k + 1)) = acl (dbl a) (2 * k) ++ [.int .i64 (a.f k), .int .i64 (a.t k), .int .i64 (a.c k), .int .i64 (a.t k), .int .i64 (a.f k), .int .i64 (a.c k)] := by
  have e0 : (2 * k) % 2 = 0 := by omega
  have e1 : ¬ (2 * k + 1) % 2 = 0 := by omega
  have e2 : 2 * k / 2 = k := by omega
  have e3 : (2 * k + 1) / 2 = k := by omega
  rw [show 2 * (k + 1) = 2 * k + 1 + 1 by omega, acl_succ, acl_succ]
  simp only [dbl, e0, e1, e2, e3, if_true, if_false, List.append_assoc]
  rfl
theorem sm_pair (n : Nat) (g : Nat → Int) : sm (2 * n) g = sm n fun k => g (2 * k) + g (2 * k + 1) := by
  induction n with
  | zero => rfl
  | succ n ih => rw [show 2 * (n + 1) = 2 * n + 1 + 1 by omega]; simp only [sm]; rw [ih]; omega
/-- what lies across S -/
def across (a : Ar) (S : Nat → Bool) : Int := sm a.n fun k => if S (a.f k).toNat = S (a.t k).toNat then 0 else a.c k
theorem ct_dbl (a : Ar) (S : Nat → Bool) : (dbl a).nw.ct S = across a S := by
  have e0 : ∀ k, (2 * k) % 2 = 0 := by omega
  have e1 : ∀ k, ¬ (2 * k + 1) % 2 = 0 := by omega
  have e2 : ∀ k, 2 * k / 2 = k := by omega
  have e3 : ∀ k, (2 * k + 1) / 2 = k := by omega
  have h : (dbl a).nw.ct S = sm (2 * a.n) fun k => if S ((dbl a).f k).toNat = true ∧ S ((dbl a).t k).toNat = false then (dbl a).c k else 0 := rfl
  rw [h, sm_pair]
  refine sm_congr fun k _ => ?_
  simp only [dbl, e0, e1, e2, e3, if_true, if_false]
  cases S (a.f k).toNat <;> cases S (a.t k).toNat <;> simp
theorem across_not (a : Ar) (S : Nat → Bool) : across a (fun i => !S i) = across a S := by
  refine sm_congr fun k _ => ?_
  show (if (!S (a.f k).toNat) = (!S (a.t k).toNat) then 0 else a.c k) = if S (a.f k).toNat = S (a.t k).toNat then 0 else a.c k
  generalize S (a.f k).toNat = p
  generalize S (a.t k).toNat = q
  cases p <;> cases q <;> rfl
theorem Mc.flip {a : Ar} {u v : Nat} {c : Int} (h : Mc (dbl a).nw u v c) : Mc (dbl a).nw v u c := by
  refine ⟨?_, fun S hS => ?_⟩
  · obtain ⟨S, h1, h2⟩ := h.is
    refine ⟨fun i => !S i, ⟨by simp [h1.2], by simp [h1.1]⟩, ?_⟩
    rw [ct_dbl] at h2 ⊢
    rw [across_not, h2]
  · have := h.le (fun i => !S i) ⟨by simp [hS.2], by simp [hS.1]⟩
    rw [ct_dbl] at this ⊢
    rwa [across_not] at this
theorem Mc.three {G : Nw} {u v w : Nat} {x y z : Int} (h1 : Mc G u v x) (h2 : Mc G v w y) (h3 : Mc G u w z) : x ≤ z ∨ y ≤ z := by
  obtain ⟨S, hS, rfl⟩ := h3.is
  cases hv : S v
  · exact .inl (h1.le S ⟨hS.1, hv⟩)
  · exact .inr (h2.le S ⟨hv, hS.2⟩)

/-- do the arguments of Cut fit? -/
def cutOk (N : Int) (a : Ar) (u v : Int) : Bool := (vNet N a && decide (N ≤ 12)) && bw u 0 (N - 1) && bw v 0 (N - 1) && !decide (u = v)
end Go.Proofs.Ytilcbbdmenknfab
namespace Go.Proofs.Ytilcbbdmenknfab
open Go.RowKit
theorem sm_split (n m : Nat) (g : Nat → Int) : sm (n + m) g = sm n g + sm m fun k => g (n + k) := by
  induction m with
  | zero => simp [sm]
  | succ m ih => rw [show n + (m + 1) = n + m + 1 by omega]; simp only [sm]; rw [ih]; omega

/-- one list of arcs behind another -/
def join (a b : Ar) : Ar := ⟨a.n + b.n, fun k => if k < a.n then a.f k else b.f (k - a.n), fun k => if k < a.n then a.t k else b.t (k - a.n), fun k => if k < a.n then a.c k else b.c (k - a.n)⟩
theorem acl_join1 (a b : Ar) : ∀ k, k ≤ a.n → acl (join a b) k = acl a k := by
  intro k
  induction k with
  | zero => intro _; rfl
  | succ k ih =>
    intro hk
    rw [acl_succ, acl_succ, ih (by omega)]
    simp only [join, if_pos (show k < a.n by omega)]
theorem acl_join2 (a b : Ar) : ∀ k, acl (join a b) (a.n + k) = acl a a.n ++ acl b k := by
  intro k
  induction k with
  | zero => rw [Nat.add_zero, acl_join1 a b _ (Nat.le_refl _)]; simp [acl]
  | succ k ih =>
    rw [← Nat.add_assoc, acl_succ, acl_succ, ih, List.append_assoc]
    simp only [join, if_neg (show ¬ a.n + k < a.n by omega), Nat.add_sub_cancel_left]
/-- what wax costs more than none at cell k -/
def Cl.more (c : Cl) (r : Int) (k : Nat) : Int := c.x k + r - c.b k
/-- the arcs of the cells -/
def Cl.cel (c : Cl) (r : Int) : Ar := ⟨c.nb, fun k => if 0 < c.more r k then (k : Int) else (c.nb : Int), fun k => if 0 < c.more r k then (c.nb : Int) + 1 else (k : Int), fun k => if 0 < c.more r k then c.more r k else -c.more r k⟩
/-- the network's arcs -/
def Cl.nwa (c : Cl) (r : Int) : Ar := join (c.cel r) (dbl c.prs)
theorem prs_ne {c : Cl} (hc : vCl c = true) {k : Nat} (hk : k < c.prs.n) : c.prs.f k ≠ c.prs.t k := by
  obtain ⟨⟨hw1, hw2⟩, -⟩ := vCl_ok hc
  unfold Cl.prs
  dsimp only
  split <;> omega
theorem prs_ok {c : Cl} (hc : vCl c = true) : c.prs.Ok (c.nb + 2) 2000000 := by
  refine ⟨fun k hk => ?_, fun k hk => ?_, fun k hk => ?_, fun k hk => ?_, fun k hk => prs_ne hc hk, fun k hk => ?_, fun k hk => ?_⟩ <;>
  · obtain ⟨u, v, h1, h2, h3, h4, h5, h6⟩ := prs_in hc hk
    omega
theorem nwa_ok {c : Cl} (hc : vCl c = true) {r : Int} (h1 : -100000 ≤ r) (h2 : r ≤ 100000) : (c.nwa r).Ok (c.nb + 2) 2000000 := by
  have hd := dbl_ok (prs_ok hc)
  obtain ⟨-, -, ⟨v5, v6⟩, ⟨v7, v8⟩, -, -⟩ := vCl_ok hc
  have hcel : ∀ k, k < c.nb → -200000 ≤ c.more r k ∧ c.more r k ≤ 200000 := fun k hk => by
    have h5 := v6 k hk; have h6 := v8 k (by omega)
    unfold Cl.more; omega
  have key : ∀ k, k < (c.nwa r).n → ¬ k < c.nb → k - c.nb < (dbl c.prs).n := fun k hk hn => by
    have : k < c.nb + (dbl c.prs).n := hk
    omega
  have hn : (c.cel r).n = c.nb := rfl
  refine ⟨fun k hk => ?_, fun k hk => ?_, fun k hk => ?_, fun k hk => ?_, fun k hk => ?_, fun k hk => ?_, fun k hk => ?_⟩ <;>
  · unfold Cl.nwa join
    dsimp only
    rw [hn]
    by_cases h : k < c.nb
    · have := hcel k h
      simp only [if_pos h]
      unfold Cl.cel
      dsimp only
      split <;> omega
    · simp only [if_neg h]
      have e := key k hk h
      first | exact hd.f0 _ e | exact hd.fN _ e | exact hd.t0 _ e | exact hd.tN _ e | exact hd.ne _ e | exact hd.c0 _ e | exact hd.cM _ e
/-- what is paid anyway -/
def Cl.any (c : Cl) (r : Int) : Int := sm c.nb fun k => if 0 < c.more r k then c.b k else c.x k + r
/-- the cost of a side is the energy, less what is paid anyway -/
theorem ct_en {c : Cl} (hc : vCl c = true) (r : Int) {S : Nat → Bool} (hS : Nw.Sd c.nb (c.nb + 1) S) : (c.nwa r).nw.ct S + c.any r = c.en r S := by
  have h1 : (c.nwa r).nw.ct S = sm (c.cel r).n (fun k => if S ((c.cel r).f k).toNat = true ∧ S ((c.cel r).t k).toNat = false then (c.cel r).c k else 0) + (dbl c.prs).nw.ct S := by
    show sm ((c.cel r).n + (dbl c.prs).n) _ = _
    rw [sm_split]
    congr 1
    · refine sm_congr fun k hk => ?_
      show (if S (if k < (c.cel r).n then (c.cel r).f k else _).toNat = true ∧ S (if k < (c.cel r).n then (c.cel r).t k else _).toNat = false then (if k < (c.cel r).n then (c.cel r).c k else _) else 0) = _
      simp only [if_pos hk]
    · refine sm_congr fun k hk => ?_
      have e : ¬ (c.cel r).n + k < (c.cel r).n := by omega
      show (if S (if (c.cel r).n + k < (c.cel r).n then _ else (dbl c.prs).f ((c.cel r).n + k - (c.cel r).n)).toNat = true ∧ S (if (c.cel r).n + k < (c.cel r).n then _ else (dbl c.prs).t ((c.cel r).n + k - (c.cel r).n)).toNat = false then (if (c.cel r).n + k < (c.cel r).n then _ else (dbl c.prs).c ((c.cel r).n + k - (c.cel r).n)) else 0) = _
      simp only [if_neg e, Nat.add_sub_cancel_left]
      rfl
  rw [h1, ct_dbl]
  have h2 : across c.prs S = sm c.prs.n (c.pt S) := rfl
  have h3 : sm (c.cel r).n (fun k => if S ((c.cel r).f k).toNat = true ∧ S ((c.cel r).t k).toNat = false then (c.cel r).c k else 0) + c.any r = sm c.nb (c.dt r S) := by
    unfold Cl.any
    show sm c.nb _ + _ = _
    rw [← sm_add]
    refine sm_congr fun k hk => ?_
    unfold Cl.cel Cl.dt Cl.more
    dsimp only
    have e1 : ((c.nb : Int) + 1).toNat = c.nb + 1 := by omega
    by_cases hm : 0 < c.x k + r - c.b k
    · simp only [if_pos hm, Int.toNat_natCast, e1, hS.2, and_true]
      split <;> omega
    · simp only [if_neg hm, Int.toNat_natCast, hS.1, true_and]
      cases S k <;> simp <;> omega
  unfold Cl.en
  rw [h2]
  omega
end Go.Proofs.Ytilcbbdmenknfab
namespace Go.Proofs.Ytilcbbdmenknfab
open Go.RowKit

set_option maxHeartbeats 4000000 in
set_option maxRecDepth 100000 in
theorem valueS_any (N : Int) (a : Ar) (AV : Value) (W : World) (hA : Al W AV a) :
    Calls Try.prog 17 #[.agg #[.int .i64 N, AV]] W fun e W' => ∃ v er : Int, e = .returned (.tuple #[.int .i64 v, .int .i64 er]) ∧ Ext W W' ∧
      ((vNet N a = false ∧ v = 0 ∧ er = 2) ∨ (vNet N a = true ∧ er = 0 ∧ Mc a.nw 0 (N.toNat - 1) v)) := by
  have HA := Lib.hid hA
  obtain ⟨A, c, rfl, hac, hcm, -⟩ := hA
  go_enter Try.func17, Try.ntmps17
  go_upto_region 1 with fail
  have bb := al1 W (.cells #[.int .i64 N, .slice A a.n c] 57)
  have m0 : (W.alloc (.cells #[.int .i64 N, .slice A a.n c] 57)).cell? ⟨W.heap.size, 0, none⟩ = some (.int .i64 N) := by rw [World.cell?_alloc_new]; rfl
  have m1 : (W.alloc (.cells #[.int .i64 N, .slice A a.n c] 57)).cell? ⟨W.heap.size, 1, none⟩ = some (.slice A a.n c) := by rw [World.cell?_alloc_new]; rfl
  have zz : W.heap.size < (W.alloc (.cells #[.int .i64 N, .slice A a.n c] 57)).heap.size := by simp
  generalize W.alloc (.cells #[.int .i64 N, .slice A a.n c] 57) = W1 at *
  have HB : Hid (Ext W W1) := Lib.hid bb
  clear bb
  go_wp2_with fail
  refine (isNet_any N a _ _ (HA.out.ext HB.out)).mono ?_
  rintro e w1 ⟨rfl, hx⟩
  replace m0 := keepAt hx zz m0
  replace m1 := keepAt hx zz m1
  have HX : Hid (Ext W w1) := Lib.hid (HB.out.trans hx)
  clear hx
  cases hv : vNet N a
  · have HV := Lib.hid hv; clear hv
    go_wp2
    refine bodyPost_ret (v := .tuple #[.int .i64 0, .int .i64 2]) (by simp [results, Try.results17, go_sem]) rfl ⟨0, 2, rfl, HX.out, .inl ⟨HV.out, rfl, rfl⟩⟩
  · obtain ⟨m, rfl, hm2, hm40, hn, hok⟩ := vNet_ok hv
    have HOK := Lib.hid hok; have HV := Lib.hid hv
    clear hv hok
    go_wp2_with fail
    refine (filled_any m a _ _ (HA.out.ext HX.out) HOK.out (by omega) hm2 (by omega)).mono ?_
    rintro e w2 ⟨x, gl, SV, rfl, -, hbi, hfull, -, hx⟩
    have HX2 := Lib.hid (HX.out.trans hx)
    have HFULL := Lib.hid hfull; have HBI := Lib.hid hbi
    clear hx m0 m1 hbi hfull
    go_wp2_with fail
    refine (value_any a m 0 ((m - 1 : Nat) : Int) (2 * a.n) 1000000 _ SV gl x _ (HA.out.ext HX2.out) HOK.out (by omega) (by omega) rfl HBI.out HFULL.out.fp.rs).mono ?_
    rintro e w3 ⟨rfl, hx⟩
    have HX3 := Lib.hid (HX2.out.trans hx)
    clear hx
    go_wp2
    refine bodyPost_ret (v := .tuple #[.int .i64 (a.nw.sp (Nw.fw x) 0), .int .i64 0]) (by simp [results, Try.results17, go_sem]) rfl ⟨_, 0, rfl, HX3.out, .inr ⟨HV.out, rfl, ?_⟩⟩
    have := HFULL.out.mc HOK.out.in_ (by omega) (by omega)
    rw [Int.toNat_natCast]
    exact this

set_option maxHeartbeats 4000000 in
set_option maxRecDepth 100000 in
theorem awake_any (W : World) : Calls Try.prog 7 #[] W fun e W' => e = .returned (.bool true) ∧ Ext W W' := by
  go_enter Try.func7, Try.ntmps7
  go_wp2_with fail
  refine (valueS_any 3 aw _ _ ⟨some ⟨W.heap.size, 0, none⟩, 2, rfl, Nat.le_refl _, by omega, fun _ => ⟨W.heap.size, 0, rfl, by simp, fun j hj => ?_⟩⟩).mono ?_
  · have hj' : j < 2 := hj
    rcases (by omega : j = 0 ∨ j = 1) with rfl | rfl
    · refine ⟨?_, ?_, ?_⟩ <;> (rw [World.cell?_alloc_new]; rfl)
    · refine ⟨?_, ?_, ?_⟩ <;> (rw [World.cell?_alloc_new]; rfl)
  · rintro e w1 ⟨v, er, rfl, hx, ⟨hv, -⟩ | ⟨-, rfl, hm⟩⟩
    · rw [aw_v] at hv; cases hv
    · have h2 := aw_two hm
      subst h2
      have HX : Hid (Ext W w1) := Lib.hid ((Ext.alc (Ext.refl W) _).trans hx)
      clear hx hm
      go_wp2
      go_ret
      exact ⟨rfl, HX.out⟩
end Go.Proofs.Ytilcbbdmenknfab
namespace Go.Proofs.Ytilcbbdmenknfab
open Go.RowKit

end Go.Proofs.Ytilcbbdmenknfab
namespace Go.Proofs.Ytilcbbdmenknfab

/-- S is a minimum side -/
structure Ms (G : Nw) (s t : Nat) (S : Nat → Bool) : Prop where
  sd : Nw.Sd s t S
  le : ∀ T, Nw.Sd s t T → G.ct S ≤ G.ct T
/-- .. the least one, on the nodes below N -/
def Lst (G : Nw) (N s t : Nat) (L : Nat → Bool) : Prop := Ms G s t L ∧ ∀ S, Ms G s t S → ∀ v, v < N → L v = true → S v = true
/-- .. the greatest one -/
def Gst (G : Nw) (N s t : Nat) (L : Nat → Bool) : Prop := Ms G s t L ∧ ∀ S, Ms G s t S → ∀ v, v < N → S v = true → L v = true

theorem Ms.mc {G : Nw} {s t : Nat} {S : Nat → Bool} (h : Ms G s t S) : Mc G s t (G.ct S) := ⟨⟨S, h.sd, rfl⟩, h.le⟩
theorem Mc.ms {G : Nw} {s t : Nat} {v : Int} (h : Mc G s t v) {S : Nat → Bool} (hS : Nw.Sd s t S) (hv : G.ct S = v) : Ms G s t S := ⟨hS, fun T hT => by rw [hv]; exact h.le T hT⟩
theorem Full.ms {G : Nw} {N s t : Nat} {x : Nat → Int} (hN : G.In N) (hs : s < N) (ht : t < N) (h : Full G N s t x) {S : Nat → Bool} : Ms G s t S ↔ Nw.Sd s t S ∧ G.Clo x S := by
  have hm := h.mc hN hs ht
  constructor
  · intro k
    exact ⟨k.sd, (G.tight hN hs h.fp.rs h.fp.cons k.sd).1 (k.mc.one hm)⟩
  · rintro ⟨k1, k2⟩
    exact hm.ms k1 ((G.tight hN hs h.fp.rs h.fp.cons k1).2 k2)
theorem Full.lst {G : Nw} {N s t : Nat} {x : Nat → Int} (hN : G.In N) (hs : s < N) (ht : t < N) (h : Full G N s t x) {R : Nat → Bool} {la rk : Nat → Nat} (hw : G.Wk N s (fun j => decide (0 < x j)) R la rk) : Lst G N s t R := by
  have hcl : G.Clo x R := fun j hj hx hS => hw.closed j hj (by simpa using hx) hS
  obtain ⟨R', la', rk', hw', hR'⟩ := h.no
  have hRt : R t = false := by
    cases e : R t
    · rfl
    · have := hw.least G (S := R') hw'.root (fun j hj ho hS => hw'.closed j hj ho hS) t ht e
      rw [hR'] at this; cases this
  refine ⟨(h.ms hN hs ht).2 ⟨⟨hw.root, hRt⟩, hcl⟩, fun S hS v hv hR => ?_⟩
  obtain ⟨k1, k2⟩ := (h.ms hN hs ht).1 hS
  exact hw.least G (S := S) k1.1 (fun j hj ho hS => k2 j hj (by simpa using ho) hS) v hv hR
theorem Full.gst {G : Nw} {N s t : Nat} {x : Nat → Int} (hN : G.In N) (hs : s < N) (ht : t < N) (h : Full G N s t x) {Q : Nat → Bool} {la rk : Nat → Nat} (hw : G.Wk N t (fun j => decide (0 < x (rev j))) Q la rk) : Gst G N s t (fun v => !Q v) := by
  have key : ∀ S, Nw.Sd s t S → G.Clo x S → ∀ v, v < N → Q v = true → S v = false := by
    intro S hS hC v hv hQ
    have := hw.least G (S := fun v => !S v) (by simp [hS.2]) (fun j hj ho hj2 => by
      simp at hj2 ⊢
      cases e : S (G.hd j)
      · rfl
      · have h1 := hC (rev j) (rev_lt hj) (by simpa using ho) (by rw [G.tl_rev]; exact e)
        rw [G.hd_rev, hj2] at h1; cases h1) v hv hQ
    simpa using this
  obtain ⟨R, la', rk', hw', hR⟩ := h.no
  have hRc : G.Clo x R := fun j hj hx hS => hw'.closed j hj (by simpa using hx) hS
  have hQs : Q s = false := by
    cases e : Q s
    · rfl
    · have := key R ⟨hw'.root, hR⟩ hRc s hs e
      rw [hw'.root] at this; cases this
  have hcl : G.Clo x (fun v => !Q v) := fun j hj hx hS => by
    simp at hS ⊢
    cases e : Q (G.hd j)
    · rfl
    · have h1 := hw.closed (rev j) (rev_lt hj) (by rw [rev_rev]; simpa using hx) (by rw [G.tl_rev]; exact e)
      rw [G.hd_rev, hS] at h1; cases h1
  refine ⟨(h.ms hN hs ht).2 ⟨⟨by simp [hQs], by simp [hw.root]⟩, hcl⟩, fun S hS v hv hSv => ?_⟩
  obtain ⟨k1, k2⟩ := (h.ms hN hs ht).1 hS
  cases e : Q v
  · simp [e]
  · have := key S k1 k2 v hv e
    rw [hSv] at this; cases this
end Go.Proofs.Ytilcbbdmenknfab
namespace Go.Proofs.Ytilcbbdmenknfab

/-- side number k of N nodes -/
def numb (N k : Nat) : Nat → Bool := fun v => decide (v = 0) || (decide (1 ≤ v) && decide (v < N - 1) && decide (k / 2 ^ (N - 2 - v) % 2 = 1))
theorem numb_zero (N k : Nat) : numb N k 0 = true := by unfold numb; simp
theorem numb_last {N : Nat} (k : Nat) (hN : 2 ≤ N) : numb N k (N - 1) = false := by
  have h1 : ¬ N - 1 = 0 := by omega
  have h2 : ¬ N - 1 < N - 1 := by omega
  unfold numb; simp [h1, h2]
theorem numb_mid {N v : Nat} (k : Nat) (h1 : 1 ≤ v) (h2 : v < N - 1) : numb N k v = decide (k / 2 ^ (N - 2 - v) % 2 = 1) := by
  have h3 : ¬ v = 0 := by omega
  unfold numb; simp [h3, h1, h2]
theorem numb_sd {N : Nat} (k : Nat) (hN : 2 ≤ N) : Nw.Sd 0 (N - 1) (numb N k) := ⟨numb_zero N k, numb_last k hN⟩
theorem bits_ex : ∀ (n : Nat) (f : Nat → Bool), ∃ k, k < 2 ^ n ∧ ∀ i, i < n → decide (k / 2 ^ i % 2 = 1) = f i := by
  intro n
  induction n with
  | zero => intro f; exact ⟨0, by omega, fun i hi => by omega⟩
  | succ n ih =>
    intro f
    obtain ⟨k, hk, h⟩ := ih (fun i => f (i + 1))
    have hp : 2 ^ (n + 1) = 2 * 2 ^ n := by rw [Nat.pow_succ]; omega
    refine ⟨2 * k + (if f 0 = true then 1 else 0), by split <;> omega, fun i hi => ?_⟩
    cases i with
    | zero =>
      rw [Nat.pow_zero, Nat.div_one]
      cases hf : f 0
      · rw [if_neg (by simp)]; simp
      · rw [if_pos rfl]; simp
    | succ i =>
      have e1 : (2 * k + if f 0 = true then 1 else 0) / 2 = k := by split <;> omega
      have e2 : (2 * k + if f 0 = true then 1 else 0) / 2 ^ (i + 1) = k / 2 ^ i := by
        rw [show 2 ^ (i + 1) = 2 * 2 ^ i by rw [Nat.pow_succ]; omega, ← Nat.div_div_eq_div_mul, e1]
      rw [e2]
      exact h i (by omega)
/-- every side has a number -/
theorem numb_ex {N : Nat} (hN : 2 ≤ N) {S : Nat → Bool} (h : Nw.Sd 0 (N - 1) S) : ∃ k, k < 2 ^ (N - 2) ∧ ∀ v, v < N → numb N k v = S v := by
  obtain ⟨k, hk, hb⟩ := bits_ex (N - 2) (fun i => S (N - 2 - i))
  refine ⟨k, hk, fun v hv => ?_⟩
  by_cases h0 : v = 0
  · subst h0; rw [numb_zero, h.1]
  · by_cases h1 : v = N - 1
    · subst h1; rw [numb_last k hN, h.2]
    · rw [numb_mid k (by omega) (by omega), hb _ (by omega)]
      congr 1; omega
theorem Nw.ct_congr (G : Nw) {N : Nat} (hN : G.In N) {S T : Nat → Bool} (h : ∀ v, v < N → S v = T v) : G.ct S = G.ct T := by
  refine sm_congr fun k hk => ?_
  rw [h _ (hN k hk).1, h _ (hN k hk).2]
/-- the intersection and the union of two minimum sides are minimum sides -/
theorem Ms.both {G : Nw} {N s t : Nat} {x : Nat → Int} (hN : G.In N) (hs : s < N) (ht : t < N) (h : Full G N s t x) {S T : Nat → Bool} (hS : Ms G s t S) (hT : Ms G s t T) :
    Ms G s t (fun v => S v && T v) ∧ Ms G s t (fun v => S v || T v) := by
  obtain ⟨a1, a2⟩ := (h.ms hN hs ht).1 hS
  obtain ⟨b1, b2⟩ := (h.ms hN hs ht).1 hT
  refine ⟨(h.ms hN hs ht).2 ⟨⟨by simp [a1.1, b1.1], by simp [a1.2]⟩, fun j hj hx hq => ?_⟩, (h.ms hN hs ht).2 ⟨⟨by simp [a1.1], by simp [a1.2, b1.2]⟩, fun j hj hx hq => ?_⟩⟩
  · simp only [Bool.and_eq_true] at hq ⊢
    exact ⟨a2 j hj hx hq.1, b2 j hj hx hq.2⟩
  · simp only [Bool.or_eq_true] at hq ⊢
    rcases hq with q | q
    · exact .inl (a2 j hj hx q)
    · exact .inr (b2 j hj hx q)
end Go.Proofs.Ytilcbbdmenknfab
