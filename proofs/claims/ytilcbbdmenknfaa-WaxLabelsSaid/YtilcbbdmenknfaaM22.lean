/- Walks: the reference's labels. · Walks: the reference's Energy. -/
import Derived.Test.YtilcbbdmenknfaaM15
import Derived.Test.YtilcbbdmenknfaaM18
import Derived.Test.YtilcbbdmenknfaaM19
import Derived.Test.YtilcbbdmenknfaaM21
import Derived.Test.YtilcbbdmenknfaaM14
namespace Go.Proofs.Ytilcbbdmenknfaa
open Go.RowKit

theorem bl_less {w : World} {A : Option Addr} {n N c : Nat} {s : Nat → Bool} (h : Bl w (.slice A N c) N s) (hn : n ≤ N) : Bl w (.slice A n c) n s := by
  obtain ⟨A', c', e, h1, h2, h3⟩ := h
  injection e with e1 _ e3
  subst e1 e3
  refine ⟨A, c, rfl, by omega, h2, fun hp => ?_⟩
  obtain ⟨b, off, rfl, hb, hc⟩ := h3 (by omega)
  exact ⟨b, off, rfl, hb, fun j hj => hc j (by omega)⟩
theorem gr_zero (c : Cl) (r : Int) (i j : Nat) : c.gc r c.nb i j = c.gr r 0 i j := by unfold Cl.gr; show _ = _ + 0; omega
theorem gr_bd {c : Cl} (hc : vCl c = true) {r : Int} (h1 : -100000 ≤ r) (h2 : r ≤ 100000) {q : Nat} (hq : q ≤ c.prs.n) (hp : c.prs.n ≤ 60) (i j : Nat) : 0 ≤ c.gr r q i j ∧ c.gr r q i j ≤ 1000000 := by
  have a1 := gc_bd hc h1 h2 (Nat.le_refl c.nb) i j
  have a2 := gp_bd hc hq i j
  unfold Cl.gr
  omega

set_option maxHeartbeats 4000000 in
set_option maxRecDepth 100000 in
theorem labelsR_any (c : Cl) (ri : Int) (V : Value) (W : World) (hV : Kl W V c) (hvc : vCl c = true) (hr1 : -100000 ≤ ri) (hr2 : ri ≤ 100000) :
    Calls Try.prog 73 #[V, .int .i64 ri] W fun e W' => ∃ (F G : Value) (L M : Nat → Bool), e = .returned (.tuple #[F, G]) ∧ Bl W' F c.nb L ∧ Bl W' G c.nb M ∧
      Lst (c.nwa ri).nw (c.nb + 2) c.nb (c.nb + 1) L ∧ Gst (c.nwa ri).nw (c.nb + 2) c.nb (c.nb + 1) M ∧ Ext W W' := by
  have HVC := Lib.hid hvc
  obtain ⟨⟨v1, v2⟩, ⟨v3, v4⟩, ⟨v5, v6⟩, ⟨v7, v8⟩, ⟨v9, -⟩, ⟨v11, -⟩⟩ := vCl_ok hvc
  have hnb36 : c.nb ≤ 36 := by have h1 := (side_prod (show 0 ≤ c.w by omega) v2 (show 0 ≤ c.h by omega) v4).2; omega
  have hnr30 : c.nr ≤ 30 := by have h1 := (side_prod (show 0 ≤ c.w - 1 by omega) (show c.w - 1 ≤ 5 by omega) (show 0 ≤ c.h by omega) v4).2; omega
  have hnd30 : c.nd ≤ 30 := by have h1 := (side_prod (show 0 ≤ c.w by omega) v2 (show 0 ≤ c.h - 1 by omega) (show c.h - 1 ≤ 5 by omega)).2; omega
  have hprn : c.prs.n ≤ 60 := by show c.nr + c.nd ≤ 60; omega
  have HPR := Lib.hid hprn
  have hnx : c.nx = c.nb := by omega
  have HCB : Hid (∀ k, k < c.nb → (0 ≤ c.b k ∧ c.b k ≤ 1000) ∧ 0 ≤ c.x k ∧ c.x k ≤ 1000) := Lib.hid fun k hk => ⟨v6 k hk, v8 k (by omega)⟩
  have HV := Lib.hid hV
  obtain ⟨B, X, R, D, rfl, hB, hX, -, -⟩ := hV
  rw [hnx] at hX
  have HBX := Lib.hid (And.intro hB hX)
  obtain ⟨w, hw⟩ : ∃ w, w = c.w := ⟨_, rfl⟩
  obtain ⟨h, hh⟩ : ∃ h, h = c.h := ⟨_, rfl⟩
  obtain ⟨nb, hnb⟩ : ∃ nb, nb = c.nb := ⟨_, rfl⟩
  have hwh : w * h = (nb : Int) := by rw [hw, hh, hnb]; exact v5.symm
  rw [← hw, ← hh] at HV ⊢
  rw [← hnb] at hnb36 HBX HCB
  have HNB := Lib.hid hnb
  clear hvc v1 v2 v3 v4 v5 v6 v7 v8 v9 v11 hnr30 hnd30 hprn hnx hw hh hnb hB hX
  obtain ⟨AB, cB, rfl, hcB, hdB, -⟩ := HBX.out.1
  obtain ⟨AX, cX, rfl, hcX, hdX, -⟩ := HBX.out.2
  obtain ⟨N, hN⟩ : ∃ N, N = nb + 2 := ⟨_, rfl⟩
  have hN2 : (nb : Int) + 2 = (N : Int) := by omega
  have hN40 : N ≤ 40 := by omega
  have hnN : nb < N := by omega
  have hn1N : nb + 1 < N := by omega
  have HNN := Lib.hid hN
  clear hN
  have hm1 : ∀ w, (Instr.makeSlice 91 (.int .i64 (N : Int)) (.int .i64 (N : Int))).run Try.prog w = .ok (.slice (some ⟨w.heap.size, 0, none⟩) N N) (w.alloc (.cells (Array.ofFn fun _ : Fin N => .slice none 0 0) 33)) := fun w => make_one 91 33 _ 24 Try.underlying91 info33 rfl (by omega) N (by omega) w
  have hm2 : ∀ w, (Instr.makeSlice 33 (.int .i64 (N : Int)) (.int .i64 (N : Int))).run Try.prog w = .ok (.slice (some ⟨w.heap.size, 0, none⟩) N N) (w.alloc (.cells (Array.ofFn fun _ : Fin N => .int .i64 0) 3)) := fun w => make_one 33 3 _ 8 Try.underlying33 info3 rfl (by omega) N (by omega) w
  go_enter Try.func73, Try.ntmps73
  go_upto_region 1 with fail
  have bb := al1 W (.cells #[.int .i64 w, .int .i64 h, .slice AB nb cB, .slice AX nb cX, R, D] 68)
  obtain ⟨m0, m1, m2, m3, m4, m5, mz, -⟩ := six (heap_alloc_new W (.cells #[.int .i64 w, .int .i64 h, .slice AB nb cB, .slice AX nb cX, R, D] 68))
  generalize W.alloc (.cells #[.int .i64 w, .int .i64 h, .slice AB nb cB, .slice AX nb cX, R, D] 68) = W1 at *
  have HX : Hid (Ext W W1) := Lib.hid bb
  have HM := Lib.hid (And.intro m0 (And.intro m1 (And.intro m2 (And.intro m3 (And.intro m4 m5)))))
  clear bb m2 m3 m4 m5
  go_upto_region 2 with fail
  clear m0 m1
  go_wp2_with fail
  try rw [hN2]
  try go_wp2_with fail
  obtain ⟨b, hb⟩ : ∃ b, b = W1.heap.size := ⟨_, rfl⟩
  have y1 : Bk (W1.alloc (.cells (Array.ofFn fun _ : Fin N => Value.slice none 0 0) 33)) b 33 N (fun _ => .slice none 0 0) := by rw [hb]; exact heap_alloc_new W1 _
  have e1 : Ext W1 (W1.alloc (.cells (Array.ofFn fun _ : Fin N => Value.slice none 0 0) 33)) := Ext.alc (Ext.refl _) _
  have z1 : (W1.alloc (.cells (Array.ofFn fun _ : Fin N => Value.slice none 0 0) 33)).heap.size = b + 1 := by rw [hb]; simp
  generalize W1.alloc (.cells (Array.ofFn fun _ : Fin N => Value.slice none 0 0) 33) = W2 at *
  rw [← hb]
  have HY := Lib.hid (And.intro y1 (And.intro z1 e1))
  have HBB := Lib.hid hb
  have hbW : W.heap.size < b := by omega
  clear y1 e1 z1 hb
  go_loopw [25] (fun i wr => ∃ k : Nat, i = .int .i64 k ∧ k ≤ N ∧ Hid (Bk wr b 33 N (fun v => if v < k then .slice (some ⟨b + 1 + v, 0, none⟩) N N else .slice none 0 0) ∧ wr.heap.size = b + 1 + k ∧ (∀ v, v < k → BI wr (b + 1 + v) N (fun _ => 0)) ∧ Ext W1 wr)) (fun i _ => N - (intOf i).toNat)
  case atStart => exact ⟨0, rfl, Nat.zero_le _, Lib.hid ⟨Bk.congr HY.out.1 (fun j _ => by simp), HY.out.2.1, fun v hv => by omega, HY.out.2.2⟩⟩
  case round =>
    obtain ⟨k, rfl, hk, hin⟩ := hrel
    by_cases hlt : k < N
    · have zs := hin.out.2.1
      have c6 := Bk.cell (Bk.alloc hin.out.1 (.cells (Array.ofFn fun _ : Fin N => Value.int .i64 0) 3)) hlt
      have f6 := Bk.free (Bk.alloc hin.out.1 (.cells (Array.ofFn fun _ : Fin N => Value.int .i64 0) 3)) k
      have y2 := Bk.set_ (Bk.alloc hin.out.1 (.cells (Array.ofFn fun _ : Fin N => Value.int .i64 0) 3)) k (.slice (some ⟨b + 1 + k, 0, none⟩) N N)
      have y3 : BI (wr.alloc (.cells (Array.ofFn fun _ : Fin N => Value.int .i64 0) 3)) (b + 1 + k) N (fun _ => 0) := by rw [← zs]; exact heap_alloc_new wr _
      have Y2 := Lib.hid y2; have Y3 := Lib.hid y3; have ZS := Lib.hid zs
      clear y2 y3
      go_wp2_with fail
      try rw [hN2]
      try go_wp2_with fail
      go_roundw
      case rel =>
        have zs := ZS.out
        refine ⟨k + 1, by go_num, by omega, Lib.hid ⟨?_, by simp [World.setCell]; omega, fun v hv => ?_, (hin.out.2.2.2.alc _).sc (by have := HBB.out; omega)⟩⟩
        · refine Bk.congr Y2.out fun j hj => ?_
          by_cases e : j = k
          · subst e; rw [up_self, if_pos (by omega)]
          · rw [up_ne _ _ e]
            by_cases e2 : j < k
            · rw [if_pos e2, if_pos (by omega)]
            · rw [if_neg e2, if_neg (by omega)]
        · by_cases e : v = k
          · subst e; exact Bk.far Y3.out (by show b + 1 + v ≠ b; omega) _
          · exact Bk.far (Bk.alloc (hin.out.2.2.1 v (by omega)) _) (by show b + 1 + v ≠ b; omega) _
      case measure => simp [intOf]; omega
    · obtain rfl : k = N := by omega
      have hgd : Gd wr b k (c.gc ri 0) := ⟨Bk.congr hin.out.1 (fun j hj => by rw [if_pos hj]), fun i hi => Bk.congr (hin.out.2.2.1 i hi) fun j _ => by unfold Cl.gc; simp⟩
      have HG0 := Lib.hid (And.intro hgd hin.out.2.2.2)
      clear hgd hin HY
      go_wp2_with fail
      go_loopw [36] (fun i wr => ∃ q : Nat, i = .int .i64 q ∧ q ≤ nb ∧ Hid (Gd wr b k (c.gc ri q) ∧ Ext W1 wr)) (fun i _ => nb - (intOf i).toNat)
      case atStart => exact ⟨0, rfl, Nat.zero_le _, HG0⟩
      case round =>
        clear HG0
        obtain ⟨q, rfl, hq, hin⟩ := hrel
        by_cases hlt2 : q < nb
        · obtain ⟨b2, o2, rfl, -, d2⟩ := Vl.at HBX.out.1 (HX.out.trans hin.out.2) hlt2
          obtain ⟨b3, o3, rfl, -, d3⟩ := Vl.at HBX.out.2 (HX.out.trans hin.out.2) hlt2
          have n2 := keepAt hin.out.2 mz HM.out.2.2.1
          have n3 := keepAt hin.out.2 mz HM.out.2.2.2.1
          obtain ⟨p, hp⟩ : ∃ p, p = c.b q := ⟨_, rfl⟩
          obtain ⟨x, hx⟩ : ∃ x, x = c.x q := ⟨_, rfl⟩
          have hb4 := HCB.out q hlt2
          rw [← hp, ← hx] at hb4
          rw [← hp] at d2; rw [← hx] at d3
          obtain ⟨⟨hp0, hp1⟩, hx0, hx1⟩ := hb4
          obtain ⟨d, hd⟩ : ∃ d : Int, p - x - ri = d := ⟨_, rfl⟩
          have hmd : c.more ri q = -d := by unfold Cl.more; rw [← hp, ← hx]; omega
          have HMD := Lib.hid hmd
          have hqk : q < k := by omega
          have e2 : wr.drew.cell? ⟨b2, o2 + q, none⟩ = some (.int .i64 p) := d2
          have e3 : wr.drew.cell? ⟨b3, o3 + q, none⟩ = some (.int .i64 x) := d3
          have k2 : wr.drew.cell? ⟨W.heap.size, 2, none⟩ = some (.slice (some ⟨b2, o2, none⟩) nb cB) := n2
          have k3 : wr.drew.cell? ⟨W.heap.size, 3, none⟩ = some (.slice (some ⟨b3, o3, none⟩) nb cX) := n3
          have hw1 : IntKind.i64.wrap (p - x) = p - x := IntWalk.i64_in _ (by omega)
          have hw2 : IntKind.i64.wrap d = d := IntWalk.i64_in _ (by omega)
          have hdb : -300000 ≤ d ∧ d ≤ 300000 := by omega
          clear hp hx hmd d2 d3 n2 n3
          go_upto_region 11 with fail
          go_region
          clear e2 e3 k2 k3 hd hw1 hw2 hp0 hp1 hx0 hx1
          have c3n : wr.drew.cell? ⟨b, nb, none⟩ = some (.slice (some ⟨b + 1 + nb, 0, none⟩) k k) := Gd.cellT hin.out.1 hnN
          have c3q : wr.drew.cell? ⟨b, q, none⟩ = some (.slice (some ⟨b + 1 + q, 0, none⟩) k k) := Gd.cellT hin.out.1 hqk
          have f4n : wr.drew.frozen? ⟨b + 1 + nb, q, none⟩ = false := Bk.free (hin.out.1.row nb hnN) q
          have f4q : wr.drew.frozen? ⟨b + 1 + q, nb + 1, none⟩ = false := Bk.free (hin.out.1.row q hqk) (nb + 1)
          have c4n : wr.drew.cell? ⟨b + 1 + nb, q, none⟩ = some (.int .i64 (c.gc ri q nb q)) := Gd.cell hin.out.1 hnN hqk
          have c4q : wr.drew.cell? ⟨b + 1 + q, nb + 1, none⟩ = some (.int .i64 (c.gc ri q q (nb + 1))) := Gd.cell hin.out.1 hqk hn1N
          by_cases h0 : 0 < d
          · clear c3q f4q c4q
            go_wp2
            go_roundw
            case rel =>
              refine ⟨q + 1, by go_num, by omega, Lib.hid ⟨Gd.congr (Gd.set_ (hin.out.1.ext (Ext.drw (Ext.refl _))) nb q d) fun i j hi hj => ?_, (Ext.drw hin.out.2).sc (by have := HBB.out; omega)⟩⟩
              have hnn := HNB.out
              unfold Cl.gc
              rw [← hnn]
              by_cases e : i = nb ∧ j = q
              · obtain ⟨rfl, rfl⟩ := e
                rw [if_pos ⟨rfl, rfl⟩, if_pos ⟨by omega, rfl⟩, HMD.out, Int.neg_neg, if_pos h0]
              · rw [if_neg e]
                by_cases e2 : i = q ∧ j = nb + 1
                · obtain ⟨rfl, rfl⟩ := e2
                  rw [if_neg (by omega), if_neg (by omega), if_neg (by omega), if_pos ⟨by omega, rfl⟩, HMD.out, Int.neg_neg, if_pos h0]
                · have t1 : (j < q + 1 ∧ i = nb) ↔ (j < q ∧ i = nb) := by omega
                  have t2 : (i < q + 1 ∧ j = nb + 1) ↔ (i < q ∧ j = nb + 1) := by omega
                  simp only [t1, t2]
            case measure => simp [intOf]; omega
          · clear c3n f4n c4n
            have hneg : IntKind.i64.wrap (-d) = -d := IntWalk.i64_in _ (by omega)
            go_wp2
            go_roundw
            case rel =>
              refine ⟨q + 1, by go_num, by omega, Lib.hid ⟨Gd.congr (Gd.set_ (hin.out.1.ext (Ext.drw (Ext.refl _))) q (nb + 1) (-d)) fun i j hi hj => ?_, (Ext.drw hin.out.2).sc (by have := HBB.out; omega)⟩⟩
              have hnn := HNB.out
              unfold Cl.gc
              rw [← hnn]
              by_cases e : i = q ∧ j = nb + 1
              · obtain ⟨rfl, rfl⟩ := e
                rw [if_pos ⟨rfl, rfl⟩, if_neg (by omega), if_pos ⟨by omega, rfl⟩, HMD.out, Int.neg_neg, if_neg h0]
              · rw [if_neg e]
                by_cases e2 : i = nb ∧ j = q
                · obtain ⟨rfl, rfl⟩ := e2
                  rw [if_neg (by omega), if_neg (by omega), if_pos ⟨by omega, rfl⟩, HMD.out, Int.neg_neg, if_neg h0]
                · have t1 : (j < q + 1 ∧ i = nb) ↔ (j < q ∧ i = nb) := by omega
                  have t2 : (i < q + 1 ∧ j = nb + 1) ↔ (i < q ∧ j = nb + 1) := by omega
                  simp only [t1, t2]
            case measure => simp [intOf]; omega
        · obtain rfl : q = nb := by omega
          have HG1 : Hid (Gd wr b k (c.gr ri 0) ∧ Ext W1 wr) := Lib.hid ⟨Gd.congr hin.out.1 fun i j _ _ => by rw [HNB.out]; exact gr_zero c ri i j, hin.out.2⟩
          have m0 := keepAt hin.out.2 mz HM.out.1
          have m1 := keepAt hin.out.2 mz HM.out.2.1
          have m2 := keepAt hin.out.2 mz HM.out.2.2.1
          have m3 := keepAt hin.out.2 mz HM.out.2.2.2.1
          have m4 := keepAt hin.out.2 mz HM.out.2.2.2.2.1
          have m5 := keepAt hin.out.2 mz HM.out.2.2.2.2.2
          clear hin
          go_wp2_with fail
          obtain ⟨bs, hbs⟩ : ∃ bs, bs = wr.heap.size := ⟨_, rfl⟩
          have hbk : ∀ i, i < k → b + 1 + i < bs := fun i hi => by rw [hbs]; exact HG1.out.1.lt hi
          have HBK := Lib.hid hbk
          refine (pairsR_own c _ _ (HV.out.ext (HX.out.trans HG1.out.2)) HVC.out).mono ?_
          clear m0 m1 m2 m3 m4 m5 hbk
          rintro e w3 ⟨U, rfl, how, hx⟩
          rw [← hbs] at how
          obtain ⟨AU, nU, cU, rfl⟩ := own_shape how
          have hUn : nU = c.prs.n := by
            obtain ⟨A9, c9, e9, -⟩ := Al.own126 how
            injection e9
          subst hUn
          obtain ⟨np, hnp⟩ : ∃ np, np = c.prs.n := ⟨_, rfl⟩
          have HG2 : Hid (Gd w3 b k (c.gr ri 0) ∧ Ext W1 w3 ∧ w3.ownsRow bs 126 3 (.slice AU c.prs.n cU) c.prs.n (acl c.prs c.prs.n)) := Lib.hid ⟨HG1.out.1.ext hx, HG1.out.2.trans hx, how⟩
          rw [← hnp]
          have hnp60 : np ≤ 60 := by rw [hnp]; exact HPR.out
          have HNP := Lib.hid hnp
          clear hnp hx hbs how HG1
          go_wp2_with fail
          go_loopw [74] (fun i wr => ∃ m : Nat, i = .int .i64 m ∧ m ≤ np ∧ Hid (Gd wr b k (c.gr ri m) ∧ Ext W1 wr ∧ wr.ownsRow bs 126 3 (.slice AU c.prs.n cU) c.prs.n (acl c.prs c.prs.n))) (fun i _ => np - (intOf i).toNat)
          case atStart => exact ⟨0, rfl, Nat.zero_le _, HG2⟩
          case round =>
            clear HG2
            obtain ⟨m, rfl, hm, hin⟩ := hrel
            by_cases hlt3 : m < np
            · obtain ⟨bU, oU, rfl, d1, d2, d3⟩ := (Al.own126 hin.out.2.2).arc (Ext.refl _) (by rw [← HNP.out]; exact hlt3)
              obtain ⟨u, v, hu, hv, hun, hvn, p1, p2⟩ := prs_in HVC.out (k := m) (by rw [← HNP.out]; exact hlt3)
              have huv : u ≠ v := by have := prs_ne HVC.out (k := m) (by rw [← HNP.out]; exact hlt3); rw [hu, hv] at this; omega
              rw [← HNB.out] at hun hvn
              have huk : u < k := by omega
              have hvk : v < k := by omega
              obtain ⟨p, hp⟩ : ∃ p, p = c.prs.c m := ⟨_, rfl⟩
              rw [hu] at d1
              rw [hv] at d2
              rw [← hp] at d3 p1 p2
              have hsu : ∀ i j, c.gr ri (m + 1) i j = c.gr ri m i j + ((if u = i ∧ v = j then p else 0) + (if v = i ∧ u = j then p else 0)) := by
                intro i j
                unfold Cl.gr
                have : c.gp (m + 1) i j = c.gp m i j + ((if u = i ∧ v = j then p else 0) + (if v = i ∧ u = j then p else 0)) := by
                  show (sm m _) + _ = (sm m _) + _
                  dsimp only
                  rw [hu, hv, Int.toNat_natCast, Int.toNat_natCast, ← hp]
                rw [this]; omega
              have HSU := Lib.hid hsu
              have hb1 := gr_bd HVC.out hr1 hr2 (q := m) (by rw [← HNP.out]; exact hm) HPR.out u v
              have hb2 := gr_bd HVC.out hr1 hr2 (q := m) (by rw [← HNP.out]; exact hm) HPR.out v u
              obtain ⟨z1, hz1⟩ : ∃ z, z = c.gr ri m u v := ⟨_, rfl⟩
              obtain ⟨z2, hz2⟩ : ∃ z, z = c.gr ri m v u := ⟨_, rfl⟩
              rw [← hz1] at hb1; rw [← hz2] at hb2
              have HZ := Lib.hid (And.intro hz1 hz2)
              clear hu hv hp hsu hz1 hz2
              go_upto_region 19 with fail
              have hh := heap_alloc_new wr (.cells #[.int .i64 u, .int .i64 v, .int .i64 p] 126)
              have e4 : Ext wr (wr.alloc (.cells #[.int .i64 u, .int .i64 v, .int .i64 p] 126)) := Ext.alc (Ext.refl _) _
              have hbu : b + 1 + u < wr.heap.size := hin.out.1.lt huk
              have hbv : b + 1 + v < wr.heap.size := hin.out.1.lt hvk
              have H4 := Lib.hid (And.intro (hin.out.1.ext e4) (And.intro (hin.out.2.1.trans e4) (And.intro (World.ownsRow.ext hin.out.2.2 e4) hh)))
              clear hh e4 d1 d2 d3
              obtain ⟨g4, hg4⟩ : ∃ g, g = wr.heap.size := ⟨_, rfl⟩
              rw [← hg4] at H4 hbu hbv ⊢
              generalize wr.alloc (.cells #[.int .i64 u, .int .i64 v, .int .i64 p] 126) = w4 at *
              have k0 : w4.drew.cell? ⟨g4, 0, none⟩ = some (.int .i64 u) := cell_of_row _ _ 0 _ 126 (0, 0) H4.out.2.2.2
              have k1 : w4.drew.cell? ⟨g4, 1, none⟩ = some (.int .i64 v) := cell_of_row _ _ 1 _ 126 (0, 0) H4.out.2.2.2
              have k2 : w4.drew.cell? ⟨g4, 2, none⟩ = some (.int .i64 p) := cell_of_row _ _ 2 _ 126 (0, 0) H4.out.2.2.2
              have k3 : w4.drew.cell? ⟨b, u, none⟩ = some (.slice (some ⟨b + 1 + u, 0, none⟩) k k) := Gd.cellT H4.out.1 huk
              have k4 : w4.drew.cell? ⟨b + 1 + u, v, none⟩ = some (.int .i64 z1) := by rw [HZ.out.1]; exact Gd.cell H4.out.1 huk hvk
              have f4 : w4.drew.frozen? ⟨b + 1 + u, v, none⟩ = false := Bk.free (H4.out.1.row u huk) v
              have hwr1 : IntKind.i64.wrap (z1 + p) = z1 + p := IntWalk.i64_in _ (by omega)
              clear hg4
              go_region
              clear k0 k1 k2 k3 k4 f4
              have G5 := (Gd.set_ H4.out.1 u v (z1 + p)).ext (Ext.drw (Ext.refl _))
              have E5 : Ext W1 (w4.setCell ⟨b + 1 + u, v, none⟩ (.int .i64 (z1 + p))).drew := Ext.drw (H4.out.2.1.sc (by have := HBB.out; omega))
              have O5 : (w4.setCell ⟨b + 1 + u, v, none⟩ (.int .i64 (z1 + p))).drew.ownsRow bs 126 3 (.slice (some ⟨bU, oU, none⟩) c.prs.n cU) c.prs.n (acl c.prs c.prs.n) := World.ownsRow.ext (ownsRow_setCell_below H4.out.2.2.1 (HBK.out u huk) _) (Ext.drw (Ext.refl _))
              have R5 : (w4.setCell ⟨b + 1 + u, v, none⟩ (.int .i64 (z1 + p))).drew.heap[g4]? = some (.cells #[.int .i64 u, .int .i64 v, .int .i64 p] 126 (0, 0)) := (Below.heap_setCell w4 ⟨b + 1 + u, v, none⟩ _ g4 (by show g4 ≠ b + 1 + u; omega)).trans H4.out.2.2.2
              have H5 := Lib.hid (And.intro G5 (And.intro E5 (And.intro O5 R5)))
              clear G5 E5 O5 R5 H4
              generalize (w4.setCell ⟨b + 1 + u, v, none⟩ (.int .i64 (z1 + p))).drew = w5 at *
              go_upto_region 20 with fail
              have k0 : w5.drew.cell? ⟨g4, 0, none⟩ = some (.int .i64 u) := cell_of_row _ _ 0 _ 126 (0, 0) H5.out.2.2.2
              have k1 : w5.drew.cell? ⟨g4, 1, none⟩ = some (.int .i64 v) := cell_of_row _ _ 1 _ 126 (0, 0) H5.out.2.2.2
              have k2 : w5.drew.cell? ⟨g4, 2, none⟩ = some (.int .i64 p) := cell_of_row _ _ 2 _ 126 (0, 0) H5.out.2.2.2
              have k3 : w5.drew.cell? ⟨b, v, none⟩ = some (.slice (some ⟨b + 1 + v, 0, none⟩) k k) := Gd.cellT H5.out.1 hvk
              have k4 : w5.drew.cell? ⟨b + 1 + v, u, none⟩ = some (.int .i64 z2) := by
                rw [HZ.out.2]
                have := Gd.cell H5.out.1 hvk huk
                rw [if_neg (fun e => huv e.2)] at this
                exact this
              have f4 : w5.drew.frozen? ⟨b + 1 + v, u, none⟩ = false := Bk.free (H5.out.1.row v hvk) u
              have hwr2 : IntKind.i64.wrap (z2 + p) = z2 + p := IntWalk.i64_in _ (by omega)
              go_region
              clear k0 k1 k2 k3 k4 f4
              go_wp2
              go_roundw
              case rel =>
                refine ⟨m + 1, by go_num, by omega, Lib.hid ⟨Gd.congr ((Gd.set_ H5.out.1 v u (z2 + p)).ext (Ext.drw (Ext.refl _))) fun i j hi hj => ?_, Ext.drw (H5.out.2.1.sc (by have := HBB.out; omega)), World.ownsRow.ext (ownsRow_setCell_below H5.out.2.2.1 (HBK.out v hvk) _) (Ext.drw (Ext.refl _))⟩⟩
                rw [HSU.out]
                by_cases e : i = v ∧ j = u
                · obtain ⟨rfl, rfl⟩ := e
                  rw [if_pos ⟨rfl, rfl⟩, if_neg (fun e => huv e.1), if_pos ⟨rfl, rfl⟩, HZ.out.2, Int.zero_add]
                · rw [if_neg e]
                  by_cases e2 : i = u ∧ j = v
                  · obtain ⟨rfl, rfl⟩ := e2
                    rw [if_pos ⟨rfl, rfl⟩, if_pos ⟨rfl, rfl⟩, if_neg (fun e => huv e.1.symm), HZ.out.1, Int.add_zero]
                  · rw [if_neg e2, if_neg (fun h => e2 ⟨h.1.symm, h.2.symm⟩), if_neg (fun h => e ⟨h.1.symm, h.2.symm⟩)]; omega
              case measure => simp [intOf]; omega
            · obtain rfl : m = np := by omega
              have HG3 := Lib.hid (And.intro hin.out.1 hin.out.2.1)
              clear hin
              obtain ⟨t, ht⟩ : ∃ t : Nat, t = q + 1 := ⟨_, rfl⟩
              have ht2 : (q : Int) + 1 = (t : Int) := by omega
              have htk : t < k := by omega
              have hqt : q ≠ t := by omega
              have HT := Lib.hid ht
              clear ht hn1N
              go_wp2_with fail
              try rw [ht2]
              refine (ends_any b k q t (c.gr ri m) 1000000 W1 _ HG3.out.1 (by omega) hnN htk hqt (fun i j _ _ => gr_bd HVC.out hr1 hr2 (by rw [← HNP.out]; exact Nat.le_refl _) HPR.out i j) (by omega) (by omega) HG3.out.2 (by have := HBB.out; omega)).mono ?_
              rintro e w6 ⟨F, G, T, y, Rr, Q, la, rk, la2, rk2, rfl, hrm, hwm, hR, hwm2, hF, hG, hx⟩
              have hct : ∀ S, Nw.Sd q t S → rc k (c.gr ri m) S = (c.nwa ri).nw.ct S := by
                intro S hS
                have h1 := HNB.out; have h2 := HNN.out; have h3 := HT.out
                rw [HNP.out, h2, h1]
                rw [h3, h1] at hS
                exact gr_ct HVC.out ri hS
              have HLG := Lib.hid (And.intro (hrm.lst hct hwm hR) (hrm.gst hnN hct hwm hR hwm2))
              have HFG := Lib.hid (And.intro hF hG)
              have EX := Lib.hid (HX.out.trans hx)
              obtain ⟨AF, cF, rfl, hcF, hdF, hcf⟩ := hF
              obtain ⟨AG, cG, rfl, hcG, hdG, hcg⟩ := hG
              obtain ⟨bF, oF, rfl, -, -⟩ := hcf (by omega)
              obtain ⟨bG, oG, rfl, -, -⟩ := hcg (by omega)
              clear hrm hwm hR hwm2 hx hcf hcg HG3 hct
              have hqF : q ≤ cF := by omega
              have hqG : q ≤ cG := by omega
              go_upto_region 23 with fail
              go_region
              go_wp2
              refine bodyPost_ret (v := .tuple #[.slice (some ⟨bF, oF, none⟩) q cF, .slice (some ⟨bG, oG, none⟩) q cG]) (by simp [results, Try.results73, go_sem]) rfl ⟨_, _, Rr, fun v => !Q v, rfl, ?_, ?_, ?_, ?_, EX.out.drw⟩
              · rw [← HNB.out]; exact (bl_less HFG.out.1 (by omega)).ext (Ext.drw (Ext.refl _))
              · rw [← HNB.out]; exact (bl_less HFG.out.2 (by omega)).ext (Ext.drw (Ext.refl _))
              · have := HLG.out.1
                rw [HT.out, HNN.out, HNB.out] at this
                exact this
              · have := HLG.out.2
                rw [HT.out, HNN.out, HNB.out] at this
                exact this
end Go.Proofs.Ytilcbbdmenknfaa
namespace Go.Proofs.Ytilcbbdmenknfaa
open Go.RowKit

set_option maxHeartbeats 4000000 in
set_option maxRecDepth 100000 in
theorem energyR_walk (c : Cl) (ri : Int) (n : Nat) (l : Nat → Bool) (V LV : Value) (W : World) (hV : Kl W V c) (hL : Bl W LV n l) (hvc : vCl c = true) (hr1 : -10000 ≤ ri) (hr2 : ri ≤ 10000) (hnn : n = c.nb) :
    Calls Try.prog 70 #[V, .int .i64 ri, LV] W fun e W' => e = .returned (.int .i64 (c.en ri l)) ∧ Ext W W' := by
  have HL := Lib.hid hL
  obtain ⟨AL, cL, rfl, hcL, hdL, -⟩ := hL
  obtain ⟨c', hc'⟩ : ∃ c', c' = c := ⟨_, rfl⟩
  have HVC : Hid (vCl c' = true) := Lib.hid (by rw [hc']; exact hvc)
  clear hvc
  rw [← hc']
  have HV : Hid (Kl W V c') := Lib.hid (by rw [hc']; exact hV)
  obtain ⟨B, X, R, D, rfl, hB, hX, -, -⟩ := hV
  obtain ⟨w, h, nb, b, nx, x, nr, r, nd, d⟩ := c
  dsimp only at hB hX hnn ⊢
  have HBX := Lib.hid (And.intro hB hX)
  have HN : Hid (c'.w = w ∧ c'.h = h ∧ c'.nb = nb ∧ c'.nx = nx ∧ c'.b = b ∧ c'.x = x) := by rw [hc']; exact Lib.hid ⟨rfl, rfl, rfl, rfl, rfl, rfl⟩
  clear hc'
  obtain ⟨AB, cB, rfl, hcB, hdB, -⟩ := hB
  obtain ⟨AX, cX, rfl, hcX, hdX, -⟩ := hX
  go_enter Try.func70, Try.ntmps70
  go_upto_region 1 with fail
  have bb := al1 W (.cells #[.int .i64 w, .int .i64 h, .slice AB nb cB, .slice AX nx cX, R, D] 68)
  obtain ⟨m0, m1, m2, m3, m4, m5, mz, -⟩ := six (heap_alloc_new W (.cells #[.int .i64 w, .int .i64 h, .slice AB nb cB, .slice AX nx cX, R, D] 68))
  generalize W.alloc (.cells #[.int .i64 w, .int .i64 h, .slice AB nb cB, .slice AX nx cX, R, D] 68) = W1 at *
  have HB : Hid (Ext W W1) := Lib.hid bb
  have HM := Lib.hid (And.intro m0 (And.intro m1 (And.intro m2 (And.intro m3 (And.intro m4 m5)))))
  have HX : Hid (Ext W1 W1) := Lib.hid (Ext.refl _)
  clear bb m0 m1 m2 m3 m4 m5
  obtain ⟨⟨v1, v2⟩, ⟨v3, v4⟩, ⟨v5, v6⟩, ⟨v7, v8⟩, ⟨v9, -⟩, ⟨v11, -⟩⟩ := vCl_ok HVC.out
  have hnb36 : nb ≤ 36 := by
    have h1 := (side_prod (show 0 ≤ c'.w by omega) v2 (show 0 ≤ c'.h by omega) v4).2
    have h2 := HN.out.2.2.1
    omega
  have hnr30 : c'.nr ≤ 30 := by have h1 := (side_prod (show 0 ≤ c'.w - 1 by omega) (show c'.w - 1 ≤ 5 by omega) (show 0 ≤ c'.h by omega) v4).2; omega
  have hnd30 : c'.nd ≤ 30 := by have h1 := (side_prod (show 0 ≤ c'.w by omega) v2 (show 0 ≤ c'.h - 1 by omega) (show c'.h - 1 ≤ 5 by omega)).2; omega
  have hnx : nx = nb := by
    have h2 := HN.out.2.2.1; have h3 := HN.out.2.2.2.1
    omega
  have HNX := Lib.hid hnx
  have hdt : ∀ k, k < nb → -11000 ≤ c'.dt ri l k ∧ c'.dt ri l k ≤ 11000 := by
    intro k hk
    have h2 := HN.out.2.2.1; have h3 := HN.out.2.2.2.1
    have h5 := v6 k (by omega); have h6 := v8 k (by omega)
    unfold Cl.dt
    split <;> omega
  have hpt : ∀ k, k < c'.prs.n → -11000 ≤ c'.pt l k ∧ c'.pt l k ≤ 11000 := by
    intro k hk
    obtain ⟨u, v, -, -, -, -, h5, h6⟩ := prs_in HVC.out hk
    unfold Cl.pt
    split <;> omega
  have hprn : c'.prs.n ≤ 60 := by show c'.nr + c'.nd ≤ 60; omega
  have HSM : Hid (∀ k, k ≤ nb → -(11000 * (k : Int)) ≤ sm k (c'.dt ri l) ∧ sm k (c'.dt ri l) ≤ 11000 * (k : Int)) := Lib.hid fun k hk => sm_abs fun i hi => hdt i (by omega)
  have HSP : Hid (∀ k, k ≤ c'.prs.n → -(11000 * (k : Int)) ≤ sm k (c'.pt l) ∧ sm k (c'.pt l) ≤ 11000 * (k : Int)) := Lib.hid fun k hk => sm_abs fun i hi => hpt i (by omega)
  clear v1 v2 v3 v4 v5 v6 v7 v8 v9 v11 hnr30 hnd30 hdt hpt
  subst hnn
  obtain rfl : nx = n := HNX.out
  try clear hnx
  clear HNX
  go_wp2_with fail
  go_loopw [7, 14] (fun z i wr => ∃ k : Nat, i = .int .i64 k ∧ k ≤ nx ∧ z = .int .i64 (sm k (c'.dt ri l)) ∧ Hid (Ext W1 wr)) (fun _ i _ => nx - (intOf i).toNat)
  case atStart => exact ⟨0, rfl, Nat.zero_le _, rfl, HX⟩
  case round =>
    obtain ⟨k, rfl, hk, rfl, hin⟩ := hrel
    obtain ⟨y, hy⟩ : ∃ y, y = sm k (c'.dt ri l) := ⟨_, rfl⟩
    have hsm := HSM.out k hk
    rw [← hy] at hsm ⊢
    obtain ⟨hsm1, hsm2⟩ := hsm
    have hy1 : -400000 ≤ y := by omega
    have hy2 : y ≤ 400000 := by omega
    have HYY := Lib.hid hy
    clear hy hsm1 hsm2
    by_cases hlt : k < nx
    · obtain ⟨bl_, ol, rfl, -, eL⟩ := Vl.at HL.out (HB.out.trans hin.out) hlt
      have hcb := (vCl_ok HVC.out).2.2.1.2 k (by rw [HN.out.2.2.1]; exact hlt)
      have hcx := (vCl_ok HVC.out).2.2.2.1.2 k (by rw [HN.out.2.2.2.1]; exact hlt)
      rw [HN.out.2.2.2.2.1] at hcb
      rw [HN.out.2.2.2.2.2] at hcx
      obtain ⟨b1, b2⟩ := hcb
      obtain ⟨x1, x2⟩ := hcx
      have hsu : sm (k + 1) (c'.dt ri l) = y + (if l k = true then x k + ri else b k) := by
        show sm k (c'.dt ri l) + c'.dt ri l k = _
        rw [← HYY.out]; unfold Cl.dt; rw [HN.out.2.2.2.2.1, HN.out.2.2.2.2.2]
      have HSU := Lib.hid hsu
      clear hsu
      cases hl : l k
      · have HLK := Lib.hid hl
        rw [hl] at eL
        obtain ⟨bB, oB, rfl, -, eB⟩ := Vl.at HBX.out.1 (HB.out.trans hin.out) hlt
        have m2 := keepAt hin.out mz HM.out.2.2.1
        obtain ⟨p, hp⟩ : ∃ p, p = b k := ⟨_, rfl⟩
        rw [← hp] at eB b1 b2
        have HP := Lib.hid hp
        clear hp hl
        go_wp2
        go_roundw
        case rel => exact ⟨k + 1, by go_num, by omega, by rw [HSU.out, HLK.out, HP.out]; simp, Lib.hid hin.out⟩
        case measure => simp [intOf]; omega
      · have HLK := Lib.hid hl
        rw [hl] at eL
        obtain ⟨bX, oX, rfl, -, eX⟩ := Vl.at HBX.out.2 (HB.out.trans hin.out) hlt
        have m3 := keepAt hin.out mz HM.out.2.2.2.1
        obtain ⟨p, hp⟩ : ∃ p, p = x k := ⟨_, rfl⟩
        rw [← hp] at eX x1 x2
        have HP := Lib.hid hp
        clear hp hl
        go_wp2
        go_roundw
        case rel => exact ⟨k + 1, by go_num, by omega, by rw [HSU.out, HLK.out, HP.out]; simp, Lib.hid hin.out⟩
        case measure => simp [intOf]; omega
    · obtain rfl : nx = k := by omega
      have hnl : ¬ (nx : Int) < nx := by omega
      obtain ⟨wo, rfl⟩ : ∃ w, w = wr := ⟨_, rfl⟩
      have HO := hin
      clear hin
      have m0 := keepAt HO.out mz HM.out.1
      have m1 := keepAt HO.out mz HM.out.2.1
      have m2 := keepAt HO.out mz HM.out.2.2.1
      have m3 := keepAt HO.out mz HM.out.2.2.2.1
      have m4 := keepAt HO.out mz HM.out.2.2.2.2.1
      have m5 := keepAt HO.out mz HM.out.2.2.2.2.2
      go_wp2_with fail
      refine (pairsR_any c' _ _ (HV.out.ext (HB.out.trans HO.out)) HVC.out).mono ?_
      clear m0 m1 m2 m3 m4 m5
      rintro e w3 ⟨U, rfl, hal, hx⟩
      have HAL := Lib.hid hal
      obtain ⟨AU, cU, rfl, hcU, hdU, -⟩ := hal
      have H3 : Hid (Ext W1 w3) := Lib.hid (HO.out.trans hx)
      clear hx
      obtain ⟨np, hnp⟩ : ∃ np, np = c'.prs.n := ⟨_, rfl⟩
      rw [← hnp] at hcU hprn ⊢
      have HNP := Lib.hid hnp
      clear hnp
      go_wp2_with fail
      go_loopw [7, 40] (fun z i wr => ∃ k : Nat, i = .int .i64 k ∧ k ≤ np ∧ z = .int .i64 (y + sm k (c'.pt l)) ∧ Hid (Ext w3 wr)) (fun _ i _ => np - (intOf i).toNat)
      case atStart => exact ⟨0, rfl, Nat.zero_le _, by simp [sm], Lib.hid (Ext.refl _)⟩
      case round =>
        obtain ⟨k, rfl, hk2, rfl, hin⟩ := hrel
        obtain ⟨y2, hy2'⟩ : ∃ y2, y2 = y + sm k (c'.pt l) := ⟨_, rfl⟩
        have hsm := HSP.out k (by rw [← HNP.out]; exact hk2)
        have hya : -2000000 ≤ y2 := by omega
        have hyb : y2 ≤ 2000000 := by omega
        rw [← hy2']
        have HY2 := Lib.hid hy2'
        clear hsm hy2'
        by_cases hlt2 : k < np
        · obtain ⟨bU, oU, rfl, d1, d2, d3⟩ := HAL.out.arc hin.out (by rw [← HNP.out]; exact hlt2)
          obtain ⟨u, v, hu, hv, hun, hvn, p1, p2⟩ := prs_in HVC.out (k := k) (by rw [← HNP.out]; exact hlt2)
          rw [HN.out.2.2.1] at hun hvn
          obtain ⟨p, hp⟩ : ∃ p, p = c'.prs.c k := ⟨_, rfl⟩
          rw [hu] at d1
          rw [hv] at d2
          rw [← hp] at d3 p1 p2
          have hsu : sm (k + 1) (c'.pt l) = sm k (c'.pt l) + (if l u = l v then 0 else p) := by
            show sm k (c'.pt l) + c'.pt l k = _
            unfold Cl.pt; rw [hu, hv, Int.toNat_natCast, Int.toNat_natCast, ← hp]
          have HSU := Lib.hid hsu
          obtain ⟨bl_, ol, rfl, _, eu⟩ := Vl.at HL.out ((HB.out.trans (H3.out.trans hin.out)).alc (.cells #[.int .i64 u, .int .i64 v, .int .i64 p] 126)) hun
          obtain ⟨bl2, ol2, e3, _, ev⟩ := Vl.at HL.out ((HB.out.trans (H3.out.trans hin.out)).alc (.cells #[.int .i64 u, .int .i64 v, .int .i64 p] 126)) hvn
          injection e3 with e3
          injection e3 with e3 e4
          subst e3 e4
          clear hu hv hp hsu
          go_upto_region 12 with fail
          have b0 : (wr.alloc (.cells #[.int .i64 u, .int .i64 v, .int .i64 p] 126)).cell? ⟨wr.heap.size, 0, none⟩ = some (.int .i64 u) := by rw [World.cell?_alloc_new]; rfl
          have b1 : (wr.alloc (.cells #[.int .i64 u, .int .i64 v, .int .i64 p] 126)).cell? ⟨wr.heap.size, 1, none⟩ = some (.int .i64 v) := by rw [World.cell?_alloc_new]; rfl
          have b2 : (wr.alloc (.cells #[.int .i64 u, .int .i64 v, .int .i64 p] 126)).cell? ⟨wr.heap.size, 2, none⟩ = some (.int .i64 p) := by rw [World.cell?_alloc_new]; rfl
          have ee := hin.out.alc (.cells #[.int .i64 u, .int .i64 v, .int .i64 p] 126)
          generalize wr.alloc (.cells #[.int .i64 u, .int .i64 v, .int .i64 p] 126) = w4 at *
          have HE4 := Lib.hid ee
          have f0 : w4.drew.cell? ⟨wr.heap.size, 0, none⟩ = some (.int .i64 u) := b0
          have f1 : w4.drew.cell? ⟨wr.heap.size, 1, none⟩ = some (.int .i64 v) := b1
          have f2 : w4.drew.cell? ⟨wr.heap.size, 2, none⟩ = some (.int .i64 p) := b2
          obtain ⟨su, hsu⟩ : ∃ x, x = l u := ⟨_, rfl⟩
          obtain ⟨sv, hsv⟩ : ∃ x, x = l v := ⟨_, rfl⟩
          rw [← hsu] at eu
          rw [← hsv] at ev
          have HUV := Lib.hid (And.intro hsu hsv)
          have eud : w4.drew.cell? ⟨bl_, ol + u, none⟩ = some (.bool su) := eu
          have evd : w4.drew.cell? ⟨bl_, ol + v, none⟩ = some (.bool sv) := ev
          clear b0 b1 b2 ee hsu hsv eu ev d1 d2 d3
          by_cases huv : su = sv
          · subst huv
            have hne : (su != su) = false := by cases su <;> rfl
            go_region
            go_wp2
            go_roundw
            case rel => exact ⟨k + 1, by go_num, by omega, by rw [HY2.out, HSU.out, ← HUV.out.1, ← HUV.out.2, if_pos rfl, Int.add_zero], Lib.hid HE4.out.drw⟩
            case measure => simp [intOf]; omega
          · have hne : (!(su == sv)) = true := by cases su <;> cases sv <;> simp_all
            go_region
            go_wp2
            go_roundw
            case rel => exact ⟨k + 1, by go_num, by omega, by rw [HY2.out, HSU.out, ← HUV.out.1, ← HUV.out.2, if_neg huv, Int.add_assoc], Lib.hid HE4.out.drw⟩
            case measure => simp [intOf]; omega
        · obtain rfl : np = k := by omega
          go_wp2
          go_ret
          have he : y2 = c'.en ri l := by
            rw [HY2.out, HYY.out, HNP.out]
            unfold Cl.en
            rw [HN.out.2.2.1]
          rw [← he]
          exact ⟨rfl, HB.out.trans (H3.out.trans hin.out)⟩

set_option maxHeartbeats 4000000 in
set_option maxRecDepth 100000 in
theorem energyR_any (c : Cl) (ri : Int) (n : Nat) (l : Nat → Bool) (V LV : Value) (W : World) (hV : Kl W V c) (hL : Bl W LV n l) :
    Calls Try.prog 40 #[V, .int .i64 ri, LV] W fun e W' => ∃ (v er : Int), e = .returned (.tuple #[.int .i64 v, .int .i64 er]) ∧ Ext W W' ∧
      (((vCl c && bw ri (-10000) 10000) = false ∧ v = 0 ∧ er = 2) ∨ ((vCl c && bw ri (-10000) 10000) = true ∧ n ≠ c.nb ∧ v = 0 ∧ er = 3) ∨ ((vCl c && bw ri (-10000) 10000) = true ∧ n = c.nb ∧ er = 0 ∧ v = c.en ri l)) := by
  have HL := Lib.hid hL
  obtain ⟨AL, cL, rfl, hcL, hdL, -⟩ := hL
  have HV := Lib.hid hV
  obtain ⟨B, X, R, D, rfl, -, -, -, -⟩ := hV
  obtain ⟨w, hw⟩ : ∃ w, w = c.w := ⟨_, rfl⟩
  obtain ⟨h, hh⟩ : ∃ h, h = c.h := ⟨_, rfl⟩
  rw [← hw, ← hh] at HV ⊢
  have HWH := Lib.hid (And.intro hw hh)
  clear hw hh
  go_enter Try.func40, Try.ntmps40
  go_upto_region 1 with fail
  have bb := al1 W (.cells #[.int .i64 w, .int .i64 h, B, X, R, D] 68)
  obtain ⟨m0, m1, m2, m3, m4, m5, mz, -⟩ := six (heap_alloc_new W (.cells #[.int .i64 w, .int .i64 h, B, X, R, D] 68))
  generalize W.alloc (.cells #[.int .i64 w, .int .i64 h, B, X, R, D] 68) = W1 at *
  have HB : Hid (Ext W W1) := Lib.hid bb
  have HM := Lib.hid (And.intro m0 (And.intro m1 (And.intro m2 (And.intro m3 (And.intro m4 m5)))))
  clear bb
  go_wp2_with fail
  refine (wovenR_any c _ _ (HV.out.ext HB.out)).mono ?_
  rintro e w2 ⟨rfl, hx⟩
  have HX : Hid (Ext W1 w2) := Lib.hid hx
  clear hx m0 m1 m2 m3 m4 m5
  cases hv : vCl c
  · have HV0 := Lib.hid hv
    clear hv
    go_wp2
    refine bodyPost_ret (v := .tuple #[.int .i64 0, .int .i64 2]) (by simp [results, Try.results40, go_sem]) rfl ⟨0, 2, rfl, HB.out.trans HX.out, .inl ⟨by rw [HV0.out]; rfl, rfl, rfl⟩⟩
  · have HVC := Lib.hid hv
    clear hv
    go_wp2_with fail
    refine (rise_any _ _).mono ?_
    rintro e w0 ⟨rfl, rfl⟩
    cases hq : bw ri (-10000) 10000
    · have HQ0 := Lib.hid hq
      clear hq
      go_wp2
      refine bodyPost_ret (v := .tuple #[.int .i64 0, .int .i64 2]) (by simp [results, Try.results40, go_sem]) rfl ⟨0, 2, rfl, HB.out.trans HX.out, .inl ⟨by rw [HQ0.out, Bool.and_false], rfl, rfl⟩⟩
    · obtain ⟨hr1, hr2⟩ := bw_iff.1 hq
      have HOK : Hid ((vCl c && bw ri (-10000) 10000) = true) := Lib.hid (by rw [HVC.out, hq]; rfl)
      clear hq
      have hfacts := vCl_ok HVC.out
      have hnb36 : c.nb ≤ 36 := by
        obtain ⟨⟨v1, v2⟩, ⟨v3, v4⟩, ⟨v5, -⟩, -⟩ := hfacts
        have h1 := (side_prod (show 0 ≤ c.w by omega) v2 (show 0 ≤ c.h by omega) v4).2
        omega
      have hwh : w * h = (c.nb : Int) := by rw [HWH.out.1, HWH.out.2]; exact hfacts.2.2.1.1.symm
      have m0 := keepAt HX.out mz HM.out.1
      have m1 := keepAt HX.out mz HM.out.2.1
      have m2 := keepAt HX.out mz HM.out.2.2.1
      have m3 := keepAt HX.out mz HM.out.2.2.2.1
      have m4 := keepAt HX.out mz HM.out.2.2.2.2.1
      have m5 := keepAt HX.out mz HM.out.2.2.2.2.2
      obtain ⟨nb, hnb⟩ : ∃ nb, nb = c.nb := ⟨_, rfl⟩
      rw [← hnb] at hnb36 hwh
      have HNB := Lib.hid hnb
      clear hfacts hnb
      by_cases hn : n = nb
      · subst hn
        go_wp2_with fail
        refine (energyR_walk c ri n l _ _ _ (HV.out.ext (HB.out.trans HX.out)) (HL.out.ext (HB.out.trans HX.out)) HVC.out hr1 hr2 HNB.out).mono ?_
        rintro e w3 ⟨rfl, hx⟩
        have EX := Lib.hid (HB.out.trans (HX.out.trans hx))
        clear hx m0 m1 m2 m3 m4 m5 hwh
        go_wp2
        refine bodyPost_ret (v := .tuple #[.int .i64 (c.en ri l), .int .i64 0]) (by simp [results, Try.results40, go_sem]) rfl ⟨_, 0, rfl, EX.out, .inr (.inr ⟨HOK.out, HNB.out, rfl, rfl⟩)⟩
      · have hne : ((n : Int) != nb) = true := by simp; omega
        go_wp2
        refine bodyPost_ret (v := .tuple #[.int .i64 0, .int .i64 3]) (by simp [results, Try.results40, go_sem]) rfl ⟨0, 3, rfl, HB.out.trans HX.out, .inr (.inl ⟨HOK.out, fun e => hn (e.trans HNB.out.symm), rfl, rfl⟩)⟩
end Go.Proofs.Ytilcbbdmenknfaa
