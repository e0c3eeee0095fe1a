/- Walks: the reference's priced, Woven and Rise. · Walks: the reference's labels. -/
import Derived.Test.YtilcbbdmenknfaaM25
import Derived.Test.YtilcbbdmenknfaaM19
import Derived.Test.YtilcbbdmenknfaaM23
import Derived.Test.YtilcbbdmenknfaaM17
namespace Go.Proofs.Ytilcbbdmenknfaa
open Go.RowKit

set_option maxHeartbeats 4000000 in
set_option maxRecDepth 100000 in
theorem priced_any (n : Nat) (x : Nat → Int) (l : Int) (V : Value) (W : World) (hV : Il W V n x) :
    Calls Try.prog 76 #[V, .int .i64 l] W fun e W' => e = .returned (.bool (okL n x l)) ∧ Ext W W' := by
  obtain ⟨y, hy⟩ : ∃ y, y = okL n x l := ⟨_, rfl⟩
  rw [← hy]
  have HY := Lib.hid hy; clear hy
  have HV := Lib.hid hV
  obtain ⟨A, c, rfl, hac, hcm, -⟩ := hV
  go_enter Try.func76, Try.ntmps76
  go_wp2_with fail
  go_loopw [9] (fun i wr => ∃ k : Nat, i = .int .i64 k ∧ k ≤ n ∧ Hid ((∀ j, j < k → 0 ≤ x j ∧ x j ≤ 1000) ∧ Ext W wr)) (fun i _ => n - (intOf i).toNat)
  case atStart => exact ⟨0, rfl, Nat.zero_le _, Lib.hid ⟨fun j hj => by omega, Ext.refl _⟩⟩
  case round =>
    obtain ⟨k, rfl, hk, hin⟩ := hrel
    by_cases hlt : k < n
    · obtain ⟨b, off, rfl, -, e1⟩ := Vl.at HV.out hin.out.2 hlt
      obtain ⟨p, hp⟩ : ∃ p, p = x k := ⟨_, rfl⟩
      rw [← hp] at e1
      have HP := Lib.hid hp; clear hp
      by_cases h1 : p < 0
      · have hy : y = false := by rw [HY.out]; exact okL_no fun h => by have := h.2 k hlt; rw [← HP.out] at this; omega
        have HY2 := Lib.hid hy; clear hy
        go_wp2
        go_ret
        exact ⟨by rw [HY2.out]; rfl, hin.out.2⟩
      · by_cases h2 : 1000 < p
        · have hy : y = false := by rw [HY.out]; exact okL_no fun h => by have := h.2 k hlt; rw [← HP.out] at this; omega
          have HY2 := Lib.hid hy; clear hy
          go_wp2
          go_ret
          exact ⟨by rw [HY2.out]; rfl, hin.out.2⟩
        · go_wp2
          go_roundw
          case rel =>
            refine ⟨k + 1, by go_num, by omega, Lib.hid ⟨fun j hj => ?_, hin.out.2⟩⟩
            by_cases e : j = k
            · subst e; rw [← HP.out]; omega
            · exact hin.out.1 j (by omega)
          case measure => simp [intOf]; omega
    · obtain rfl : k = n := by omega
      by_cases hl : (k : Int) = l
      · have hy : y = true := by rw [HY.out]; exact okL_iff.2 ⟨hl, hin.out.1⟩
        have HY2 := Lib.hid hy; clear hy
        subst hl
        go_wp2
        go_ret
        exact ⟨by rw [HY2.out]; rfl, hin.out.2⟩
      · have hy : y = false := by rw [HY.out]; exact okL_no fun h => hl h.1
        have HY2 := Lib.hid hy; clear hy
        have hl2 : ((k : Int) == l) = false := by simp; exact hl
        go_wp2
        go_ret
        exact ⟨by rw [HY2.out]; rfl, hin.out.2⟩
theorem rise_any (r : Int) (W : World) : Calls Try.prog 69 #[.int .i64 r] W fun e W' => e = .returned (.bool (bw r (-10000) 10000)) ∧ W = W' := by
  by_cases h : -10000 ≤ r
  · by_cases h2 : r ≤ 10000
    · rw [bw_iff.2 ⟨h, h2⟩]
      go_enter Try.func69, Try.ntmps69
      go_wp2
      go_ret
      exact ⟨rfl, rfl⟩
    · rw [bw_f2 (by omega)]
      go_enter Try.func69, Try.ntmps69
      go_wp2
      go_ret
      exact ⟨rfl, rfl⟩
  · rw [bw_f1 (by omega)]
    go_enter Try.func69, Try.ntmps69
    go_wp2
    go_ret
    exact ⟨rfl, rfl⟩

set_option maxHeartbeats 4000000 in
set_option maxRecDepth 100000 in
theorem wovenR_any (c : Cl) (V : Value) (W : World) (hV : Kl W V c) :
    Calls Try.prog 44 #[V] W fun e W' => e = .returned (.bool (vCl c)) ∧ Ext W W' := by
  obtain ⟨y, hy⟩ : ∃ y, y = vCl c := ⟨_, rfl⟩
  rw [← hy]
  have HY := Lib.hid hy; clear hy
  obtain ⟨B, X, R, D, rfl, hB, hX, hR, hD⟩ := hV
  obtain ⟨w, h, nb, b, nx, x, nr, r, nd, d⟩ := c
  dsimp only at hB hX hR hD ⊢
  have HL := Lib.hid (And.intro hB (And.intro hX (And.intro hR hD)))
  go_enter Try.func44, Try.ntmps44
  go_upto_region 1 with fail
  have bb := al1 W (.cells #[.int .i64 w, .int .i64 h, B, X, R, D] 68)
  obtain ⟨m0, m1, m2, m3, m4, m5, mz, -⟩ := six (heap_alloc_new W (.cells #[.int .i64 w, .int .i64 h, B, X, R, D] 68))
  generalize W.alloc (.cells #[.int .i64 w, .int .i64 h, B, X, R, D] 68) = W1 at *
  have HB : Hid (Ext W W1) := Lib.hid bb
  clear bb hB hX hR hD
  by_cases a0 : w < 1
  · have q : bw w 1 6 = false := bw_f1 (by omega)
    have hy : y = false := by rw [HY.out]; simp only [vCl, q, Bool.false_and, Bool.and_false]
    have HY2 := Lib.hid hy; clear hy HY q m2 m3 m4 m5
    go_wp2
    go_ret
    exact ⟨by rw [HY2.out]; rfl, HB.out⟩
  by_cases a1 : 6 < w
  · have q : bw w 1 6 = false := bw_f2 (by omega)
    have hy : y = false := by rw [HY.out]; simp only [vCl, q, Bool.false_and, Bool.and_false]
    have HY2 := Lib.hid hy; clear hy HY q m2 m3 m4 m5
    go_wp2
    go_ret
    exact ⟨by rw [HY2.out]; rfl, HB.out⟩
  by_cases a2 : h < 1
  · have q : bw h 1 6 = false := bw_f1 (by omega)
    have hy : y = false := by rw [HY.out]; simp only [vCl, q, Bool.false_and, Bool.and_false]
    have HY2 := Lib.hid hy; clear hy HY q m2 m3 m4 m5
    go_wp2
    go_ret
    exact ⟨by rw [HY2.out]; rfl, HB.out⟩
  by_cases a3 : 6 < h
  · have q : bw h 1 6 = false := bw_f2 (by omega)
    have hy : y = false := by rw [HY.out]; simp only [vCl, q, Bool.false_and, Bool.and_false]
    have HY2 := Lib.hid hy; clear hy HY q m2 m3 m4 m5
    go_wp2
    go_ret
    exact ⟨by rw [HY2.out]; rfl, HB.out⟩
  have q1 : bw w 1 6 = true := bw_iff.2 ⟨by omega, by omega⟩
  have q2 : bw h 1 6 = true := bw_iff.2 ⟨by omega, by omega⟩
  obtain ⟨pa1, pa2⟩ := side_prod (show 0 ≤ w by omega) (show w ≤ 6 by omega) (show 0 ≤ h by omega) (show h ≤ 6 by omega)
  obtain ⟨pb1, pb2⟩ := side_prod (show 0 ≤ w - 1 by omega) (show w - 1 ≤ 5 by omega) (show 0 ≤ h by omega) (show h ≤ 6 by omega)
  obtain ⟨pc1, pc2⟩ := side_prod (show 0 ≤ w by omega) (show w ≤ 6 by omega) (show 0 ≤ h - 1 by omega) (show h - 1 ≤ 5 by omega)
  have HQ0 := Lib.hid (And.intro q1 q2)
  clear q1 q2
  go_wp2_with fail
  refine (priced_any nb b (w * h) B _ (HL.out.1.ext HB.out)).mono ?_
  rintro e w1 ⟨rfl, hx⟩
  replace m0 := keepAt hx mz m0
  replace m1 := keepAt hx mz m1
  replace m2 := keepAt hx mz m2
  replace m3 := keepAt hx mz m3
  replace m4 := keepAt hx mz m4
  replace m5 := keepAt hx mz m5
  replace mz := Nat.lt_of_lt_of_le mz hx.size
  have HX1 : Hid (Ext W w1) := Lib.hid (HB.out.trans hx)
  clear hx
  cases p0 : okL nb b (w * h)
  · have hy : y = false := by rw [HY.out]; simp only [vCl, HQ0.out.1, HQ0.out.2, p0, Bool.false_and, Bool.true_and]
    have HY2 := Lib.hid hy; clear hy HY
    clear p0 m2 m3 m4 m5
    go_wp2
    go_ret
    exact ⟨by rw [HY2.out]; rfl, HX1.out⟩
  have HP0 := Lib.hid p0; clear p0
  go_wp2_with fail
  refine (priced_any nx x (w * h) X _ (HL.out.2.1.ext HX1.out)).mono ?_
  rintro e w2 ⟨rfl, hx⟩
  replace m0 := keepAt hx mz m0
  replace m1 := keepAt hx mz m1
  replace m2 := keepAt hx mz m2
  replace m3 := keepAt hx mz m3
  replace m4 := keepAt hx mz m4
  replace m5 := keepAt hx mz m5
  replace mz := Nat.lt_of_lt_of_le mz hx.size
  have HX2 : Hid (Ext W w2) := Lib.hid (HX1.out.trans hx)
  clear hx
  cases p1 : okL nx x (w * h)
  · have hy : y = false := by rw [HY.out]; simp only [vCl, HQ0.out.1, HQ0.out.2, HP0.out, p1, Bool.false_and, Bool.true_and]
    have HY2 := Lib.hid hy; clear hy HY
    clear p1 m2 m3 m4 m5
    go_wp2
    go_ret
    exact ⟨by rw [HY2.out]; rfl, HX2.out⟩
  have HP1 := Lib.hid p1; clear p1
  go_wp2_with fail
  refine (priced_any nr r ((w - 1) * h) R _ (HL.out.2.2.1.ext HX2.out)).mono ?_
  rintro e w3 ⟨rfl, hx⟩
  replace m0 := keepAt hx mz m0
  replace m1 := keepAt hx mz m1
  replace m2 := keepAt hx mz m2
  replace m3 := keepAt hx mz m3
  replace m4 := keepAt hx mz m4
  replace m5 := keepAt hx mz m5
  replace mz := Nat.lt_of_lt_of_le mz hx.size
  have HX3 : Hid (Ext W w3) := Lib.hid (HX2.out.trans hx)
  clear hx
  cases p2 : okL nr r ((w - 1) * h)
  · have hy : y = false := by rw [HY.out]; simp only [vCl, HQ0.out.1, HQ0.out.2, HP0.out, HP1.out, p2, Bool.false_and, Bool.true_and]
    have HY2 := Lib.hid hy; clear hy HY
    clear p2 m2 m3 m4 m5
    go_wp2
    go_ret
    exact ⟨by rw [HY2.out]; rfl, HX3.out⟩
  have HP2 := Lib.hid p2; clear p2
  go_wp2_with fail
  refine (priced_any nd d (w * (h - 1)) D _ (HL.out.2.2.2.ext HX3.out)).mono ?_
  rintro e w4 ⟨rfl, hx⟩
  replace m0 := keepAt hx mz m0
  replace m1 := keepAt hx mz m1
  replace m2 := keepAt hx mz m2
  replace m3 := keepAt hx mz m3
  replace m4 := keepAt hx mz m4
  replace m5 := keepAt hx mz m5
  replace mz := Nat.lt_of_lt_of_le mz hx.size
  have HX4 : Hid (Ext W w4) := Lib.hid (HX3.out.trans hx)
  clear hx
  cases p3 : okL nd d (w * (h - 1))
  · have hy : y = false := by rw [HY.out]; simp only [vCl, HQ0.out.1, HQ0.out.2, HP0.out, HP1.out, HP2.out, p3, Bool.false_and, Bool.true_and]
    have HY2 := Lib.hid hy; clear hy HY
    clear p3 m2 m3 m4 m5
    go_wp2
    go_ret
    exact ⟨by rw [HY2.out]; rfl, HX4.out⟩
  have HP3 := Lib.hid p3; clear p3
  have hy : y = true := by rw [HY.out]; simp only [vCl, HQ0.out.1, HQ0.out.2, HP0.out, HP1.out, HP2.out, HP3.out, Bool.true_and]
  have HY2 := Lib.hid hy; clear hy HY m0 m1 m2 m3 m4 m5
  go_wp2
  go_ret
  exact ⟨by rw [HY2.out]; rfl, HX4.out⟩
end Go.Proofs.Ytilcbbdmenknfaa
namespace Go.Proofs.Ytilcbbdmenknfaa
open Go.RowKit

theorem bl_less {w : World} {A : Option Addr} {n N c : Nat} {s : Nat → Bool} (h : Bl w (.slice A N c) N s) (hn : n ≤ N) : Bl w (.slice A n c) n s := by
  obtain ⟨A', c', e, h1, h2, h3⟩ := h
  injection e with e1 _ e3
  subst e1 e3
  refine ⟨A, c, rfl, by omega, h2, fun hp => ?_⟩
  obtain ⟨b, off, rfl, hb, hc⟩ := h3 (by omega)
  exact ⟨b, off, rfl, hb, fun j hj => hc j (by omega)⟩
theorem gr_zero (c : Cl) (r : Int) (i j : Nat) : c.gc r c.nb i j = c.gr r 0 i j := by unfold Cl.gr; show _ = _ + 0; omega
theorem gr_bd {c : Cl} (hc : vCl c = true) {r : Int} (h1 : -100000 ≤ r) (h2 : r ≤ 100000) {q : Nat} (hq : q ≤ c.prs.n) (hp : c.prs.n ≤ 60) (i j : Nat) : 0 ≤ c.gr r q i j ∧ c.gr r q i j ≤ 1000000 := by
  have a1 := gc_bd hc h1 h2 (Nat.le_refl c.nb) i j
  have a2 := gp_bd hc hq i j
  unfold Cl.gr
  omega

set_option maxHeartbeats 4000000 in
set_option maxRecDepth 100000 in
theorem labelsR_own (c : Cl) (ri : Int) (V : Value) (W : World) (hV : Kl W V c) (hvc : vCl c = true) (hr1 : -100000 ≤ ri) (hr2 : ri ≤ 100000) :
    Calls Try.prog 73 #[V, .int .i64 ri] W fun e W' => ∃ (F G : Value) (L M : Nat → Bool), e = .returned (.tuple #[F, G]) ∧ Bl W' F c.nb L ∧ Bl W' G c.nb M ∧
      Lst (c.nwa ri).nw (c.nb + 2) c.nb (c.nb + 1) L ∧ Gst (c.nwa ri).nw (c.nb + 2) c.nb (c.nb + 1) M ∧ Ext W W' ∧ (∀ b, G.ownBlock = some b → W.heap.size ≤ b) := by
  have HVC := Lib.hid hvc
  obtain ⟨⟨v1, v2⟩, ⟨v3, v4⟩, ⟨v5, v6⟩, ⟨v7, v8⟩, ⟨v9, -⟩, ⟨v11, -⟩⟩ := vCl_ok hvc
  have hnb36 : c.nb ≤ 36 := by have h1 := (side_prod (show 0 ≤ c.w by omega) v2 (show 0 ≤ c.h by omega) v4).2; omega
  have hnr30 : c.nr ≤ 30 := by have h1 := (side_prod (show 0 ≤ c.w - 1 by omega) (show c.w - 1 ≤ 5 by omega) (show 0 ≤ c.h by omega) v4).2; omega
  have hnd30 : c.nd ≤ 30 := by have h1 := (side_prod (show 0 ≤ c.w by omega) v2 (show 0 ≤ c.h - 1 by omega) (show c.h - 1 ≤ 5 by omega)).2; omega
  have hprn : c.prs.n ≤ 60 := by show c.nr + c.nd ≤ 60; omega
  have HPR := Lib.hid hprn
  have hnx : c.nx = c.nb := by omega
  have HCB : Hid (∀ k, k < c.nb → (0 ≤ c.b k ∧ c.b k ≤ 1000) ∧ 0 ≤ c.x k ∧ c.x k ≤ 1000) := Lib.hid fun k hk => ⟨v6 k hk, v8 k (by omega)⟩
  have HV := Lib.hid hV
  obtain ⟨B, X, R, D, rfl, hB, hX, -, -⟩ := hV
  rw [hnx] at hX
  have HBX := Lib.hid (And.intro hB hX)
  obtain ⟨w, hw⟩ : ∃ w, w = c.w := ⟨_, rfl⟩
  obtain ⟨h, hh⟩ : ∃ h, h = c.h := ⟨_, rfl⟩
  obtain ⟨nb, hnb⟩ : ∃ nb, nb = c.nb := ⟨_, rfl⟩
  have hwh : w * h = (nb : Int) := by rw [hw, hh, hnb]; exact v5.symm
  rw [← hw, ← hh] at HV ⊢
  rw [← hnb] at hnb36 HBX HCB
  have HNB := Lib.hid hnb
  clear hvc v1 v2 v3 v4 v5 v6 v7 v8 v9 v11 hnr30 hnd30 hprn hnx hw hh hnb hB hX
  obtain ⟨AB, cB, rfl, hcB, hdB, -⟩ := HBX.out.1
  obtain ⟨AX, cX, rfl, hcX, hdX, -⟩ := HBX.out.2
  obtain ⟨N, hN⟩ : ∃ N, N = nb + 2 := ⟨_, rfl⟩
  have hN2 : (nb : Int) + 2 = (N : Int) := by omega
  have hN40 : N ≤ 40 := by omega
  have hnN : nb < N := by omega
  have hn1N : nb + 1 < N := by omega
  have HNN := Lib.hid hN
  clear hN
  have hm1 : ∀ w, (Instr.makeSlice 91 (.int .i64 (N : Int)) (.int .i64 (N : Int))).run Try.prog w = .ok (.slice (some ⟨w.heap.size, 0, none⟩) N N) (w.alloc (.cells (Array.ofFn fun _ : Fin N => .slice none 0 0) 33)) := fun w => make_one 91 33 _ 24 Try.underlying91 info33 rfl (by omega) N (by omega) w
  have hm2 : ∀ w, (Instr.makeSlice 33 (.int .i64 (N : Int)) (.int .i64 (N : Int))).run Try.prog w = .ok (.slice (some ⟨w.heap.size, 0, none⟩) N N) (w.alloc (.cells (Array.ofFn fun _ : Fin N => .int .i64 0) 3)) := fun w => make_one 33 3 _ 8 Try.underlying33 info3 rfl (by omega) N (by omega) w
  go_enter Try.func73, Try.ntmps73
  go_upto_region 1 with fail
  have bb := al1 W (.cells #[.int .i64 w, .int .i64 h, .slice AB nb cB, .slice AX nb cX, R, D] 68)
  obtain ⟨m0, m1, m2, m3, m4, m5, mz, -⟩ := six (heap_alloc_new W (.cells #[.int .i64 w, .int .i64 h, .slice AB nb cB, .slice AX nb cX, R, D] 68))
  generalize W.alloc (.cells #[.int .i64 w, .int .i64 h, .slice AB nb cB, .slice AX nb cX, R, D] 68) = W1 at *
  have HX : Hid (Ext W W1) := Lib.hid bb
  have HM := Lib.hid (And.intro m0 (And.intro m1 (And.intro m2 (And.intro m3 (And.intro m4 m5)))))
  clear bb m2 m3 m4 m5
  go_upto_region 2 with fail
  clear m0 m1
  go_wp2_with fail
  try rw [hN2]
  try go_wp2_with fail
  obtain ⟨b, hb⟩ : ∃ b, b = W1.heap.size := ⟨_, rfl⟩
  have y1 : Bk (W1.alloc (.cells (Array.ofFn fun _ : Fin N => Value.slice none 0 0) 33)) b 33 N (fun _ => .slice none 0 0) := by rw [hb]; exact heap_alloc_new W1 _
  have e1 : Ext W1 (W1.alloc (.cells (Array.ofFn fun _ : Fin N => Value.slice none 0 0) 33)) := Ext.alc (Ext.refl _) _
  have z1 : (W1.alloc (.cells (Array.ofFn fun _ : Fin N => Value.slice none 0 0) 33)).heap.size = b + 1 := by rw [hb]; simp
  generalize W1.alloc (.cells (Array.ofFn fun _ : Fin N => Value.slice none 0 0) 33) = W2 at *
  rw [← hb]
  have HY := Lib.hid (And.intro y1 (And.intro z1 e1))
  have HBB := Lib.hid hb
  have hbW : W.heap.size < b := by omega
  clear y1 e1 z1 hb
  go_loopw [25] (fun i wr => ∃ k : Nat, i = .int .i64 k ∧ k ≤ N ∧ Hid (Bk wr b 33 N (fun v => if v < k then .slice (some ⟨b + 1 + v, 0, none⟩) N N else .slice none 0 0) ∧ wr.heap.size = b + 1 + k ∧ (∀ v, v < k → BI wr (b + 1 + v) N (fun _ => 0)) ∧ Ext W1 wr)) (fun i _ => N - (intOf i).toNat)
  case atStart => exact ⟨0, rfl, Nat.zero_le _, Lib.hid ⟨Bk.congr HY.out.1 (fun j _ => by simp), HY.out.2.1, fun v hv => by omega, HY.out.2.2⟩⟩
  case round =>
    obtain ⟨k, rfl, hk, hin⟩ := hrel
    by_cases hlt : k < N
    · have zs := hin.out.2.1
      have c6 := Bk.cell (Bk.alloc hin.out.1 (.cells (Array.ofFn fun _ : Fin N => Value.int .i64 0) 3)) hlt
      have f6 := Bk.free (Bk.alloc hin.out.1 (.cells (Array.ofFn fun _ : Fin N => Value.int .i64 0) 3)) k
      have y2 := Bk.set_ (Bk.alloc hin.out.1 (.cells (Array.ofFn fun _ : Fin N => Value.int .i64 0) 3)) k (.slice (some ⟨b + 1 + k, 0, none⟩) N N)
      have y3 : BI (wr.alloc (.cells (Array.ofFn fun _ : Fin N => Value.int .i64 0) 3)) (b + 1 + k) N (fun _ => 0) := by rw [← zs]; exact heap_alloc_new wr _
      have Y2 := Lib.hid y2; have Y3 := Lib.hid y3; have ZS := Lib.hid zs
      clear y2 y3
      go_wp2_with fail
      try rw [hN2]
      try go_wp2_with fail
      go_roundw
      case rel =>
        have zs := ZS.out
        refine ⟨k + 1, by go_num, by omega, Lib.hid ⟨?_, by simp [World.setCell]; omega, fun v hv => ?_, (hin.out.2.2.2.alc _).sc (by have := HBB.out; omega)⟩⟩
        · refine Bk.congr Y2.out fun j hj => ?_
          by_cases e : j = k
          · subst e; rw [up_self, if_pos (by omega)]
          · rw [up_ne _ _ e]
            by_cases e2 : j < k
            · rw [if_pos e2, if_pos (by omega)]
            · rw [if_neg e2, if_neg (by omega)]
        · by_cases e : v = k
          · subst e; exact Bk.far Y3.out (by show b + 1 + v ≠ b; omega) _
          · exact Bk.far (Bk.alloc (hin.out.2.2.1 v (by omega)) _) (by show b + 1 + v ≠ b; omega) _
      case measure => simp [intOf]; omega
    · obtain rfl : k = N := by omega
      have hgd : Gd wr b k (c.gc ri 0) := ⟨Bk.congr hin.out.1 (fun j hj => by rw [if_pos hj]), fun i hi => Bk.congr (hin.out.2.2.1 i hi) fun j _ => by unfold Cl.gc; simp⟩
      have HG0 := Lib.hid (And.intro hgd hin.out.2.2.2)
      clear hgd hin HY
      go_wp2_with fail
      go_loopw [36] (fun i wr => ∃ q : Nat, i = .int .i64 q ∧ q ≤ nb ∧ Hid (Gd wr b k (c.gc ri q) ∧ Ext W1 wr)) (fun i _ => nb - (intOf i).toNat)
      case atStart => exact ⟨0, rfl, Nat.zero_le _, HG0⟩
      case round =>
        clear HG0
        obtain ⟨q, rfl, hq, hin⟩ := hrel
        by_cases hlt2 : q < nb
        · obtain ⟨b2, o2, rfl, -, d2⟩ := Vl.at HBX.out.1 (HX.out.trans hin.out.2) hlt2
          obtain ⟨b3, o3, rfl, -, d3⟩ := Vl.at HBX.out.2 (HX.out.trans hin.out.2) hlt2
          have n2 := keepAt hin.out.2 mz HM.out.2.2.1
          have n3 := keepAt hin.out.2 mz HM.out.2.2.2.1
          obtain ⟨p, hp⟩ : ∃ p, p = c.b q := ⟨_, rfl⟩
          obtain ⟨x, hx⟩ : ∃ x, x = c.x q := ⟨_, rfl⟩
          have hb4 := HCB.out q hlt2
          rw [← hp, ← hx] at hb4
          rw [← hp] at d2; rw [← hx] at d3
          obtain ⟨⟨hp0, hp1⟩, hx0, hx1⟩ := hb4
          obtain ⟨d, hd⟩ : ∃ d : Int, p - x - ri = d := ⟨_, rfl⟩
          have hmd : c.more ri q = -d := by unfold Cl.more; rw [← hp, ← hx]; omega
          have HMD := Lib.hid hmd
          have hqk : q < k := by omega
          have e2 : wr.drew.cell? ⟨b2, o2 + q, none⟩ = some (.int .i64 p) := d2
          have e3 : wr.drew.cell? ⟨b3, o3 + q, none⟩ = some (.int .i64 x) := d3
          have k2 : wr.drew.cell? ⟨W.heap.size, 2, none⟩ = some (.slice (some ⟨b2, o2, none⟩) nb cB) := n2
          have k3 : wr.drew.cell? ⟨W.heap.size, 3, none⟩ = some (.slice (some ⟨b3, o3, none⟩) nb cX) := n3
          have hw1 : IntKind.i64.wrap (p - x) = p - x := IntWalk.i64_in _ (by omega)
          have hw2 : IntKind.i64.wrap d = d := IntWalk.i64_in _ (by omega)
          have hdb : -300000 ≤ d ∧ d ≤ 300000 := by omega
          clear hp hx hmd d2 d3 n2 n3
          go_upto_region 11 with fail
          go_region
          clear e2 e3 k2 k3 hd hw1 hw2 hp0 hp1 hx0 hx1
          have c3n : wr.drew.cell? ⟨b, nb, none⟩ = some (.slice (some ⟨b + 1 + nb, 0, none⟩) k k) := Gd.cellT hin.out.1 hnN
          have c3q : wr.drew.cell? ⟨b, q, none⟩ = some (.slice (some ⟨b + 1 + q, 0, none⟩) k k) := Gd.cellT hin.out.1 hqk
          have f4n : wr.drew.frozen? ⟨b + 1 + nb, q, none⟩ = false := Bk.free (hin.out.1.row nb hnN) q
          have f4q : wr.drew.frozen? ⟨b + 1 + q, nb + 1, none⟩ = false := Bk.free (hin.out.1.row q hqk) (nb + 1)
          have c4n : wr.drew.cell? ⟨b + 1 + nb, q, none⟩ = some (.int .i64 (c.gc ri q nb q)) := Gd.cell hin.out.1 hnN hqk
          have c4q : wr.drew.cell? ⟨b + 1 + q, nb + 1, none⟩ = some (.int .i64 (c.gc ri q q (nb + 1))) := Gd.cell hin.out.1 hqk hn1N
          by_cases h0 : 0 < d
          · clear c3q f4q c4q
            go_wp2
            go_roundw
            case rel =>
              refine ⟨q + 1, by go_num, by omega, Lib.hid ⟨Gd.congr (Gd.set_ (hin.out.1.ext (Ext.drw (Ext.refl _))) nb q d) fun i j hi hj => ?_, (Ext.drw hin.out.2).sc (by have := HBB.out; omega)⟩⟩
              have hnn := HNB.out
              unfold Cl.gc
              rw [← hnn]
              by_cases e : i = nb ∧ j = q
              · obtain ⟨rfl, rfl⟩ := e
                rw [if_pos ⟨rfl, rfl⟩, if_pos ⟨by omega, rfl⟩, HMD.out, Int.neg_neg, if_pos h0]
              · rw [if_neg e]
                by_cases e2 : i = q ∧ j = nb + 1
                · obtain ⟨rfl, rfl⟩ := e2
                  rw [if_neg (by omega), if_neg (by omega), if_neg (by omega), if_pos ⟨by omega, rfl⟩, HMD.out, Int.neg_neg, if_pos h0]
                · have t1 : (j < q + 1 ∧ i = nb) ↔ (j < q ∧ i = nb) := by omega
                  have t2 : (i < q + 1 ∧ j = nb + 1) ↔ (i < q ∧ j = nb + 1) := by omega
                  simp only [t1, t2]
            case measure => simp [intOf]; omega
          · clear c3n f4n c4n
            have hneg : IntKind.i64.wrap (-d) = -d := IntWalk.i64_in _ (by omega)
            go_wp2
            go_roundw
            case rel =>
              refine ⟨q + 1, by go_num, by omega, Lib.hid ⟨Gd.congr (Gd.set_ (hin.out.1.ext (Ext.drw (Ext.refl _))) q (nb + 1) (-d)) fun i j hi hj => ?_, (Ext.drw hin.out.2).sc (by have := HBB.out; omega)⟩⟩
              have hnn := HNB.out
              unfold Cl.gc
              rw [← hnn]
              by_cases e : i = q ∧ j = nb + 1
              · obtain ⟨rfl, rfl⟩ := e
                rw [if_pos ⟨rfl, rfl⟩, if_neg (by omega), if_pos ⟨by omega, rfl⟩, HMD.out, Int.neg_neg, if_neg h0]
              · rw [if_neg e]
                by_cases e2 : i = nb ∧ j = q
                · obtain ⟨rfl, rfl⟩ := e2
                  rw [if_neg (by omega), if_neg (by omega), if_pos ⟨by omega, rfl⟩, HMD.out, Int.neg_neg, if_neg h0]
                · have t1 : (j < q + 1 ∧ i = nb) ↔ (j < q ∧ i = nb) := by omega
                  have t2 : (i < q + 1 ∧ j = nb + 1) ↔ (i < q ∧ j = nb + 1) := by omega
                  simp only [t1, t2]
            case measure => simp [intOf]; omega
        · obtain rfl : q = nb := by omega
          have HG1 : Hid (Gd wr b k (c.gr ri 0) ∧ Ext W1 wr) := Lib.hid ⟨Gd.congr hin.out.1 fun i j _ _ => by rw [HNB.out]; exact gr_zero c ri i j, hin.out.2⟩
          have m0 := keepAt hin.out.2 mz HM.out.1
          have m1 := keepAt hin.out.2 mz HM.out.2.1
          have m2 := keepAt hin.out.2 mz HM.out.2.2.1
          have m3 := keepAt hin.out.2 mz HM.out.2.2.2.1
          have m4 := keepAt hin.out.2 mz HM.out.2.2.2.2.1
          have m5 := keepAt hin.out.2 mz HM.out.2.2.2.2.2
          clear hin
          go_wp2_with fail
          obtain ⟨bs, hbs⟩ : ∃ bs, bs = wr.heap.size := ⟨_, rfl⟩
          have hbk : ∀ i, i < k → b + 1 + i < bs := fun i hi => by rw [hbs]; exact HG1.out.1.lt hi
          have HBK := Lib.hid hbk
          refine (pairsR_own c _ _ (HV.out.ext (HX.out.trans HG1.out.2)) HVC.out).mono ?_
          clear m0 m1 m2 m3 m4 m5 hbk
          rintro e w3 ⟨U, rfl, how, hx⟩
          rw [← hbs] at how
          obtain ⟨AU, nU, cU, rfl⟩ := own_shape how
          have hUn : nU = c.prs.n := by
            obtain ⟨A9, c9, e9, -⟩ := Al.own126 how
            injection e9
          subst hUn
          obtain ⟨np, hnp⟩ : ∃ np, np = c.prs.n := ⟨_, rfl⟩
          have HG2 : Hid (Gd w3 b k (c.gr ri 0) ∧ Ext W1 w3 ∧ w3.ownsRow bs 126 3 (.slice AU c.prs.n cU) c.prs.n (acl c.prs c.prs.n)) := Lib.hid ⟨HG1.out.1.ext hx, HG1.out.2.trans hx, how⟩
          rw [← hnp]
          have hnp60 : np ≤ 60 := by rw [hnp]; exact HPR.out
          have HNP := Lib.hid hnp
          clear hnp hx hbs how HG1
          go_wp2_with fail
          go_loopw [74] (fun i wr => ∃ m : Nat, i = .int .i64 m ∧ m ≤ np ∧ Hid (Gd wr b k (c.gr ri m) ∧ Ext W1 wr ∧ wr.ownsRow bs 126 3 (.slice AU c.prs.n cU) c.prs.n (acl c.prs c.prs.n))) (fun i _ => np - (intOf i).toNat)
          case atStart => exact ⟨0, rfl, Nat.zero_le _, HG2⟩
          case round =>
            clear HG2
            obtain ⟨m, rfl, hm, hin⟩ := hrel
            by_cases hlt3 : m < np
            · obtain ⟨bU, oU, rfl, d1, d2, d3⟩ := (Al.own126 hin.out.2.2).arc (Ext.refl _) (by rw [← HNP.out]; exact hlt3)
              obtain ⟨u, v, hu, hv, hun, hvn, p1, p2⟩ := prs_in HVC.out (k := m) (by rw [← HNP.out]; exact hlt3)
              have huv : u ≠ v := by have := prs_ne HVC.out (k := m) (by rw [← HNP.out]; exact hlt3); rw [hu, hv] at this; omega
              rw [← HNB.out] at hun hvn
              have huk : u < k := by omega
              have hvk : v < k := by omega
              obtain ⟨p, hp⟩ : ∃ p, p = c.prs.c m := ⟨_, rfl⟩
              rw [hu] at d1
              rw [hv] at d2
              rw [← hp] at d3 p1 p2
              have hsu : ∀ i j, c.gr ri (m + 1) i j = c.gr ri m i j + ((if u = i ∧ v = j then p else 0) + (if v = i ∧ u = j then p else 0)) := by
                intro i j
                unfold Cl.gr
                have : c.gp (m + 1) i j = c.gp m i j + ((if u = i ∧ v = j then p else 0) + (if v = i ∧ u = j then p else 0)) := by
                  show (sm m _) + _ = (sm m _) + _
                  dsimp only
                  rw [hu, hv, Int.toNat_natCast, Int.toNat_natCast, ← hp]
                rw [this]; omega
              have HSU := Lib.hid hsu
              have hb1 := gr_bd HVC.out hr1 hr2 (q := m) (by rw [← HNP.out]; exact hm) HPR.out u v
              have hb2 := gr_bd HVC.out hr1 hr2 (q := m) (by rw [← HNP.out]; exact hm) HPR.out v u
              obtain ⟨z1, hz1⟩ : ∃ z, z = c.gr ri m u v := ⟨_, rfl⟩
              obtain ⟨z2, hz2⟩ : ∃ z, z = c.gr ri m v u := ⟨_, rfl⟩
              rw [← hz1] at hb1; rw [← hz2] at hb2
              have HZ := Lib.hid (And.intro hz1 hz2)
              clear hu hv hp hsu hz1 hz2
              go_upto_region 19 with fail
              have hh := heap_alloc_new wr (.cells #[.int .i64 u, .int .i64 v, .int .i64 p] 126)
              have e4 : Ext wr (wr.alloc (.cells #[.int .i64 u, .int .i64 v, .int .i64 p] 126)) := Ext.alc (Ext.refl _) _
              have hbu : b + 1 + u < wr.heap.size := hin.out.1.lt huk
              have hbv : b + 1 + v < wr.heap.size := hin.out.1.lt hvk
              have H4 := Lib.hid (And.intro (hin.out.1.ext e4) (And.intro (hin.out.2.1.trans e4) (And.intro (World.ownsRow.ext hin.out.2.2 e4) hh)))
              clear hh e4 d1 d2 d3
              obtain ⟨g4, hg4⟩ : ∃ g, g = wr.heap.size := ⟨_, rfl⟩
              rw [← hg4] at H4 hbu hbv ⊢
              generalize wr.alloc (.cells #[.int .i64 u, .int .i64 v, .int .i64 p] 126) = w4 at *
              have k0 : w4.drew.cell? ⟨g4, 0, none⟩ = some (.int .i64 u) := cell_of_row _ _ 0 _ 126 (0, 0) H4.out.2.2.2
              have k1 : w4.drew.cell? ⟨g4, 1, none⟩ = some (.int .i64 v) := cell_of_row _ _ 1 _ 126 (0, 0) H4.out.2.2.2
              have k2 : w4.drew.cell? ⟨g4, 2, none⟩ = some (.int .i64 p) := cell_of_row _ _ 2 _ 126 (0, 0) H4.out.2.2.2
              have k3 : w4.drew.cell? ⟨b, u, none⟩ = some (.slice (some ⟨b + 1 + u, 0, none⟩) k k) := Gd.cellT H4.out.1 huk
              have k4 : w4.drew.cell? ⟨b + 1 + u, v, none⟩ = some (.int .i64 z1) := by rw [HZ.out.1]; exact Gd.cell H4.out.1 huk hvk
              have f4 : w4.drew.frozen? ⟨b + 1 + u, v, none⟩ = false := Bk.free (H4.out.1.row u huk) v
              have hwr1 : IntKind.i64.wrap (z1 + p) = z1 + p := IntWalk.i64_in _ (by omega)
              clear hg4
              go_region
              clear k0 k1 k2 k3 k4 f4
              have G5 := (Gd.set_ H4.out.1 u v (z1 + p)).ext (Ext.drw (Ext.refl _))
              have E5 : Ext W1 (w4.setCell ⟨b + 1 + u, v, none⟩ (.int .i64 (z1 + p))).drew := Ext.drw (H4.out.2.1.sc (by have := HBB.out; omega))
              have O5 : (w4.setCell ⟨b + 1 + u, v, none⟩ (.int .i64 (z1 + p))).drew.ownsRow bs 126 3 (.slice (some ⟨bU, oU, none⟩) c.prs.n cU) c.prs.n (acl c.prs c.prs.n) := World.ownsRow.ext (ownsRow_setCell_below H4.out.2.2.1 (HBK.out u huk) _) (Ext.drw (Ext.refl _))
              have R5 : (w4.setCell ⟨b + 1 + u, v, none⟩ (.int .i64 (z1 + p))).drew.heap[g4]? = some (.cells #[.int .i64 u, .int .i64 v, .int .i64 p] 126 (0, 0)) := (Below.heap_setCell w4 ⟨b + 1 + u, v, none⟩ _ g4 (by show g4 ≠ b + 1 + u; omega)).trans H4.out.2.2.2
              have H5 := Lib.hid (And.intro G5 (And.intro E5 (And.intro O5 R5)))
              clear G5 E5 O5 R5 H4
              generalize (w4.setCell ⟨b + 1 + u, v, none⟩ (.int .i64 (z1 + p))).drew = w5 at *
              go_upto_region 20 with fail
              have k0 : w5.drew.cell? ⟨g4, 0, none⟩ = some (.int .i64 u) := cell_of_row _ _ 0 _ 126 (0, 0) H5.out.2.2.2
              have k1 : w5.drew.cell? ⟨g4, 1, none⟩ = some (.int .i64 v) := cell_of_row _ _ 1 _ 126 (0, 0) H5.out.2.2.2
              have k2 : w5.drew.cell? ⟨g4, 2, none⟩ = some (.int .i64 p) := cell_of_row _ _ 2 _ 126 (0, 0) H5.out.2.2.2
              have k3 : w5.drew.cell? ⟨b, v, none⟩ = some (.slice (some ⟨b + 1 + v, 0, none⟩) k k) := Gd.cellT H5.out.1 hvk
              have k4 : w5.drew.cell? ⟨b + 1 + v, u, none⟩ = some (.int .i64 z2) := by
                rw [HZ.out.2]
                have := Gd.cell H5.out.1 hvk huk
                rw [if_neg (fun e => huv e.2)] at this
                exact this
              have f4 : w5.drew.frozen? ⟨b + 1 + v, u, none⟩ = false := Bk.free (H5.out.1.row v hvk) u
              have hwr2 : IntKind.i64.wrap (z2 + p) = z2 + p := IntWalk.i64_in _ (by omega)
              go_region
              clear k0 k1 k2 k3 k4 f4
              go_wp2
              go_roundw
              case rel =>
                refine ⟨m + 1, by go_num, by omega, Lib.hid ⟨Gd.congr ((Gd.set_ H5.out.1 v u (z2 + p)).ext (Ext.drw (Ext.refl _))) fun i j hi hj => ?_, Ext.drw (H5.out.2.1.sc (by have := HBB.out; omega)), World.ownsRow.ext (ownsRow_setCell_below H5.out.2.2.1 (HBK.out v hvk) _) (Ext.drw (Ext.refl _))⟩⟩
                rw [HSU.out]
                by_cases e : i = v ∧ j = u
                · obtain ⟨rfl, rfl⟩ := e
                  rw [if_pos ⟨rfl, rfl⟩, if_neg (fun e => huv e.1), if_pos ⟨rfl, rfl⟩, HZ.out.2, Int.zero_add]
                · rw [if_neg e]
                  by_cases e2 : i = u ∧ j = v
                  · obtain ⟨rfl, rfl⟩ := e2
                    rw [if_pos ⟨rfl, rfl⟩, if_pos ⟨rfl, rfl⟩, if_neg (fun e => huv e.1.symm), HZ.out.1, Int.add_zero]
                  · rw [if_neg e2, if_neg (fun h => e2 ⟨h.1.symm, h.2.symm⟩), if_neg (fun h => e ⟨h.1.symm, h.2.symm⟩)]; omega
              case measure => simp [intOf]; omega
            · obtain rfl : m = np := by omega
              have HG3 := Lib.hid (And.intro hin.out.1 hin.out.2.1)
              clear hin
              obtain ⟨t, ht⟩ : ∃ t : Nat, t = q + 1 := ⟨_, rfl⟩
              have ht2 : (q : Int) + 1 = (t : Int) := by omega
              have htk : t < k := by omega
              have hqt : q ≠ t := by omega
              have HT := Lib.hid ht
              clear ht hn1N
              go_wp2_with fail
              try rw [ht2]
              refine (ends_own b k q t (c.gr ri m) 1000000 W1 _ HG3.out.1 (by omega) hnN htk hqt (fun i j _ _ => gr_bd HVC.out hr1 hr2 (by rw [← HNP.out]; exact Nat.le_refl _) HPR.out i j) (by omega) (by omega) HG3.out.2 (by have := HBB.out; omega)).mono ?_
              rintro e w6 ⟨F, G, T, y, Rr, Q, la, rk, la2, rk2, rfl, hrm, hwm, hR, hwm2, hF, hG, hx, -, hoG⟩
              have hct : ∀ S, Nw.Sd q t S → rc k (c.gr ri m) S = (c.nwa ri).nw.ct S := by
                intro S hS
                have h1 := HNB.out; have h2 := HNN.out; have h3 := HT.out
                rw [HNP.out, h2, h1]
                rw [h3, h1] at hS
                exact gr_ct HVC.out ri hS
              have HLG := Lib.hid (And.intro (hrm.lst hct hwm hR) (hrm.gst hnN hct hwm hR hwm2))
              have HFG := Lib.hid (And.intro hF hG)
              have EX := Lib.hid (HX.out.trans hx)
              obtain ⟨AF, cF, rfl, hcF, hdF, hcf⟩ := hF
              obtain ⟨AG, cG, rfl, hcG, hdG, hcg⟩ := hG
              obtain ⟨bF, oF, rfl, -, -⟩ := hcf (by omega)
              obtain ⟨bG, oG, rfl, -, -⟩ := hcg (by omega)
              clear hrm hwm hR hwm2 hx hcf hcg HG3 hct
              have hoG2 : W.heap.size ≤ bG := Nat.le_trans (Nat.le_of_lt mz) (hoG bG rfl)
              clear hoG
              have hqF : q ≤ cF := by omega
              have hqG : q ≤ cG := by omega
              go_upto_region 23 with fail
              go_region
              go_wp2
              refine bodyPost_ret (v := .tuple #[.slice (some ⟨bF, oF, none⟩) q cF, .slice (some ⟨bG, oG, none⟩) q cG]) (by simp [results, Try.results73, go_sem]) rfl ⟨_, _, Rr, fun v => !Q v, rfl, ?_, ?_, ?_, ?_, EX.out.drw, fun b hb => by simp [Value.ownBlock] at hb; omega⟩
              · rw [← HNB.out]; exact (bl_less HFG.out.1 (by omega)).ext (Ext.drw (Ext.refl _))
              · rw [← HNB.out]; exact (bl_less HFG.out.2 (by omega)).ext (Ext.drw (Ext.refl _))
              · have := HLG.out.1
                rw [HT.out, HNN.out, HNB.out] at this
                exact this
              · have := HLG.out.2
                rw [HT.out, HNN.out, HNB.out] at this
                exact this
theorem labelsR_any (c : Cl) (ri : Int) (V : Value) (W : World) (hV : Kl W V c) (hvc : vCl c = true) (hr1 : -100000 ≤ ri) (hr2 : ri ≤ 100000) :
    Calls Try.prog 73 #[V, .int .i64 ri] W fun e W' => ∃ (F G : Value) (L M : Nat → Bool), e = .returned (.tuple #[F, G]) ∧ Bl W' F c.nb L ∧ Bl W' G c.nb M ∧
      Lst (c.nwa ri).nw (c.nb + 2) c.nb (c.nb + 1) L ∧ Gst (c.nwa ri).nw (c.nb + 2) c.nb (c.nb + 1) M ∧ Ext W W' := by
  refine (labelsR_own c ri V W hV hvc hr1 hr2).mono ?_
  rintro e w ⟨F, G, L, M, h1, h2, h3, h4, h5, h6, -⟩
  exact ⟨F, G, L, M, h1, h2, h3, h4, h5, h6⟩
end Go.Proofs.Ytilcbbdmenknfaa
