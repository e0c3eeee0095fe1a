/- Walks: Trees. · Walks: the closures of a grid. -/
import Derived.Test.YtijhbmdbnnmogaaGreatM27
import Derived.Test.YtijhbmdbnnmogaaGreatM28
import Derived.Test.YtijhbmdbnnmogaaGreatM29
import Derived.Test.YtijhbmdbnnmogaaGreatM2
namespace Go.Proofs.YtijhbmdbnnmogaaGreat.G
open Go.RowKit

theorem Rw.mono {w : World} {base b' : Nat} {q v : Value} {k : Nat} {x : Nat → Int} (h : Rw w base q v k x) (hb : b' ≤ base) : Rw w b' q v k x := by
  obtain ⟨xs, h1, h2⟩ := h
  exact ⟨xs, own_mono h1 hb, h2⟩

set_option maxHeartbeats 4000000 in
set_option maxRecDepth 100000 in
theorem trees_no (n : Nat) (f : Nat → Int) (NV : Value) (W : World) (hN : Il W NV n f) (hv : vMap n f = false) :
    Calls Tryz.prog 13 #[.agg #[NV]] W fun e W' => e = .returned (.tuple #[.int .i64 0, .int .i64 2]) ∧ Ext W W' := by
  have HN := Lib.hid hN
  obtain ⟨A, c, rfl, hac, hcm, -⟩ := hN
  go_enter Tryz.func13, Tryz.ntmps13
  go_upto_region 1 with fail
  have bb := al1 W (.cells #[.slice A n c] 29)
  obtain ⟨m0, -, mz⟩ := uno (heap_alloc_new W (.cells #[.slice A n c] 29))
  generalize W.alloc (.cells #[.slice A n c] 29) = W1 at *
  have HB : Hid (Ext W W1) := Lib.hid bb
  have HM := Lib.hid m0
  clear bb
  go_wp2_with fail
  refine (euler_any n f _ _ (HN.out.ext HB.out)).mono ?_
  rintro e w1 ⟨v, q, w, p, er, rfl, hx, hcase⟩
  rcases hcase with ⟨-, rfl, rfl, rfl, rfl, rfl⟩ | ⟨hv2, -⟩
  · have HX := Lib.hid (HB.out.trans hx)
    clear hx m0 hv
    go_wp2
    exact bodyPost_ret (v := .tuple #[.int .i64 0, .int .i64 2]) (by simp [results, Tryz.results13, go_sem]) rfl ⟨rfl, HX.out⟩
  · rw [hv] at hv2; cases hv2

set_option maxHeartbeats 4000000 in
set_option maxRecDepth 100000 in
theorem trees_many (n : Nat) (f : Nat → Int) (NV : Value) (W : World) (hN : Il W NV n f) (hv : vMap n f = true) (mp : Nat → Nat) (hp : Nm n 2 (pt f) mp) (h1 : rank mp n ≠ 1) :
    Calls Tryz.prog 13 #[.agg #[NV]] W fun e W' => e = .returned (.tuple #[.int .i64 0, .int .i64 9]) ∧ Ext W W' := by
  have HN := Lib.hid hN
  obtain ⟨A, c, rfl, hac, hcm, -⟩ := hN
  go_enter Tryz.func13, Tryz.ntmps13
  go_upto_region 1 with fail
  have bb := al1 W (.cells #[.slice A n c] 29)
  obtain ⟨m0, -, mz⟩ := uno (heap_alloc_new W (.cells #[.slice A n c] 29))
  generalize W.alloc (.cells #[.slice A n c] 29) = W1 at *
  have HB : Hid (Ext W W1) := Lib.hid bb
  have HM := Lib.hid m0
  clear bb
  go_wp2_with fail
  refine (euler_any n f _ _ (HN.out.ext HB.out)).mono ?_
  rintro e w1 ⟨v, q, w, p, er, rfl, hx, hcase⟩
  rcases hcase with ⟨hv2, -⟩ | ⟨-, rfl, -, mv, mf, mp', -, -, hp', -, -, rfl⟩
  · rw [hv] at hv2; cases hv2
  · have hr : rank mp' n ≠ 1 := by rw [rank_congr n (fun j hj => hp'.only hp hj)]; exact h1
    have hne : (((rank mp' n : Nat) : Int) == 1) = false := by simp; omega
    obtain ⟨r, hrr⟩ : ∃ r, r = rank mp' n := ⟨_, rfl⟩
    rw [← hrr] at hne ⊢
    have hr1 : r ≠ 1 := by rw [hrr]; exact hr
    have HX := Lib.hid (HB.out.trans hx)
    clear hx m0 hv hr hrr hp' hp h1
    go_wp2
    exact bodyPost_ret (v := .tuple #[.int .i64 0, .int .i64 9]) (by simp [results, Tryz.results13, go_sem]) rfl ⟨rfl, HX.out⟩

theorem cell_two_new (w : World) (x y : Value) (t : TypeId) : ∀ j u, [x, y][j]? = some u → (w.alloc (.cells #[x, y] t)).cell? ((⟨w.heap.size, 0, none⟩ : Addr).add j) = some u := by
  intro j u hj
  match j, hj with
  | 0, hj => simp at hj; subst hj; simp [Addr.add]
  | 1, hj => simp at hj; subst hj; simp [Addr.add]
  | j + 2, hj => simp at hj

theorem bal_bd {V E : Nat} {s : Nat → Nat} (hE : E ≤ 100) (hV : V ≤ 100) (i j : Nat) : -100000000 ≤ bal V (tk s (fun _ => 1) E) i j ∧ bal V (tk s (fun _ => 1) E) i j ≤ 100000000 := by
  have h1 : ∀ i j, 0 ≤ tk s (fun _ => 1) E i j ∧ tk s (fun _ => 1) E i j ≤ 100000 := fun i j => by
    have := tk_bd (s := s) (x := fun _ => 1) i j E (fun _ _ => by omega)
    omega
  have h2 := sk_bd (y := tk s (fun _ => 1) E i) (M := 100000) V (fun e _ => h1 i e)
  have h3 := h1 i j
  unfold bal
  split <;> omega

set_option maxHeartbeats 8000000 in
set_option maxRecDepth 100000 in
theorem trees_one (E : Nat) (f : Nat → Int) (NV : Value) (W : World) (hN : Il W NV (2 * E) f) (hv : vMap (2 * E) f = true) (mp m : Nat → Nat) (hp : Nm (2 * E) 2 (pt f) mp) (h1 : rank mp (2 * E) = 1) (hm : Nm (2 * E) 1 (fun _ => tn f) m) (N : Nat) (hV : rank m (2 * E) = N + 1) (h0 : 0 < N)
    (hF : Fit (km (N + 1) E (fun d => rank m (m d))) N) (t : Nat) (ht : lst (bz (km (N + 1) E (fun d => rank m (m d))) N) N = (t : Int)) (hft : Fz (t : Int)) (ht2 : t ≤ 9223372036854775807) :
    Calls Tryz.prog 13 #[.agg #[NV]] W fun e W' => e = .returned (.tuple #[.int .i64 t, .int .i64 0]) ∧ Ext W W' := by
  obtain ⟨n, hn⟩ : ∃ n, n = 2 * E := ⟨_, rfl⟩
  rw [← hn] at hN hv hp h1 hm hV
  have H1 := Lib.hid (And.intro hm hV)
  have HF := Lib.hid (And.intro hF (And.intro ht (And.intro hft ht2)))
  have HP := Lib.hid (And.intro hp h1)
  have HNN := Lib.hid hn
  have HV := Lib.hid hv
  clear hF ht hft ht2 hm hV hp h1 hn hv
  have HN := Lib.hid hN
  obtain ⟨A, c, rfl, hac, hcm, -⟩ := hN
  go_enter Tryz.func13, Tryz.ntmps13
  go_upto_region 1 with fail
  have bb := al1 W (.cells #[.slice A n c] 29)
  obtain ⟨m0, -, mz⟩ := uno (heap_alloc_new W (.cells #[.slice A n c] 29))
  generalize W.alloc (.cells #[.slice A n c] 29) = W1 at *
  have HB : Hid (Ext W W1) := Lib.hid bb
  have HM := Lib.hid m0
  clear bb
  go_wp2_with fail
  refine (euler_any n f _ _ (HN.out.ext HB.out)).mono ?_
  rintro e w1 ⟨v, q, w, p, er, rfl, hx, hcase⟩
  rcases hcase with ⟨hv2, -⟩ | ⟨-, rfl, -, mv, mf, mp', -, -, hp', -, -, rfl⟩
  · rw [HV.out] at hv2; cases hv2
  have hr : rank mp' n = 1 := by rw [rank_congr n (fun j hj => hp'.only HP.out.1 hj)]; exact HP.out.2
  rw [hr]
  have hM := vMap_mp HV.out
  have hn80 : n ≤ 80 := hM.le
  have hE40 : E ≤ 40 := by have := HNN.out; omega
  have hV80 : N + 1 ≤ 80 := by have := rank_le m n; have := H1.out.2; omega
  have m0' := keepAt hx mz HM.out
  have HX : Hid (Ext W w1) := Lib.hid (HB.out.trans hx)
  have HMP := Lib.hid hM
  clear hx m0 hr hp' hM
  go_wp2_with fail
  refine (graphOf_any n f _ _ (HN.out.ext HX.out) HMP.out).mono ?_
  rintro e w2 ⟨m', g, rfl, hg, hbi, hnm, hx⟩
  obtain ⟨V, hVV⟩ : ∃ V, V = N + 1 := ⟨_, rfl⟩
  have h1V : 1 < V := by omega
  have hV81 : V ≤ 80 := by omega
  rw [← hVV] at H1 HF
  have em : ∀ d, d < n → m' d = m d := fun d hd => hnm.only H1.out.1 hd
  have er : rank m' n = V := by rw [rank_congr n em]; exact H1.out.2
  rw [er]
  obtain ⟨s, hs⟩ : ∃ s : Nat → Nat, s = fun d => rank m (m d) := ⟨_, rfl⟩
  have hbi2 : BI w2 g n (fun d => ((s d : Nat) : Int)) := by
    refine Bk.congr hbi fun d hd => ?_
    have h3 := H1.out.1.le_self hd
    rw [hs]
    dsimp only
    rw [em d hd, rank_congr (m d) (fun j hj => em j (by omega))]
  have hsv : ∀ d, d < n → s d < V := fun d hd => by
    have h3 := H1.out.1.le_self hd
    have h4 := H1.out.1.idem hd
    have h5 : ∀ r, r < n → m r = r → rank m r < rank m n := fun r hr he => by
      have key : ∀ a, r < a → rank m r < rank m a := fun a => by
        induction a with
        | zero => intro h; omega
        | succ a ih =>
          intro h
          show rank m r < rank m a + _
          by_cases e : r = a
          · subst e; rw [if_pos he]; omega
          · have := ih (by omega); omega
      exact key n hr
    rw [← H1.out.2, hs]
    exact h5 (m d) (by omega) h4
  rw [← hs] at HF
  have HS := Lib.hid (And.intro hbi2 hsv)
  replace HX : Hid (Ext W w2) := Lib.hid (HX.out.trans hx)
  have HVN : Hid (V = N + 1) := Lib.hid hVV
  clear hbi hbi2 hsv hs em er hnm hx hg m0' hVV
  go_upto_region 8 with fail
  obtain rfl : n = 2 * E := HNN.out
  have b2 := al1 w2 (.cells #[.int .i64 (V : Int), .slice (some ⟨g, 0, none⟩) (2 * E) (2 * E)] 72)
  obtain ⟨t0, t1, -, lz2⟩ := two (heap_alloc_new w2 (.cells #[.int .i64 (V : Int), .slice (some ⟨g, 0, none⟩) (2 * E) (2 * E)] 72))
  generalize w2.alloc (.cells #[.int .i64 (V : Int), .slice (some ⟨g, 0, none⟩) (2 * E) (2 * E)] 72) = W2 at *
  have HT := Lib.hid (And.intro t0 t1)
  have hil : Il W2 (.slice (some ⟨g, 0, none⟩) (2 * E) (2 * E)) (2 * E) (fun d => ((s d : Nat) : Int)) := (HS.out.1.ext b2).il (by omega)
  have HIL := Lib.hid hil
  have HSV := Lib.hid HS.out.2
  have HX2 : Hid (Ext W W2) := Lib.hid (HX.out.trans b2)
  have HE2 : Hid (2 * E / 2 = E) := Lib.hid (by omega)
  clear b2 t0 t1 hil
  refine wp_region_noPanic ?_
  refine wp_region_held_drew (S := fun X => Ext W2 X) (by kernel_rfl) (Ext.drw (Ext.refl _)) (fun _ => ?_)
  refine take_at 0 (some 31) (.agg #[.int .i64 (V : Int), .slice (some ⟨g, 0, none⟩) (2 * E) (2 * E)]) rfl rfl (by kernel_rfl) (by kernel_rfl) (by kernel_rfl) (fun _ _ _ h => h) (Or.inl ⟨by rfl, fun w' hSw => ?_⟩) (Ext.drw (Ext.refl _)) ?_
  · have z0 := keepAt hSw lz2 HT.out.1
    have z1 := keepAt hSw lz2 HT.out.2
    try clear hSw
    go_simp
    all_goals (with_reducible rfl)
  try simp only [Act.put, List.setIfInBounds_toArray, List.set_cons_zero, List.set_cons_succ]
  refine take_at 1 (some 32) (.agg #[.int .i64 (V : Int), .slice (some ⟨g, 0, none⟩) (2 * E) (2 * E)]) rfl rfl (by kernel_rfl) (by kernel_rfl) (by kernel_rfl) (fun _ _ _ h => h) (Or.inl ⟨by rfl, fun w' hSw => ?_⟩) (Ext.drw (Ext.refl _)) ?_
  · have z0 := keepAt hSw lz2 HT.out.1
    have z1 := keepAt hSw lz2 HT.out.2
    try clear hSw
    go_simp
    all_goals (with_reducible rfl)
  try simp only [Act.put, List.setIfInBounds_toArray, List.set_cons_zero, List.set_cons_succ]
  refine take_at 6 (some 37) (.int .i64 0) rfl rfl (by kernel_rfl) (by kernel_rfl) (by kernel_rfl) (fun _ _ _ h => h) (Or.inl ⟨by rfl, fun w' hSw => ?_⟩) (Ext.drw (Ext.refl _)) ?_
  · skip
    try clear hSw
    go_simp
    all_goals (with_reducible rfl)
  try simp only [Act.put, List.setIfInBounds_toArray, List.set_cons_zero, List.set_cons_succ]
  refine wpAnyH_ready (rs := [2]) (by kernel_rfl) (by simp) ?_
  refine AllReadyH.cons rfl (fun K hK => ?_) AllReadyH.nil
  go_simp
  refine (ones_any (V : Int) (2 * E) (fun d => ((s d : Nat) : Int)) (.slice (some ⟨g, 0, none⟩) (2 * E) (2 * E)) _ (HIL.out.ext (Ext.drw (Ext.refl _))) (by omega)).mono ?_
  rintro e v2 ⟨g2, rfl, hg2, hb_2, hb2⟩
  have e2 : Ext W2 v2 := (Ext.drw (Ext.refl _)).trans hb2
  try go_wp2_with fail
  refine hK.out _ _ e2 (fun _ => ?_)
  clear hK K
  try simp only [Act.put, List.setIfInBounds_toArray, List.set_cons_zero, List.set_cons_succ]
  rw [HE2.out] at hb_2
  try rw [HE2.out]
  have HBI2 := Lib.hid (hb_2.il (show E ≤ 9223372036854775807 by omega))
  clear hb_2 hg2
  refine wpAnyH_ready (rs := [3]) (by kernel_rfl) (by simp) ?_
  refine AllReadyH.cons rfl (fun K hK => ?_) AllReadyH.nil
  go_simp
  refine (balances_any V E s (fun _ => 1) (.slice (some ⟨g, 0, none⟩) (2 * E) (2 * E)) (.slice (some ⟨g2, 0, none⟩) E E) _ (HIL.out.ext e2) (by omega) (by omega) HSV.out HBI2.out (fun _ _ => by omega)).mono ?_
  rintro e v3 ⟨b, rfl, hb_b, hgd, hb3⟩
  have e3 : Ext W2 v3 := (e2).trans hb3
  try go_wp2_with fail
  refine hK.out _ _ e3 (fun _ => ?_)
  clear hK K
  try simp only [Act.put, List.setIfInBounds_toArray, List.set_cons_zero, List.set_cons_succ]
  have HGD := Lib.hid hgd
  clear hgd hb_b
  refine take_at 4 (some 35) (.slice (some ⟨b, 1, none⟩) (V - 1) (V - 1)) rfl rfl (by kernel_rfl) (by kernel_rfl) (by kernel_rfl) (fun _ _ _ h => h) (Or.inl ⟨by rfl, fun w' hSw => ?_⟩) (e3) ?_
  · skip
    try clear hSw
    go_simp
    all_goals (first | (with_reducible rfl) | (rw [if_pos (by omega), if_neg (by omega)]))
  try simp only [Act.put, List.setIfInBounds_toArray, List.set_cons_zero, List.set_cons_succ]
  have hv1 : V - 1 = N := by have := HVN.out; omega
  rw [hv1]
  clear hv1
  refine take_at 5 (some 36) (.int .i64 N) rfl rfl (by kernel_rfl) (by kernel_rfl) (by kernel_rfl) (fun _ _ _ h => h) (Or.inl ⟨by rfl, fun w' hSw => ?_⟩) (e3) ?_
  · skip
    try clear hSw
    go_simp
    all_goals (with_reducible rfl)
  try simp only [Act.put, List.setIfInBounds_toArray, List.set_cons_zero, List.set_cons_succ]
  refine wpAnyH_done (by kernel_rfl) ?_ _
  refine NoPanic.normal ?_
  have HE3 := Lib.hid e3
  clear e2 e3 hb2 hb3
  obtain ⟨i0, hi, hz0, hz1, hz2⟩ := info_parts info56
  obtain ⟨k0, hj, hy0, hy1, hy2⟩ := info_parts info88
  have HI := Lib.hid (And.intro hi (And.intro hz0 (And.intro hz1 hz2)))
  have HJ := Lib.hid (And.intro hj (And.intro hy0 (And.intro hy1 hy2)))
  clear hi hz0 hz1 hz2 hj hy0 hy1 hy2
  obtain ⟨B, hB⟩ : ∃ B, B = bal V (tk s (fun _ => 1) E) := ⟨_, rfl⟩
  rw [← hB] at HGD
  have hBb : ∀ i j, -100000000 ≤ B i j ∧ B i j ≤ 100000000 := fun i j => by rw [hB]; exact bal_bd (by omega) (by omega) i j
  obtain ⟨K, hK⟩ : ∃ K, K = km V E s := ⟨_, rfl⟩
  have hKB : ∀ i j, K i j = B (1 + i) (1 + j) := fun i j => by rw [hK, hB, Nat.add_comm 1 i, Nat.add_comm 1 j]; rfl
  rw [← hK] at HF
  have HKB := Lib.hid (And.intro hBb hKB)
  clear hB hBb hK hKB
  have HX3 : Hid (Ext W v3) := Lib.hid (HX2.out.trans HE3.out)
  clear HX HX2 HE3 HIL HSV HBI2
  obtain ⟨w9, hw9⟩ : ∃ w, w = v3 := ⟨_, rfl⟩
  rw [← hw9] at HX3 HGD ⊢
  clear hw9
  have hN100 : N ≤ 100 := by omega
  go_wp2_with fail
  go_loopw [10, 37] (fun q i wr => ∃ (k : Nat), ∃ gb cp : Nat → Nat, i = .int .i64 k ∧ k ≤ N ∧ Hid (Rs wr w9.heap.size q k N gb cp K ∧ Ext w9 wr)) (fun _ i _ => N - (intOf i).toNat)
  case atStart => exact ⟨0, fun _ => 0, fun _ => 0, rfl, Nat.zero_le _, Lib.hid ⟨Rs.nil _ _ _ _ _ _, Ext.refl _⟩⟩
  case round =>
    obtain ⟨k, gb, cp, rfl, hk, hin⟩ := hrel
    obtain ⟨Av, cv, rfl⟩ := shape_own hin.out.1.own
    obtain ⟨wo, rfl⟩ : ∃ w, w = wr := ⟨_, rfl⟩
    by_cases hlt : k < N
    · have c1 := (HGD.out.ext hin.out.2).cellT (i := 1 + k) (by have := HVN.out; omega)
      have hvn : V - 1 = N := by have := HVN.out; omega
      have HVN1 := Lib.hid hvn
      clear hvn
      go_wp2_with fail
      rw [HVN1.out]
      clear c1
      go_loopw [13, 44] (fun q i wr => ∃ (j : Nat), i = .int .i64 j ∧ j ≤ N ∧ Hid (Rw wr wo.heap.size q (.slice Av k cv) j (K k) ∧ Ext wo wr)) (fun _ i _ => N - (intOf i).toNat)
      case atStart => exact ⟨0, rfl, Nat.zero_le _, Lib.hid ⟨Rw.nil _ _ _ _, Ext.refl _⟩⟩
      case round =>
        obtain ⟨j, rfl, hj, hin2⟩ := hrel
        have hshape := hin2.out.1
        obtain ⟨xs, hown, hxs⟩ := hshape
        obtain ⟨Aw, cw, rfl⟩ := shape_own hown
        by_cases hlt2 : j < N
        · have c2 := (HGD.out.ext (hin.out.2.trans hin2.out.2)).cell (i := 1 + k) (j := 1 + j) (by have := HVN.out; omega) (by have := HVN.out; omega)
          obtain ⟨z, hz⟩ : ∃ z, z = K k j := ⟨_, rfl⟩
          have hzB : B (1 + k) (1 + j) = z := by rw [hz, HKB.out.2]
          have hzb := HKB.out.1 (1 + k) (1 + j)
          rw [hzB] at c2 hzb
          have HZ := Lib.hid hz
          have HO := Lib.hid (And.intro hown hxs)
          clear hz hzB hown hxs
          go_wp2_with fail
          refine (zfromF_any z _ (by omega) (by omega)).mono ?_
          rintro e w4 ⟨p4, A4, n4, c4, rfl, hzv, hx4, hfr⟩
          clear c2
          have hex4 : Ext wo w4 := hin2.out.2.trans hx4
          have hxa : Ext w4 (w4.alloc (.cells #[.bool p4, .slice A4 n4 c4] 56)) := Ext.alc (Ext.refl _) _
          have hown5 := World.ownsRow.ext HO.out.1 (hx4.trans hxa)
          have hws : wo.heap.size ≤ w4.heap.size := hex4.size
          have hnb : Nb (w4.alloc (.cells #[.bool p4, .slice A4 n4 c4] 56)) (.slice Aw j cw) (.slice Av k cv) p4 A4 n4 c4 (K k j) := by
            rw [← HZ.out]
            refine ⟨hzv.ext hxa, fun hn b' o m' e => ⟨fun e2 => ?_, fun e2 => ?_⟩⟩
            · have h1 := hfr b' o m' e
              have h2 := (World.ownsRow.lt HO.out.1 b' e2).2
              omega
            · have h1 := hfr b' o m' e
              have h2 := (World.ownsRow.lt hin.out.1.own b' e2).2
              have h3 := hin2.out.2.size
              omega
          have hxs5 : ∀ j', j' < j → ∃ p A n c, xs[2 * j']? = some (.bool p) ∧ xs[2 * j' + 1]? = some (.slice A n c) ∧ Nb (w4.alloc (.cells #[.bool p4, .slice A4 n4 c4] 56)) (.slice Aw j cw) (.slice Av k cv) p A n c (K k j') := fun j' hj' => by
            obtain ⟨p, A, n, c, e1, e2, e3⟩ := HO.out.2 j' hj'
            exact ⟨p, A, n, c, e1, e2, e3.ext (hx4.trans hxa)⟩
          have H5 := Lib.hid (And.intro hown5 (And.intro hnb (And.intro hxs5 (And.intro hex4 hxa))))
          clear hex4 hxa hnb hxs5 hzv hx4 hfr
          go_wp2_with (at_builtin; refine wpList_append_own_at _ rfl _ _ 88 rfl wo.heap.size 56 i0 (.agg #[.bool false, .slice none 0 0]) 2 32 Tryz.underlying88 HI.out.1 HI.out.2.1 HI.out.2.2.1 HI.out.2.2.2 rfl (by decide) _ j _ rfl hown5 ⟨w4.heap.size, 0, none⟩ 1 1 [.bool p4, .slice A4 n4 c4] rfl rfl (cell_two_new _ _ _ _) ?c2 ?c3 ?c4 ?c5 ?_)
          case c2 => intro uu hu; simp at hu; rcases hu with rfl | rfl <;> rfl
          case c3 => unfold maxLen; omega
          case c4 => omega
          case c5 => simp; omega
          intro v' w5 hown' hgrow _hnil hat
          clear _hnil
          have hex : Ext wo w5 := ext_grow (H5.out.2.2.2.1.trans H5.out.2.2.2.2) hgrow (fun b' hb' => (World.ownsRow.lt hown5 b' hb').1) (Nat.le_refl _)
          have HNX : Hid (Rw w5 wo.heap.size v' (.slice Av k cv) (j + 1) (K k) ∧ Ext wo w5) := Lib.hid ⟨Rw.push H5.out.1 H5.out.2.2.1 H5.out.2.1 hown' hgrow (by rw [World.size_alloc]; exact hat), hex⟩
          clear hown' hex hgrow hown5 hat
          go_wp2
          go_roundw
          case rel => exact ⟨j + 1, by go_num, by omega, HNX⟩
          case measure => simp [intOf]; omega
        · obtain rfl : j = N := by omega
          obtain ⟨-, ⟨e, hj0⟩ | ⟨g5, cap5, cur5, e, -⟩⟩ := hown
          · omega
          injection e with e e' e''
          subst e e''
          clear hxs
          have hex5 := hin.out.2.trans hin2.out.2
          have hbw : w9.heap.size ≤ wo.heap.size := hin.out.2.size
          have hxa : Ext wr (wr.alloc (.cells #[.slice (some ⟨g5, 0, none⟩) j cw] 88)) := Ext.alc (Ext.refl _) _
          have hrs := hin.out.1.ext (hin2.out.2.trans hxa)
          have hrw := (hin2.out.1.ext hxa).mono hbw
          have hg5 : wo.heap.size ≤ g5 := (hin2.out.1.lt g5 rfl).1
          have hq5 : (Value.slice Av k cv).ownBlock ≠ some g5 := fun e => by have := (World.ownsRow.lt hin.out.1.own g5 e).2; omega
          have hi5 : ∀ a, a < k → gb a ≠ g5 := fun a ha e => by have := (hin.out.1.lt ha).2; omega
          have hown5 := hrs.own
          have hws : w9.heap.size ≤ wr.heap.size := hex5.size
          have H5 := Lib.hid (And.intro hrs (And.intro hrw (And.intro hq5 (And.intro hi5 (hex5.trans hxa)))))
          clear hex5 hrs hrw hg5 hq5 hi5 hxa
          go_wp2_with (at_builtin; refine wpList_append_own_at _ rfl _ _ 85 rfl w9.heap.size 88 k0 (.slice none 0 0) 1 24 Tryz.underlying85 HJ.out.1 HJ.out.2.1 HJ.out.2.2.1 HJ.out.2.2.2 rfl (by decide) _ k _ rfl hown5 ⟨wr.heap.size, 0, none⟩ 1 1 [.slice (some ⟨g5, 0, none⟩) j cw] rfl rfl (cell_one_new _ _ _) ?d2 ?d3 ?d4 ?d5 ?_)
          case d2 => first | rfl | (intro uu hu; simp at hu; subst hu; rfl)
          case d3 => unfold maxLen; omega
          case d4 => omega
          case d5 => first | omega | (simp; omega)
          intro v' w5 hown' hgrow _hnil hat
          clear _hnil
          have hex : Ext w9 w5 := ext_grow H5.out.2.2.2.2 hgrow (fun b' hb' => (World.ownsRow.lt hown5 b' hb').1) (Nat.le_refl _)
          have HNX : Hid (Rs w5 w9.heap.size v' (k + 1) j (up gb k g5) (up cp k cw) K ∧ Ext w9 w5) := Lib.hid ⟨Rs.push H5.out.1 H5.out.2.1 H5.out.2.2.1 H5.out.2.2.2.1 hown' hgrow (by rw [World.size_alloc]; exact hat), hex⟩
          clear hown' hex hgrow hown5 hat
          go_wp2
          go_roundw
          case rel => exact ⟨k + 1, up gb k g5, up cp k cw, by go_num, by omega, HNX⟩
          case measure => simp [intOf]; omega
    · obtain rfl : k = N := by omega
      obtain ⟨tb, ct, e, hc1, hc2, hzg⟩ := hin.out.1.zg h0
      injection e with e e' e''
      subst e e''
      have HZG := Lib.hid (And.intro hzg hin.out.2)
      have HGB := Lib.hid (fun i (hi : i < k) => (hin.out.1.lt hi).1)
      clear hzg
      go_wp2_with fail
      refine (determinant_any w9 tb 0 k cv gb cp K _ HZG.out.2 HGB.out HZG.out.1 HF.out.1 hN100 hc1 hc2).mono ?_
      rintro e w6 ⟨p6, A6, n6, c6, rfl, hz6, hx6⟩
      rw [HF.out.2.1] at hz6
      have HX6 := Lib.hid hx6
      clear hx6
      go_wp2_with fail
      refine (ztoInt_any hz6 HF.out.2.2.1 HF.out.2.2.2).mono ?_
      rintro e w7 ⟨rfl, hx7⟩
      have HX7 := Lib.hid (HX3.out.trans (HX6.out.trans hx7))
      clear hx7 hz6
      go_wp2
      exact bodyPost_ret (v := .tuple #[.int .i64 t, .int .i64 0]) (by simp [results, Tryz.results13, go_sem]) rfl ⟨rfl, HX7.out⟩
end Go.Proofs.YtijhbmdbnnmogaaGreat.G
namespace Go.Proofs.YtijhbmdbnnmogaaGreat.G
open Go.RowKit

theorem mul_small {y v : Int} (h1 : -1 ≤ y) (h2 : y ≤ 5) (h3 : 0 ≤ v) (h4 : v ≤ 5) : -5 ≤ y * v ∧ y * v ≤ 25 := by
  rcases (show v = 0 ∨ v = 1 ∨ v = 2 ∨ v = 3 ∨ v = 4 ∨ v = 5 by omega) with rfl | rfl | rfl | rfl | rfl | rfl <;> omega
/-- the dart to the right, the dart down -/
def gr (w x y : Int) : Int := 2 * (y * (w - 1) + x)
def gd (w h x y : Int) : Int := 2 * ((w - 1) * h + y * w + x)

set_option maxRecDepth 100000 in
theorem right_any (w x y : Int) (b : Nat) (W : World) (hb : W.cell? ⟨b, 0, none⟩ = some (.int .i64 w)) (w1 : 1 ≤ w) (w5 : w ≤ 5) (x0 : -1 ≤ x) (x5 : x ≤ 5) (y0 : -1 ≤ y) (y5 : y ≤ 5) :
    Calls Tryz.prog 215 #[.int .i64 x, .int .i64 y, .pointer (some ⟨b, 0, none⟩)] W fun e W' => e = .returned (.int .i64 (gr w x y)) ∧ W = W' := by
  have hp := mul_small y0 y5 (show 0 ≤ w - 1 by omega) (by omega)
  obtain ⟨v, hv⟩ : ∃ v, w - 1 = v := ⟨_, rfl⟩
  obtain ⟨P, hP⟩ : ∃ P, y * v = P := ⟨_, rfl⟩
  unfold gr
  rw [hv, hP] at hp ⊢
  have hw : IntKind.i64.wrap (w - 1) = v := by rw [hv]; exact IntWalk.i64_in _ (by omega)
  have hwp : IntKind.i64.wrap (y * v) = P := by rw [hP]; exact IntWalk.i64_in _ (by omega)
  have hv5 : 0 ≤ v ∧ v ≤ 5 := by omega
  go_enter Tryz.func215, Tryz.ntmps215
  go_wp2
  go_ret
  exact ⟨rfl, rfl⟩

set_option maxRecDepth 100000 in
theorem down_any (w h x y : Int) (b b2 : Nat) (W : World) (hb : W.cell? ⟨b, 0, none⟩ = some (.int .i64 w)) (hb2 : W.cell? ⟨b2, 0, none⟩ = some (.int .i64 h)) (w1 : 1 ≤ w) (w5 : w ≤ 5) (h1 : 1 ≤ h) (h5 : h ≤ 5) (x0 : -1 ≤ x) (x5 : x ≤ 5) (y0 : -1 ≤ y) (y5 : y ≤ 5) :
    Calls Tryz.prog 216 #[.int .i64 x, .int .i64 y, .pointer (some ⟨b, 0, none⟩), .pointer (some ⟨b2, 0, none⟩)] W fun e W' => e = .returned (.int .i64 (gd w h x y)) ∧ W = W' := by
  have hp := mul_small (show -1 ≤ w - 1 by omega) (show w - 1 ≤ 5 by omega) (show 0 ≤ h by omega) h5
  have hq := mul_small y0 y5 (show 0 ≤ w by omega) w5
  obtain ⟨v, hv⟩ : ∃ v, w - 1 = v := ⟨_, rfl⟩
  obtain ⟨P, hP⟩ : ∃ P, v * h = P := ⟨_, rfl⟩
  obtain ⟨Q, hQ⟩ : ∃ Q, y * w = Q := ⟨_, rfl⟩
  unfold gd
  rw [hQ] at hq
  rw [hv, hP] at hp
  rw [hv, hP, hQ]
  have hw : IntKind.i64.wrap (w - 1) = v := by rw [hv]; exact IntWalk.i64_in _ (by omega)
  have hwp : IntKind.i64.wrap (v * h) = P := by rw [hP]; exact IntWalk.i64_in _ (by omega)
  have hwq : IntKind.i64.wrap (y * w) = Q := by rw [hQ]; exact IntWalk.i64_in _ (by omega)
  go_enter Tryz.func216, Tryz.ntmps216
  go_wp2
  go_ret
  exact ⟨rfl, rfl⟩
theorem opposite_int (z : Int) (W : World) : Calls Tryz.prog 115 #[.int .i64 z] W fun e W' => e = .returned (.int .i64 (bits .xor .i64 z 1)) ∧ W = W' := by
  go_enter Tryz.func115, Tryz.ntmps115
  go_wp2
  go_ret
  exact ⟨rfl, rfl⟩
end Go.Proofs.YtijhbmdbnnmogaaGreat.G
