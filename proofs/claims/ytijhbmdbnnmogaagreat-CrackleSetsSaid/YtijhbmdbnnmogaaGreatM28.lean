/- Walks: determinant. · Walks: Repeat of one number, ones. -/
import Derived.Test.YtijhbmdbnnmogaaGreatM26
import Derived.Test.YtijhbmdbnnmogaaGreatM5
import Derived.Test.YtijhbmdbnnmogaaGreatM21
import Derived.Laws.CopyRow
namespace Go.Proofs.YtijhbmdbnnmogaaGreat.G
open Go.RowKit

set_option maxHeartbeats 8000000 in
set_option maxRecDepth 100000 in
theorem determinant_any (X : World) (tb tf N c : Nat) (gb cp : Nat → Nat) (M : Nat → Nat → Int) (W : World) (hX : Ext X W) (hgb : ∀ i, i < N → X.heap.size ≤ gb i) (hG : Zg W tb tf N gb cp M) (hF : Fit M N) (hN : N ≤ 100) (hc : N ≤ c) (hc2 : c ≤ 9223372036854775807) :
    Calls Tryz.prog 58 #[.slice (some ⟨tb, tf, none⟩) N c] W fun e W' => ∃ b A n c, e = .returned (.agg #[.bool b, .slice A n c]) ∧ Zv W' b A n c (lst (bz M N) N) ∧ Ext X W' := by
  have HX := Lib.hid hX; have HGB := Lib.hid hgb; have HG := Lib.hid hG; have HF := Lib.hid hF
  clear hX hgb hG hF
  go_enter Tryz.func58, Tryz.ntmps58
  go_upto_region 1 with fail
  have r0 := kn W _ #[.bool false, .slice none 0 0] 56 rfl
  have e0 : Ext W (W.alloc (.cells #[.bool false, .slice none 0 0] 56)) := Ext.alc (Ext.refl _) _
  obtain ⟨rb, hrb⟩ : ∃ b, b = W.heap.size := ⟨_, rfl⟩
  rw [← hrb] at r0 ⊢
  have hrX : X.heap.size ≤ rb := by rw [hrb]; exact HX.out.size
  have hrN : ∀ i, i < N → gb i ≠ rb := fun i hi => by have := HG.out.lt i hi; omega
  have hrT : 0 < N → tb ≠ rb := fun hn => by have := HG.out.tl hn; omega
  generalize W.alloc (.cells #[.bool false, .slice none 0 0] 56) = W1 at *
  have hl0 := (two r0).2.2.2
  have HR := Lib.hid (And.intro r0 (And.intro hrX (And.intro hrN hrT)))
  have HE1 := Lib.hid e0
  clear r0 e0 hrb hrX hrN hrT
  go_wp2_with fail
  refine (zfrom_any 1 _ (by omega) (by omega)).mono ?_
  rintro e w2 ⟨p1, A1, n1, c1, rfl, hz1, hx1⟩
  go_upto_region 2 with fail
  have r1 := kn w2 _ #[.bool p1, .slice A1 n1 c1] 56 rfl
  have e1 : Ext W1 (w2.alloc (.cells #[.bool p1, .slice A1 n1 c1] 56)) := hx1.alc _
  have z1 := hz1.ext (Ext.alc (Ext.refl w2) (.cells #[.bool p1, .slice A1 n1 c1] 56))
  obtain ⟨lb, hlb⟩ : ∃ g, g = w2.heap.size := ⟨_, rfl⟩
  have hlW : W1.heap.size ≤ lb := by rw [hlb]; exact hx1.size
  rw [← hlb] at r1 ⊢
  generalize w2.alloc (.cells #[.bool p1, .slice A1 n1 c1] 56) = W3 at *
  have hl1 := (two r1).2.2.2
  have hll : ∀ i, i < N → gb i ≠ lb := fun i hi => by have := HG.out.lt i hi; have := HE1.out.size; omega
  have hlT : 0 < N → tb ≠ lb := fun hn => by have := HG.out.tl hn; have := HE1.out.size; omega
  have hlr : rb ≠ lb := by omega
  have hlX : X.heap.size ≤ lb := by have := HX.out.size; have := HE1.out.size; omega
  have r0' := (Below.block e1 rb hl0).trans HR.out.1
  have HS : Hid (Zg W3 tb tf N gb cp (bz M 0) ∧ Bx W3 lb (lst (bz M 0) 0) ∧ W3.heap[rb]? = some (.cells #[.bool false, .slice none 0 0] 56 (0, 0)) ∧ Ext X W3) :=
    Lib.hid ⟨HG.out.ext (HE1.out.trans e1), ⟨p1, A1, n1, c1, r1, z1⟩, r0', HX.out.trans (HE1.out.trans e1)⟩
  have HL := Lib.hid (And.intro hll (And.intro hlT (And.intro hlr hlX)))
  clear r1 e1 z1 hlb hx1 hz1 hll hlT hlr hlX r0' hl1 hl0 hlW HG HE1
  go_wp2_with fail
  go_loopw [13] (fun i wr => ∃ k : Nat, i = .int .i64 k ∧ k ≤ N ∧ Hid (Zg wr tb tf N gb cp (bz M k) ∧ Bx wr lb (lst (bz M k) k) ∧ wr.heap[rb]? = some (.cells #[.bool false, .slice none 0 0] 56 (0, 0)) ∧ Ext X wr)) (fun i _ => N - (intOf i).toNat)
  case atStart => exact ⟨0, rfl, Nat.zero_le _, HS⟩
  case round =>
    clear HS
    obtain ⟨k, rfl, hk, hin⟩ := hrel
    by_cases hlt : k < N
    · have t1 := hin.out.1.top k hlt
      have hk1 : (k : Int) + 1 = ((k + 1 : Nat) : Int) := by omega
      obtain ⟨q, hq⟩ : ∃ q, q = k + 1 := ⟨_, rfl⟩
      rw [← hq] at hk1
      have hqN : q ≤ N := by omega
      have hqc : q ≤ c := by omega
      obtain ⟨d, hd⟩ : ∃ d, d = N - q := ⟨_, rfl⟩
      have HQ := Lib.hid (And.intro hq hd)
      clear hq
      by_cases hcq : c = q
      · have hdz : N - q = 0 := by omega
        go_upto_region 6 with fail
        try rw [hdz]
        clear t1 hk1
        go_loopw [23] (fun i wx => ∃ i' : Nat, i = .int .i64 i' ∧ i' = 0 ∧ Hid (Zg wx tb tf N gb cp (bz M k) ∧ Bx wx lb (lst (bz M k) k) ∧ wx.heap[rb]? = some (.cells #[.bool false, .slice none 0 0] 56 (0, 0)) ∧ Ext X wx)) (fun _ _ => 0)
        case atStart => exact ⟨0, rfl, rfl, hin⟩
        case round =>
          clear hin
          obtain ⟨i', rfl, rfl, hin⟩ := hrel
          have hzz : Zg wr tb tf N gb cp (bz M (k + 1)) := hin.out.1.congr fun i j hi hj => by rw [bz_out (by have := HQ.out.1; omega)]
          have hBX := hin.out.2.1
          obtain ⟨lp, lA, ln, lc, lh, -⟩ := hBX
          obtain ⟨l0, l1, l2, -⟩ := two lh
          obtain ⟨zp, zA, zn, zc, zk0, zk1, zkv⟩ := hzz.el k k hlt hlt
          have hlw : lst (bz M (k + 1)) (k + 1) = bz M (k + 1) k k := by unfold lst; rw [if_neg (by omega), Nat.add_sub_cancel]
          have G1 : Zg ((wr.setCell ⟨lb, 0, none⟩ (.bool zp)).setCell ⟨lb, 1, none⟩ (.slice zA zn zc)) tb tf N gb cp (bz M (k + 1)) := hzz.far2 HL.out.1 (HL.out.2.1 (by omega)) l0 l1
          have G2 : Bx ((wr.setCell ⟨lb, 0, none⟩ (.bool zp)).setCell ⟨lb, 1, none⟩ (.slice zA zn zc)) lb (lst (bz M (k + 1)) (k + 1)) := by rw [hlw]; exact Bx.put hin.out.2.1 zkv
          have G3 : ((wr.setCell ⟨lb, 0, none⟩ (.bool zp)).setCell ⟨lb, 1, none⟩ (.slice zA zn zc)).heap[rb]? = some (.cells #[.bool false, .slice none 0 0] 56 (0, 0)) := (Below.heap_setCell _ _ _ rb (by exact HL.out.2.2.1)).trans ((Below.heap_setCell wr _ _ rb (by exact HL.out.2.2.1)).trans hin.out.2.2.1)
          have G4 : Ext X ((wr.setCell ⟨lb, 0, none⟩ (.bool zp)).setCell ⟨lb, 1, none⟩ (.slice zA zn zc)) := (hin.out.2.2.2.sc HL.out.2.2.2).sc HL.out.2.2.2
          have HGG := Lib.hid (And.intro G1 (And.intro G2 (And.intro G3 G4)))
          clear hzz hlw G1 G2 G3 G4 zkv hin lh
          go_wp2
          go_roundw
          case rel => exact ⟨k + 1, by go_num, by omega, HGG⟩
          case measure => simp [intOf]; omega
      · go_upto_region 6 with fail
        clear t1
        try rw [← hd]
        have hdn : d ≤ N - q := by omega
        have hdc : d ≤ c - q := by omega
        clear hd
        go_loopw [23] (fun i wx => ∃ i' : Nat, i = .int .i64 i' ∧ i' ≤ d ∧ Hid (Zg wx tb tf N gb cp (bm M k (q + i') 0) ∧ Bx wx lb (lst (bz M k) k) ∧ wx.heap[rb]? = some (.cells #[.bool false, .slice none 0 0] 56 (0, 0)) ∧ Ext X wx)) (fun i _ => d - (intOf i).toNat)
        case atStart => exact ⟨0, rfl, Nat.zero_le _, Lib.hid ⟨hin.out.1.congr fun i j hi hj => by
          unfold bm
          by_cases e : i < q
          · rw [if_pos (by omega), bz_out (by have := HQ.out.1; omega)]
          · rw [if_neg (by omega)], hin.out.2⟩⟩
        case round =>
          clear hin
          obtain ⟨i', rfl, hi', hin⟩ := hrel
          by_cases hlt2 : i' < d
          · obtain ⟨r, hr⟩ : ∃ r, r = q + i' := ⟨_, rfl⟩
            have hrN : r < N := by have := HQ.out.2; omega
            have hkr : k < r := by have := HQ.out.1; omega
            have t2 : wr.cell? ⟨tb, tf + q + i', none⟩ = some (.slice (some ⟨gb r, 0, none⟩) N (cp r)) := by rw [Nat.add_assoc, ← hr]; exact hin.out.1.top r hrN
            have HRR := Lib.hid hr
            clear hr
            go_upto_region 8 with fail
            clear t2
            obtain ⟨pf, Af, nf, cf, kf0, kf1, kfv⟩ := hin.out.1.el r k hrN hlt
            have hbf : bm M k (q + i') 0 r k = bz M k r k := by unfold bm; rw [if_neg (by have := HRR.out; omega)]
            rw [hbf] at kfv
            have HKF := Lib.hid kfv
            clear kfv hbf
            go_upto_region 9 with fail
            have r9 := kn wr _ #[.bool pf, .slice Af nf cf] 56 rfl
            have e9 : Ext wr (wr.alloc (.cells #[.bool pf, .slice Af nf cf] 56)) := Ext.alc (Ext.refl _) _
            obtain ⟨fb, hfb⟩ : ∃ g, g = wr.heap.size := ⟨_, rfl⟩
            have hfX : X.heap.size ≤ fb := by rw [hfb]; exact hin.out.2.2.2.size
            have hfg : ∀ i, i < N → gb i ≠ fb := fun i hi => by have := hin.out.1.lt i hi; omega
            rw [← hfb] at r9 ⊢
            have HW9 : Hid (Zg (wr.alloc (.cells #[.bool pf, .slice Af nf cf] 56)) tb tf N gb cp (bm M k r q) ∧ Bx (wr.alloc (.cells #[.bool pf, .slice Af nf cf] 56)) lb (lst (bz M k) k) ∧ (wr.alloc (.cells #[.bool pf, .slice Af nf cf] 56)).heap[rb]? = some (.cells #[.bool false, .slice none 0 0] 56 (0, 0)) ∧ Ext X (wr.alloc (.cells #[.bool pf, .slice Af nf cf] 56)) ∧ Bx (wr.alloc (.cells #[.bool pf, .slice Af nf cf] 56)) fb (bz M k r k)) :=
              Lib.hid ⟨(hin.out.1.ext e9).congr fun i j hi hj => by
                rw [HRR.out]; unfold bm
                by_cases e : i < q + i'
                · rw [if_pos (.inl e), if_pos (.inl e)]
                · by_cases e2 : i = q + i' ∧ j < q
                  · rw [if_neg (by omega), if_pos (.inr e2), bz_out (by have := HQ.out.1; omega)]
                  · rw [if_neg (by omega), if_neg (by omega)], hin.out.2.1.ext e9, kp hin.out.2.2.1 _, hin.out.2.2.2.trans e9, ⟨pf, Af, nf, cf, r9, HKF.out.ext e9⟩⟩
            have HFB := Lib.hid (And.intro hfX hfg)
            clear r9 e9 hfb hfX hfg hin kf0 kf1 HKF
            generalize wr.alloc (.cells #[.bool pf, .slice Af nf cf] 56) = w9 at *
            go_wp2_with fail
            go_loopw [9] (fun i wx => ∃ j : Nat, i = .int .i64 j ∧ q ≤ j ∧ j ≤ N ∧ Hid (Zg wx tb tf N gb cp (bm M k r j) ∧ Bx wx lb (lst (bz M k) k) ∧ wx.heap[rb]? = some (.cells #[.bool false, .slice none 0 0] 56 (0, 0)) ∧ Ext X wx ∧ Bx wx fb (bz M k r k))) (fun i _ => N - (intOf i).toNat)
            case atStart => exact ⟨q, rfl, Nat.le_refl _, hqN, HW9⟩
            case round =>
              clear HW9
              obtain ⟨j, rfl, hqj, hjN, hin⟩ := hrel
              obtain ⟨wo, rfl⟩ : ∃ w, w = wr := ⟨_, rfl⟩
              by_cases hlj : j < N
              · have hkj : k < j := by have := HQ.out.1; omega
                obtain ⟨pa, Aa, na, ca, ka0, ka1, kav⟩ := hin.out.1.el r j hrN hlj
                obtain ⟨pb, Ab, nb, cb, kb0, kb1, kbv⟩ := hin.out.1.el k k hlt hlt
                obtain ⟨pc, Ac, nc, cc, kc0, kc1, kcv⟩ := hin.out.1.el k j hlt hlj
                obtain ⟨pd, Ad, nd, cd, kd, kdv⟩ := hin.out.2.2.2.2
                obtain ⟨pt_, At, nt, ct, kt, ktv⟩ := hin.out.2.1
                have b1 : bm M k r j r j = bz M k r j := by unfold bm; rw [if_neg (by omega)]
                have b2 : bm M k r j k k = bz M k k k := by unfold bm; rw [if_pos (.inl hkr), bz_out (by omega)]
                have b3 : bm M k r j k j = bz M k k j := by unfold bm; rw [if_pos (.inl hkr), bz_out (by omega)]
                rw [b1] at kav; rw [b2] at kbv; rw [b3] at kcv
                obtain ⟨kd0, kd1, -, hfl⟩ := two kd
                obtain ⟨kt0, kt1, -, hll⟩ := two kt
                have hgr := hin.out.1.lt r hrN
                have hgk := hin.out.1.lt k hlt
                have HV := Lib.hid (And.intro (kav.ext (Ext.drw (Ext.refl _))) (And.intro (kbv.ext (Ext.drw (Ext.refl _))) (And.intro (kcv.ext (Ext.drw (Ext.refl _))) (And.intro (kdv.ext (Ext.drw (Ext.refl _))) (ktv.ext (Ext.drw (Ext.refl _)))))))
                have HKA := Lib.hid (And.intro ka0 ka1); have HKB := Lib.hid (And.intro kb0 kb1); have HKC := Lib.hid (And.intro kc0 kc1); have HKD := Lib.hid (And.intro kd0 kd1); have HKT := Lib.hid (And.intro kt0 kt1)
                have hft := HF.out
                have HFT := Lib.hid (And.intro (hft.el k r j hlt hrN hlj) (And.intro (hft.el k k k hlt hlt hlt) (And.intro (hft.el k k j hlt hlt hlj) (And.intro (hft.el k r k hlt hrN hlt) (And.intro (hft.ls k hlt).1 (And.intro (hft.m1 k r j hkr hkj hrN hlj) (And.intro (hft.m2 k r j hkr hkj hrN hlj) (And.intro (hft.df k r j hkr hkj hrN hlj) (hft.ls k hlt).2))))))))
                clear b1 b2 b3 kav kbv kcv kdv ktv ka0 ka1 kb0 kb1 kc0 kc1 kd0 kd1 kt0 kt1 kd kt hft
                go_upto_region 12 with fail
                refine wp_region_noPanic ?_
                refine wp_split (S := fun X => Ext wo X) 17 (by kernel_rfl) (by kernel_rfl) (Ext.drw (Ext.refl _)) ?_
                simp only [List.take_succ_cons, List.take_zero, List.drop_succ_cons, List.drop_zero]
                refine take_at 0 (some 39) (.slice (some ⟨gb r, 0, none⟩) N (cp r)) rfl rfl (by kernel_rfl) (by kernel_rfl) (by kernel_rfl) (fun _ _ _ h => h) (Or.inl ⟨by rfl, fun w' hSw => ?_⟩) (Ext.drw (Ext.refl _)) ?_
                · skip
                  try clear hSw
                  go_simp
                  all_goals (with_reducible rfl)
                try simp only [Act.put, List.setIfInBounds_toArray, List.set_cons_zero, List.set_cons_succ]
                refine take_at 1 (some 40) (.int .i64 j) rfl rfl (by kernel_rfl) (by kernel_rfl) (by kernel_rfl) (fun _ _ _ h => h) (Or.inl ⟨by rfl, fun w' hSw => ?_⟩) (Ext.drw (Ext.refl _)) ?_
                · skip
                  try clear hSw
                  go_simp
                  all_goals (with_reducible rfl)
                try simp only [Act.put, List.setIfInBounds_toArray, List.set_cons_zero, List.set_cons_succ]
                refine take_at 2 (some 41) (.slice (some ⟨gb r, 0, none⟩) N (cp r)) rfl rfl (by kernel_rfl) (by kernel_rfl) (by kernel_rfl) (fun _ _ _ h => h) (Or.inl ⟨by rfl, fun w' hSw => ?_⟩) (Ext.drw (Ext.refl _)) ?_
                · skip
                  try clear hSw
                  go_simp
                  all_goals (with_reducible rfl)
                try simp only [Act.put, List.setIfInBounds_toArray, List.set_cons_zero, List.set_cons_succ]
                refine take_at 3 (some 42) (.int .i64 j) rfl rfl (by kernel_rfl) (by kernel_rfl) (by kernel_rfl) (fun _ _ _ h => h) (Or.inl ⟨by rfl, fun w' hSw => ?_⟩) (Ext.drw (Ext.refl _)) ?_
                · skip
                  try clear hSw
                  go_simp
                  all_goals (with_reducible rfl)
                try simp only [Act.put, List.setIfInBounds_toArray, List.set_cons_zero, List.set_cons_succ]
                refine take_at 4 (some 43) (.pointer (some ⟨gb r, j * 2, none⟩)) rfl rfl (by kernel_rfl) (by kernel_rfl) (by kernel_rfl) (fun _ _ _ h => h) (Or.inl ⟨by rfl, fun w' hSw => ?_⟩) (Ext.drw (Ext.refl _)) ?_
                · skip
                  try clear hSw
                  go_simp
                  all_goals (with_reducible rfl)
                try simp only [Act.put, List.setIfInBounds_toArray, List.set_cons_zero, List.set_cons_succ]
                refine take_at 5 (some 44) (.agg #[.bool pa, .slice Aa na ca]) rfl rfl (by kernel_rfl) (by kernel_rfl) (by kernel_rfl) (fun _ _ _ h => h) (Or.inl ⟨by rfl, fun w' hSw => ?_⟩) (Ext.drw (Ext.refl _)) ?_
                · have z0 := keepAt hSw hgr HKA.out.1
                  have z1 := keepAt hSw hgr HKA.out.2
                  try clear hSw
                  go_simp
                  all_goals (with_reducible rfl)
                try simp only [Act.put, List.setIfInBounds_toArray, List.set_cons_zero, List.set_cons_succ]
                refine take_at 6 (some 45) (.slice (some ⟨gb k, 0, none⟩) N (cp k)) rfl rfl (by kernel_rfl) (by kernel_rfl) (by kernel_rfl) (fun _ _ _ h => h) (Or.inl ⟨by rfl, fun w' hSw => ?_⟩) (Ext.drw (Ext.refl _)) ?_
                · skip
                  try clear hSw
                  go_simp
                  all_goals (with_reducible rfl)
                try simp only [Act.put, List.setIfInBounds_toArray, List.set_cons_zero, List.set_cons_succ]
                refine take_at 7 (some 46) (.int .i64 k) rfl rfl (by kernel_rfl) (by kernel_rfl) (by kernel_rfl) (fun _ _ _ h => h) (Or.inl ⟨by rfl, fun w' hSw => ?_⟩) (Ext.drw (Ext.refl _)) ?_
                · skip
                  try clear hSw
                  go_simp
                  all_goals (with_reducible rfl)
                try simp only [Act.put, List.setIfInBounds_toArray, List.set_cons_zero, List.set_cons_succ]
                refine take_at 8 (some 47) (.pointer (some ⟨gb k, k * 2, none⟩)) rfl rfl (by kernel_rfl) (by kernel_rfl) (by kernel_rfl) (fun _ _ _ h => h) (Or.inl ⟨by rfl, fun w' hSw => ?_⟩) (Ext.drw (Ext.refl _)) ?_
                · skip
                  try clear hSw
                  go_simp
                  all_goals (with_reducible rfl)
                try simp only [Act.put, List.setIfInBounds_toArray, List.set_cons_zero, List.set_cons_succ]
                refine take_at 9 (some 48) (.agg #[.bool pb, .slice Ab nb cb]) rfl rfl (by kernel_rfl) (by kernel_rfl) (by kernel_rfl) (fun _ _ _ h => h) (Or.inl ⟨by rfl, fun w' hSw => ?_⟩) (Ext.drw (Ext.refl _)) ?_
                · have z0 := keepAt hSw hgk HKB.out.1
                  have z1 := keepAt hSw hgk HKB.out.2
                  try clear hSw
                  go_simp
                  all_goals (with_reducible rfl)
                try simp only [Act.put, List.setIfInBounds_toArray, List.set_cons_zero, List.set_cons_succ]
                refine take_at 10 (some 49) (.slice (some ⟨gb k, 0, none⟩) N (cp k)) rfl rfl (by kernel_rfl) (by kernel_rfl) (by kernel_rfl) (fun _ _ _ h => h) (Or.inl ⟨by rfl, fun w' hSw => ?_⟩) (Ext.drw (Ext.refl _)) ?_
                · skip
                  try clear hSw
                  go_simp
                  all_goals (with_reducible rfl)
                try simp only [Act.put, List.setIfInBounds_toArray, List.set_cons_zero, List.set_cons_succ]
                refine take_at 11 (some 50) (.int .i64 j) rfl rfl (by kernel_rfl) (by kernel_rfl) (by kernel_rfl) (fun _ _ _ h => h) (Or.inl ⟨by rfl, fun w' hSw => ?_⟩) (Ext.drw (Ext.refl _)) ?_
                · skip
                  try clear hSw
                  go_simp
                  all_goals (with_reducible rfl)
                try simp only [Act.put, List.setIfInBounds_toArray, List.set_cons_zero, List.set_cons_succ]
                refine take_at 12 (some 51) (.pointer (some ⟨gb k, j * 2, none⟩)) rfl rfl (by kernel_rfl) (by kernel_rfl) (by kernel_rfl) (fun _ _ _ h => h) (Or.inl ⟨by rfl, fun w' hSw => ?_⟩) (Ext.drw (Ext.refl _)) ?_
                · skip
                  try clear hSw
                  go_simp
                  all_goals (with_reducible rfl)
                try simp only [Act.put, List.setIfInBounds_toArray, List.set_cons_zero, List.set_cons_succ]
                refine take_at 13 (some 52) (.agg #[.bool pc, .slice Ac nc cc]) rfl rfl (by kernel_rfl) (by kernel_rfl) (by kernel_rfl) (fun _ _ _ h => h) (Or.inl ⟨by rfl, fun w' hSw => ?_⟩) (Ext.drw (Ext.refl _)) ?_
                · have z0 := keepAt hSw hgk HKC.out.1
                  have z1 := keepAt hSw hgk HKC.out.2
                  try clear hSw
                  go_simp
                  all_goals (with_reducible rfl)
                try simp only [Act.put, List.setIfInBounds_toArray, List.set_cons_zero, List.set_cons_succ]
                refine take_at 14 (some 53) (.agg #[.bool pd, .slice Ad nd cd]) rfl rfl (by kernel_rfl) (by kernel_rfl) (by kernel_rfl) (fun _ _ _ h => h) (Or.inl ⟨by rfl, fun w' hSw => ?_⟩) (Ext.drw (Ext.refl _)) ?_
                · have z0 := keepAt hSw hfl HKD.out.1
                  have z1 := keepAt hSw hfl HKD.out.2
                  try clear hSw
                  go_simp
                  all_goals (with_reducible rfl)
                try simp only [Act.put, List.setIfInBounds_toArray, List.set_cons_zero, List.set_cons_succ]
                refine take_at 15 (some 54) (.agg #[.bool pt_, .slice At nt ct]) rfl rfl (by kernel_rfl) (by kernel_rfl) (by kernel_rfl) (fun _ _ _ h => h) (Or.inl ⟨by rfl, fun w' hSw => ?_⟩) (Ext.drw (Ext.refl _)) ?_
                · have z0 := keepAt hSw hll HKT.out.1
                  have z1 := keepAt hSw hll HKT.out.2
                  try clear hSw
                  go_simp
                  all_goals (with_reducible rfl)
                try simp only [Act.put, List.setIfInBounds_toArray, List.set_cons_zero, List.set_cons_succ]
                refine wpAnyH_ready (rs := [16]) (by kernel_rfl) (by simp) ?_
                refine AllReadyH.cons rfl (fun K hK => ?_) AllReadyH.nil
                go_simp
                refine (crossed_any _ _ _ _ _ pa pb pc pd pt_ Aa Ab Ac Ad At na nb nc nd nt ca cb cc cd ct _ HV.out.1 HV.out.2.1 HV.out.2.2.1 HV.out.2.2.2.1 HV.out.2.2.2.2 HFT.out.1 HFT.out.2.1 HFT.out.2.2.1 HFT.out.2.2.2.1 HFT.out.2.2.2.2.1 HFT.out.2.2.2.2.2.1 HFT.out.2.2.2.2.2.2.1 HFT.out.2.2.2.2.2.2.2.1 HFT.out.2.2.2.2.2.2.2.2).mono ?_
                rintro e v16 ⟨pz, Az, nz, cz, rfl, hz16, hx16⟩
                have e16 : Ext wo v16 := Ext.trans (Ext.drw (Ext.refl _)) hx16
                try go_wp2_with fail
                refine hK.out _ _ e16 (fun _ => ?_)
                clear hK K
                try simp only [Act.put, List.setIfInBounds_toArray, List.set_cons_zero, List.set_cons_succ]
                refine wpAnyH_done (by kernel_rfl) ?_ _
                refine cut_normal ?_
                rw [← bz_in hkr hkj] at hz16
                have hin2 := Lib.hid (And.intro (hin.out.1.ext e16) (And.intro (hin.out.2.1.ext e16) (And.intro ((Below.block e16 rb (Array.getElem?_eq_some_iff.1 hin.out.2.2.1).1).trans hin.out.2.2.1) (And.intro (hin.out.2.2.2.1.trans e16) (hin.out.2.2.2.2.ext e16)))))
                have HZ16 := Lib.hid hz16
                have q0 := keepAt e16 hgr HKA.out.1
                have q1 := keepAt e16 hgr HKA.out.2
                have q2 := hin2.out.1.free r (j * 2) hrN
                have q3 := hin2.out.1.free r (j * 2 + 1) hrN
                clear hin e16 hx16 hz16
                go_wp2_with fail
                refine NoPanic.normal ?_
                go_wp2
                go_roundw
                case rel =>
                  refine ⟨j + 1, by go_num, by omega, by omega, Lib.hid ⟨(hin2.out.1.set_ hrN hlj HZ16.out).congr fun i j' hi hj => ?_, hin2.out.2.1.st2 (HL.out.1 r hrN).symm q0 q1, ?_, (hin2.out.2.2.2.1.sc (HGB.out r hrN)).sc (HGB.out r hrN), hin2.out.2.2.2.2.st2 (HFB.out.2 r hrN).symm q0 q1⟩⟩
                  · unfold bm
                    by_cases e : i = r ∧ j' = j
                    · obtain ⟨rfl, rfl⟩ := e
                      rw [if_pos ⟨rfl, rfl⟩, if_pos (by omega)]
                    · rw [if_neg e]
                      by_cases e2 : i < r ∨ (i = r ∧ j' < j)
                      · rw [if_pos e2, if_pos (by omega)]
                      · rw [if_neg e2, if_neg (by omega)]
                  · exact (Below.heap_setCell _ _ _ rb (by exact (HR.out.2.2.1 r hrN).symm)).trans ((Below.heap_setCell _ _ _ rb (by exact (HR.out.2.2.1 r hrN).symm)).trans hin2.out.2.2.1)
                case measure => simp [intOf]; omega
              · obtain rfl : j = N := by omega
                have hcg : Zg wo tb tf j gb cp (bm M k (q + (i' + 1)) 0) := hin.out.1.congr fun i j' hi hj => by
                  have hrq := HRR.out
                  unfold bm
                  by_cases e : i < r ∨ i = r
                  · rw [if_pos (by omega), if_pos (by omega)]
                  · rw [if_neg (by omega), if_neg (by omega)]
                have HN := Lib.hid (And.intro hcg (And.intro hin.out.2.1 (And.intro hin.out.2.2.1 hin.out.2.2.2.1)))
                clear hin hcg
                go_wp2
                go_roundw
                case rel => exact ⟨i' + 1, by go_num, by omega, Lib.hid HN.out⟩
                case measure => simp [intOf]; omega
          · obtain rfl : i' = d := by omega
            have hzz : Zg wr tb tf N gb cp (bz M (k + 1)) := hin.out.1.congr fun i j hi hj => by unfold bm; rw [if_pos (by have := HQ.out; omega)]
            have hBX := hin.out.2.1
            obtain ⟨lp, lA, ln, lc, lh, -⟩ := hBX
            obtain ⟨l0, l1, l2, -⟩ := two lh
            obtain ⟨zp, zA, zn, zc, zk0, zk1, zkv⟩ := hzz.el k k hlt hlt
            have hlw : lst (bz M (k + 1)) (k + 1) = bz M (k + 1) k k := by unfold lst; rw [if_neg (by omega), Nat.add_sub_cancel]
            have G1 : Zg ((wr.setCell ⟨lb, 0, none⟩ (.bool zp)).setCell ⟨lb, 1, none⟩ (.slice zA zn zc)) tb tf N gb cp (bz M (k + 1)) := hzz.far2 HL.out.1 (HL.out.2.1 (by omega)) l0 l1
            have G2 : Bx ((wr.setCell ⟨lb, 0, none⟩ (.bool zp)).setCell ⟨lb, 1, none⟩ (.slice zA zn zc)) lb (lst (bz M (k + 1)) (k + 1)) := by rw [hlw]; exact Bx.put hin.out.2.1 zkv
            have G3 : ((wr.setCell ⟨lb, 0, none⟩ (.bool zp)).setCell ⟨lb, 1, none⟩ (.slice zA zn zc)).heap[rb]? = some (.cells #[.bool false, .slice none 0 0] 56 (0, 0)) := (Below.heap_setCell _ _ _ rb (by exact HL.out.2.2.1)).trans ((Below.heap_setCell wr _ _ rb (by exact HL.out.2.2.1)).trans hin.out.2.2.1)
            have G4 : Ext X ((wr.setCell ⟨lb, 0, none⟩ (.bool zp)).setCell ⟨lb, 1, none⟩ (.slice zA zn zc)) := (hin.out.2.2.2.sc HL.out.2.2.2).sc HL.out.2.2.2
            have HGG := Lib.hid (And.intro G1 (And.intro G2 (And.intro G3 G4)))
            clear hzz hlw G1 G2 G3 G4 zkv hin lh
            go_wp2
            go_roundw
            case rel => exact ⟨k + 1, by go_num, by omega, HGG⟩
            case measure => simp [intOf]; omega
    · obtain rfl : k = N := by omega
      obtain ⟨g1, ⟨p, A, n, c', g2, g3⟩, g4, g5⟩ := hin.out
      obtain ⟨a0, a1, -, -⟩ := two g2
      obtain ⟨b0, b1, b2, -⟩ := two g4
      obtain ⟨s0, s1, -, -⟩ := two (set2 g4 (.bool p) (.slice A n c'))
      have FZ : Zv ((wr.setCell ⟨rb, 0, none⟩ (.bool p)).setCell ⟨rb, 1, none⟩ (.slice A n c')) p A n c' (lst (bz M k) k) := ZV.rb g3 ⟨false, none, 0, 0, 56, g4⟩ (.bool p) (.slice A n c')
      have FE : Ext X ((wr.setCell ⟨rb, 0, none⟩ (.bool p)).setCell ⟨rb, 1, none⟩ (.slice A n c')) := (g5.sc HR.out.2.1).sc HR.out.2.1
      have FF := Lib.hid (And.intro FZ FE)
      clear hin g1 g2 g3 g4 g5 FZ FE
      go_wp2
      exact bodyPost_ret (v := .agg #[.bool p, .slice A n c']) (by simp [results, Tryz.results58, go_sem, s0, s1]) rfl ⟨p, A, n, c', rfl, FF.out.1, FF.out.2⟩
end Go.Proofs.YtijhbmdbnnmogaaGreat.G
namespace Go.Proofs.YtijhbmdbnnmogaaGreat.G
open Go.RowKit

/-- m numbers put in from o on -/
def putI (x y : Nat → Int) (o m : Nat) (i : Nat) : Int := if o ≤ i ∧ i < o + m then y (i - o) else x i
set_option maxRecDepth 100000 in
theorem copy_bi (dT sT ty : TypeId) (hd : Tryz.prog.underlying dT = some (.slice 3)) (W : World) (g o dl dc b off sl sc n m : Nat) (x y : Nat → Int) (hg : BI W g n x)
    (hs : ∀ j, j < m → W.cell? ⟨b, off + j, none⟩ = some (.int .i64 (y j))) (hm : m = Nat.min sl dl) (hom : o + m ≤ n) :
    (Builtin.copy_ #[dT, sT] ty #[.slice (some ⟨g, o, none⟩) dl dc, .slice (some ⟨b, off, none⟩) sl sc]).run Tryz.prog W = .ok (.int .i64 m) (W.setRow g (Array.ofFn fun i : Fin n => .int .i64 (putI x y o m i.1))) := by
  have hsz : (Tryz.prog.info? 3).map (·.size) = some 1 := by kernel_rfl
  have hr := run_copy_row (P := Tryz.prog) W dT sT ty 3 g o dl dc ⟨b, off, none⟩ sl sc _ 3 ((List.range m).map fun j => Value.int .i64 (y j)) hd hsz hg (by simp [hm]) (fun j v hj => by
    have hjm : j < m := by have := (List.getElem?_eq_some_iff.1 hj).1; simpa using this
    have e : (⟨b, off, none⟩ : Addr).add j = ⟨b, off + j, none⟩ := by unfold Addr.add; split <;> simp_all
    rw [e, hs j hjm]
    simp [hjm] at hj
    rw [hj]) (by simp; omega) (fun v hv => by
    simp at hv
    obtain ⟨a, -, rfl⟩ := hv
    rfl)
  rw [hr]
  have e1 : ((List.range m).map fun j => Value.int .i64 (y j)).length = m := by simp
  rw [e1]
  have e2 : ((Array.ofFn fun i : Fin n => Value.int .i64 (x i.1)).toList.take o ++ ((List.range m).map fun j => Value.int .i64 (y j)) ++ (Array.ofFn fun i : Fin n => Value.int .i64 (x i.1)).toList.drop (o + m)).toArray = Array.ofFn fun i : Fin n => Value.int .i64 (putI x y o m i.1) := by
    apply Array.ext
    · simp; omega
    · intro i h1 h2
      simp only [Array.size_ofFn] at h2
      simp only [List.getElem_toArray, Array.getElem_ofFn]
      unfold putI
      by_cases h3 : i < o
      · rw [if_neg (by omega), List.getElem_append_left (by simp; omega), List.getElem_append_left (by simp; omega)]
        simp
      · by_cases h4 : i < o + m
        · rw [if_pos (by omega), List.getElem_append_left (by simp; omega), List.getElem_append_right (by simp; omega)]
          simp
          congr 1
          omega
        · rw [if_neg (by omega), List.getElem_append_right (by simp; omega)]
          simp
          congr 1
          omega
  rw [e2]
  rfl
theorem BI.row {W : World} {g n : Nat} {x y : Nat → Int} (h : BI W g n x) : BI (W.setRow g (Array.ofFn fun i : Fin n => .int .i64 (y i.1))) g n y := setRow_heap W g _ _ 3 (0, 0) h
theorem Ext.row {X Y : World} (h : Ext X Y) {g : Nat} (hg : X.heap.size ≤ g) (cs : Array Value) : Ext X (Y.setRow g cs) :=
  ⟨h.os, h.tape, h.output, by rw [setRow_size]; exact h.size, fun k hk => (setRow_other Y g k cs (by omega)).trans (h.block k hk)⟩

theorem mul_one_any (N : Nat) (hN : N ≤ 1000) (w : World) : Calls Tryz.prog 167 #[.int .u64 1, .int .u64 (N : Int)] w fun e w' => e = .returned (.tuple #[.int .u64 0, .int .u64 (N : Int)]) ∧ w' = w := by
  have h := Tryz.bits_Mul 1 N (by omega) (by omega) w
  have e1 : 1 * N / 18446744073709551616 = 0 := by omega
  have e2 : 1 * N % 18446744073709551616 = N := by omega
  rw [e1, e2] at h
  exact h

set_option maxHeartbeats 4000000 in
set_option maxRecDepth 100000 in
theorem repeat_any (b off c N : Nat) (z : Int) (W : World) (hz : W.cell? ⟨b, off, none⟩ = some (.int .i64 z)) (hb : b < W.heap.size) (hN : N ≤ 1000) :
    Calls Tryz.prog 116 #[.slice (some ⟨b, off, none⟩) 1 c, .int .i64 N] W fun e W' => ∃ g, e = .returned (.slice (some ⟨g, 0, none⟩) N N) ∧ W.heap.size ≤ g ∧ BI W' g N (fun _ => z) ∧ Ext W W' := by
  have hm1 : ∀ w, (Instr.makeSlice 22 (.int .i64 (N : Int)) (.int .i64 (N : Int))).run Tryz.prog w = .ok (.slice (some ⟨w.heap.size, 0, none⟩) N N) (w.alloc (.cells (Array.ofFn fun _ : Fin N => .int .i64 0) 3)) := fun w => make_one 22 3 _ 8 Tryz.underlying22 info3 rfl (by omega) N (by omega) w
  go_enter Tryz.func116, Tryz.ntmps116
  go_wp2_with fail
  refine (mul_one_any N hN _).mono ?_
  rintro e w1 ⟨rfl, rfl⟩
  go_upto_region 7 with fail
  have y1 : BI (w1.alloc (.cells (Array.ofFn fun _ : Fin N => Value.int .i64 0) 3)) w1.heap.size N (fun _ => 0) := heap_alloc_new w1 _
  have e1 : Ext w1 (w1.alloc (.cells (Array.ofFn fun _ : Fin N => Value.int .i64 0) 3)) := Ext.alc (Ext.refl _) _
  obtain ⟨g, hg⟩ : ∃ g, g = w1.heap.size := ⟨_, rfl⟩
  rw [← hg] at y1 ⊢
  have hgW : w1.heap.size ≤ g := by omega
  have z1 := keepAt e1 hb hz
  have Y1 := Lib.hid (And.intro y1 e1)
  clear y1 e1 hg
  generalize w1.alloc (.cells (Array.ofFn fun _ : Fin N => Value.int .i64 0) 3) = w2 at *
  obtain ⟨m, hm⟩ : ∃ m, m = Nat.min 1 N := ⟨_, rfl⟩
  have hcp : ∀ ty, (Builtin.copy_ #[22, 22] ty #[.slice (some ⟨g, 0, none⟩) N N, .slice (some ⟨b, off, none⟩) 1 c]).run Tryz.prog w2 = .ok (.int .i64 m) (w2.setRow g (Array.ofFn fun i : Fin N => .int .i64 (putI (fun _ => 0) (fun _ => z) 0 m i.1))) := fun ty =>
    copy_bi 22 22 ty Tryz.underlying22 w2 g 0 N N b off 1 c N m _ _ Y1.out.1 (fun j hj => by
      have hmin : m ≤ 1 := by rw [hm]; exact Nat.min_le_left _ _
      obtain rfl : j = 0 := by omega
      exact z1) hm (by rw [hm, Nat.zero_add]; exact Nat.min_le_right _ _)
  have hmN : m ≤ N := by rw [hm]; exact Nat.min_le_right _ _
  have hm01 : N = 0 ∨ m = 1 := by
    rcases Nat.eq_zero_or_pos N with h | h
    · exact .inl h
    · right; rw [hm]; exact Nat.min_eq_left h
  have HM := Lib.hid hm01
  clear hm hm01
  go_upto_region 8 with fail
  clear hcp z1 hz hb
  have r1 : BI (w2.setRow g (Array.ofFn fun i : Fin N => .int .i64 (putI (fun _ => 0) (fun _ => z) 0 m i.1))) g N (putI (fun _ => 0) (fun _ => z) 0 m) := Y1.out.1.row
  have r2 : Ext w1 (w2.setRow g (Array.ofFn fun i : Fin N => .int .i64 (putI (fun _ => 0) (fun _ => z) 0 m i.1))) := Y1.out.2.row hgW _
  have HR := Lib.hid (And.intro r1 r2)
  clear r1 r2 Y1
  generalize w2.setRow g (Array.ofFn fun i : Fin N => Value.int .i64 (putI (fun _ => 0) (fun _ => z) 0 m i.1)) = w3 at *
  go_loopw [8] (fun i wr => ∃ k : Nat, i = .int .i64 k ∧ k ≤ N ∧ Hid ((N = 0 ∨ 1 ≤ k) ∧ (∃ x, BI wr g N x ∧ ∀ v, v < k → x v = z) ∧ Ext w1 wr)) (fun i _ => N - (intOf i).toNat)
  case atStart => exact ⟨m, rfl, hmN, Lib.hid ⟨HM.out.imp id (fun h => by omega), ⟨_, HR.out.1, fun v hv => by unfold putI; rw [if_pos (by omega)]⟩, HR.out.2⟩⟩
  case round =>
    clear HR HM
    obtain ⟨k, rfl, hk, hin⟩ := hrel
    obtain ⟨wo, rfl⟩ : ∃ w, w = wr := ⟨_, rfl⟩
    by_cases hlt : k < N
    · obtain ⟨x, hx, hxz⟩ := hin.out.2.1
      have hk1 : 1 ≤ k := by rcases hin.out.1 with h | h <;> omega
      obtain ⟨m', hm'⟩ : ∃ m', m' = Nat.min k (N - k) := ⟨_, rfl⟩
      have hm1' : m' ≤ k := by rw [hm']; exact Nat.min_le_left _ _
      have hm2' : m' ≤ N - k := by rw [hm']; exact Nat.min_le_right _ _
      have hm3' : 1 ≤ m' := by rw [hm']; exact Nat.le_min.2 ⟨hk1, by omega⟩
      have hx2 : BI wo.drew g N x := Bk.drew hx
      have hcp : ∀ ty, (Builtin.copy_ #[22, 22] ty #[.slice (some ⟨g, k, none⟩) (N - k) (N - k), .slice (some ⟨g, 0, none⟩) k N]).run Tryz.prog wo.drew = .ok (.int .i64 m') (wo.drew.setRow g (Array.ofFn fun i : Fin N => .int .i64 (putI x x k m' i.1))) := fun ty =>
        copy_bi 22 22 ty Tryz.underlying22 wo.drew g k (N - k) (N - k) g 0 k N N m' x x hx2 (fun j hj => by rw [Nat.zero_add]; exact Bk.cell hx2 (by omega)) hm' (by omega)
      have hr1 : BI (wo.drew.setRow g (Array.ofFn fun i : Fin N => .int .i64 (putI x x k m' i.1))) g N (putI x x k m') := hx2.row
      have hr2 : Ext w1 (wo.drew.setRow g (Array.ofFn fun i : Fin N => .int .i64 (putI x x k m' i.1))) := (hin.out.2.2.drw).row hgW _
      have HR := Lib.hid (And.intro hr1 hr2)
      have HX := Lib.hid hxz
      have hsub : ((N : Int) - (k : Int)) = ((N - k : Nat) : Int) := by omega
      have hNk : ¬ N = k := by omega
      have HWO : Hid (Ext w1 wo.drew) := Lib.hid hin.out.2.2.drw
      clear hr1 hr2 hx hx2 hin hm' hxz
      go_upto_region 9 with fail
      refine wp_region_noPanic ?_
      refine wp_split (S := fun X => Ext w1 X) 8 (by kernel_rfl) (by kernel_rfl) (HWO.out) ?_
      simp only [List.take_succ_cons, List.take_zero, List.drop_succ_cons, List.drop_zero]
      refine take_at 0 (some 38) (.int .i64 k) rfl rfl (by kernel_rfl) (by kernel_rfl) (by kernel_rfl) (fun _ _ _ h => h) (Or.inl ⟨by rfl, fun w' hSw => ?_⟩) (HWO.out) ?_
      · skip
        try clear hSw
        go_simp
        all_goals (with_reducible rfl)
      try simp only [Act.put, List.setIfInBounds_toArray, List.set_cons_zero, List.set_cons_succ]
      refine take_at 1 (some 39) (.slice (some ⟨g, 0, none⟩) N N) rfl rfl (by kernel_rfl) (by kernel_rfl) (by kernel_rfl) (fun _ _ _ h => h) (Or.inl ⟨by rfl, fun w' hSw => ?_⟩) (HWO.out) ?_
      · skip
        try clear hSw
        go_simp
        all_goals (with_reducible rfl)
      try simp only [Act.put, List.setIfInBounds_toArray, List.set_cons_zero, List.set_cons_succ]
      refine take_at 2 (some 40) (.int .i64 k) rfl rfl (by kernel_rfl) (by kernel_rfl) (by kernel_rfl) (fun _ _ _ h => h) (Or.inl ⟨by rfl, fun w' hSw => ?_⟩) (HWO.out) ?_
      · skip
        try clear hSw
        go_simp
        all_goals (with_reducible rfl)
      try simp only [Act.put, List.setIfInBounds_toArray, List.set_cons_zero, List.set_cons_succ]
      refine take_at 3 (some 41) (.slice (some ⟨g, k, none⟩) (N - k) (N - k)) rfl rfl (by kernel_rfl) (by kernel_rfl) (by kernel_rfl) (fun _ _ _ h => h) (Or.inl ⟨by rfl, fun w' hSw => ?_⟩) (HWO.out) ?_
      · skip
        try clear hSw
        go_simp
        all_goals (with_reducible rfl)
      try simp only [Act.put, List.setIfInBounds_toArray, List.set_cons_zero, List.set_cons_succ]
      refine take_at 4 (some 42) (.slice (some ⟨g, 0, none⟩) N N) rfl rfl (by kernel_rfl) (by kernel_rfl) (by kernel_rfl) (fun _ _ _ h => h) (Or.inl ⟨by rfl, fun w' hSw => ?_⟩) (HWO.out) ?_
      · skip
        try clear hSw
        go_simp
        all_goals (with_reducible rfl)
      try simp only [Act.put, List.setIfInBounds_toArray, List.set_cons_zero, List.set_cons_succ]
      refine take_at 5 (some 43) (.int .i64 k) rfl rfl (by kernel_rfl) (by kernel_rfl) (by kernel_rfl) (fun _ _ _ h => h) (Or.inl ⟨by rfl, fun w' hSw => ?_⟩) (HWO.out) ?_
      · skip
        try clear hSw
        go_simp
        all_goals (with_reducible rfl)
      try simp only [Act.put, List.setIfInBounds_toArray, List.set_cons_zero, List.set_cons_succ]
      refine take_at 6 (some 44) (.slice (some ⟨g, 0, none⟩) k N) rfl rfl (by kernel_rfl) (by kernel_rfl) (by kernel_rfl) (fun _ _ _ h => h) (Or.inl ⟨by rfl, fun w' hSw => ?_⟩) (HWO.out) ?_
      · skip
        try clear hSw
        go_simp
        all_goals (with_reducible rfl)
      try simp only [Act.put, List.setIfInBounds_toArray, List.set_cons_zero, List.set_cons_succ]
      refine wpAnyH_ready (rs := [7]) (by kernel_rfl) (by simp) ?_
      refine AllReadyH.cons rfl (fun K hK => ?_) AllReadyH.nil
      go_simp
      refine hK.out _ _ ?_ (fun _ => ?_)
      · exact HWO.out.row hgW _
      clear hK K
      try simp only [Act.put, List.setIfInBounds_toArray, List.set_cons_zero, List.set_cons_succ]
      refine wpAnyH_done (by kernel_rfl) ?_ _
      refine cut_normal ?_
      clear hcp
      generalize wo.drew.setRow g (Array.ofFn fun i : Fin N => Value.int .i64 (putI x x k m' i.1)) = w5 at *
      go_wp2_with fail
      refine NoPanic.normal ?_
      go_wp2
      go_roundw
      case rel =>
        refine ⟨k + m', by go_num, by omega, Lib.hid ⟨.inr (by omega), ⟨_, HR.out.1, fun v hv => ?_⟩, HR.out.2⟩⟩
        unfold putI
        by_cases e : v < k
        · rw [if_neg (by omega)]; exact HX.out v e
        · rw [if_pos (by omega)]; exact HX.out _ (by omega)
      case measure => simp [intOf]; omega
    · obtain rfl : k = N := by omega
      have HF := Lib.hid hin.out.2
      clear hin
      go_wp2
      go_ret
      obtain ⟨⟨x, hx, hxz⟩, he⟩ := HF.out
      exact ⟨g, rfl, hgW, Bk.congr hx (fun v hv => by rw [hxz v hv]), he⟩
end Go.Proofs.YtijhbmdbnnmogaaGreat.G
