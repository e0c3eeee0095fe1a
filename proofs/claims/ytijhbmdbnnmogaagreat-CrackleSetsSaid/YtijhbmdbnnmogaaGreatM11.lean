/- Walks: the reference's cuts. · The reference's Bonds: what isBond answers. -/
import Derived.Test.YtijhbmdbnnmogaaGreatM10
namespace Go.Proofs.YtijhbmdbnnmogaaGreat.G
open Go.RowKit

theorem shl_30 (r : Nat) (h : r ≤ 30) : wrap64 ((2 : Int) ^ r) = ((2 ^ r : Nat) : Int) := by
  have h1 : 2 ^ r ≤ 1073741824 := Nat.le_trans (Nat.pow_le_pow_right (by omega) h) (by decide)
  rw [pow_shl2]
  generalize 2 ^ r = P at *
  unfold wrap64
  omega
theorem edn_no {T : Nat → Bool} {m : Nat → Nat} {d : Nat} (h : (T (m d) && !T (m (rev d))) = false) : edn T m (d + 1) = edn T m d := by
  conv => lhs; unfold edn
  rw [h]; rfl
theorem edn_yes {T : Nat → Bool} {m : Nat → Nat} {d : Nat} (h : (T (m d) && !T (m (rev d))) = true) : edn T m (d + 1) = edn T m d ||| 2 ^ (d / 2) := by
  conv => lhs; unfold edn
  rw [if_pos h]
theorem bb_ne_bi {w : World} {g h n k : Nat} {s : Nat → Bool} {x : Nat → Int} (h1 : BB w g n s) (h2 : BI w h k x) : h ≠ g := by
  intro e
  subst e
  have h3 : some (Obj.cells _ 4 (0, 0)) = some (Obj.cells _ 3 (0, 0)) := h1.symm.trans h2
  injection h3 with h3
  injection h3 with _ h4 _
  cases h4
set_option maxHeartbeats 8000000 in
set_option maxRecDepth 100000 in
theorem cutsR_any (n : Nat) (f : Nat → Int) (NV : Value) (W : World) (hN : Il W NV n f) (hM : Mp n f) (hn12 : n / 2 ≤ 12) (m mp : Nat → Nat) (hm : Nm n 1 (fun _ => tn f) m) (hp : Nm n 2 (pt f) mp) :
    Calls Tryz.prog 72 #[.agg #[NV]] W fun r W' => ∃ (g : Nat) (ct : Nat → Bool), r = .returned (.slice (some ⟨g, 0, none⟩) (2 ^ (n / 2)) (2 ^ (n / 2))) ∧ BB W' g (2 ^ (n / 2)) ct ∧ (∀ c, c < 2 ^ (n / 2) → (ct c = true ↔ Mk n m mp n c)) ∧ Ext W W' := by
  have HN := Lib.hid hN; have HMM := Lib.hid (And.intro hM (And.intro hm hp))
  have HEV := Lib.hid hM.even
  have hn24 : n ≤ 25 := by omega
  obtain ⟨A, c, rfl, hac, hcm, -⟩ := hN
  clear hM hm hp
  obtain ⟨E, hE⟩ : ∃ E, E = n / 2 := ⟨_, rfl⟩
  have hd2 : ((n : Int)).tdiv 2 = (E : Int) := by rw [hE]; exact (Int.ofNat_tdiv n 2).symm
  rw [← hE] at hn12
  rw [← hE]
  have HE : Hid (n = 2 * E) := Lib.hid (by have := HEV.out; omega)
  clear hE
  have hsh : wrap64 ((2 : Int) ^ E) = ((2 ^ E : Nat) : Int) := shl_twelve E hn12
  obtain ⟨P, hP⟩ : ∃ P, P = 2 ^ E := ⟨_, rfl⟩
  rw [← hP] at hsh
  have hP2 : P ≤ 4096 := by rw [hP]; exact Nat.le_trans (Nat.pow_le_pow_right (by omega) hn12) (by decide)
  rw [← hP]
  have HP := Lib.hid hP
  clear hP
  have hm1 : ∀ w, (Instr.makeSlice 25 (.int .i64 (P : Int)) (.int .i64 (P : Int))).run Tryz.prog w = .ok (.slice (some ⟨w.heap.size, 0, none⟩) P P) (w.alloc (.cells (Array.ofFn fun _ : Fin P => .bool false) 4)) := fun w => make_one 25 4 _ 1 Tryz.underlying25 info4 rfl (by omega) P (by omega) w
  go_enter Tryz.func72, Tryz.ntmps72
  go_upto_region 1 with fail
  have bb := al1 W (.cells #[.slice A n c] 24)
  obtain ⟨m0, -, mz⟩ := uno (heap_alloc_new W (.cells #[.slice A n c] 24))
  generalize W.alloc (.cells #[.slice A n c] 24) = W1 at *
  have HB : Hid (Ext W W1) := Lib.hid bb
  have HM0 := Lib.hid m0
  clear bb
  go_upto_region 2 with fail
  have y1 : BB (W1.alloc (.cells (Array.ofFn fun _ : Fin P => Value.bool false) 4)) W1.heap.size P (fun _ => false) := heap_alloc_new W1 _
  have y2 : Ext W (W1.alloc (.cells (Array.ofFn fun _ : Fin P => Value.bool false) 4)) := HB.out.alc _
  have m0' : (W1.alloc (.cells (Array.ofFn fun _ : Fin P => Value.bool false) 4)).cell? ⟨W.heap.size, 0, none⟩ = some (.slice A n c) := keepAt (Ext.alc (Ext.refl W1) _) mz HM0.out
  have mz' : W.heap.size < (W1.alloc (.cells (Array.ofFn fun _ : Fin P => Value.bool false) 4)).heap.size := by simp; omega
  have hgW : W.heap.size ≤ W1.heap.size := HB.out.size
  obtain ⟨gO, hgO⟩ : ∃ g, g = W1.heap.size := ⟨_, rfl⟩
  rw [← hgO] at y1 hgW
  rw [← hgO]
  generalize W1.alloc (.cells (Array.ofFn fun _ : Fin P => Value.bool false) 4) = W2 at *
  have HY := Lib.hid (And.intro y1 (And.intro y2 m0'))
  have hgO2 : gO < W2.heap.size := Bk.lt y1
  clear y1 y2 m0 m0' hgO hm1 hd2
  refine wp_region_noPanic ?_
  refine wp_region_held_drew (S := fun X => Ext W2 X) (by kernel_rfl) (Ext.drw (Ext.refl _)) (fun _ => ?_)
  refine take_at 0 (some 21) (.agg #[.slice A n c]) rfl rfl (by kernel_rfl) (by kernel_rfl) (by kernel_rfl) (fun _ _ _ h => h) (Or.inl ⟨by rfl, fun w' hSw => ?_⟩) (Ext.drw (Ext.refl _)) ?_
  · have z0 := keepAt hSw mz' HY.out.2.2
    try clear hSw
    go_simp
    all_goals (with_reducible rfl)
  try simp only [Act.put, List.setIfInBounds_toArray, List.set_cons_zero, List.set_cons_succ]
  refine take_at 2 (some 23) (.agg #[.slice A n c]) rfl rfl (by kernel_rfl) (by kernel_rfl) (by kernel_rfl) (fun _ _ _ h => h) (Or.inl ⟨by rfl, fun w' hSw => ?_⟩) (Ext.drw (Ext.refl _)) ?_
  · have z0 := keepAt hSw mz' HY.out.2.2
    try clear hSw
    go_simp
    all_goals (with_reducible rfl)
  try simp only [Act.put, List.setIfInBounds_toArray, List.set_cons_zero, List.set_cons_succ]
  refine wpAnyH_ready (rs := [1]) (by kernel_rfl) (by simp) ?_
  refine AllReadyH.cons rfl (fun K hK => ?_) AllReadyH.nil
  go_simp
  refine (vertexR_any n f _ _ (HN.out.ext (HY.out.2.1.trans (Ext.drw (Ext.refl _)))) HMM.out.1 m HMM.out.2.1).mono ?_
  rintro e v1 ⟨gv, rfl, hb_v, hb1⟩
  have e1 : Ext W2 v1 := (Ext.drw (Ext.refl _)).trans hb1
  try go_wp2_with fail
  refine hK.out _ _ e1 (fun _ => ?_)
  clear hK K
  try simp only [Act.put, List.setIfInBounds_toArray, List.set_cons_zero, List.set_cons_succ]
  refine wpAnyH_ready (rs := [3]) (by kernel_rfl) (by simp) ?_
  refine AllReadyH.cons rfl (fun K hK => ?_) AllReadyH.nil
  go_simp
  refine (partR_any n f _ _ (HN.out.ext (HY.out.2.1.trans e1)) HMM.out.1 mp HMM.out.2.2).mono ?_
  rintro e v3 ⟨gp, rfl, hb_p, hb3⟩
  have e3 : Ext W2 v3 := (e1).trans hb3
  try go_wp2_with fail
  refine hK.out _ _ e3 (fun _ => ?_)
  clear hK K
  try simp only [Act.put, List.setIfInBounds_toArray, List.set_cons_zero, List.set_cons_succ]
  refine take_at 4 (some 4) (.slice (some ⟨gv, 0, none⟩) n n) rfl rfl (by kernel_rfl) (by kernel_rfl) (by kernel_rfl) (fun _ _ _ h => h) (Or.inl ⟨by rfl, fun w' hSw => ?_⟩) (e3) ?_
  · skip
    try clear hSw
    go_simp
    all_goals (with_reducible rfl)
  try simp only [Act.put, List.setIfInBounds_toArray, List.set_cons_zero, List.set_cons_succ]
  refine take_at 5 (some 5) (.slice (some ⟨gp, 0, none⟩) n n) rfl rfl (by kernel_rfl) (by kernel_rfl) (by kernel_rfl) (fun _ _ _ h => h) (Or.inl ⟨by rfl, fun w' hSw => ?_⟩) (e3) ?_
  · skip
    try clear hSw
    go_simp
    all_goals (with_reducible rfl)
  try simp only [Act.put, List.setIfInBounds_toArray, List.set_cons_zero, List.set_cons_succ]
  refine wpAnyH_done (by kernel_rfl) ?_ _
  refine NoPanic.normal ?_
  have HV := Lib.hid (And.intro (BI.ext hb_v hb3) (And.intro hb_p (And.intro (BB.ext HY.out.1 e3) (HY.out.2.1.trans e3))))
  have hne1 := bb_ne_bi HV.out.2.2.1 HV.out.1
  have hne2 := bb_ne_bi HV.out.2.2.1 HV.out.2.1
  have HNE := Lib.hid (And.intro hne1 hne2)
  have hidm : ∀ d, d < n → m d < n ∧ m (m d) = m d := fun d hd => ⟨by have := HMM.out.2.1.le_self hd; omega, HMM.out.2.1.idem hd⟩
  have HID := Lib.hid hidm
  have hgO3 : gO < v3.heap.size := Bk.lt HV.out.2.2.1
  clear hb_v hb_p hb1 hb3 e1 e3 hne1 hne2 hidm HY
  go_wp2_with fail
  go_loopw [27] (fun i wr => ∃ k : Nat, i = .int .i64 k ∧ k ≤ n ∧ Hid (∃ ct, BB wr gO P ct ∧ (∀ c, c < P → (ct c = true ↔ Mk n m mp k c)) ∧ BI wr gv n (fun d => ((m d : Nat) : Int)) ∧ BI wr gp n (fun d => ((mp d : Nat) : Int)) ∧ Ext W wr)) (fun i _ => n - (intOf i).toNat)
  case atStart => exact ⟨0, rfl, Nat.zero_le _, Lib.hid ⟨_, HV.out.2.2.1, fun c _ => ⟨fun h => absurd h (by simp), fun ⟨_, _, h, _⟩ => absurd h (Nat.not_lt_zero _)⟩, HV.out.1, HV.out.2.1, HV.out.2.2.2⟩⟩
  case round =>
    clear HV
    obtain ⟨k, rfl, hk, hin⟩ := hrel
    obtain ⟨ct, hct, hmk, h3, h4, h5⟩ := hin.out
    have HF := Lib.hid (And.intro hct (And.intro hmk (And.intro h3 (And.intro h4 h5))))
    clear hin hct hmk h3 h4 h5
    by_cases hlt : k < n
    · have c1 := Bk.cell HF.out.2.2.2.1 hlt
      dsimp only at c1
      obtain ⟨pk, hpk⟩ : ∃ q, q = mp k := ⟨_, rfl⟩
      rw [← hpk] at c1
      have HPK := Lib.hid hpk
      clear hpk
      by_cases hpp : k = pk
      · subst hpp
        have hbe : ((k : Int) != (k : Int)) = false := by simp
        go_wp2_with fail
        obtain ⟨O, hO⟩ : ∃ O, O = On m mp k := ⟨_, rfl⟩
        have HO := Lib.hid hO
        clear hO c1
        obtain ⟨wA, hwA⟩ : ∃ w, w = wr := ⟨_, rfl⟩
        rw [← hwA] at HF ⊢
        clear hwA
        have hgA : gO < wA.heap.size := Bk.lt HF.out.1
        go_loopw [8, 37] (fun v i wx => ∃ j : Nat, i = .int .i64 j ∧ j ≤ n ∧ Hid (∃ y, Qs wx wA.heap.size v (ek O j) y ∧ Es O j y ∧ Ext wA wx)) (fun _ i _ => n - (intOf i).toNat)
        case atStart => exact ⟨0, rfl, Nat.zero_le _, Lib.hid ⟨fun _ => 0, Qs.nil _ _ _, fun e he => by omega, Ext.refl _⟩⟩
        case round =>
          obtain ⟨j, rfl, hj, hin⟩ := hrel
          obtain ⟨y, g1, g2, g3⟩ := hin.out
          have HG := Lib.hid (And.intro g1 (And.intro g2 g3))
          clear hin g1 g2 g3
          by_cases hlt2 : j < n
          · have c2 := Bk.cell (BI.ext HF.out.2.2.1 HG.out.2.2) hlt2
            have c3 := Bk.cell (BI.ext HF.out.2.2.2.1 HG.out.2.2) hlt2
            obtain ⟨mj, hmj⟩ : ∃ q, q = m j := ⟨_, rfl⟩
            obtain ⟨pj, hpj⟩ : ∃ q, q = mp j := ⟨_, rfl⟩
            rw [← hmj] at c2
            rw [← hpj] at c3
            have hOj : O j = (decide (mj = j) && decide (pj = k)) := by rw [HO.out, hmj, hpj]; rfl
            have HOJ := Lib.hid hOj
            clear hmj hpj hOj
            by_cases e1 : mj = j
            · subst e1
              have hbe1 : ((mj : Int) == (mj : Int)) = true := by simp
              by_cases e2 : pj = k
              · subst e2
                have hbe2 : ((pj : Int) == (pj : Int)) = true := by simp
                have HSK : Hid (O mj = true) := Lib.hid (by rw [HOJ.out]; simp)
                obtain ⟨l, hl⟩ : ∃ l, l = ek O mj := ⟨_, rfl⟩
                have hl3 : l ≤ 25 := by have := ek_le O mj; omega
                have HL := Lib.hid hl
                have r1 := HG.out.1
                rw [← hl] at r1
                have HR := Lib.hid r1
                clear hl r1
                obtain ⟨i0, hi, hz0, hz1, hz2⟩ := info_parts info3
                go_upto_region 12 with fail
                go_wp2_with (at_builtin; refine wpList_append_q rfl _ _ 22 rfl i0 Tryz.underlying22 hi hz0 hz1 hz2 wA.heap.size _ l y rfl ?qs ?base ⟨wr.heap.size, 0, none⟩ 1 mj rfl ?cell ?nlim ?_)
                case qs => exact HR.out.ext (Ext.alc (Ext.refl _) _)
                case base => have := HG.out.2.2.size; simp; omega
                case nlim => omega
                intro v' w9 hq4 hgr
                have z4 := hgr.ext (HG.out.2.2.alc _) (fun b hb => (HR.out.1 b hb).1)
                have HH := Lib.hid (And.intro hq4 z4)
                clear hq4 hgr z4
                go_wp2
                go_roundw
                case rel => exact ⟨mj + 1, by go_num, by omega, Lib.hid ⟨_, by rw [ek_sx HSK.out, ← HL.out]; exact HH.out.1, by have := HG.out.2.1.up_ HSK.out; rw [← HL.out] at this; exact this, HH.out.2⟩⟩
                case measure => simp [intOf]; omega
              · have hbe2 : ((pj : Int) == (k : Int)) = false := by simp; omega
                have HSK : Hid (O mj = false) := Lib.hid (by rw [HOJ.out]; simp [e2])
                go_wp2
                go_roundw
                case rel => exact ⟨mj + 1, by go_num, by omega, Lib.hid ⟨y, by rw [ek_no HSK.out]; exact HG.out.1, HG.out.2.1.no HSK.out, HG.out.2.2⟩⟩
                case measure => simp [intOf]; omega
            · have hbe1 : ((j : Int) == (mj : Int)) = false := by simp; omega
              have HSK : Hid (O j = false) := Lib.hid (by rw [HOJ.out]; simp [e1])
              go_wp2
              go_roundw
              case rel => exact ⟨j + 1, by go_num, by omega, Lib.hid ⟨y, by rw [ek_no HSK.out]; exact HG.out.1, HG.out.2.1.no HSK.out, HG.out.2.2⟩⟩
              case measure => simp [intOf]; omega
          · obtain rfl : j = n := by omega
            obtain ⟨-, A9, c9, rfl, hn9, hc9, -⟩ := HG.out.1
            have hK25 : ek O j ≤ 25 := by have := ek_le O j; omega
            have hshK : wrap64 ((2 : Int) ^ ek O j) = ((2 ^ ek O j : Nat) : Int) := shl_30 _ (by omega)
            obtain ⟨R, hR⟩ : ∃ R, R = 2 ^ ek O j := ⟨_, rfl⟩
            rw [← hR] at hshK
            have hR2 : R ≤ 33554432 := by rw [hR]; exact Nat.le_trans (Nat.pow_le_pow_right (by omega) hK25) (by decide)
            have HRR := Lib.hid hR
            have hc9b : c9 ≤ 9223372036854775807 := by unfold maxLen at hc9; omega
            clear hR hc9
            go_wp2_with fail
            rw [hshK]
            clear hshK
            have HWL := HG
            clear HG
            go_loopw [61] (fun i wx => ∃ z : Nat, i = .int .i64 z ∧ z ≤ R ∧ Hid (∃ ct', BB wx gO P ct' ∧ (∀ c', c' < P → (ct' c' = true ↔ (Mk j m mp k c' ∨ ∃ z', z' < z ∧ c' = edn (Tz O z') m j))) ∧ BI wx gv j (fun d => ((m d : Nat) : Int)) ∧ BI wx gp j (fun d => ((mp d : Nat) : Int)) ∧ Qs wx wA.heap.size (.slice A9 (ek O j) c9) (ek O j) y ∧ Ext W wx)) (fun i _ => R - (intOf i).toNat)
            case atStart =>
              refine ⟨0, rfl, Nat.zero_le _, Lib.hid ⟨ct, BB.ext HF.out.1 HWL.out.2.2, fun c' hc' => ?_, BI.ext HF.out.2.2.1 HWL.out.2.2, BI.ext HF.out.2.2.2.1 HWL.out.2.2, HWL.out.1, HF.out.2.2.2.2.trans HWL.out.2.2⟩⟩
              rw [HF.out.2.1 c' hc']
              exact ⟨.inl, fun h => h.elim id fun ⟨_, h, _⟩ => absurd h (Nat.not_lt_zero _)⟩
            case round =>
              obtain ⟨z, rfl, hz, hin⟩ := hrel
              obtain ⟨ct', q1, q2, q3, q4, q5, q6⟩ := hin.out
              have HC := Lib.hid (And.intro q1 (And.intro q2 (And.intro q3 (And.intro q4 (And.intro q5 q6)))))
              clear hin q1 q2 q3 q4 q5 q6
              by_cases hzR : z < R
              · obtain ⟨T, hT⟩ : ∃ T, T = Tz O z := ⟨_, rfl⟩
                have HT := Lib.hid hT
                clear hT
                obtain ⟨wx, hwx⟩ : ∃ w, w = wr := ⟨_, rfl⟩
                rw [← hwx] at HC ⊢
                clear hwx
                go_wp2_with fail
                go_loopw [12, 66] (fun e i wy => ∃ d : Nat, i = .int .i64 d ∧ d ≤ j ∧ e = .int .i64 (edn T m d : Nat) ∧ Hid (wx = wy)) (fun _ i _ => j - (intOf i).toNat)
                case atStart => exact ⟨0, rfl, Nat.zero_le _, rfl, Lib.hid (by first | rfl | trivial)⟩
                case round =>
                  obtain ⟨d, rfl, hd, rfl, hin⟩ := hrel
                  obtain ⟨ed, hed⟩ : ∃ e, e = edn T m d := ⟨_, rfl⟩
                  have hed2 : ed < 4096 := by
                    have h1 := edn_lt T m E d (by have := HE.out; omega)
                    rw [← hed, ← HP.out] at h1
                    omega
                  rw [← hed]
                  have hww := hin.out
                  subst hww
                  clear hin
                  have HED := Lib.hid hed
                  clear hed
                  by_cases hdj : d < j
                  · have c4 := Bk.cell HC.out.2.2.1 hdj
                    dsimp only at c4
                    obtain ⟨x1, hx1⟩ : ∃ q, q = m d := ⟨_, rfl⟩
                    rw [← hx1] at c4
                    have hx1j : x1 < j := by rw [hx1]; exact (HID.out d hdj).1
                    have HX1 := Lib.hid hx1
                    clear hx1
                    go_wp2_with fail
                    refine (in_any (ek O j) y (z : Nat) (x1 : Nat) _ _ HC.out.2.2.2.2.1.il (by omega)).mono ?_
                    rintro r w' ⟨b, rfl, hib, rfl⟩
                    have hbT : b = T x1 := by rw [HT.out]; exact in_tz HWL.out.2.1 hx1j hib
                    have HBT := Lib.hid hbT
                    clear hbT hib
                    cases b
                    · go_wp2
                      go_roundw
                      case rel => exact ⟨d + 1, by go_num, by omega, by rw [edn_no (by rw [← HX1.out, ← HBT.out]; rfl), ← HED.out], Lib.hid (by first | rfl | trivial)⟩
                      case measure => simp [intOf]; omega
                    · obtain ⟨rd, hrd⟩ : ∃ v, v = rev d := ⟨_, rfl⟩
                      have hrn : rd < j := by rw [hrd]; exact rev_lt HEV.out hdj
                      have hbx : bits .xor .i64 (d : Int) 1 = (rd : Int) := by rw [hrd]; exact bits_rev d (by omega)
                      have c5 := Bk.cell HC.out.2.2.1 hrn
                      dsimp only at c5
                      obtain ⟨x2, hx2⟩ : ∃ q, q = m rd := ⟨_, rfl⟩
                      rw [← hx2] at c5
                      have hx2j : x2 < j := by rw [hx2]; exact (HID.out rd hrn).1
                      have HX2 := Lib.hid (And.intro hx2 hrd)
                      clear hx2 hrd
                      go_wp2_with fail
                      refine (in_any (ek O j) y (z : Nat) (x2 : Nat) _ _ HC.out.2.2.2.2.1.il (by omega)).mono ?_
                      rintro r w' ⟨b, rfl, hib, rfl⟩
                      have hbT : b = T x2 := by rw [HT.out]; exact in_tz HWL.out.2.1 hx2j hib
                      have HBT2 := Lib.hid hbT
                      clear hbT hib
                      cases b
                      · obtain ⟨h, hh⟩ : ∃ h, h = d / 2 := ⟨_, rfl⟩
                        have hdd : ((d : Int)).tdiv 2 = (h : Int) := by rw [hh]; exact (Int.ofNat_tdiv d 2).symm
                        have hh12 : h ≤ 12 := by omega
                        have hshq : wrap64 ((2 : Int) ^ h) = ((2 ^ h : Nat) : Int) := shl_twelve h hh12
                        obtain ⟨Q, hQ⟩ : ∃ Q, Q = 2 ^ h := ⟨_, rfl⟩
                        rw [← hQ] at hshq
                        have hQ2 : Q ≤ 4096 := by rw [hQ]; exact Nat.le_trans (Nat.pow_le_pow_right (by omega) hh12) (by decide)
                        obtain ⟨e2, he2⟩ : ∃ e, e = ed ||| Q := ⟨_, rfl⟩
                        have hor1 : bits .or .i64 (ed : Int) (Q : Int) = (e2 : Int) := by rw [he2]; exact or_nat _ _ (by omega) (by omega)
                        have hor2 : bits .or .i64 (ed : Int) (wrap64 ((2 : Int) ^ h)) = (e2 : Int) := by rw [hshq]; exact hor1
                        have HE2 : Hid (edn T m (d + 1) = e2) := Lib.hid (by rw [edn_yes (by rw [← HX1.out, ← HBT.out, ← HX2.out.2, ← HX2.out.1, ← HBT2.out]; rfl), ← HED.out, ← hh, he2, hQ])
                        clear hh hQ he2
                        go_wp2
                        go_roundw
                        case rel => exact ⟨d + 1, by go_num, by omega, by rw [HE2.out], Lib.hid (by first | rfl | trivial)⟩
                        case measure => simp [intOf]; omega
                      · go_wp2
                        go_roundw
                        case rel => exact ⟨d + 1, by go_num, by omega, by rw [edn_no (by rw [← HX1.out, ← HBT.out, ← HX2.out.2, ← HX2.out.1, ← HBT2.out]; rfl), ← HED.out], Lib.hid (by first | rfl | trivial)⟩
                        case measure => simp [intOf]; omega
                  · obtain rfl : d = j := by omega
                    have hedP : ed < P := by
                      have h1 := edn_lt T m E d (by have := HE.out; omega)
                      rw [← HED.out, ← HP.out] at h1
                      exact h1
                    have f6 := Bk.free HC.out.1 ed
                    have c6 := Bk.cell HC.out.1 hedP
                    go_wp2
                    go_roundw
                    case rel =>
                      refine ⟨z + 1, by go_num, by omega, Lib.hid ⟨_, BB.set_ HC.out.1 ed true, fun c' hc' => ?_, Bk.far HC.out.2.2.1 HNE.out.1 _, Bk.far HC.out.2.2.2.1 HNE.out.2 _, HC.out.2.2.2.2.1.far hgA, HC.out.2.2.2.2.2.sc hgW⟩⟩
                      by_cases e : c' = ed
                      · subst e
                        rw [up_self]
                        exact ⟨fun _ => .inr ⟨z, by omega, by rw [← HT.out]; exact HED.out⟩, fun _ => rfl⟩
                      · rw [up_ne _ _ e, HC.out.2.1 c' hc']
                        refine or_congr Iff.rfl ⟨fun ⟨z', h1, h2⟩ => ⟨z', by omega, h2⟩, fun ⟨z', h1, h2⟩ => ⟨z', ?_, h2⟩⟩
                        rcases Nat.lt_or_ge z' z with g | g
                        · exact g
                        · exfalso
                          obtain rfl : z' = z := by omega
                          rw [← HT.out, ← HED.out] at h2
                          exact e h2
                    case measure => simp [intOf]; omega
              · obtain rfl : z = R := by omega
                go_wp2
                go_roundw
                case rel =>
                  refine ⟨k + 1, by go_num, by omega, Lib.hid ⟨ct', HC.out.1, fun c' hc' => ?_, HC.out.2.2.1, HC.out.2.2.2.1, HC.out.2.2.2.2.2⟩⟩
                  rw [HC.out.2.1 c' hc']
                  constructor
                  · rintro (⟨p, z', h1, h2⟩ | ⟨z', h1, h2⟩)
                    · exact ⟨p, z', by omega, h2⟩
                    · exact ⟨k, z', by omega, HPK.out.symm, by rw [← HO.out, ← HRR.out]; exact h1, by rw [← HO.out]; exact h2⟩
                  · rintro ⟨p, z', h1, h2, h3, h4⟩
                    by_cases e : p = k
                    · subst e
                      exact .inr ⟨z', by rw [HRR.out, HO.out]; exact h3, by rw [HO.out]; exact h4⟩
                    · exact .inl ⟨p, z', by omega, h2, h3, h4⟩
                case measure => simp [intOf]; omega
      · have hbe : ((k : Int) != (pk : Int)) = true := by simp; omega
        go_wp2
        go_roundw
        case rel =>
          refine ⟨k + 1, by go_num, by omega, Lib.hid ⟨ct, HF.out.1, fun c' hc' => ?_, HF.out.2.2.1, HF.out.2.2.2.1, HF.out.2.2.2.2⟩⟩
          rw [HF.out.2.1 c' hc']
          refine ⟨fun ⟨p, z', h1, h2⟩ => ⟨p, z', by omega, h2⟩, fun ⟨p, z', h1, h2⟩ => ⟨p, z', ?_, h2⟩⟩
          by_cases e : p = k
          · subst e
            exact absurd (HPK.out.trans h2.1).symm hpp
          · omega
        case measure => simp [intOf]; omega
    · obtain rfl : k = n := by omega
      go_wp2
      go_ret
      exact ⟨gO, ct, rfl, HF.out.1, HF.out.2.1, HF.out.2.2.2.2⟩
end Go.Proofs.YtijhbmdbnnmogaaGreat.G
namespace Go.Proofs.YtijhbmdbnnmogaaGreat.G
open Go.RowKit

theorem least_ex2 (P : Nat → Prop) : ∀ k, P k → ∃ v, P v ∧ ∀ u, P u → v ≤ u := by
  intro k
  induction k using Nat.strongRecOn with
  | _ k ih =>
    intro h
    rcases Classical.em (∃ j, j < k ∧ P j) with ⟨j, h1, h2⟩ | e
    · exact ih j h1 h2
    · exact ⟨k, h, fun u hu => by
        rcases Nat.lt_or_ge u k with g | g
        · exact absurd ⟨u, g, hu⟩ e
        · exact g⟩
theorem nm_ex (n k : Nat) (st : Nat → Nat → Nat) : ∃ m, Nm n k st m := by
  have h : ∀ d, ∃ v, d < n → Rch n k st v d ∧ ∀ u, Rch n k st u d → v ≤ u := fun d => by
    rcases Classical.em (d < n) with g | g
    · obtain ⟨v, h1, h2⟩ := least_ex2 (fun v => Rch n k st v d) d (.here g)
      exact ⟨v, fun _ => ⟨h1, h2⟩⟩
    · exact ⟨0, fun h => absurd h g⟩
  exact ⟨fun d => (h d).choose, fun d hd => (h d).choose_spec hd⟩
theorem ek_congr {S T : Nat → Bool} : ∀ k, (∀ j, j < k → S j = T j) → ek S k = ek T k
  | 0, _ => rfl
  | k + 1, h => by
    unfold ek
    rw [ek_congr k (fun j hj => h j (by omega)), h k (by omega)]
theorem Es.congr2 {S T : Nat → Bool} {E : Nat} {x : Nat → Int} (h : Es S E x) (e : ∀ j, j < E → S j = T j) : Es T E x := fun j hj hs => by
  rw [← ek_congr j (fun i hi => e i (by omega))]
  exact h j hj (by rw [e j hj]; exact hs)
/-- two lists of the same edges -/
theorem Es.same {S : Nat → Bool} {E : Nat} {x y : Nat → Int} (hx : Es S E x) (hy : Es S E y) {i : Nat} (hi : i < ek S E) : x i = y i := by
  obtain ⟨e, h1, h2, rfl⟩ := ek_sur S E hi
  rw [hx e h1 h2, hy e h1 h2]
theorem bondsR_fin (n : Nat) (f : Nat → Int) (NV : Value) (W : World) (hN : Il W NV n f) (hM : Mp n f) (hn12 : n / 2 ≤ 12) (m : Nat → Nat) (hm : Nm n 1 (fun _ => tn f) m) :
    Calls Tryz.prog 25 #[.agg #[NV]] W fun r W' => ∃ (v : Value) (x : Nat → Int), r = .returned v ∧ Ext W W' ∧ Il W' v (ek (fun z => isBo (n / 2) (ru m) (rv m) (zb (z : Nat))) (2 ^ (n / 2))) x ∧ Es (fun z => isBo (n / 2) (ru m) (rv m) (zb (z : Nat))) (2 ^ (n / 2)) x := by
  obtain ⟨mp, hp⟩ := nm_ex n 2 (pt f)
  have hev := hM.even
  refine (bondsR_any (2 ^ (n / 2)) (fun ct => ∀ c, c < 2 ^ (n / 2) → (ct c = true ↔ Mk n m mp n c)) n f NV W (Nat.pow_pos (by omega)) (Nat.le_trans (Nat.pow_le_pow_right (by omega) hn12) (by decide)) hN fun X hX => ?_).mono ?_
  · exact (cutsR_any n f NV X (hN.ext hX) hM hn12 m mp hm hp)
  · rintro r W' ⟨v, x, ct, rfl, hct, hx, hil, hes⟩
    have hend : ∀ e, e < n / 2 → ru m e < rank m n ∧ rv m e < rank m n := fun e he => ⟨rank_in hm (by omega), rank_in hm (by omega)⟩
    have key : ∀ k, k < 2 ^ (n / 2) → lsB ct k = isBo (n / 2) (ru m) (rv m) (zb (k : Nat)) := fun k hk => by
      refine (bo_ls hend (fun c h0 hc => ?_) hk).symm
      rw [hct c hc, mk_side (E := n / 2) (by omega) (fun d hd => ⟨by have := hm.le_self hd; omega, hm.idem hd⟩) hc]
      exact (cut_iff hM hm hp ((pos_iff hc).1 h0)).symm
    refine ⟨v, x, rfl, hx, ?_, hes.congr2 key⟩
    rw [← ek_congr _ key]
    exact hil
end Go.Proofs.YtijhbmdbnnmogaaGreat.G
