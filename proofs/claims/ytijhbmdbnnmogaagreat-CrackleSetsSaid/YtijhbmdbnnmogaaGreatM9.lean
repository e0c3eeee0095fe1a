/- Walks: the reference's Cycle. · Cycles: what the reference asks is what isCycle answers. · Walks: the reference's Cycles. · Walks: the reference's 'in'; bits put into a number. -/
import Derived.Test.YtijhbmdbnnmogaaGreatM7
import Derived.Test.YtijhbmdbnnmogaaGreatM8
namespace Go.Proofs.YtijhbmdbnnmogaaGreat.G
open Go.RowKit

/-- dart d's edge is in set z -/
def zd (z : Int) (d : Nat) : Bool := zb z (d / 2)
/-- how many of the first k darts that T marks begin at v -/
def dgm (T : Nat → Bool) (m : Nat → Nat) : Nat → Nat → Nat
  | 0, _ => 0
  | k + 1, v => dgm T m k v + if T k = true ∧ m k = v then 1 else 0
theorem dgm_le (T : Nat → Bool) (m : Nat → Nat) (v : Nat) : ∀ k, dgm T m k v ≤ k
  | 0 => Nat.le_refl _
  | k + 1 => by
    have := dgm_le T m v k
    unfold dgm
    split <;> omega
theorem dgm_ek (T : Nat → Bool) (m : Nat → Nat) (v : Nat) : ∀ k, dgm T m k v ≤ ek T k
  | 0 => Nat.le_refl _
  | k + 1 => by
    have := dgm_ek T m v k
    unfold dgm ek
    split
    · rename_i h; rw [if_pos h.1]; omega
    · split <;> omega
theorem dgm_no {T : Nat → Bool} {m : Nat → Nat} {k v : Nat} (h : T k = false) : dgm T m (k + 1) v = dgm T m k v := by
  conv => lhs; unfold dgm
  rw [h]; simp
/-- the pairs of the darts below k that T marks -/
def Pd (T : Nat → Bool) (m : Nat → Nat) (k : Nat) (p q : Nat → Nat) : Prop :=
  (∀ e, e < k → T e = true → p (ek T e) = m e ∧ q (ek T e) = m (rev e)) ∧ ∀ i, i < ek T k → ∃ e, e < k ∧ T e = true ∧ p i = m e ∧ q i = m (rev e)
theorem Pd.no {T : Nat → Bool} {m : Nat → Nat} {k : Nat} {p q : Nat → Nat} (h : Pd T m k p q) (hk : T k = false) : Pd T m (k + 1) p q :=
  ⟨fun e he hs => by
    by_cases c : e = k
    · subst c; rw [hk] at hs; cases hs
    · exact h.1 e (by omega) hs, fun i hi => by
    rw [ek_no hk] at hi
    obtain ⟨e, h1, h2⟩ := h.2 i hi
    exact ⟨e, by omega, h2⟩⟩
theorem Pd.up_ {T : Nat → Bool} {m : Nat → Nat} {k : Nat} {p q : Nat → Nat} (h : Pd T m k p q) (hk : T k = true) : Pd T m (k + 1) (up p (ek T k) (m k)) (up q (ek T k) (m (rev k))) :=
  ⟨fun e he hs => by
    by_cases c : e = k
    · subst c; exact ⟨up_self _ _ _, up_self _ _ _⟩
    · have h1 := ek_mono T k (show e + 1 ≤ k by omega)
      rw [ek_sx hs] at h1
      rw [up_ne _ _ (by omega), up_ne _ _ (by omega)]
      exact h.1 e (by omega) hs, fun i hi => by
    rw [ek_sx hk] at hi
    by_cases c : i = ek T k
    · subst c; exact ⟨k, by omega, hk, up_self _ _ _, up_self _ _ _⟩
    · obtain ⟨e, h1, h2, h3, h4⟩ := h.2 i (by omega)
      exact ⟨e, by omega, h2, by rw [up_ne _ _ c]; exact h3, by rw [up_ne _ _ c]; exact h4⟩⟩
/-- what the reference's Cycle answers: x are the labels, s a name that a marked dart has -/
def RcOk (T : Nat → Bool) (m : Nat → Nat) (n : Nat) (x : Nat → Int) (b : Bool) : Prop :=
  (ek T n = 0 ∧ b = false) ∨ ∃ e, e < n ∧ T e = true ∧ (b = true ↔ ∀ v, v < n → dgm T m n v = 0 ∨ (dgm T m n v = 2 ∧ x v = x (m e)))

set_option maxHeartbeats 8000000 in
set_option maxRecDepth 100000 in
theorem cycleR_any (n : Nat) (f : Nat → Int) (NV : Value) (z : Int) (W : World) (hN : Il W NV n f) (hM : Mp n f) (m : Nat → Nat) (hm : Nm n 1 (fun _ => tn f) m) :
    Calls Tryz.prog 71 #[.agg #[NV], .int .i64 z] W fun r W' => ∃ (b : Bool) (p q : Nat → Nat) (x : Nat → Int), r = .returned (.bool b) ∧ Ext W W' ∧ Pd (zd z) m n p q ∧ Lw n (ek (zd z) n) p q x ∧ (∀ i, i < ek (zd z) n → x (p i) = x (q i)) ∧ RcOk (zd z) m n x b := by
  have HN := Lib.hid hN; have HMM := Lib.hid (And.intro hM hm)
  have hn80 : n ≤ 80 := hM.le
  have HEV := Lib.hid hM.even
  obtain ⟨A, c, rfl, hac, hcm, -⟩ := hN
  clear hM hm
  obtain ⟨i0, hi, hz0, hz1, hz2⟩ := info_parts info162
  have HI := Lib.hid (And.intro hi (And.intro hz0 (And.intro hz1 hz2)))
  clear hi hz0 hz1 hz2
  have hm1 : ∀ w, (Instr.makeSlice 22 (.int .i64 (n : Int)) (.int .i64 (n : Int))).run Tryz.prog w = .ok (.slice (some ⟨w.heap.size, 0, none⟩) n n) (w.alloc (.cells (Array.ofFn fun _ : Fin n => .int .i64 0) 3)) := fun w => make_one 22 3 _ 8 Tryz.underlying22 info3 rfl (by omega) n (by omega) w
  have HM1 := Lib.hid hm1
  clear hm1
  obtain ⟨T, hT⟩ : ∃ T, T = zd z := ⟨_, rfl⟩
  rw [← hT]
  have HT := Lib.hid hT
  clear hT
  go_enter Tryz.func71, Tryz.ntmps71
  go_upto_region 1 with fail
  have bb := al1 W (.cells #[.slice A n c] 24)
  obtain ⟨m0, -, mz⟩ := uno (heap_alloc_new W (.cells #[.slice A n c] 24))
  generalize W.alloc (.cells #[.slice A n c] 24) = W1 at *
  have HB : Hid (Ext W W1) := Lib.hid bb
  clear bb
  go_wp2_with fail
  refine (vertexR_any n f _ _ (HN.out.ext HB.out) HMM.out.1 m HMM.out.2).mono ?_
  rintro e w1 ⟨gv, rfl, hbv, hx⟩
  have HX := Lib.hid (HB.out.trans hx)
  have hm1 := HM1.out
  clear hx m0
  go_upto_region 3 with fail
  have y1 : BI (w1.alloc (.cells (Array.ofFn fun _ : Fin n => Value.int .i64 0) 3)) w1.heap.size n (fun v => ((dgm T m 0 v : Nat) : Int)) := heap_alloc_new w1 _
  have y2 : BI (w1.alloc (.cells (Array.ofFn fun _ : Fin n => Value.int .i64 0) 3)) gv n (fun d => ((m d : Nat) : Int)) := Bk.alloc hbv _
  have y3 : Ext W (w1.alloc (.cells (Array.ofFn fun _ : Fin n => Value.int .i64 0) 3)) := HX.out.alc _
  have hgv := Bk.lt hbv
  obtain ⟨g6, hg6⟩ : ∃ g, g = w1.heap.size := ⟨_, rfl⟩
  rw [← hg6] at y1 hgv ⊢
  have hgW : W.heap.size ≤ g6 := by have := HX.out.size; omega
  generalize w1.alloc (.cells (Array.ofFn fun _ : Fin n => Value.int .i64 0) 3) = w2 at *
  obtain ⟨B0, hB0⟩ : ∃ B, B = w2.heap.size := ⟨_, rfl⟩
  have hgB : g6 < B0 := by rw [hB0]; exact Bk.lt y1
  have hWB : W.heap.size ≤ B0 := by omega
  have HY := Lib.hid (And.intro y1 (And.intro y2 (And.intro y3 (Nat.le_of_eq hB0))))
  have HGV := Lib.hid hgv
  have hne : gv ≠ g6 := by omega
  have HNE := Lib.hid hne
  clear y1 y2 y3 hg6 hB0 hbv hgv hm1 hne
  go_wp2_with fail
  go_loopw [7, 8, 21] (fun pv s i wr => ∃ (k : Nat) (fs : Int) (p q : Nat → Nat), i = .int .i64 k ∧ k ≤ n ∧ s = .int .i64 fs ∧ Hid (BI wr g6 n (fun v => ((dgm T m k v : Nat) : Int)) ∧ BI wr gv n (fun d => ((m d : Nat) : Int)) ∧ wr.ownsRow B0 162 2 pv (ek T k) (pls p q (ek T k)) ∧ Pd T m k p q ∧ ((ek T k = 0 ∧ fs = -1) ∨ ∃ e, e < k ∧ T e = true ∧ fs = (m e : Nat)) ∧ Ext W wr ∧ B0 ≤ wr.heap.size)) (fun _ _ i _ => n - (intOf i).toNat)
  case atStart => exact ⟨0, -1, fun _ => 0, fun _ => 0, rfl, Nat.zero_le _, rfl, Lib.hid ⟨HY.out.1, HY.out.2.1, World.ownsRow_nil _ _ _ _, ⟨fun e h => by omega, fun i h => absurd h (Nat.not_lt_zero _)⟩, .inl ⟨rfl, rfl⟩, HY.out.2.2.1, HY.out.2.2.2⟩⟩
  case round =>
    clear HY
    obtain ⟨k, fs, p, q, rfl, hk, rfl, hin⟩ := hrel
    obtain ⟨Av, cv, rfl⟩ := shape_own hin.out.2.2.1
    by_cases hlt : k < n
    · obtain ⟨h, hh⟩ : ∃ h, h = k / 2 := ⟨_, rfl⟩
      have hd2 : ((k : Int)).tdiv 2 = (h : Int) := by rw [hh]; exact (Int.ofNat_tdiv k 2).symm
      have hh40 : h ≤ 40 := by omega
      have hv := zb_val z h
      obtain ⟨bq, hbq⟩ : ∃ q : Int, q = if zb z h = true then 1 else 0 := ⟨_, rfl⟩
      rw [← hbq] at hv
      have hTk : T k = zb z h := by rw [HT.out, hh]; rfl
      have c1 := Bk.cell hin.out.2.1 hlt
      dsimp only at c1
      obtain ⟨mk, hmk⟩ : ∃ q, q = m k := ⟨_, rfl⟩
      rw [← hmk] at c1
      have hmn : mk < n := by rw [hmk]; have := HMM.out.2.le_self hlt; omega
      have HK := Lib.hid (And.intro hmk hTk)
      clear hmk hTk hh
      cases hS : zb z h
      · have HS := Lib.hid (HK.out.2.trans hS)
        rw [hS] at hbq
        have hb0 : bq = 0 := hbq
        subst hb0
        clear hS hbq
        go_wp2
        go_roundw
        case rel =>
          refine ⟨k + 1, fs, p, q, by go_num, by omega, rfl, Lib.hid ⟨Bk.congr hin.out.1 fun v _ => by dsimp only; rw [dgm_no HS.out], hin.out.2.1, by rw [ek_no HS.out]; exact hin.out.2.2.1, hin.out.2.2.2.1.no HS.out, ?_, hin.out.2.2.2.2.2.1, hin.out.2.2.2.2.2.2⟩⟩
          rw [ek_no HS.out]
          exact hin.out.2.2.2.2.1.imp id fun ⟨e, h1, h2⟩ => ⟨e, by omega, h2⟩
        case measure => simp [intOf]; omega
      · have HS := Lib.hid (HK.out.2.trans hS)
        rw [hS] at hbq
        have hb0 : bq = 1 := hbq
        subst hb0
        clear hS hbq
        have c2 := Bk.cell hin.out.1 hmn
        have f2 := Bk.free hin.out.1 mk
        dsimp only at c2
        obtain ⟨dg, hdg⟩ : ∃ q, q = dgm T m k mk := ⟨_, rfl⟩
        rw [← hdg] at c2
        have hdg3 : dg ≤ 80 := by have := dgm_le T m mk k; omega
        have HDG := Lib.hid hdg
        clear hdg
        go_upto_region 10 with fail
        have y1 : BI (wr.setCell ⟨g6, mk, none⟩ (.int .i64 ((dg : Int) + 1))) g6 n (fun v => ((dgm T m (k + 1) v : Nat) : Int)) := by
          refine Bk.congr (BI.set_ hin.out.1 mk ((dg : Int) + 1)) fun v _ => ?_
          dsimp only
          congr 1
          conv => rhs; unfold dgm
          by_cases e : v = mk
          · rw [if_pos ⟨HS.out, by rw [e]; exact HK.out.1.symm⟩, e, up_self, HDG.out]; omega
          · rw [if_neg (fun h => e (by rw [← h.2]; exact HK.out.1.symm)), up_ne _ _ e]; omega
        have y2 : BI (wr.setCell ⟨g6, mk, none⟩ (.int .i64 ((dg : Int) + 1))) gv n (fun d => ((m d : Nat) : Int)) := Bk.far hin.out.2.1 (by exact HNE.out) _
        have y3 := ownsRow_far hin.out.2.2.1 (grown_set (g := g6) (i := mk) (v := .int .i64 ((dg : Int) + 1)) (w := wr) (w' := wr) ⟨rfl, rfl, rfl, Nat.le_refl _, fun _ _ _ => rfl⟩) (fun b hb e => by
          injection e with e
          have := (World.ownsRow.lt hin.out.2.2.1 b hb).1
          omega)
        have y4 := hin.out.2.2.2.2.2.1.sc (i := mk) (v := .int .i64 ((dg : Int) + 1)) hgW
        have y5 : B0 ≤ (wr.setCell ⟨g6, mk, none⟩ (.int .i64 ((dg : Int) + 1))).heap.size := by have := hin.out.2.2.2.2.2.2; simp [World.setCell]; exact this
        generalize wr.setCell ⟨g6, mk, none⟩ (.int .i64 ((dg : Int) + 1)) = w4 at *
        obtain ⟨rk_, hrk⟩ : ∃ v, v = rev k := ⟨_, rfl⟩
        have hrn : rk_ < n := by rw [hrk]; exact rev_lt HEV.out hlt
        have hbx : bits .xor .i64 (k : Int) 1 = (rk_ : Int) := by rw [hrk]; exact bits_rev k (by omega)
        have c3 := Bk.cell y2 hrn
        dsimp only at c3
        obtain ⟨mr, hmr⟩ : ∃ q, q = m rk_ := ⟨_, rfl⟩
        rw [← hmr] at c3
        obtain ⟨l, hl⟩ : ∃ l, l = ek T k := ⟨_, rfl⟩
        rw [← hl] at y3
        have hl80 : l ≤ 80 := by have := ek_le T k; omega
        have HN4 := Lib.hid (And.intro y1 (And.intro y2 (And.intro y3 (And.intro y4 y5))))
        have HMR := Lib.hid (And.intro hmr (And.intro hrk hl))
        have hown := World.ownsRow.ext y3 (Ext.alc (Ext.refl w4) (.cells #[.int .i64 (mk : Nat), .int .i64 (mr : Nat)] 162))
        have HOWN := Lib.hid hown
        have HNX : Hid (Pd T m (k + 1) (up p l mk) (up q l mr)) := Lib.hid (by
          have := hin.out.2.2.2.1.up_ HS.out
          rw [← HMR.out.2.2, ← HK.out.1, ← HMR.out.2.1, ← HMR.out.1] at this
          exact this)
        have HFS := Lib.hid hin.out.2.2.2.2.1
        clear y1 y2 y3 y4 y5 hmr hrk hl c2 f2 c1 hin hown
        go_wp2_with (at_builtin; refine wpList_append_own _ rfl _ _ 161 rfl B0 162 i0 (.agg #[.int .i64 0, .int .i64 0]) 2 16 Tryz.underlying161 HI.out.1 HI.out.2.1 HI.out.2.2.1 HI.out.2.2.2 rfl (by decide) _ l _ ?vv HOWN.out ⟨w4.heap.size, 0, none⟩ 1 1 [.int .i64 (mk : Nat), .int .i64 (mr : Nat)] rfl rfl (nw2 _ _ _ _) ?cc2 ?cc3 ?cc4 ?cc5 ?_)
        case vv => rw [HMR.out.2.2]; rfl
        case cc2 => intro uu hu; simp at hu; rcases hu with rfl | rfl <;> rfl
        case cc3 => unfold maxLen; omega
        case cc4 => omega
        case cc5 => have := HN4.out.2.2.2.2; first | omega | (simp; done) | (simp; omega)
        intro v' w5 hown' hgrow _hnil
        clear _hnil
        have hlo : ∀ b, (Value.slice Av l cv).ownBlock = some b → B0 ≤ b := fun b hb => (World.ownsRow.lt HOWN.out b hb).1
        have hex : Ext W w5 := ext_grow (HN4.out.2.2.2.1.alc _) hgrow hlo hWB
        have h1 : BI w5 g6 n (fun v => ((dgm T m (k + 1) v : Nat) : Int)) := (hgrow.block g6 (by have := Bk.lt HN4.out.1; simp; omega) (fun e => by have := hlo g6 e.symm; omega)).trans (Bk.alloc HN4.out.1 _)
        have h2 : BI w5 gv n (fun d => ((m d : Nat) : Int)) := (hgrow.block gv (by have := Bk.lt HN4.out.2.1; simp; omega) (fun e => by have := hlo gv e.symm; have := HGV.out; omega)).trans (Bk.alloc HN4.out.2.1 _)
        have h3 : w5.ownsRow B0 162 2 v' (ek T (k + 1)) (pls (up p l mk) (up q l mr) (ek T (k + 1))) := by
          rw [ek_sx HS.out, ← HMR.out.2.2, pls_succ, up_self, up_self, pls_congr (p' := p) (q' := q) l (fun j hj => ⟨up_ne _ _ (by omega), up_ne _ _ (by omega)⟩)]
          exact hown'
        have h5 : B0 ≤ w5.heap.size := by have h6 := hgrow.size; have := HN4.out.2.2.2.2; simp at h6; omega
        have HW5 := Lib.hid (And.intro h1 (And.intro h2 (And.intro h3 (And.intro hex h5))))
        clear h1 h2 h3 h5 hex hown' hgrow hlo c3
        by_cases hfs : fs < 0
        · go_wp2
          go_roundw
          case rel => exact ⟨k + 1, mk, up p l mk, up q l mr, by go_num, by omega, rfl, Lib.hid ⟨HW5.out.1, HW5.out.2.1, HW5.out.2.2.1, HNX.out, .inr ⟨k, by omega, HS.out, by rw [HK.out.1]⟩, HW5.out.2.2.2.1, HW5.out.2.2.2.2⟩⟩
          case measure => simp [intOf]; omega
        · go_wp2
          go_roundw
          case rel =>
            refine ⟨k + 1, fs, up p l mk, up q l mr, by go_num, by omega, rfl, Lib.hid ⟨HW5.out.1, HW5.out.2.1, HW5.out.2.2.1, HNX.out, .inr ?_, HW5.out.2.2.2.1, HW5.out.2.2.2.2⟩⟩
            rcases HFS.out with ⟨-, h⟩ | ⟨e, h1, h2⟩
            · omega
            · exact ⟨e, by omega, h2⟩
          case measure => simp [intOf]; omega
    · obtain rfl : k = n := by omega
      have HP := Lib.hid (pr_own hin.out.2.2.1)
      have hek : ek T k ≤ 80 := by have := ek_le T k; omega
      have hmn : ∀ d, d < k → m d < k := fun d hd => by have := HMM.out.2.le_self hd; omega
      have HMN := Lib.hid hmn
      clear hmn
      go_wp2_with fail
      refine (lowest_any k (ek T k) p q _ _ HP.out (by omega) (fun i hi => ?_)).mono ?_
      · obtain ⟨e, h1, -, h3, h4⟩ := hin.out.2.2.2.1.2 i hi
        rw [h3, h4]
        exact ⟨HMN.out e h1, HMN.out _ (rev_lt HEV.out h1)⟩
      rintro e w4 ⟨g, x, rfl, -, hb, hlw, heq, hx⟩
      have HQ := Lib.hid (And.intro hb (And.intro hlw (And.intro heq (And.intro (BI.ext hin.out.1 hx) (hin.out.2.2.2.2.2.1.trans hx)))))
      have HI2 := Lib.hid (And.intro hin.out.2.2.2.1 hin.out.2.2.2.2.1)
      clear hb hlw heq hx hin
      go_wp2_with fail
      go_loopw [58] (fun i wr => ∃ j : Nat, i = .int .i64 j ∧ j ≤ k ∧ Hid ((∀ v, v < j → dgm T m k v = 0 ∨ (dgm T m k v = 2 ∧ x v = x fs.toNat)) ∧ BI wr g k x ∧ BI wr g6 k (fun v => ((dgm T m k v : Nat) : Int)) ∧ Ext W wr)) (fun i _ => k - (intOf i).toNat)
      case atStart => exact ⟨0, rfl, Nat.zero_le _, Lib.hid ⟨fun v h => by omega, HQ.out.1, HQ.out.2.2.2.1, HQ.out.2.2.2.2⟩⟩
      case round =>
        obtain ⟨j, rfl, hj, hin⟩ := hrel
        by_cases hlt : j < k
        · obtain ⟨dv, hdv⟩ : ∃ q, q = dgm T m k j := ⟨_, rfl⟩
          have hdv3 : dv ≤ 80 := by have := dgm_le T m j k; omega
          have c1 := Bk.cell hin.out.2.2.1 hlt
          dsimp only at c1
          rw [← hdv] at c1
          have c2 := Bk.cell hin.out.2.1 hlt
          have HDV := Lib.hid hdv
          clear hdv
          go_upto_region 18 with fail
          clear c1
          by_cases h0 : dv = 0
          · subst h0
            clear c2
            go_region
            go_wp2
            go_roundw
            case rel =>
              refine ⟨j + 1, by go_num, by omega, Lib.hid ⟨fun v hv => ?_, hin.out.2.1.drew, hin.out.2.2.1.drew, hin.out.2.2.2.drw⟩⟩
              by_cases e : v = j
              · subst e; exact .inl HDV.out.symm
              · exact hin.out.1 v (by omega)
            case measure => simp [intOf]; omega
          · have hek2 : ek T k ≠ 0 := by have := dgm_ek T m j k; have := HDV.out; omega
            obtain ⟨e, he, hTe, hfe⟩ := HI2.out.2.resolve_left (fun h => hek2 h.1)
            obtain ⟨s, hs⟩ : ∃ s, s = m e := ⟨_, rfl⟩
            rw [← hs] at hfe
            have hsk : s < k := by rw [hs]; exact HMN.out e he
            subst hfe
            have c4 := Bk.cell hin.out.2.1 hsk
            have HS := Lib.hid (And.intro he (And.intro hTe hs))
            have hno : ∀ (w : World), Ext W w → ¬ (dgm T m k j = 0 ∨ (dgm T m k j = 2 ∧ x j = x s)) → ∃ (b : Bool) (p q : Nat → Nat) (x : Nat → Int), Ending.returned (.bool false) = .returned (.bool b) ∧ Ext W w ∧ Pd T m k p q ∧ Lw k (ek T k) p q x ∧ (∀ i, i < ek T k → x (p i) = x (q i)) ∧ RcOk T m k x b := fun w hw hn => by
              refine ⟨false, p, q, x, rfl, hw, HI2.out.1, HQ.out.2.1, HQ.out.2.2.1, .inr ⟨e, he, hTe, ?_⟩⟩
              constructor
              · intro h; cases h
              · intro h
                exfalso
                have := h j hlt
                rw [← hs] at this
                exact hn this
            have HNO := Lib.hid hno
            clear he hTe hs hno hek2
            by_cases h2 : dv = 2
            · subst h2
              obtain ⟨x1, hx1⟩ : ∃ q, q = x j := ⟨_, rfl⟩
              obtain ⟨x2, hx2⟩ : ∃ q, q = x s := ⟨_, rfl⟩
              have d1 : wr.drew.cell? ⟨g, j, none⟩ = some (.int .i64 x1) := c2.trans (by rw [hx1])
              have d2 : wr.drew.cell? ⟨g, s, none⟩ = some (.int .i64 x2) := c4.trans (by rw [hx2])
              have HX12 := Lib.hid (And.intro hx1 hx2)
              clear hx1 hx2 c2 c4
              by_cases hxx : x1 = x2
              · have hbe : (x1 != x2) = false := by simpa using hxx
                go_region
                clear d1 d2
                go_wp2
                go_roundw
                case rel =>
                  refine ⟨j + 1, by go_num, by omega, Lib.hid ⟨fun v hv => ?_, hin.out.2.1.drew, hin.out.2.2.1.drew, hin.out.2.2.2.drw⟩⟩
                  by_cases e : v = j
                  · rw [e]; exact .inr ⟨HDV.out.symm, by rw [← HX12.out.1, hxx, HX12.out.2]; rfl⟩
                  · exact hin.out.1 v (by omega)
                case measure => simp [intOf]; omega
              · have hbe : (x1 != x2) = true := by simpa using hxx
                go_region
                clear d1 d2
                go_wp2
                go_ret
                refine HNO.out _ hin.out.2.2.2.drw ?_
                rw [← HDV.out, ← HX12.out.1, ← HX12.out.2]
                rintro (h | h)
                · omega
                · exact hxx h.2
            · have hbe0 : ((dv : Int) != 0) = true := by simp; omega
              have hbe2 : ((dv : Int) != 2) = true := by simp; omega
              clear c2 c4
              go_region
              go_wp2
              go_ret
              refine HNO.out _ hin.out.2.2.2.drw ?_
              rw [← HDV.out]
              rintro (h | h)
              · omega
              · exact h2 h.1
        · obtain rfl : j = k := by omega
          rcases HI2.out.2 with ⟨h1, rfl⟩ | ⟨e, he, hTe, hfe⟩
          · have HH := Lib.hid h1
            clear h1
            go_wp2
            go_ret
            exact .inl ⟨rfl, hin.out.2.2.2, p, q, HI2.out.1, x, HQ.out.2.1, HQ.out.2.2.1, .inl ⟨HH.out, rfl⟩⟩
          · obtain ⟨s, hs⟩ : ∃ s, s = m e := ⟨_, rfl⟩
            rw [← hs] at hfe
            subst hfe
            have HH := Lib.hid (And.intro he (And.intro hTe hs))
            clear he hTe hs
            have hge : ((s : Int) ≥ 0) := by omega
            go_wp2
            go_ret
            refine ⟨true, p, q, x, by simp, hin.out.2.2.2, HI2.out.1, HQ.out.2.1, HQ.out.2.2.1, .inr ⟨e, HH.out.1, HH.out.2.1, ⟨fun _ v hv => ?_, fun _ => rfl⟩⟩⟩
            have := hin.out.1 v hv
            rw [← HH.out.2.2]
            exact this
end Go.Proofs.YtijhbmdbnnmogaaGreat.G
namespace Go.Proofs.YtijhbmdbnnmogaaGreat.G
open Go.RowKit

section
variable {n : Nat} {st : Nat → Nat → Nat} {m : Nat → Nat} {k0 : Nat}
theorem rank_mono2 (m : Nat → Nat) {r : Nat} (hr : m r = r) : ∀ a, r < a → rank m r < rank m a
  | 0, h => by omega
  | a + 1, h => by
    show rank m r < rank m a + _
    by_cases e : r = a
    · subst e; rw [if_pos hr]; omega
    · have := rank_mono2 m hr a (by omega); omega
theorem rank_inj {m : Nat → Nat} {a b : Nat} (ha : m a = a) (hb : m b = b) (h : rank m a = rank m b) : a = b := by
  rcases Nat.lt_trichotomy a b with c | c | c
  · have := rank_mono2 m ha b c; omega
  · exact c
  · have := rank_mono2 m hb a c; omega
theorem rank_sur (m : Nat → Nat) : ∀ n w, w < rank m n → ∃ a, a < n ∧ m a = a ∧ rank m a = w
  | 0, w, h => absurd h (Nat.not_lt_zero _)
  | n + 1, w, h => by
    by_cases c : w < rank m n
    · obtain ⟨a, h1, h2⟩ := rank_sur m n w c
      exact ⟨a, by omega, h2⟩
    · unfold rank at h
      by_cases e : m n = n
      · rw [if_pos e] at h
        exact ⟨n, by omega, e, by omega⟩
      · rw [if_neg e] at h; omega
theorem rank_eq (h : Nm n k0 st m) {d v : Nat} (hd : d < n) (hv : m v = v) : rank m (m d) = rank m v ↔ m d = v :=
  ⟨fun e => rank_inj (h.idem hd) hv e, fun e => by rw [e]⟩
theorem dgm_mt (h : Nm n k0 st m) (z : Int) {v : Nat} (hv : m v = v) : ∀ e, 2 * e ≤ n → dgm (zd z) m (2 * e) v = mt (ru m) (rv m) (zb z) e (rank m v)
  | 0, _ => rfl
  | e + 1, he => by
    have ih := dgm_mt h z hv e (by omega)
    show dgm (zd z) m (2 * e) v + (if zd z (2 * e) = true ∧ m (2 * e) = v then 1 else 0) + (if zd z (2 * e + 1) = true ∧ m (2 * e + 1) = v then 1 else 0) = _
    have h1 : zd z (2 * e) = zb z e := by unfold zd; rw [show 2 * e / 2 = e by omega]
    have h2 : zd z (2 * e + 1) = zb z e := by unfold zd; rw [show (2 * e + 1) / 2 = e by omega]
    have h3 := rank_eq h (d := 2 * e) (by omega) hv
    have h4 := rank_eq h (d := 2 * e + 1) (by omega) hv
    rw [ih, h1, h2]
    conv => rhs; unfold mt
    have g1 : ru m e = rank m v ↔ m (2 * e) = v := h3
    have g2 : rv m e = rank m v ↔ m (2 * e + 1) = v := h4
    simp only [g1, g2]
theorem dgm_none (h : Nm n k0 st m) (T : Nat → Bool) {v : Nat} (hv : m v ≠ v) : ∀ k, k ≤ n → dgm T m k v = 0
  | 0, _ => rfl
  | k + 1, hk => by
    unfold dgm
    rw [dgm_none h T hv k (by omega), if_neg (fun c => hv (by rw [← c.2]; exact h.idem (by omega)))]
theorem dgm_has (T : Nat → Bool) (m : Nat → Nat) {e : Nat} (he : T e = true) : ∀ k, e < k → 1 ≤ dgm T m k (m e)
  | 0, h => by omega
  | k + 1, h => by
    unfold dgm
    by_cases c : e = k
    · subst c; rw [if_pos ⟨he, rfl⟩]; omega
    · have := dgm_has T m he k (by omega); omega
end
/-- labels of names are equal just where the ranks are joined -/
theorem lab_iff {n : Nat} {st : Nat → Nat → Nat} {m : Nat → Nat} {k0 : Nat} (h : Nm n k0 st m) (hev : n % 2 = 0) (z : Int) {p q : Nat → Nat} {x : Nat → Int} (hP : Pd (zd z) m n p q) (hL : Lw n (ek (zd z) n) p q x)
    (he : ∀ i, i < ek (zd z) n → x (p i) = x (q i)) {a b : Nat} (ha : a < n) (hb : b < n) (ha2 : m a = a) (hb2 : m b = b) :
    x a = x b ↔ rk (ru m) (rv m) (zb z) (Idn (rank m n)) (n / 2) (rank m a) (rank m b) := by
  have hend : ∀ e, e < n / 2 → ru m e < rank m n ∧ rv m e < rank m n := fun e he => ⟨rank_in h (by omega), rank_in h (by omega)⟩
  have hE := (rk_lb (us := ru m) (vs := rv m) (S := zb z) (Idn.eqv (rank m n)) (Lb.start (rank m n)) (n / 2) hend).1
  have hpq : ∀ i, i < ek (zd z) n → p i < n ∧ q i < n := fun i hi => by
    obtain ⟨e, h1, -, h3, h4⟩ := hP.2 i hi
    rw [h3, h4]
    have h5 := h.le_self h1
    have h6 := rev_lt hev h1
    have h7 := h.le_self h6
    omega
  constructor
  · intro hx
    have key : ∀ {a b : Nat}, Cj (ek (zd z) n) p q a b → a < n → m a = a → rk (ru m) (rv m) (zb z) (Idn (rank m n)) (n / 2) (rank m a) (rank m b) := by
      intro a b hc ha hm
      have pair : ∀ i, i < ek (zd z) n → rk (ru m) (rv m) (zb z) (Idn (rank m n)) (n / 2) (rank m (p i)) (rank m (q i)) := fun i hi => by
        obtain ⟨e, h1, h2, h3, h4⟩ := hP.2 i hi
        rw [h3, h4]
        have h5 := rk_has (us := ru m) (vs := rv m) (S := zb z) (Idn.eqv (rank m n)) hend (n / 2) (Nat.le_refl _) (e / 2) (by omega) h2
        rcases (show e = 2 * (e / 2) ∨ e = 2 * (e / 2) + 1 by omega) with c | c
        · have h6 : rev e = 2 * (e / 2) + 1 := by unfold rev; split <;> omega
          have h7 : rank m (m e) = ru m (e / 2) := by unfold ru; rw [← c]
          rw [h6, h7]
          exact h5
        · have h6 : rev e = 2 * (e / 2) := by unfold rev; split <;> omega
          have h7 : rank m (m e) = rv m (e / 2) := by unfold rv; rw [← c]
          rw [h6, h7]
          exact hE.sy _ _ h5
      induction hc with
      | refl => exact hE.rf _ (by rw [← hm]; exact rank_in h ha)
      | fwd _ hi ih => exact hE.tr _ _ _ ih (pair _ hi)
      | bwd _ hi ih => exact hE.tr _ _ _ ih (hE.sy _ _ (pair _ hi))
    obtain ⟨v, h1, h2, h3⟩ := hL a ha
    obtain ⟨w, h4, h5, h6⟩ := hL b hb
    have : v = w := by omega
    subst this
    exact hE.tr _ _ _ (key h3 ha ha2) (hE.sy _ _ (key h6 hb hb2))
  · intro hr
    have hc := rk_const (us := ru m) (vs := rv m) (S := zb z) (E := n / 2) (rank m n) (T := fun w => @decide (∃ d, d < n ∧ m d = d ∧ rank m d = w ∧ x d = x b) (Classical.propDecidable _)) (fun e hee hs => by
      have h1 : ek (zd z) (2 * e) < ek (zd z) n := by
        have h3 : zd z (2 * e) = true := by unfold zd; rw [show 2 * e / 2 = e by omega]; exact hs
        have := ek_sx h3
        have := ek_mono (zd z) n (show 2 * e + 1 ≤ n by omega)
        omega
      have h2 : x (m (2 * e)) = x (m (2 * e + 1)) := by
        have h3 : zd z (2 * e) = true := by unfold zd; rw [show 2 * e / 2 = e by omega]; exact hs
        have h4 := hP.1 (2 * e) (by omega) h3
        have h5 := he _ h1
        rw [h4.1, h4.2] at h5
        rw [h5]
        congr 2
        unfold rev; split <;> omega
      have h6 : m (2 * e) < n := by have := h.le_self (show 2 * e < n by omega); omega
      have h7 : m (2 * e + 1) < n := by have := h.le_self (show 2 * e + 1 < n by omega); omega
      have h8 := h.idem (show 2 * e < n by omega)
      have h9 := h.idem (show 2 * e + 1 < n by omega)
      refine decide_eq_decide.2 ⟨fun ⟨d, g1, g2, g3, g4⟩ => ?_, fun ⟨d, g1, g2, g3, g4⟩ => ?_⟩
      · have : d = m (2 * e) := rank_inj g2 h8 g3
        subst this
        exact ⟨_, h7, h9, rfl, by rw [← h2]; exact g4⟩
      · have : d = m (2 * e + 1) := rank_inj g2 h9 g3
        subst this
        exact ⟨_, h6, h8, rfl, by rw [h2]; exact g4⟩) (n / 2) (Nat.le_refl _) _ _ hr
    have h1 := decide_eq_decide.1 hc
    obtain ⟨d, g1, g2, g3, g4⟩ := h1.2 ⟨b, hb, hb2, rfl, rfl⟩
    have : d = a := rank_inj g2 ha2 g3
    subst this
    exact g4
theorem rc_isCy {n : Nat} {st : Nat → Nat → Nat} {m : Nat → Nat} {k0 : Nat} (h : Nm n k0 st m) (hev : n % 2 = 0) (z : Int) {p q : Nat → Nat} {x : Nat → Int} {b : Bool} (hP : Pd (zd z) m n p q) (hL : Lw n (ek (zd z) n) p q x)
    (he : ∀ i, i < ek (zd z) n → x (p i) = x (q i)) (hR : RcOk (zd z) m n x b) : b = isCy (rank m n) (n / 2) (ru m) (rv m) (zb z) := by
  have hend : ∀ e, e < n / 2 → ru m e < rank m n ∧ rv m e < rank m n := fun e he => ⟨rank_in h (by omega), rank_in h (by omega)⟩
  have hn : 2 * (n / 2) = n := by omega
  have hmt : ∀ v, m v = v → dgm (zd z) m n v = mt (ru m) (rv m) (zb z) (n / 2) (rank m v) := fun v hv => by
    have := dgm_mt h z hv (n / 2) (by omega)
    rw [hn] at this
    exact this
  have hbd : ∀ y : Nat, bd ((y : Nat) : Int) = false ↔ (y = 0 ∨ y = 2) := fun y => by
    unfold bd
    simp
    omega
  have hcy : isCy (rank m n) (n / 2) (ru m) (rv m) (zb z) = true ↔ (∀ w, w < rank m n → mt (ru m) (rv m) (zb z) (n / 2) w = 0 ∨ mt (ru m) (rv m) (zb z) (n / 2) w = 2) ∧ ck (ru m) (rv m) (zb z) (fun v => v) (n / 2) = 1 := by
    unfold isCy
    rw [Bool.and_eq_true, decide_eq_true_iff, Bool.not_eq_true', and_comm]
    refine and_congr ⟨fun hab w hw => ?_, fun hall => ?_⟩ Iff.rfl
    · rw [← hbd]
      cases c : bd ((mt (ru m) (rv m) (zb z) (n / 2) w : Nat) : Int)
      · rfl
      · rw [(ab_iff _ _).2 ⟨w, hw, c⟩] at hab; cases hab
    · cases c : ab (fun v => bd ((mt (ru m) (rv m) (zb z) (n / 2) v : Nat) : Int)) (rank m n)
      · rfl
      · obtain ⟨j, h1, h2⟩ := (ab_iff _ _).1 c
        rw [(hbd _).2 (hall j h1)] at h2; cases h2
  have hlab := fun {a b : Nat} (ha : a < n) (hb : b < n) (ha2 : m a = a) (hb2 : m b = b) => lab_iff h hev z hP hL he ha hb ha2 hb2
  rcases hR with ⟨h0, rfl⟩ | ⟨e0, h1, h2, h3⟩
  · cases c : isCy (rank m n) (n / 2) (ru m) (rv m) (zb z)
    · rfl
    · exfalso
      obtain ⟨g1, g2⟩ := hcy.1 c
      obtain ⟨⟨w, hw, g3⟩, -⟩ := (closes_one hend g1).1 g2
      obtain ⟨v, hv, hv2, rfl⟩ := rank_sur m n w hw
      rw [← hmt v hv2] at g3
      have := dgm_ek (zd z) m v n
      omega
  · have hv0 : m e0 < n := by have := h.le_self h1; omega
    have hm0 := h.idem h1
    have hd0 := dgm_has (zd z) m h2 n h1
    rw [Bool.eq_iff_iff, h3, hcy]
    constructor
    · intro hall
      have hd : ∀ w, w < rank m n → mt (ru m) (rv m) (zb z) (n / 2) w = 0 ∨ mt (ru m) (rv m) (zb z) (n / 2) w = 2 := fun w hw => by
        obtain ⟨v, hv, hv2, rfl⟩ := rank_sur m n w hw
        rw [← hmt v hv2]
        exact (hall v hv).imp id And.left
      refine ⟨hd, (closes_one hend hd).2 ⟨⟨rank m (m e0), rank_in h h1, ?_⟩, fun a b ha hb g1 g2 => ?_⟩⟩
      · rw [← hmt _ hm0]
        have := hall _ hv0
        omega
      · obtain ⟨va, hva, hva2, rfl⟩ := rank_sur m n a ha
        obtain ⟨vb, hvb, hvb2, rfl⟩ := rank_sur m n b hb
        rw [← hmt _ hva2] at g1
        rw [← hmt _ hvb2] at g2
        have k1 := ((hall va hva).resolve_left (by omega)).2
        have k2 := ((hall vb hvb).resolve_left (by omega)).2
        exact (hlab hva hvb hva2 hvb2).1 (by rw [k1, k2])
    · rintro ⟨hd, hc⟩ v hv
      obtain ⟨-, g2⟩ := (closes_one hend hd).1 hc
      by_cases hv2 : m v = v
      · have k1 := hd (rank m v) (by rw [← hv2]; exact rank_in h hv)
        rw [← hmt v hv2] at k1
        refine k1.imp id fun k2 => ⟨k2, ?_⟩
        have k3 := hd (rank m (m e0)) (rank_in h h1)
        rw [← hmt _ hm0] at k3
        exact (hlab hv hv0 hv2 hm0).2 (g2 _ _ (by rw [← hv2]; exact rank_in h hv) (rank_in h h1) (by rw [← hmt v hv2]; exact k2) (by rw [← hmt _ hm0]; omega))
      · exact .inl (dgm_none h _ hv2 n (Nat.le_refl _))
end Go.Proofs.YtijhbmdbnnmogaaGreat.G
namespace Go.Proofs.YtijhbmdbnnmogaaGreat.G
open Go.RowKit

set_option maxHeartbeats 4000000 in
set_option maxRecDepth 100000 in
theorem cyclesR_any (n : Nat) (f : Nat → Int) (NV : Value) (W : World) (hN : Il W NV n f) (hM : Mp n f) (hn12 : n / 2 ≤ 12) (m : Nat → Nat) (hm : Nm n 1 (fun _ => tn f) m) :
    Calls Tryz.prog 24 #[.agg #[NV]] W fun r W' => ∃ (v : Value) (x : Nat → Int), r = .returned v ∧ Ext W W' ∧ Il W' v (ek (fun z => isCy (rank m n) (n / 2) (ru m) (rv m) (zb (z : Nat))) (2 ^ (n / 2))) x ∧ Es (fun z => isCy (rank m n) (n / 2) (ru m) (rv m) (zb (z : Nat))) (2 ^ (n / 2)) x := by
  have HN := Lib.hid hN; have HMM := Lib.hid (And.intro hM hm)
  have hn80 : n ≤ 80 := hM.le
  have HEV := Lib.hid hM.even
  obtain ⟨A, c, rfl, hac, hcm, -⟩ := hN
  clear hM hm
  obtain ⟨E, hE⟩ : ∃ E, E = n / 2 := ⟨_, rfl⟩
  have hd2 : ((n : Int)).tdiv 2 = (E : Int) := by rw [hE]; exact (Int.ofNat_tdiv n 2).symm
  rw [← hE] at hn12
  have HE := Lib.hid hE
  rw [← hE]
  clear hE
  have hsh : wrap64 ((2 : Int) ^ E) = ((2 ^ E : Nat) : Int) := shl_twelve E hn12
  obtain ⟨P, hP⟩ : ∃ P, P = 2 ^ E := ⟨_, rfl⟩
  rw [← hP] at hsh
  have hP2 : P ≤ 4096 := by rw [hP]; exact Nat.le_trans (Nat.pow_le_pow_right (by omega) hn12) (by decide)
  rw [← hP]
  clear hP
  obtain ⟨S, hS⟩ : ∃ S : Nat → Bool, S = fun z => isCy (rank m n) E (ru m) (rv m) (zb (z : Nat)) := ⟨_, rfl⟩
  rw [← hS]
  have HS := Lib.hid hS
  clear hS
  go_enter Tryz.func24, Tryz.ntmps24
  go_upto_region 1 with fail
  have bb := al1 W (.cells #[.slice A n c] 24)
  obtain ⟨m0, -, mz⟩ := uno (heap_alloc_new W (.cells #[.slice A n c] 24))
  generalize W.alloc (.cells #[.slice A n c] 24) = W1 at *
  have HB : Hid (Ext W W1) := Lib.hid bb
  have HM0 := Lib.hid m0
  clear bb
  go_wp2_with fail
  rw [hsh]
  clear m0 hsh hd2
  go_loopw [3, 10] (fun v i wr => ∃ k : Nat, i = .int .i64 k ∧ k ≤ P ∧ Hid (∃ x, Qs wr W1.heap.size v (ek S k) x ∧ Es S k x ∧ Ext W1 wr)) (fun _ i _ => P - (intOf i).toNat)
  case atStart => exact ⟨0, rfl, Nat.zero_le _, Lib.hid ⟨fun _ => 0, Qs.nil _ _ _, fun e he => by omega, Ext.refl _⟩⟩
  case round =>
    obtain ⟨k, rfl, hk, hin⟩ := hrel
    by_cases hlt : k < P
    · obtain ⟨x, g1, g2, g3⟩ := hin.out
      have HF := Lib.hid (And.intro g1 (And.intro g2 g3))
      have m0 := keepAt g3 mz HM0.out
      clear hin g1 g2 g3
      go_wp2_with fail
      refine (cycleR_any n f _ (k : Nat) _ (HN.out.ext (HB.out.trans HF.out.2.2)) HMM.out.1 m HMM.out.2).mono ?_
      rintro e w8 ⟨b, p, q, y, rfl, hx, hpd, hlw, heq, hrc⟩
      have hb : b = S k := by
        rw [HS.out, HE.out]
        exact rc_isCy HMM.out.2 HEV.out (k : Nat) hpd hlw heq hrc
      have HG8 := Lib.hid (And.intro (HF.out.1.ext hx) (And.intro HF.out.2.1 (HF.out.2.2.trans hx)))
      have HBS := Lib.hid hb
      clear hx HF m0 hpd hlw heq hrc hb
      cases b
      · have HSK := Lib.hid HBS.out.symm
        go_wp2
        go_roundw
        case rel => exact ⟨k + 1, by go_num, by omega, Lib.hid ⟨x, by rw [ek_no HSK.out]; exact HG8.out.1, HG8.out.2.1.no HSK.out, HG8.out.2.2⟩⟩
        case measure => simp [intOf]; omega
      · have HSK := Lib.hid HBS.out.symm
        obtain ⟨l, hl⟩ : ∃ l, l = ek S k := ⟨_, rfl⟩
        have hl3 : l ≤ 4096 := by have := ek_le S k; omega
        have HL := Lib.hid hl
        have r1 := HG8.out.1
        rw [← hl] at r1
        have HR := Lib.hid r1
        clear hl r1
        obtain ⟨i0, hi, hz0, hz1, hz2⟩ := info_parts info3
        go_upto_region 6 with fail
        go_wp2_with (at_builtin; refine wpList_append_q rfl _ _ 22 rfl i0 Tryz.underlying22 hi hz0 hz1 hz2 W1.heap.size _ l x rfl ?qs ?base ⟨w8.heap.size, 0, none⟩ 1 k rfl ?cell ?nlim ?_)
        case qs => exact HR.out.ext (Ext.alc (Ext.refl _) _)
        case base => have := HG8.out.2.2.size; simp; omega
        case cell => rw [World.cell?_alloc_new]; rfl
        case nlim => omega
        intro v' w9 hq4 hgr
        have z4 := hgr.ext (HG8.out.2.2.alc _) (fun b hb => (HR.out.1 b hb).1)
        have HH := Lib.hid (And.intro hq4 z4)
        clear hq4 hgr z4
        go_wp2
        go_roundw
        case rel => exact ⟨k + 1, by go_num, by omega, Lib.hid ⟨_, by rw [ek_sx HSK.out, ← HL.out]; exact HH.out.1, by have := HG8.out.2.1.up_ HSK.out; rw [← HL.out] at this; exact this, HH.out.2⟩⟩
        case measure => simp [intOf]; omega
    · obtain rfl : k = P := by omega
      obtain ⟨x, g1, g2, g3⟩ := hin.out
      have HF := Lib.hid (And.intro g1 (And.intro g2 g3))
      clear hin g1 g2 g3
      obtain ⟨-, A9, c9, rfl, -⟩ := HF.out.1
      go_wp2
      go_ret
      exact ⟨_, x, rfl, HB.out.trans HF.out.2.2, HF.out.1.il, HF.out.2.1⟩
end Go.Proofs.YtijhbmdbnnmogaaGreat.G
namespace Go.Proofs.YtijhbmdbnnmogaaGreat.G
open Go.RowKit

theorem zb_nat (a e : Nat) : zb (a : Int) e = a.testBit e := by
  unfold zb
  rw [Nat.testBit_eq_decide_div_mod_eq]
  refine decide_eq_decide.2 ?_
  have : ((a : Int) / 2 ^ e) = ((a / 2 ^ e : Nat) : Int) := by rw [Int.natCast_ediv, Int.natCast_pow]; rfl
  rw [this]
  omega
theorem or_nat (a b : Nat) (ha : a < 1000000) (hb : b < 1000000) : bits .or .i64 (a : Int) (b : Int) = ((a ||| b : Nat) : Int) := by
  have h1 : ∀ x : Nat, x < 1000000 → (BitVec.ofInt 64 (x : Int)).toNat = x := fun x hx => by
    rw [BitVec.ofInt_natCast, BitVec.toNat_ofNat]; exact Nat.mod_eq_of_lt (by omega)
  show IntKind.i64.wrap ((BitVec.ofInt 64 (a : Int) ||| BitVec.ofInt 64 (b : Int)).toNat : Int) = _
  rw [BitVec.toNat_or, h1 a ha, h1 b hb]
  have h2 : a ||| b < 2 ^ 20 := Nat.or_lt_two_pow (by omega) (by omega)
  exact IntWalk.i64_in _ (by omega)
theorem and_nat (a b : Nat) (ha : a < 1000000) (hb : b < 1000000) : bits .and .i64 (a : Int) (b : Int) = ((a &&& b : Nat) : Int) := by
  have h1 : ∀ x : Nat, x < 1000000 → (BitVec.ofInt 64 (x : Int)).toNat = x := fun x hx => by
    rw [BitVec.ofInt_natCast, BitVec.toNat_ofNat]; exact Nat.mod_eq_of_lt (by omega)
  show IntKind.i64.wrap ((BitVec.ofInt 64 (a : Int) &&& BitVec.ofInt 64 (b : Int)).toNat : Int) = _
  rw [BitVec.toNat_and, h1 a ha, h1 b hb]
  have h2 : a &&& b ≤ a := Nat.and_le_left
  exact IntWalk.i64_in _ (by omega)
/-- whether x is in the set z of the first n of y -/
def InB (n : Nat) (y : Nat → Int) (z : Int) (x : Int) (b : Bool) : Prop := (∃ i, i < n ∧ y i = x ∧ (∀ j, j < i → y j ≠ x) ∧ b = zb z i) ∨ ((∀ i, i < n → y i ≠ x) ∧ b = false)
/-- what 'in' returns -/
def InRet (n : Nat) (y : Nat → Int) (z x : Int) (W : World) (r : Ending) (W' : World) : Prop := ∃ b : Bool, r = .returned (.bool b) ∧ InB n y z x b ∧ W = W'
theorem InRet.mk_ {n : Nat} {y : Nat → Int} {z x : Int} {W : World} {r : Ending} {b : Bool} (h1 : r = .returned (.bool b)) (h2 : InB n y z x b) : InRet n y z x W r W := ⟨b, h1, h2, rfl⟩
set_option maxHeartbeats 4000000 in
set_option maxRecDepth 100000 in
theorem in_any (n : Nat) (y : Nat → Int) (z x : Int) (LV : Value) (W : World) (hL : Il W LV n y) (hn : n ≤ 64) :
    Calls Tryz.prog 146 #[LV, .int .i64 z, .int .i64 x] W (InRet n y z x W) := by
  have HL := Lib.hid hL
  obtain ⟨A, c, rfl, hac, hcm, -⟩ := hL
  go_enter Tryz.func146, Tryz.ntmps146
  go_wp2_with fail
  go_loopw [11] (fun i wr => ∃ k : Nat, i = .int .i64 k ∧ k ≤ n ∧ Hid ((∀ j, j < k → y j ≠ x) ∧ W = wr)) (fun i _ => n - (intOf i).toNat)
  case atStart => exact ⟨0, rfl, Nat.zero_le _, Lib.hid ⟨fun j h => by omega, rfl⟩⟩
  case round =>
    obtain ⟨k, rfl, hk, hin⟩ := hrel
    obtain rfl : W = wr := hin.out.2
    by_cases hlt : k < n
    · obtain ⟨b1, o1, rfl, -, e1⟩ := Vl.at HL.out (Ext.refl _) hlt
      obtain ⟨v, hv⟩ : ∃ v, v = y k := ⟨_, rfl⟩
      rw [← hv] at e1
      have HV := Lib.hid hv
      clear hv
      by_cases hxv : x = v
      · subst hxv
        have hbe : (x == x) = true := by simp
        have hz := zb_val z k
        obtain ⟨q, hq⟩ : ∃ q : Int, q = if zb z k = true then 1 else 0 := ⟨_, rfl⟩
        rw [← hq] at hz
        have hbe2 : (q == (1 : Int)) = zb z k := by rw [hq]; cases zb z k <;> rfl
        have HR : Hid (InB n y z x (zb z k)) := Lib.hid (.inl ⟨k, hlt, HV.out.symm, hin.out.1, rfl⟩)
        generalize zb z k = B at *
        clear hq
        go_wp2
        go_ret
        exact InRet.mk_ rfl HR.out
      · have hbe : (x == v) = false := by simpa using hxv
        go_wp2
        go_roundw
        case rel =>
          refine ⟨k + 1, by go_num, by omega, Lib.hid ⟨fun j hj => ?_, by first | rfl | trivial⟩⟩
          by_cases e : j = k
          · subst e; rw [← HV.out]; exact fun h => hxv h.symm
          · exact hin.out.1 j (by omega)
        case measure => simp [intOf]; omega
    · obtain rfl : k = n := by omega
      have HR : Hid (InB k y z x false) := Lib.hid (.inr ⟨hin.out.1, rfl⟩)
      go_wp2
      go_ret
      exact InRet.mk_ rfl HR.out
end Go.Proofs.YtijhbmdbnnmogaaGreat.G
