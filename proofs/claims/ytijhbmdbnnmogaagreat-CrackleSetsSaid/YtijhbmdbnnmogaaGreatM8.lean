/- Walks: the reference's lowest. · Walks: the reference's Vertex and Part. -/
import Derived.Test.YtijhbmdbnnmogaaGreatM3
import Derived.Test.YtijhbmdbnnmogaaGreatM5
import Derived.RegionTactic
import Derived.ChangeAlike
import Derived.Lib.MinMax
namespace Go.Proofs.YtijhbmdbnnmogaaGreat.G
open Go.RowKit

/-- pairs in memory: k of them -/
def Pr (w : World) (v : Value) (k : Nat) (p q : Nat → Nat) : Prop :=
  ∃ A c, v = .slice A k c ∧ k ≤ c ∧ c ≤ 9223372036854775807 ∧ (0 < k → ∃ b off, A = some ⟨b, off, none⟩ ∧ b < w.heap.size ∧ ∀ j, j < k → w.cell? ⟨b, off + j * 2, none⟩ = some (.int .i64 ((p j : Nat) : Int)) ∧ w.cell? ⟨b, off + j * 2 + 1, none⟩ = some (.int .i64 ((q j : Nat) : Int)))
theorem Pr.ext {w w' : World} {v : Value} {k : Nat} {p q : Nat → Nat} (h : Pr w v k p q) (e : Ext w w') : Pr w' v k p q := by
  obtain ⟨A, c, rfl, h1, h2, h3⟩ := h
  refine ⟨A, c, rfl, h1, h2, fun hp => ?_⟩
  obtain ⟨b, off, rfl, hb, hc⟩ := h3 hp
  exact ⟨b, off, rfl, Nat.lt_of_lt_of_le hb e.size, fun j hj => ⟨keepAt e hb (hc j hj).1, keepAt e hb (hc j hj).2⟩⟩
theorem Pr.at {w X : World} {A : Option Addr} {k c : Nat} {p q : Nat → Nat} (h : Pr w (.slice A k c) k p q) (e : Ext w X) {j : Nat} (hj : j < k) :
    ∃ b off, A = some ⟨b, off, none⟩ ∧ X.cell? ⟨b, off + j * 2, none⟩ = some (.int .i64 ((p j : Nat) : Int)) ∧ X.cell? ⟨b, off + j * 2 + 1, none⟩ = some (.int .i64 ((q j : Nat) : Int)) := by
  obtain ⟨A', c', e', h1, h2, h3⟩ := h.ext e
  injection e' with e1 e2 e3
  subst e1 e3
  obtain ⟨b, off, e, hb, hc⟩ := h3 (by omega)
  exact ⟨b, off, e, (hc j hj).1, (hc j hj).2⟩
def boolOf : Value → Bool
  | .bool b => b
  | _ => false
theorem smN_bi {w : World} {g n : Nat} {x : Nat → Int} (h : BI w g n x) : smN (numAt w g) n = smN x n := smN_congr n fun _ hj => numAt_bi h hj

set_option maxHeartbeats 8000000 in
set_option maxRecDepth 100000 in
theorem lowest_any (n np : Nat) (p q : Nat → Nat) (PV : Value) (W : World) (hP : Pr W PV np p q) (hn : n ≤ 1000) (hpq : ∀ i, i < np → p i < n ∧ q i < n) :
    Calls Tryz.prog 128 #[.int .i64 n, PV] W fun e W' => ∃ (g : Nat) (x : Nat → Int), e = .returned (.slice (some ⟨g, 0, none⟩) n n) ∧ W.heap.size ≤ g ∧ BI W' g n x ∧ Lw n np p q x ∧ (∀ i, i < np → x (p i) = x (q i)) ∧ Ext W W' := by
  have HP := Lib.hid hP; have HPQ := Lib.hid hpq
  obtain ⟨A, c, rfl, hac, hcm, -⟩ := hP
  clear hpq
  have hm1 : ∀ w, (Instr.makeSlice 22 (.int .i64 (n : Int)) (.int .i64 (n : Int))).run Tryz.prog w = .ok (.slice (some ⟨w.heap.size, 0, none⟩) n n) (w.alloc (.cells (Array.ofFn fun _ : Fin n => .int .i64 0) 3)) := fun w => make_one 22 3 _ 8 Tryz.underlying22 info3 rfl (by omega) n (by omega) w
  go_enter Tryz.func128, Tryz.ntmps128
  go_upto_region 2 with fail
  have y1 : BI (W.alloc (.cells (Array.ofFn fun _ : Fin n => Value.int .i64 0) 3)) W.heap.size n (fun _ => 0) := heap_alloc_new W _
  have e1 : Ext W (W.alloc (.cells (Array.ofFn fun _ : Fin n => Value.int .i64 0) 3)) := Ext.alc (Ext.refl _) _
  obtain ⟨g, hg⟩ : ∃ g, g = W.heap.size := ⟨_, rfl⟩
  rw [← hg] at y1 ⊢
  have hgW : W.heap.size ≤ g := by omega
  generalize W.alloc (.cells (Array.ofFn fun _ : Fin n => Value.int .i64 0) 3) = W1 at *
  have HY := Lib.hid (And.intro y1 e1)
  clear y1 e1 hg hm1
  go_wp2_with fail
  go_loopw [15] (fun i wr => ∃ k : Nat, i = .int .i64 k ∧ k ≤ n ∧ Hid (BI wr g n (fun j => if j < k then (j : Int) else 0) ∧ Ext W wr)) (fun i _ => n - (intOf i).toNat)
  case atStart => exact ⟨0, rfl, Nat.zero_le _, Lib.hid ⟨Bk.congr HY.out.1 (fun j _ => by simp), HY.out.2⟩⟩
  case round =>
    clear HY
    obtain ⟨k, rfl, hk, hin⟩ := hrel
    obtain ⟨wo, rfl⟩ : ∃ w, w = wr := ⟨_, rfl⟩
    by_cases hlt : k < n
    · have c1 := Bk.cell hin.out.1 hlt
      have f1 := Bk.free hin.out.1 k
      have HF := Lib.hid (And.intro (BI.set_ hin.out.1 k (k : Int)) (hin.out.2.sc (v := .int .i64 k) (i := k) hgW))
      clear hin
      go_wp2
      go_roundw
      case rel =>
        refine ⟨k + 1, by go_num, by omega, Lib.hid ⟨Bk.congr HF.out.1 (fun j _ => ?_), HF.out.2⟩⟩
        congr 1
        by_cases e : j = k
        · subst e; rw [up_self]; dsimp only; rw [if_pos (by omega)]
        · rw [up_ne _ _ e]
          dsimp only
          by_cases e2 : j < k
          · rw [if_pos e2, if_pos (by omega)]
          · rw [if_neg e2, if_neg (by omega)]
      case measure => simp [intOf]; omega
    · obtain rfl : k = n := by omega
      have h0 : BI wo g k (fun j => (j : Int)) := Bk.congr hin.out.1 (fun j hj => by dsimp only; rw [if_pos hj])
      have H0 := Lib.hid (And.intro h0 hin.out.2)
      clear h0 hin
      go_wp2_with fail
      go_loopw [7] (fun a wr => ∃ (bb : Bool) (x : Nat → Int), a = .bool bb ∧ Hid (BI wr g k x ∧ Lw k np p q x ∧ (bb = false → ∀ i, i < np → x (p i) = x (q i)) ∧ Ext W wr)) (fun a wr => if boolOf a then smN (numAt wr g) k + 1 else 0)
      case atStart => exact ⟨true, fun j => (j : Int), rfl, Lib.hid ⟨H0.out.1, Lw.start _ _ _ _, fun h => (by cases h), H0.out.2⟩⟩
      case round =>
        clear H0
        obtain ⟨bb, x0, rfl, hin⟩ := hrel
        obtain ⟨wp, rfl⟩ : ∃ w, w = wr := ⟨_, rfl⟩
        cases bb
        · have HD := Lib.hid (And.intro hin.out.1 (And.intro hin.out.2.1 (And.intro (hin.out.2.2.1 rfl) hin.out.2.2.2)))
          clear hin
          go_wp2
          go_ret
          exact ⟨g, x0, rfl, hgW, HD.out.1, HD.out.2.1, HD.out.2.2.1, HD.out.2.2.2⟩
        · have HIN := hin
          clear hin
          go_wp2_with fail
          go_loopw [7, 26] (fun a i wr => ∃ (bb : Bool) (x : Nat → Int) (k' : Nat), a = .bool bb ∧ i = .int .i64 k' ∧ k' ≤ np ∧ Hid (BI wr g k x ∧ Lw k np p q x ∧ (bb = false → (∀ j, x j = x0 j) ∧ ∀ i, i < k' → x (p i) = x (q i)) ∧ (bb = true → smN x k < smN x0 k) ∧ Ext W wr)) (fun _ i _ => np - (intOf i).toNat)
          case atStart => exact ⟨false, x0, 0, rfl, rfl, Nat.zero_le _, Lib.hid ⟨HIN.out.1, HIN.out.2.1, fun _ => ⟨fun _ => rfl, fun i h => by omega⟩, fun h => (by cases h), HIN.out.2.2.2⟩⟩
          case round =>
            obtain ⟨bb, x, k', rfl, rfl, hk', hin⟩ := hrel
            by_cases hlt2 : k' < np
            · obtain ⟨b1, o1, rfl, e1, e2⟩ := HP.out.at hin.out.2.2.2.2 hlt2
              obtain ⟨hpk, hqk⟩ := HPQ.out k' hlt2
              obtain ⟨pk, hp1⟩ : ∃ z, z = p k' := ⟨_, rfl⟩
              obtain ⟨qk, hq1⟩ : ∃ z, z = q k' := ⟨_, rfl⟩
              rw [← hp1] at e1 hpk
              rw [← hq1] at e2 hqk
              obtain ⟨u, hu, hu2, -⟩ := hin.out.2.1 pk hpk
              obtain ⟨v, hv, hv2, -⟩ := hin.out.2.1 qk hqk
              have HIN2 := hin
              have HQ := Lib.hid (And.intro hp1 (And.intro hq1 (And.intro hu hv)))
              clear hin hp1 hq1 hu hv
              go_upto_region 13 with fail
              have hsz : k ≤ 1000 := hn
              obtain ⟨zb, hzb⟩ : ∃ z, z = wr.heap.size := ⟨_, rfl⟩
              have h9 := heap_alloc_new wr (.cells #[.int .i64 (pk : Nat), .int .i64 (qk : Nat)] 162)
              have bi9 : BI (wr.alloc (.cells #[.int .i64 (pk : Nat), .int .i64 (qk : Nat)] 162)) g k x := Bk.alloc HIN2.out.1 _
              have hgz : g ≠ zb := by have := Bk.lt HIN2.out.1; omega
              have x9 : Ext W (wr.alloc (.cells #[.int .i64 (pk : Nat), .int .i64 (qk : Nat)] 162)) := HIN2.out.2.2.2.2.alc _
              rw [← hzb] at h9 ⊢
              generalize wr.alloc (.cells #[.int .i64 (pk : Nat), .int .i64 (qk : Nat)] 162) = w9 at *
              obtain ⟨t0, t1, -⟩ := two h9
              have a0 : w9.drew.cell? ⟨zb, 0, none⟩ = some (.int .i64 (pk : Nat)) := t0
              have a1 : w9.drew.cell? ⟨zb, 1, none⟩ = some (.int .i64 (qk : Nat)) := t1
              have gp : w9.drew.cell? ⟨g, pk, none⟩ = some (.int .i64 (u : Nat)) := (Bk.cell bi9 hpk).trans (by rw [HQ.out.2.2.1])
              have gq : w9.drew.cell? ⟨g, qk, none⟩ = some (.int .i64 (v : Nat)) := (Bk.cell bi9 hqk).trans (by rw [HQ.out.2.2.2])
              have fd : w9.drew.frozen? ⟨g, pk, none⟩ = false := Bk.free bi9 pk
              have gd : w9.drew.frozen? ⟨g, qk, none⟩ = false := Bk.free bi9 qk
              have HA := Lib.hid (And.intro (Bk.drew bi9) (And.intro a0 (And.intro a1 (And.intro gp (And.intro gq (And.intro fd x9.drw))))))
              clear h9 bi9 x9 t0 t1 e1 e2 hzb
              rcases Nat.lt_trichotomy u v with huv | huv | huv
              · have hmin : min (u : Int) (v : Int) = (u : Int) := by omega
                have hne1 : ((u : Int) != (u : Int)) = false := by simp
                have hne2 : ((v : Int) != (u : Int)) = true := by simp; omega
                go_region
                clear a0 a1 gp gq fd gd hmin
                have b0 := HA.out.2.1; have b1' := HA.out.2.2.1
                have gp := HA.out.2.2.2.1; have gq := HA.out.2.2.2.2.1; have fr := HA.out.2.2.2.2.2.1
                generalize w9.drew = w10 at *
                have s1 : BI (w10.setCell ⟨g, pk, none⟩ (.int .i64 u)) g k (up x pk u) := BI.set_ HA.out.1 pk u
                have s2 : BI ((w10.setCell ⟨g, pk, none⟩ (.int .i64 u)).setCell ⟨g, qk, none⟩ (.int .i64 u)) g k (up (up x pk u) qk u) := BI.set_ s1 qk u
                have c0 : (w10.setCell ⟨g, pk, none⟩ (.int .i64 u)).cell? ⟨zb, 1, none⟩ = some (.int .i64 (qk : Nat)) := (World.cell?_setCell_other _ _ _ _ (by intro e; injection e with e1 e2; exact hgz e1)).trans b1'
                have cq : (w10.setCell ⟨g, pk, none⟩ (.int .i64 u)).cell? ⟨g, qk, none⟩ = some (.int .i64 (up x pk u qk)) := Bk.cell s1 hqk
                have fq : (w10.setCell ⟨g, pk, none⟩ (.int .i64 u)).frozen? ⟨g, qk, none⟩ = false := Bk.free s1 qk
                have x3 : Ext W ((w10.setCell ⟨g, pk, none⟩ (.int .i64 u)).setCell ⟨g, qk, none⟩ (.int .i64 u)) := (HA.out.2.2.2.2.2.2.sc hgW).sc hgW
                have HF := Lib.hid (And.intro s2 x3)
                clear s1 s2 x3
                go_wp2
                go_roundw
                case rel =>
                  have hw := HIN2.out.2.1
                  have hm : ((u : Nat) : Int) = min (x (p k')) (x (q k')) := by rw [← HQ.out.1, ← HQ.out.2.1, HQ.out.2.2.1, HQ.out.2.2.2]; omega
                  have hl1 := hw.step hlt2 (HPQ.out k' hlt2).1 (HPQ.out k' hlt2).2 hm
                  have hl2 := hw.less (HPQ.out k' hlt2).1 (HPQ.out k' hlt2).2 hm (by rw [← HQ.out.1, ← HQ.out.2.1, HQ.out.2.2.1, HQ.out.2.2.2]; omega)
                  rw [← HQ.out.1, ← HQ.out.2.1] at hl1 hl2
                  refine ⟨true, _, k' + 1, rfl, by go_num, by omega, Lib.hid ⟨HF.out.1, hl1, fun h => (by cases h), fun _ => ?_, HF.out.2⟩⟩
                  cases bb
                  · have h3 := (HIN2.out.2.2.1 rfl).1
                    rw [← smN_congr (x := x) (y := x0) k (fun j _ => h3 j)]; exact hl2
                  · exact Nat.lt_trans hl2 (HIN2.out.2.2.2.1 rfl)
                case measure => simp [intOf]; omega
              · subst huv
                have hmin : min (u : Int) (u : Int) = (u : Int) := by omega
                have hne : ((u : Int) != (u : Int)) = false := by simp
                go_region
                clear a0 a1 gp gq fd gd hmin
                have b0 := HA.out.2.1; have b1' := HA.out.2.2.1
                have gp := HA.out.2.2.2.1; have gq := HA.out.2.2.2.2.1
                generalize w9.drew = w10 at *
                have HB := Lib.hid (And.intro HA.out.1 HA.out.2.2.2.2.2.2)
                go_wp2
                go_roundw
                case rel =>
                  refine ⟨bb, x, k' + 1, rfl, by go_num, by omega, Lib.hid ⟨HB.out.1, HIN2.out.2.1, fun h => ⟨(HIN2.out.2.2.1 h).1, fun i hi => ?_⟩, HIN2.out.2.2.2.1, HB.out.2⟩⟩
                  by_cases e : i = k'
                  · subst e; rw [← HQ.out.1, ← HQ.out.2.1, HQ.out.2.2.1, HQ.out.2.2.2]
                  · exact (HIN2.out.2.2.1 h).2 i (by omega)
                case measure => simp [intOf]; omega
              · have hmin : min (u : Int) (v : Int) = (v : Int) := by omega
                have hne1 : ((u : Int) != (v : Int)) = true := by simp; omega
                have hne2 : ((v : Int) != (v : Int)) = false := by simp
                go_region
                clear a0 a1 gp gq fd gd hmin
                have b0 := HA.out.2.1; have b1' := HA.out.2.2.1
                have gp := HA.out.2.2.2.1; have gq := HA.out.2.2.2.2.1; have fr := HA.out.2.2.2.2.2.1
                generalize w9.drew = w10 at *
                have s1 : BI (w10.setCell ⟨g, pk, none⟩ (.int .i64 v)) g k (up x pk v) := BI.set_ HA.out.1 pk v
                have s2 : BI ((w10.setCell ⟨g, pk, none⟩ (.int .i64 v)).setCell ⟨g, qk, none⟩ (.int .i64 v)) g k (up (up x pk v) qk v) := BI.set_ s1 qk v
                have c0 : (w10.setCell ⟨g, pk, none⟩ (.int .i64 v)).cell? ⟨zb, 1, none⟩ = some (.int .i64 (qk : Nat)) := (World.cell?_setCell_other _ _ _ _ (by intro e; injection e with e1 e2; exact hgz e1)).trans b1'
                have cq : (w10.setCell ⟨g, pk, none⟩ (.int .i64 v)).cell? ⟨g, qk, none⟩ = some (.int .i64 (up x pk v qk)) := Bk.cell s1 hqk
                have fq : (w10.setCell ⟨g, pk, none⟩ (.int .i64 v)).frozen? ⟨g, qk, none⟩ = false := Bk.free s1 qk
                have x3 : Ext W ((w10.setCell ⟨g, pk, none⟩ (.int .i64 v)).setCell ⟨g, qk, none⟩ (.int .i64 v)) := (HA.out.2.2.2.2.2.2.sc hgW).sc hgW
                have HF := Lib.hid (And.intro s2 x3)
                clear s1 s2 x3
                go_wp2
                go_roundw
                case rel =>
                  have hw := HIN2.out.2.1
                  have hm : ((v : Nat) : Int) = min (x (p k')) (x (q k')) := by rw [← HQ.out.1, ← HQ.out.2.1, HQ.out.2.2.1, HQ.out.2.2.2]; omega
                  have hl1 := hw.step hlt2 (HPQ.out k' hlt2).1 (HPQ.out k' hlt2).2 hm
                  have hl2 := hw.less (HPQ.out k' hlt2).1 (HPQ.out k' hlt2).2 hm (by rw [← HQ.out.1, ← HQ.out.2.1, HQ.out.2.2.1, HQ.out.2.2.2]; omega)
                  rw [← HQ.out.1, ← HQ.out.2.1] at hl1 hl2
                  refine ⟨true, _, k' + 1, rfl, by go_num, by omega, Lib.hid ⟨HF.out.1, hl1, fun h => (by cases h), fun _ => ?_, HF.out.2⟩⟩
                  cases bb
                  · have h3 := (HIN2.out.2.2.1 rfl).1
                    rw [← smN_congr (x := x) (y := x0) k (fun j _ => h3 j)]; exact hl2
                  · exact Nat.lt_trans hl2 (HIN2.out.2.2.2.1 rfl)
                case measure => simp [intOf]; omega
            · obtain rfl : k' = np := by omega
              have HX := hin
              clear hin
              go_wp2
              go_roundw
              case rel => exact ⟨bb, x, rfl, Lib.hid ⟨HX.out.1, HX.out.2.1, fun h => (HX.out.2.2.1 h).2, HX.out.2.2.2.2⟩⟩
              case measure =>
                cases bb
                · simp [boolOf]
                · have := HX.out.2.2.2.1 rfl
                  simp only [boolOf, if_true]
                  rw [smN_bi HX.out.1, smN_bi HIN.out.1]
                  omega
end Go.Proofs.YtijhbmdbnnmogaaGreat.G
namespace Go.Proofs.YtijhbmdbnnmogaaGreat.G
open Go.RowKit

set_option maxRecDepth 100000 in
theorem info162 : (Tryz.prog.info? 162).map (fun i => (i.zero, i.size, i.bytes)) = some (some (.agg #[.int .i64 0, .int .i64 0]), 2, 16) := by kernel_rfl
/-- the first k pairs as values -/
def pls (p q : Nat → Nat) (k : Nat) : List Value := (List.range k).flatMap fun j => [Value.int .i64 ((p j : Nat) : Int), Value.int .i64 ((q j : Nat) : Int)]
theorem pls_succ (p q : Nat → Nat) (k : Nat) : pls p q (k + 1) = pls p q k ++ [.int .i64 ((p k : Nat) : Int), .int .i64 ((q k : Nat) : Int)] := by unfold pls; rw [List.range_succ, List.flatMap_append]; simp
theorem pls_len (p q : Nat → Nat) : ∀ k, (pls p q k).length = k * 2
  | 0 => rfl
  | k + 1 => by rw [pls_succ, List.length_append, pls_len p q k]; simp; omega
theorem pls_get (p q : Nat → Nat) {j : Nat} : ∀ k, j < k → (pls p q k)[j * 2]? = some (.int .i64 ((p j : Nat) : Int)) ∧ (pls p q k)[j * 2 + 1]? = some (.int .i64 ((q j : Nat) : Int))
  | 0, h => by omega
  | k + 1, h => by
    have hl := pls_len p q k
    rw [pls_succ]
    by_cases e : j = k
    · subst e
      exact ⟨by rw [List.getElem?_append_right (by omega), show j * 2 - (pls p q j).length = 0 by omega]; rfl, by rw [List.getElem?_append_right (by omega), show j * 2 + 1 - (pls p q j).length = 1 by omega]; rfl⟩
    · have := pls_get p q (j := j) k (by omega)
      exact ⟨by rw [List.getElem?_append_left (by omega)]; exact this.1, by rw [List.getElem?_append_left (by omega)]; exact this.2⟩
theorem pr_own {w : World} {base k : Nat} {v : Value} {p q : Nat → Nat} (h : w.ownsRow base 162 2 v k (pls p q k)) : Pr w v k p q := by
  obtain ⟨h1, ⟨rfl, h2⟩ | ⟨g, cap, cur, rfl, hb, hh, h5, h6, h7, h8⟩⟩ := h
  · subst h2; exact ⟨none, 0, rfl, Nat.le_refl _, by omega, fun h => by omega⟩
  · refine ⟨_, cap, rfl, by omega, by simp only [maxLen] at *; omega, fun hp => ⟨g, 0, rfl, (Array.getElem?_eq_some_iff.1 hh).1, fun j hj => ?_⟩⟩
    have h9 := pls_get p q k hj
    rw [← h8, List.getElem?_take, if_pos (by omega), List.getElem?_take, if_pos (by omega)] at h9
    rw [Nat.zero_add, cell_of_row w g _ cur 162 (0, 0) hh, cell_of_row w g _ cur 162 (0, 0) hh]
    simpa using h9
theorem pls_congr {p q p' q' : Nat → Nat} : ∀ k, (∀ j, j < k → p j = p' j ∧ q j = q' j) → pls p q k = pls p' q' k
  | 0, _ => rfl
  | k + 1, h => by rw [pls_succ, pls_succ, pls_congr k (fun j hj => h j (by omega)), (h k (by omega)).1, (h k (by omega)).2]
theorem nw2 (w : World) (x y : Value) (t : TypeId) : ∀ j u, [x, y][j]? = some u → (w.alloc (.cells #[x, y] t)).cell? ((⟨w.heap.size, 0, none⟩ : Addr).add j) = some u := by
  intro j u hj
  match j, hj with
  | 0, hj => simp at hj; subst hj; simp [Addr.add]
  | 1, hj => simp at hj; subst hj; simp [Addr.add]
  | j + 2, hj => simp at hj
theorem nw4 (w : World) (x y x' y' : Value) (t : TypeId) : ∀ j u, [x, y, x', y'][j]? = some u → (w.alloc (.cells #[x, y, x', y'] t)).cell? ((⟨w.heap.size, 0, none⟩ : Addr).add j) = some u := by
  intro j u hj
  match j, hj with
  | 0, hj => simp at hj; subst hj; simp [Addr.add]
  | 1, hj => simp at hj; subst hj; simp [Addr.add]
  | 2, hj => simp at hj; subst hj; simp [Addr.add]
  | 3, hj => simp at hj; subst hj; simp [Addr.add]
  | j + 4, hj => simp at hj

set_option maxHeartbeats 4000000 in
set_option maxRecDepth 100000 in
theorem vertexR_any (n : Nat) (f : Nat → Int) (NV : Value) (W : World) (hN : Il W NV n f) (hM : Mp n f) (m : Nat → Nat) (hm : Nm n 1 (fun _ => tn f) m) :
    Calls Tryz.prog 61 #[.agg #[NV]] W fun e W' => ∃ g, e = .returned (.slice (some ⟨g, 0, none⟩) n n) ∧ BI W' g n (fun d => ((m d : Nat) : Int)) ∧ Ext W W' := by
  have HN := Lib.hid hN; have HMM := Lib.hid (And.intro hM hm)
  have hn80 : n ≤ 80 := hM.le
  obtain ⟨A, c, rfl, hac, hcm, -⟩ := hN
  clear hM hm
  obtain ⟨i0, hi, hz0, hz1, hz2⟩ := info_parts info162
  have HI := Lib.hid (And.intro hi (And.intro hz0 (And.intro hz1 hz2)))
  clear hi hz0 hz1 hz2
  go_enter Tryz.func61, Tryz.ntmps61
  go_upto_region 1 with fail
  have bb := al1 W (.cells #[.slice A n c] 24)
  obtain ⟨m0, -, mz⟩ := uno (heap_alloc_new W (.cells #[.slice A n c] 24))
  generalize W.alloc (.cells #[.slice A n c] 24) = W1 at *
  have HB : Hid (Ext W W1) := Lib.hid bb
  have HM0 := Lib.hid m0
  clear bb
  go_wp2_with fail
  clear m0
  go_loopw [3, 9] (fun q i wr => ∃ k : Nat, i = .int .i64 k ∧ k ≤ n ∧ Hid (wr.ownsRow W1.heap.size 162 2 q k (pls (fun j => j) (tn f) k) ∧ Ext W1 wr)) (fun _ i _ => n - (intOf i).toNat)
  case atStart => exact ⟨0, rfl, Nat.zero_le _, Lib.hid ⟨World.ownsRow_nil _ _ _ _, Ext.refl _⟩⟩
  case round =>
    obtain ⟨k, rfl, hk, hin⟩ := hrel
    obtain ⟨Av, cv, rfl⟩ := shape_own hin.out.1
    obtain ⟨wo, rfl⟩ : ∃ w, w = wr := ⟨_, rfl⟩
    by_cases hlt : k < n
    · obtain ⟨b1, o1, rfl, -, e1⟩ := Vl.at HN.out (HB.out.trans hin.out.2) hlt
      obtain ⟨z, hz⟩ : ∃ z, z = tn f k := ⟨_, rfl⟩
      rw [← HMM.out.1.tn_eq hlt, ← hz] at e1
      have HZ := Lib.hid hz
      clear hz
      have hown := World.ownsRow.ext hin.out.1 (Ext.alc (Ext.refl wo) (.cells #[.int .i64 (k : Nat), .int .i64 (z : Nat)] 162))
      go_wp2_with (at_builtin; refine wpList_append_own _ rfl _ _ 161 rfl W1.heap.size 162 i0 (.agg #[.int .i64 0, .int .i64 0]) 2 16 Tryz.underlying161 HI.out.1 HI.out.2.1 HI.out.2.2.1 HI.out.2.2.2 rfl (by decide) _ k _ rfl hown ⟨wo.heap.size, 0, none⟩ 1 1 [.int .i64 (k : Nat), .int .i64 (z : Nat)] rfl rfl (nw2 _ _ _ _) ?c2 ?c3 ?c4 ?c5 ?_)
      case c2 => intro uu hu; simp at hu; rcases hu with rfl | rfl <;> rfl
      case c3 => unfold maxLen; omega
      case c4 => omega
      case c5 => have := hin.out.2.size; first | omega | (simp; done) | (simp; omega)
      intro v' w3 hown' hgrow _hnil
      clear _hnil
      have hex : Ext W1 w3 := ext_grow (hin.out.2.alc _) hgrow (fun b' hb' => (World.ownsRow.lt hown b' hb').1) (Nat.le_refl _)
      have HNX : Hid (w3.ownsRow W1.heap.size 162 2 v' (k + 1) (pls (fun j => j) (tn f) (k + 1)) ∧ Ext W1 w3) := Lib.hid ⟨by rw [pls_succ, ← HZ.out]; exact hown', hex⟩
      clear hown' hex hgrow hown e1
      go_wp2
      go_roundw
      case rel => exact ⟨k + 1, by go_num, by omega, HNX⟩
      case measure => simp [intOf]; omega
    · obtain rfl : k = n := by omega
      have m0 := keepAt hin.out.2 mz HM0.out
      have HP := Lib.hid (pr_own hin.out.1)
      go_wp2_with fail
      refine (lowest_any k k (fun j => j) (tn f) _ _ HP.out (by omega) (fun i hi => ⟨hi, HMM.out.1.tn_lt hi⟩)).mono ?_
      rintro e w4 ⟨g, x, rfl, -, hb, hlw, heq, hx⟩
      clear m0
      have hfin : BI w4 g k (fun d => ((m d : Nat) : Int)) := Bk.congr hb fun d hd => by
        dsimp only
        rw [hlw.nm (k := 1) (st := fun _ => tn f) (m := m) (fun _ _ d hd => HMM.out.1.tn_lt hd) (fun _ _ a b ha hb h => HMM.out.1.inj a b ha hb (by rw [← HMM.out.1.tn_eq ha, ← HMM.out.1.tn_eq hb, h])) (fun i hi => ⟨hi, 0, by omega, rfl⟩) (fun j hj d hd => ⟨d, hd, rfl, rfl⟩) heq HMM.out.2 hd]
      have HF := Lib.hid (And.intro hfin (HB.out.trans (hin.out.2.trans hx)))
      clear hb hlw heq hx hfin
      go_wp2
      go_ret
      exact ⟨g, rfl, HF.out.1, HF.out.2⟩
end Go.Proofs.YtijhbmdbnnmogaaGreat.G
