/- Walks: the table of the reference. -/
import Derived.Test.YtlachbodibajlaaDoorM6
namespace Go.Proofs.YtlachbodibajlaaDoor
open Go.RowKit Go.Shelf

/-- what has been looked at at p, i letters -/
def fk (ws : List Bw.Word) (p i : Nat) : List UInt8 × Nat := (Bw.letters.take i).foldl (Bw.looked ws (Bw.rest ws) p) ([], 0)
theorem fk_succ (ws : List Bw.Word) (p : Nat) {i : Nat} (h : i < 8) : fk ws p (i + 1) = Bw.looked ws (Bw.rest ws) p (fk ws p i) (lt i) := by
  unfold fk
  rw [take_lt h, List.foldl_append]; rfl
theorem fk_all {ws : List Bw.Word} {p : Nat} (hp : p < Bw.sz ws) (e : p ≠ Bw.last ws) : fk ws p 8 = Bw.rest ws p := by
  rw [Bw.rest_eq ws p hp e]; rfl
theorem fk_count {ws : List Bw.Word} (hw : okWs ws = true) {p : Nat} (hp : p < Bw.sz ws) (k : Nat) : (fk ws p k).2 ≤ 4 ^ 31 := by
  obtain ⟨-, h4, h8, hW⟩ := okWs_iff.1 hw
  have h1 := Bw.looked_count ws (Bw.rest ws) p (4 ^ 30) (fun c hm => (rest_moved hw hp hm).1) (Bw.letters.take k) ([], 0)
  have h2 := (Bw.sum_moved ws p).1
  have h3 : ((Bw.letters.take k).map (Bw.mvn ws p)).sum ≤ (Bw.letters.map (Bw.mvn ws p)).sum := by
    conv => rhs; rw [← List.take_append_drop k Bw.letters]
    rw [List.map_append, List.sum_append]; omega
  have h5 : ((Bw.letters.take k).map (Bw.mvn ws p)).sum * 4 ^ 30 ≤ 4 * 4 ^ 30 := Nat.mul_le_mul_right _ (by omega)
  rw [Nat.zero_add] at h1
  exact Nat.le_trans h1 (Nat.le_trans h5 (by decide))
theorem tbT_le (ws : List Bw.Word) (p k : Nat) (hW : Bw.okW ws) (hw : okWs ws = true) (hp : p < Bw.sz ws) : Bw.tbT (fk ws p k) ≤ Bw.far := by
  have : ∀ b : List UInt8 × Nat, b.1.length ≤ 40 → Bw.tbT b ≤ Bw.far := by
    intro b hb
    unfold Bw.tbT Bw.far
    split <;> omega
  induction k with
  | zero => exact Nat.le_refl _
  | succ k ih =>
    by_cases hk : k < 8
    · rw [fk_succ ws p hk]
      by_cases hm : Bw.mv ws p (lt k) = p
      · rw [Bw.tb_same hm]; exact ih
      · have hq := Bw.mv_lt ws p (lt k) hp
        have hr := rest_moved hw hp hm
        have hc := Bw.rest_count hW _ _ hq (Nat.le_refl _)
        obtain ⟨s1, s2, s3⟩ := Bw.tb_step (ws := ws) (R := Bw.rest ws) (fk ws p k) hm hc (by unfold Bw.far; omega)
        rcases Nat.lt_trichotomy (Bw.tbT (fk ws p k)) ((Bw.rest ws (Bw.mv ws p (lt k))).1.length + 1) with h | h | h
        · rw [s1 h]; exact ih
        · rw [(s2 h.symm).1]; exact ih
        · rw [(s3 h).1]; unfold Bw.far; omega
    · have e : fk ws p (k + 1) = fk ws p k := by
        unfold fk
        rw [List.take_of_length_le (show Bw.letters.length ≤ k + 1 by show 8 ≤ k + 1; omega), List.take_of_length_le (show Bw.letters.length ≤ k by show 8 ≤ k; omega)]
      rw [e]; exact ih
/-- the tables where all from m on are filled -/
def Tf (ws : List Bw.Word) (m j : Nat) : Int := if m ≤ j then ((Bw.rest ws j).1.length : Nat) else 0
def Cf (ws : List Bw.Word) (m j : Nat) : Int := if m ≤ j then ((Bw.rest ws j).2 : Nat) else 0
theorem Tf_step {ws : List Bw.Word} (hW : Bw.okW ws) {p : Nat} (hp : p < Bw.sz ws) (e : p ≠ Bw.last ws) (j : Nat) : up (Tf ws (p + 1)) p ((Bw.tbT (fk ws p 8) : Nat) : Int) j = Tf ws p j := by
  rw [fk_all hp e]
  have hc := Bw.rest_count hW _ p hp (Nat.le_refl _)
  unfold up Tf Bw.tbT
  rw [if_neg hc]
  by_cases h : j = p
  · subst h; rw [if_pos rfl, if_pos (Nat.le_refl _)]
  · rw [if_neg h]
    by_cases h2 : p ≤ j
    · rw [if_pos h2]; rw [if_pos (by omega)]
    · rw [if_neg h2]; rw [if_neg (by omega)]
theorem Cf_step {ws : List Bw.Word} {p : Nat} (hp : p < Bw.sz ws) (e : p ≠ Bw.last ws) (j : Nat) : up (Cf ws (p + 1)) p (((fk ws p 8).2 : Nat) : Int) j = Cf ws p j := by
  rw [fk_all hp e]
  unfold up Cf
  by_cases h : j = p
  · subst h; rw [if_pos rfl, if_pos (Nat.le_refl _)]
  · rw [if_neg h]
    by_cases h2 : p ≤ j
    · rw [if_pos h2]; rw [if_pos (by omega)]
    · rw [if_neg h2]; rw [if_neg (by omega)]
theorem up_up {α : Type} (f : Nat → α) (i : Nat) (a b : α) (j : Nat) : up (up f i a) i b j = up f i b j := by
  unfold up; split <;> rfl

set_option maxHeartbeats 4000000 in
set_option maxRecDepth 100000 in
theorem tableR_any (ws : List Bw.Word) (V : Value) (W : World) (hV : Sl W V ws) (hw : okWs ws = true) :
    Calls Tryd.prog 56 #[V] W fun e W' => ∃ gt gc, e = .returned (.tuple #[.slice (some ⟨gt, 0, none⟩) (Bw.sz ws) (Bw.sz ws), .slice (some ⟨gc, 0, none⟩) (Bw.sz ws) (Bw.sz ws)]) ∧ W.heap.size ≤ gt ∧ W.heap.size ≤ gc ∧ gt ≠ gc ∧
      BI W' gt (Bw.sz ws) (fun j => ((Bw.rest ws j).1.length : Nat)) ∧ BI W' gc (Bw.sz ws) (fun j => ((Bw.rest ws j).2 : Nat)) ∧ Ext W W' := by
  have HV := Lib.hid hV; have HW := Lib.hid hw
  obtain ⟨hn1, h4, h8, hW⟩ := okWs_iff.1 hw
  have H8 := Lib.hid h8; have H4 := Lib.hid h4; have HOW := Lib.hid hW
  have hzl := Bw.sz_le ws h4 h8
  have hz1 := Bw.sz_pos ws
  obtain ⟨A, c, rfl, hac, hcm, -⟩ := hV
  obtain ⟨N, hN⟩ : ∃ N, N = Bw.sz ws := ⟨_, rfl⟩
  rw [← hN] at hzl hz1 ⊢
  have HN := Lib.hid hN
  have hm1 : ∀ w, (Instr.makeSlice 32 (.int .i64 (N : Int)) (.int .i64 (N : Int))).run Tryd.prog w = .ok (.slice (some ⟨w.heap.size, 0, none⟩) N N) (w.alloc (.cells (Array.ofFn fun _ : Fin N => .int .i64 0) 3)) :=
    fun w => make_one 32 3 _ 8 Tryd.underlying32 info3 rfl (by omega) N (by omega) w
  obtain ⟨C1, hC1⟩ : ∃ C, C = (Array.ofFn fun _ : Fin N => Value.int .i64 0) := ⟨_, rfl⟩
  rw [← hC1] at hm1
  have HC1 := Lib.hid hC1
  clear hw h8 h4 hW hn1 hN hC1
  go_enter Tryd.func56, Tryd.ntmps56
  go_wp2_with fail
  refine (sizeR_any ws _ _ HV.out H8.out H4.out).mono ?_
  rintro e wS ⟨rfl, rfl⟩
  rw [← HN.out]
  go_upto_region 2 with fail
  have b1 : (((wS.alloc (.cells C1 3)).alloc (.cells C1 3)).drew).heap[wS.heap.size]? = some (.cells C1 3 (0, 0)) := (Below.heap_alloc _ _ _ (by simp)).trans (heap_alloc_new wS _)
  have b2 : (((wS.alloc (.cells C1 3)).alloc (.cells C1 3)).drew).heap[wS.heap.size + 1]? = some (.cells C1 3 (0, 0)) := by
    have h1 := heap_alloc_new (wS.alloc (.cells C1 3)) (.cells C1 3)
    simp only [World.size_alloc] at h1
    exact h1
  have ex : Ext wS (((wS.alloc (.cells C1 3)).alloc (.cells C1 3)).drew) := (((Ext.refl wS).alc _).alc _).drw
  have HB := Lib.hid (And.intro b1 (And.intro b2 ex))
  clear b1 b2 ex
  go_region
  · obtain ⟨gt, hgt⟩ : ∃ g, g = wS.heap.size := ⟨_, rfl⟩
    obtain ⟨gc, hgc⟩ : ∃ g, g = wS.heap.size + 1 := ⟨_, rfl⟩
    have HA : Hid (BI ((wS.alloc (.cells C1 3)).alloc (.cells C1 3)).drew gt N (fun _ => 0) ∧ BI ((wS.alloc (.cells C1 3)).alloc (.cells C1 3)).drew gc N (fun _ => 0) ∧ Ext wS ((wS.alloc (.cells C1 3)).alloc (.cells C1 3)).drew ∧ gt ≠ gc ∧ wS.heap.size ≤ gt ∧ wS.heap.size ≤ gc) := by
      rw [hgt, hgc]; exact Lib.hid ⟨HB.out.1.trans (by rw [HC1.out]), HB.out.2.1.trans (by rw [HC1.out]), HB.out.2.2, by omega, by omega, by omega⟩
    rw [← hgc, ← hgt]
    clear hgt hgc HB
    obtain ⟨b1, b2, ex, hne, lt1, lt2⟩ := HA.out
    clear HA
    generalize ((wS.alloc (.cells C1 3)).alloc (.cells C1 3)).drew = Y at *
    have b2' := BI.set_ b2 (N - 1) 1
    have c9 := Bk.cell b2 (show N - 1 < N by omega)
    have f9 := Bk.free b2 (N - 1)
    have hc2 : BI (Y.setCell ⟨gc, N - 1, none⟩ (.int .i64 1)) gc N (Cf ws (N - 1)) := Bk.congr b2' fun j hj => by
      congr 1
      unfold up Cf
      by_cases h : j = N - 1
      · subst h; rw [if_pos rfl, if_pos (Nat.le_refl _), HN.out]
        have := Bw.rest_last ws
        unfold Bw.last at this
        rw [this]; rfl
      · rw [if_neg h, if_neg (by omega)]
    have hc1 : BI (Y.setCell ⟨gc, N - 1, none⟩ (.int .i64 1)) gt N (Tf ws (N - 1)) := Bk.congr (Bk.far b1 (p := ⟨gc, N - 1, none⟩) hne _) fun j hj => by
      congr 1
      unfold Tf
      by_cases h : j = N - 1
      · subst h; rw [if_pos (Nat.le_refl _), HN.out]
        have := Bw.rest_last ws
        unfold Bw.last at this
        rw [this]; rfl
      · rw [if_neg (by omega)]
    have ex2 : Ext wS (Y.setCell ⟨gc, N - 1, none⟩ (.int .i64 1)) := ex.sc lt2
    have HC := Lib.hid (And.intro hc1 (And.intro hc2 ex2))
    have hw1 : IntKind.i64.wrap ((N : Int) - 1) = ((N - 1 : Nat) : Int) := by rw [show ((N - 1 : Nat) : Int) = (N : Int) - 1 by omega]; exact IntWalk.i64_in _ (by omega)
    have hw2 : IntKind.i64.wrap ((N : Int) - 2) = ((N - 1 : Nat) : Int) - 1 := by rw [show ((N - 1 : Nat) : Int) - 1 = (N : Int) - 2 by omega]; exact IntWalk.i64_in _ (by omega)
    clear b1 b2 b2' hc1 hc2 ex2 ex
    go_wp2_with fail
    clear c9 f9
    go_loopw [7] (fun x wr => ∃ m : Nat, x = .int .i64 ((m : Int) - 1) ∧ m ≤ N - 1 ∧ Hid (BI wr gt N (Tf ws m) ∧ BI wr gc N (Cf ws m) ∧ Ext wS wr)) (fun x _ => (intOf x + 1).toNat)
    case atStart => exact ⟨N - 1, rfl, Nat.le_refl _, HC⟩
    case round =>
      clear HC hw1 hw2
      obtain ⟨m, rfl, hm, hin⟩ := hrel
      cases m with
      | zero =>
        have e0 : ((0 : Nat) : Int) - 1 = -1 := rfl
        rw [e0]
        go_wp2
        refine bodyPost_ret (v := .tuple #[.slice (some ⟨gt, 0, none⟩) N N, .slice (some ⟨gc, 0, none⟩) N N]) (by simp [results, Tryd.results56, go_sem]) rfl ?_
        have hN0 := hin.out
        refine ⟨gt, gc, rfl, by omega, by omega, hne, ?_, ?_, hin.out.2.2⟩
        · exact Bk.congr hin.out.1 fun j _ => by congr 1
        · exact Bk.congr hin.out.2.1 fun j _ => by congr 1
      | succ p =>
        have e0 : ((p + 1 : Nat) : Int) - 1 = (p : Int) := by omega
        rw [e0]
        clear e0
        have hpN : p < N := by omega
        have c0 := Bk.cell hin.out.1 hpN
        have f0 := Bk.free hin.out.1 p
        have hz0 := Bk.lt hin.out.1
        have hs1 := BI.set_ hin.out.1 p (1099511627776 : Int)
        have hs2 : BI (wr.setCell ⟨gt, p, none⟩ (.int .i64 1099511627776)) gc N (Cf ws (p + 1)) := Bk.far hin.out.2.1 (p := ⟨gt, p, none⟩) (Ne.symm hne) _
        have hs2' : BI (wr.setCell ⟨gt, p, none⟩ (.int .i64 1099511627776)) gc N (up (Cf ws (p + 1)) p (((fk ws p 0).2 : Nat) : Int)) := Bk.congr hs2 fun j _ => by
          congr 1
          unfold up
          by_cases h : j = p
          · subst h; rw [if_pos rfl]; unfold Cf; rw [if_neg (by omega)]; rfl
          · rw [if_neg h]
        have hs3 : Ext wS (wr.setCell ⟨gt, p, none⟩ (.int .i64 1099511627776)) := hin.out.2.2.sc lt1
        have HI := Lib.hid (And.intro hs1 (And.intro hs2' hs3))
        clear hs1 hs2 hs2' hs3 hin
        have hpe : p ≠ Bw.last ws := by unfold Bw.last; rw [← HN.out]; omega
        have HPE := Lib.hid hpe
        clear hpe
        go_wp2_with fail
        clear c0 f0 hz0
        go_loopw [30] (fun i wr => ∃ k : Nat, i = .int .i64 k ∧ k ≤ 8 ∧ Hid (BI wr gt N (up (Tf ws (p + 1)) p ((Bw.tbT (fk ws p k) : Nat) : Int)) ∧ BI wr gc N (up (Cf ws (p + 1)) p (((fk ws p k).2 : Nat) : Int)) ∧ Ext wS wr)) (fun i _ => 8 - (intOf i).toNat)
        case atStart => exact ⟨0, rfl, by omega, HI⟩
        case round =>
          clear HI
          obtain ⟨k, rfl, hk, hin⟩ := hrel
          by_cases hlt : k < 8
          · have hfs := fk_succ ws p hlt
            have hps : p < Bw.sz ws := by rw [← HN.out]; exact hpN
            have hcnt := fk_count HW.out hps k
            have hcnt2 := fk_count HW.out hps (k + 1)
            have htl := tbT_le ws p k HOW.out HW.out hps
            have hml := Bw.mv_lt ws p (lt k) hps
            have hmle := Bw.mv_le ws p (lt k)
            obtain ⟨q, hq⟩ : ∃ q, q = Bw.mv ws p (lt k) := ⟨_, rfl⟩
            obtain ⟨b, hb⟩ : ∃ b, b = fk ws p k := ⟨_, rfl⟩
            obtain ⟨tb, htb⟩ : ∃ tb, tb = Bw.tbT (fk ws p k) := ⟨_, rfl⟩
            obtain ⟨cb, hcb⟩ : ∃ cb, cb = (fk ws p k).2 := ⟨_, rfl⟩
            have HQ := Lib.hid hq
            have hidx := letters_idx hlt hlt
            have HPS := Lib.hid hps
            by_cases hmv : Bw.mv ws p (lt k) = p
            · have hfs2 : fk ws p (k + 1) = fk ws p k := by rw [hfs, Bw.tb_same hmv]
              have HFS := Lib.hid hfs2
              clear hfs hfs2 hcnt hcnt2 htl hml hmle hq hb htb hcb hps
              go_wp2_with fail
              refine (movedR_any ws p (lt k) _ _ (HV.out.ext hin.out.2.2) H8.out H4.out HPS.out).mono ?_
              rintro e w1 ⟨rfl, rfl⟩
              rw [hmv, decide_eq_false (show ¬ (p ≠ p) from fun h => h rfl)]
              clear hmv hidx
              go_wp2_with fail
              go_region
              go_wp2
              go_roundw
              case rel => exact ⟨k + 1, by go_num, by omega, by rw [HFS.out]; exact Lib.hid ⟨hin.out.1, hin.out.2.1, hin.out.2.2.drw⟩⟩
              case measure => simp [intOf]; omega
            · have hrm := rest_moved HW.out hps hmv
              have hrc := Bw.rest_count HOW.out _ _ hml (Nat.le_refl _)
              obtain ⟨s1, s2, s3⟩ := Bw.tb_step (ws := ws) (R := Bw.rest ws) (fk ws p k) hmv hrc (by unfold Bw.far; omega)
              rw [← hfs] at s1 s2 s3
              rw [← hq] at hml hmle hrm hrc s1 s2 s3 hmv
              have hqN : q < N := by rw [HN.out]; exact hml
              have hqp : p + 1 ≤ q := by omega
              obtain ⟨lv, hlv⟩ : ∃ lv, lv = (Bw.rest ws q).1.length := ⟨_, rfl⟩
              obtain ⟨cv, hcv⟩ : ∃ cv, cv = (Bw.rest ws q).2 := ⟨_, rfl⟩
              have tq : up (Tf ws (p + 1)) p ((Bw.tbT (fk ws p k) : Nat) : Int) q = lv := by rw [up_ne _ _ (by omega), Tf, if_pos hqp, hlv]
              have tp : up (Tf ws (p + 1)) p ((Bw.tbT (fk ws p k) : Nat) : Int) p = tb := by rw [up_self, htb]
              have cq : up (Cf ws (p + 1)) p (((fk ws p k).2 : Nat) : Int) q = cv := by rw [up_ne _ _ (by omega), Cf, if_pos hqp, hcv]
              have cp : up (Cf ws (p + 1)) p (((fk ws p k).2 : Nat) : Int) p = cb := by rw [up_self, hcb]
              rw [← hlv, ← htb] at s1 s2 s3
              rw [← hcb, ← hcv] at s2
              rw [← hcv] at s3
              rw [← hlv, ← hcv] at hrm
              rw [← hcb] at hcnt
              rw [← htb] at htl
              have HS := Lib.hid (And.intro s1 (And.intro s2 s3))
              have HT := Lib.hid (And.intro tq (And.intro tp (And.intro cq cp)))
              have HTB := Lib.hid htb; have HCB := Lib.hid hcb
              have hlv31 := hrm.2
              have hcv30 : cv ≤ 1152921504606846976 := hrm.1
              have hcb31 : cb ≤ 4611686018427387904 := hcnt
              have htb40 : tb ≤ 1099511627776 := htl
              have hdq : decide (Bw.mv ws p (lt k) ≠ p) = true := by rw [← hq]; exact decide_eq_true hmv
              clear s1 s2 s3 tq tp cq cp hfs hcnt hcnt2 htl hq hb htb hcb hlv hcv hrm hrc hml hmle hmv hps
              go_wp2_with fail
              refine (movedR_any ws p (lt k) _ _ (HV.out.ext hin.out.2.2) H8.out H4.out HPS.out).mono ?_
              rintro e w1 ⟨rfl, rfl⟩
              rw [hdq, ← HQ.out]
              clear hdq hidx
              have t1 := Bk.cell hin.out.1 hqN
              have t2 := Bk.cell hin.out.1 hpN
              have t3 := Bk.cell hin.out.2.1 hqN
              have t4 := Bk.cell hin.out.2.1 hpN
              have z1 := Bk.lt hin.out.1
              have z2 := Bk.lt hin.out.2.1
              have f1 := Bk.free hin.out.1 p
              have f2 := Bk.free hin.out.2.1 p
              rw [HT.out.1] at t1
              rw [HT.out.2.1] at t2
              rw [HT.out.2.2.1] at t3
              rw [HT.out.2.2.2] at t4
              go_wp2_with fail
              by_cases q1 : tb < lv + 1
              · have g1 : (tb : Int) < (lv : Int) + 1 := by omega
                go_region
                clear t1 t2 t3 t4 z1 z2 f1 f2
                go_wp2
                go_roundw
                case rel =>
                  have := HS.out.1 q1
                  exact ⟨k + 1, by go_num, by omega, by rw [this]; exact Lib.hid ⟨hin.out.1, hin.out.2.1, hin.out.2.2.drw⟩⟩
                case measure => simp [intOf]; omega
              · have g1 : ¬ (tb : Int) < (lv : Int) + 1 := by omega
                go_region
                have d1 : w1.drew.cell? ⟨gt, q, none⟩ = some (.int .i64 lv) := t1
                have d2 : w1.drew.cell? ⟨gt, p, none⟩ = some (.int .i64 tb) := t2
                have d3 : w1.drew.cell? ⟨gc, q, none⟩ = some (.int .i64 cv) := t3
                have d4 : w1.drew.cell? ⟨gc, p, none⟩ = some (.int .i64 cb) := t4
                have y1 : gt < w1.drew.heap.size := z1
                have y2 : gc < w1.drew.heap.size := z2
                have x1 : w1.drew.frozen? ⟨gt, p, none⟩ = false := f1
                have x2 : w1.drew.frozen? ⟨gc, p, none⟩ = false := f2
                have hin2 := Lib.hid (And.intro (Bk.drew hin.out.1) (And.intro (Bk.drew hin.out.2.1) hin.out.2.2.drw))
                clear t1 t2 t3 t4 z1 z2 f1 f2 hin
                generalize w1.drew = w2 at *
                have t1 := d1; have t2 := d2; have t3 := d3; have t4 := d4; have z1 := y1; have z2 := y2; have f1 := x1; have f2 := x2; have hin := hin2
                clear d1 d2 d3 d4 y1 y2 x1 x2 hin2
                by_cases q2 : lv + 1 = tb
                · have g2 : ((lv : Int) + 1 == (tb : Int)) = true := by simp; omega
                  go_upto_region 14 with fail
                  go_region
                  have d1 : w2.drew.cell? ⟨gt, q, none⟩ = some (.int .i64 lv) := t1
                  have d2 : w2.drew.cell? ⟨gt, p, none⟩ = some (.int .i64 tb) := t2
                  have d3 : w2.drew.cell? ⟨gc, q, none⟩ = some (.int .i64 cv) := t3
                  have d4 : w2.drew.cell? ⟨gc, p, none⟩ = some (.int .i64 cb) := t4
                  have y1 : gt < w2.drew.heap.size := z1
                  have y2 : gc < w2.drew.heap.size := z2
                  have x1 : w2.drew.frozen? ⟨gt, p, none⟩ = false := f1
                  have x2 : w2.drew.frozen? ⟨gc, p, none⟩ = false := f2
                  have hin2 := Lib.hid (And.intro (Bk.drew hin.out.1) (And.intro (Bk.drew hin.out.2.1) hin.out.2.2.drw))
                  clear t1 t2 t3 t4 z1 z2 f1 f2 hin
                  generalize w2.drew = w3 at *
                  have t1 := d1; have t2 := d2; have t3 := d3; have t4 := d4; have z1 := y1; have z2 := y2; have f1 := x1; have f2 := x2; have hin := hin2
                  clear d1 d2 d3 d4 y1 y2 x1 x2 hin2
                  have hw3 : IntKind.i64.wrap ((cb : Int) + (cv : Int)) = (cb : Int) + (cv : Int) := IntWalk.i64_in _ (by omega)
                  go_upto_region 15 with fail
                  go_region
                  have hs := HS.out.2.1 q2
                  have r2 : BI (w3.setCell ⟨gc, p, none⟩ (.int .i64 ((cb : Int) + (cv : Int)))).drew gc N (up (Cf ws (p + 1)) p (((fk ws p (k + 1)).2 : Nat) : Int)) := Bk.congr (Bk.drew (BI.set_ hin.out.2.1 p ((cb : Int) + (cv : Int)))) fun j _ => by rw [up_up, hs.2]; rfl
                  have r1 : BI (w3.setCell ⟨gc, p, none⟩ (.int .i64 ((cb : Int) + (cv : Int)))).drew gt N (up (Tf ws (p + 1)) p ((Bw.tbT (fk ws p (k + 1)) : Nat) : Int)) := by
                    rw [hs.1, HTB.out]; exact Bk.drew (Bk.far hin.out.1 (p := ⟨gc, p, none⟩) hne _)
                  have r3 : Ext wS (w3.setCell ⟨gc, p, none⟩ (.int .i64 ((cb : Int) + (cv : Int)))).drew := (hin.out.2.2.sc lt2).drw
                  have HR := Lib.hid (And.intro r1 (And.intro r2 r3))
                  clear r1 r2 r3 hs hin
                  generalize (w3.setCell ⟨gc, p, none⟩ (.int .i64 ((cb : Int) + (cv : Int)))).drew = w4 at *
                  clear t1 t2 t3 t4 z1 z2 f1 f2
                  go_wp2
                  go_roundw
                  case rel => exact ⟨k + 1, by go_num, by omega, HR⟩
                  case measure => simp [intOf]; omega
                · have g2 : ((lv : Int) + 1 == (tb : Int)) = false := by simp; omega
                  go_upto_region 14 with fail
                  go_region
                  have d1 : w2.drew.cell? ⟨gt, q, none⟩ = some (.int .i64 lv) := t1
                  have d2 : w2.drew.cell? ⟨gt, p, none⟩ = some (.int .i64 tb) := t2
                  have d3 : w2.drew.cell? ⟨gc, q, none⟩ = some (.int .i64 cv) := t3
                  have d4 : w2.drew.cell? ⟨gc, p, none⟩ = some (.int .i64 cb) := t4
                  have y1 : gt < w2.drew.heap.size := z1
                  have y2 : gc < w2.drew.heap.size := z2
                  have x1 : w2.drew.frozen? ⟨gt, p, none⟩ = false := f1
                  have x2 : w2.drew.frozen? ⟨gc, p, none⟩ = false := f2
                  have hin2 := Lib.hid (And.intro (Bk.drew hin.out.1) (And.intro (Bk.drew hin.out.2.1) hin.out.2.2.drw))
                  clear t1 t2 t3 t4 z1 z2 f1 f2 hin
                  generalize w2.drew = w3 at *
                  have t1 := d1; have t2 := d2; have t3 := d3; have t4 := d4; have z1 := y1; have z2 := y2; have f1 := x1; have f2 := x2; have hin := hin2
                  clear d1 d2 d3 d4 y1 y2 x1 x2 hin2
                  go_upto_region 12 with fail
                  go_region
                  have hs := HS.out.2.2 (by omega)
                  have r1 : BI ((w3.setCell ⟨gt, p, none⟩ (.int .i64 ((lv : Int) + 1))).setCell ⟨gc, p, none⟩ (.int .i64 cv)).drew gt N (up (Tf ws (p + 1)) p ((Bw.tbT (fk ws p (k + 1)) : Nat) : Int)) := Bk.congr (Bk.drew (Bk.far (BI.set_ hin.out.1 p ((lv : Int) + 1)) (p := ⟨gc, p, none⟩) hne _)) fun j _ => by rw [up_up, hs.1]; rfl
                  have r2 : BI ((w3.setCell ⟨gt, p, none⟩ (.int .i64 ((lv : Int) + 1))).setCell ⟨gc, p, none⟩ (.int .i64 cv)).drew gc N (up (Cf ws (p + 1)) p (((fk ws p (k + 1)).2 : Nat) : Int)) := Bk.congr (Bk.drew (BI.set_ (Bk.far hin.out.2.1 (p := ⟨gt, p, none⟩) (Ne.symm hne) _) p (cv : Int))) fun j _ => by rw [up_up, hs.2]
                  have r3 : Ext wS ((w3.setCell ⟨gt, p, none⟩ (.int .i64 ((lv : Int) + 1))).setCell ⟨gc, p, none⟩ (.int .i64 cv)).drew := ((hin.out.2.2.sc lt1).sc lt2).drw
                  have HR := Lib.hid (And.intro r1 (And.intro r2 r3))
                  clear r1 r2 r3 hs hin
                  generalize ((w3.setCell ⟨gt, p, none⟩ (.int .i64 ((lv : Int) + 1))).setCell ⟨gc, p, none⟩ (.int .i64 cv)).drew = w4 at *
                  clear t1 t2 t3 t4 z1 z2 f1 f2
                  go_wp2
                  go_roundw
                  case rel => exact ⟨k + 1, by go_num, by omega, HR⟩
                  case measure => simp [intOf]; omega
          · obtain rfl : k = 8 := by omega
            have hps : p < Bw.sz ws := by rw [← HN.out]; exact hpN
            have hT := Bk.congr (f := fun j => .int .i64 (up (Tf ws (p + 1)) p ((Bw.tbT (fk ws p 8) : Nat) : Int) j)) (g := fun j => .int .i64 (Tf ws p j)) hin.out.1 (fun j _ => by rw [Tf_step HOW.out hps HPE.out])
            have hC := Bk.congr (f := fun j => .int .i64 (up (Cf ws (p + 1)) p (((fk ws p 8).2 : Nat) : Int) j)) (g := fun j => .int .i64 (Cf ws p j)) hin.out.2.1 (fun j _ => by rw [Cf_step hps HPE.out])
            have HF := Lib.hid (And.intro hT (And.intro hC hin.out.2.2))
            clear hT hC hin hps
            go_wp2
            go_roundw
            case rel => exact ⟨p, by go_num, by omega, HF⟩
            case measure => simp [intOf] <;> omega
  · obtain ⟨gt, hgt⟩ : ∃ g, g = wS.heap.size + 1 := ⟨_, rfl⟩
    obtain ⟨gc, hgc⟩ : ∃ g, g = wS.heap.size := ⟨_, rfl⟩
    have HA : Hid (BI ((wS.alloc (.cells C1 3)).alloc (.cells C1 3)).drew gt N (fun _ => 0) ∧ BI ((wS.alloc (.cells C1 3)).alloc (.cells C1 3)).drew gc N (fun _ => 0) ∧ Ext wS ((wS.alloc (.cells C1 3)).alloc (.cells C1 3)).drew ∧ gt ≠ gc ∧ wS.heap.size ≤ gt ∧ wS.heap.size ≤ gc) := by
      rw [hgt, hgc]; exact Lib.hid ⟨HB.out.2.1.trans (by rw [HC1.out]), HB.out.1.trans (by rw [HC1.out]), HB.out.2.2, by omega, by omega, by omega⟩
    rw [← hgt, ← hgc]
    clear hgt hgc HB
    obtain ⟨b1, b2, ex, hne, lt1, lt2⟩ := HA.out
    clear HA
    generalize ((wS.alloc (.cells C1 3)).alloc (.cells C1 3)).drew = Y at *
    have b2' := BI.set_ b2 (N - 1) 1
    have c9 := Bk.cell b2 (show N - 1 < N by omega)
    have f9 := Bk.free b2 (N - 1)
    have hc2 : BI (Y.setCell ⟨gc, N - 1, none⟩ (.int .i64 1)) gc N (Cf ws (N - 1)) := Bk.congr b2' fun j hj => by
      congr 1
      unfold up Cf
      by_cases h : j = N - 1
      · subst h; rw [if_pos rfl, if_pos (Nat.le_refl _), HN.out]
        have := Bw.rest_last ws
        unfold Bw.last at this
        rw [this]; rfl
      · rw [if_neg h, if_neg (by omega)]
    have hc1 : BI (Y.setCell ⟨gc, N - 1, none⟩ (.int .i64 1)) gt N (Tf ws (N - 1)) := Bk.congr (Bk.far b1 (p := ⟨gc, N - 1, none⟩) hne _) fun j hj => by
      congr 1
      unfold Tf
      by_cases h : j = N - 1
      · subst h; rw [if_pos (Nat.le_refl _), HN.out]
        have := Bw.rest_last ws
        unfold Bw.last at this
        rw [this]; rfl
      · rw [if_neg (by omega)]
    have ex2 : Ext wS (Y.setCell ⟨gc, N - 1, none⟩ (.int .i64 1)) := ex.sc lt2
    have HC := Lib.hid (And.intro hc1 (And.intro hc2 ex2))
    have hw1 : IntKind.i64.wrap ((N : Int) - 1) = ((N - 1 : Nat) : Int) := by rw [show ((N - 1 : Nat) : Int) = (N : Int) - 1 by omega]; exact IntWalk.i64_in _ (by omega)
    have hw2 : IntKind.i64.wrap ((N : Int) - 2) = ((N - 1 : Nat) : Int) - 1 := by rw [show ((N - 1 : Nat) : Int) - 1 = (N : Int) - 2 by omega]; exact IntWalk.i64_in _ (by omega)
    clear b1 b2 b2' hc1 hc2 ex2 ex
    go_wp2_with fail
    clear c9 f9
    go_loopw [7] (fun x wr => ∃ m : Nat, x = .int .i64 ((m : Int) - 1) ∧ m ≤ N - 1 ∧ Hid (BI wr gt N (Tf ws m) ∧ BI wr gc N (Cf ws m) ∧ Ext wS wr)) (fun x _ => (intOf x + 1).toNat)
    case atStart => exact ⟨N - 1, rfl, Nat.le_refl _, HC⟩
    case round =>
      clear HC hw1 hw2
      obtain ⟨m, rfl, hm, hin⟩ := hrel
      cases m with
      | zero =>
        have e0 : ((0 : Nat) : Int) - 1 = -1 := rfl
        rw [e0]
        go_wp2
        refine bodyPost_ret (v := .tuple #[.slice (some ⟨gt, 0, none⟩) N N, .slice (some ⟨gc, 0, none⟩) N N]) (by simp [results, Tryd.results56, go_sem]) rfl ?_
        have hN0 := hin.out
        refine ⟨gt, gc, rfl, by omega, by omega, hne, ?_, ?_, hin.out.2.2⟩
        · exact Bk.congr hin.out.1 fun j _ => by congr 1
        · exact Bk.congr hin.out.2.1 fun j _ => by congr 1
      | succ p =>
        have e0 : ((p + 1 : Nat) : Int) - 1 = (p : Int) := by omega
        rw [e0]
        clear e0
        have hpN : p < N := by omega
        have c0 := Bk.cell hin.out.1 hpN
        have f0 := Bk.free hin.out.1 p
        have hz0 := Bk.lt hin.out.1
        have hs1 := BI.set_ hin.out.1 p (1099511627776 : Int)
        have hs2 : BI (wr.setCell ⟨gt, p, none⟩ (.int .i64 1099511627776)) gc N (Cf ws (p + 1)) := Bk.far hin.out.2.1 (p := ⟨gt, p, none⟩) (Ne.symm hne) _
        have hs2' : BI (wr.setCell ⟨gt, p, none⟩ (.int .i64 1099511627776)) gc N (up (Cf ws (p + 1)) p (((fk ws p 0).2 : Nat) : Int)) := Bk.congr hs2 fun j _ => by
          congr 1
          unfold up
          by_cases h : j = p
          · subst h; rw [if_pos rfl]; unfold Cf; rw [if_neg (by omega)]; rfl
          · rw [if_neg h]
        have hs3 : Ext wS (wr.setCell ⟨gt, p, none⟩ (.int .i64 1099511627776)) := hin.out.2.2.sc lt1
        have HI := Lib.hid (And.intro hs1 (And.intro hs2' hs3))
        clear hs1 hs2 hs2' hs3 hin
        have hpe : p ≠ Bw.last ws := by unfold Bw.last; rw [← HN.out]; omega
        have HPE := Lib.hid hpe
        clear hpe
        go_wp2_with fail
        clear c0 f0 hz0
        go_loopw [30] (fun i wr => ∃ k : Nat, i = .int .i64 k ∧ k ≤ 8 ∧ Hid (BI wr gt N (up (Tf ws (p + 1)) p ((Bw.tbT (fk ws p k) : Nat) : Int)) ∧ BI wr gc N (up (Cf ws (p + 1)) p (((fk ws p k).2 : Nat) : Int)) ∧ Ext wS wr)) (fun i _ => 8 - (intOf i).toNat)
        case atStart => exact ⟨0, rfl, by omega, HI⟩
        case round =>
          clear HI
          obtain ⟨k, rfl, hk, hin⟩ := hrel
          by_cases hlt : k < 8
          · have hfs := fk_succ ws p hlt
            have hps : p < Bw.sz ws := by rw [← HN.out]; exact hpN
            have hcnt := fk_count HW.out hps k
            have hcnt2 := fk_count HW.out hps (k + 1)
            have htl := tbT_le ws p k HOW.out HW.out hps
            have hml := Bw.mv_lt ws p (lt k) hps
            have hmle := Bw.mv_le ws p (lt k)
            obtain ⟨q, hq⟩ : ∃ q, q = Bw.mv ws p (lt k) := ⟨_, rfl⟩
            obtain ⟨b, hb⟩ : ∃ b, b = fk ws p k := ⟨_, rfl⟩
            obtain ⟨tb, htb⟩ : ∃ tb, tb = Bw.tbT (fk ws p k) := ⟨_, rfl⟩
            obtain ⟨cb, hcb⟩ : ∃ cb, cb = (fk ws p k).2 := ⟨_, rfl⟩
            have HQ := Lib.hid hq
            have hidx := letters_idx hlt hlt
            have HPS := Lib.hid hps
            by_cases hmv : Bw.mv ws p (lt k) = p
            · have hfs2 : fk ws p (k + 1) = fk ws p k := by rw [hfs, Bw.tb_same hmv]
              have HFS := Lib.hid hfs2
              clear hfs hfs2 hcnt hcnt2 htl hml hmle hq hb htb hcb hps
              go_wp2_with fail
              refine (movedR_any ws p (lt k) _ _ (HV.out.ext hin.out.2.2) H8.out H4.out HPS.out).mono ?_
              rintro e w1 ⟨rfl, rfl⟩
              rw [hmv, decide_eq_false (show ¬ (p ≠ p) from fun h => h rfl)]
              clear hmv hidx
              go_wp2_with fail
              go_region
              go_wp2
              go_roundw
              case rel => exact ⟨k + 1, by go_num, by omega, by rw [HFS.out]; exact Lib.hid ⟨hin.out.1, hin.out.2.1, hin.out.2.2.drw⟩⟩
              case measure => simp [intOf]; omega
            · have hrm := rest_moved HW.out hps hmv
              have hrc := Bw.rest_count HOW.out _ _ hml (Nat.le_refl _)
              obtain ⟨s1, s2, s3⟩ := Bw.tb_step (ws := ws) (R := Bw.rest ws) (fk ws p k) hmv hrc (by unfold Bw.far; omega)
              rw [← hfs] at s1 s2 s3
              rw [← hq] at hml hmle hrm hrc s1 s2 s3 hmv
              have hqN : q < N := by rw [HN.out]; exact hml
              have hqp : p + 1 ≤ q := by omega
              obtain ⟨lv, hlv⟩ : ∃ lv, lv = (Bw.rest ws q).1.length := ⟨_, rfl⟩
              obtain ⟨cv, hcv⟩ : ∃ cv, cv = (Bw.rest ws q).2 := ⟨_, rfl⟩
              have tq : up (Tf ws (p + 1)) p ((Bw.tbT (fk ws p k) : Nat) : Int) q = lv := by rw [up_ne _ _ (by omega), Tf, if_pos hqp, hlv]
              have tp : up (Tf ws (p + 1)) p ((Bw.tbT (fk ws p k) : Nat) : Int) p = tb := by rw [up_self, htb]
              have cq : up (Cf ws (p + 1)) p (((fk ws p k).2 : Nat) : Int) q = cv := by rw [up_ne _ _ (by omega), Cf, if_pos hqp, hcv]
              have cp : up (Cf ws (p + 1)) p (((fk ws p k).2 : Nat) : Int) p = cb := by rw [up_self, hcb]
              rw [← hlv, ← htb] at s1 s2 s3
              rw [← hcb, ← hcv] at s2
              rw [← hcv] at s3
              rw [← hlv, ← hcv] at hrm
              rw [← hcb] at hcnt
              rw [← htb] at htl
              have HS := Lib.hid (And.intro s1 (And.intro s2 s3))
              have HT := Lib.hid (And.intro tq (And.intro tp (And.intro cq cp)))
              have HTB := Lib.hid htb; have HCB := Lib.hid hcb
              have hlv31 := hrm.2
              have hcv30 : cv ≤ 1152921504606846976 := hrm.1
              have hcb31 : cb ≤ 4611686018427387904 := hcnt
              have htb40 : tb ≤ 1099511627776 := htl
              have hdq : decide (Bw.mv ws p (lt k) ≠ p) = true := by rw [← hq]; exact decide_eq_true hmv
              clear s1 s2 s3 tq tp cq cp hfs hcnt hcnt2 htl hq hb htb hcb hlv hcv hrm hrc hml hmle hmv hps
              go_wp2_with fail
              refine (movedR_any ws p (lt k) _ _ (HV.out.ext hin.out.2.2) H8.out H4.out HPS.out).mono ?_
              rintro e w1 ⟨rfl, rfl⟩
              rw [hdq, ← HQ.out]
              clear hdq hidx
              have t1 := Bk.cell hin.out.1 hqN
              have t2 := Bk.cell hin.out.1 hpN
              have t3 := Bk.cell hin.out.2.1 hqN
              have t4 := Bk.cell hin.out.2.1 hpN
              have z1 := Bk.lt hin.out.1
              have z2 := Bk.lt hin.out.2.1
              have f1 := Bk.free hin.out.1 p
              have f2 := Bk.free hin.out.2.1 p
              rw [HT.out.1] at t1
              rw [HT.out.2.1] at t2
              rw [HT.out.2.2.1] at t3
              rw [HT.out.2.2.2] at t4
              go_wp2_with fail
              by_cases q1 : tb < lv + 1
              · have g1 : (tb : Int) < (lv : Int) + 1 := by omega
                go_region
                clear t1 t2 t3 t4 z1 z2 f1 f2
                go_wp2
                go_roundw
                case rel =>
                  have := HS.out.1 q1
                  exact ⟨k + 1, by go_num, by omega, by rw [this]; exact Lib.hid ⟨hin.out.1, hin.out.2.1, hin.out.2.2.drw⟩⟩
                case measure => simp [intOf]; omega
              · have g1 : ¬ (tb : Int) < (lv : Int) + 1 := by omega
                go_region
                have d1 : w1.drew.cell? ⟨gt, q, none⟩ = some (.int .i64 lv) := t1
                have d2 : w1.drew.cell? ⟨gt, p, none⟩ = some (.int .i64 tb) := t2
                have d3 : w1.drew.cell? ⟨gc, q, none⟩ = some (.int .i64 cv) := t3
                have d4 : w1.drew.cell? ⟨gc, p, none⟩ = some (.int .i64 cb) := t4
                have y1 : gt < w1.drew.heap.size := z1
                have y2 : gc < w1.drew.heap.size := z2
                have x1 : w1.drew.frozen? ⟨gt, p, none⟩ = false := f1
                have x2 : w1.drew.frozen? ⟨gc, p, none⟩ = false := f2
                have hin2 := Lib.hid (And.intro (Bk.drew hin.out.1) (And.intro (Bk.drew hin.out.2.1) hin.out.2.2.drw))
                clear t1 t2 t3 t4 z1 z2 f1 f2 hin
                generalize w1.drew = w2 at *
                have t1 := d1; have t2 := d2; have t3 := d3; have t4 := d4; have z1 := y1; have z2 := y2; have f1 := x1; have f2 := x2; have hin := hin2
                clear d1 d2 d3 d4 y1 y2 x1 x2 hin2
                by_cases q2 : lv + 1 = tb
                · have g2 : ((lv : Int) + 1 == (tb : Int)) = true := by simp; omega
                  go_upto_region 14 with fail
                  go_region
                  have d1 : w2.drew.cell? ⟨gt, q, none⟩ = some (.int .i64 lv) := t1
                  have d2 : w2.drew.cell? ⟨gt, p, none⟩ = some (.int .i64 tb) := t2
                  have d3 : w2.drew.cell? ⟨gc, q, none⟩ = some (.int .i64 cv) := t3
                  have d4 : w2.drew.cell? ⟨gc, p, none⟩ = some (.int .i64 cb) := t4
                  have y1 : gt < w2.drew.heap.size := z1
                  have y2 : gc < w2.drew.heap.size := z2
                  have x1 : w2.drew.frozen? ⟨gt, p, none⟩ = false := f1
                  have x2 : w2.drew.frozen? ⟨gc, p, none⟩ = false := f2
                  have hin2 := Lib.hid (And.intro (Bk.drew hin.out.1) (And.intro (Bk.drew hin.out.2.1) hin.out.2.2.drw))
                  clear t1 t2 t3 t4 z1 z2 f1 f2 hin
                  generalize w2.drew = w3 at *
                  have t1 := d1; have t2 := d2; have t3 := d3; have t4 := d4; have z1 := y1; have z2 := y2; have f1 := x1; have f2 := x2; have hin := hin2
                  clear d1 d2 d3 d4 y1 y2 x1 x2 hin2
                  have hw3 : IntKind.i64.wrap ((cb : Int) + (cv : Int)) = (cb : Int) + (cv : Int) := IntWalk.i64_in _ (by omega)
                  go_upto_region 15 with fail
                  go_region
                  have hs := HS.out.2.1 q2
                  have r2 : BI (w3.setCell ⟨gc, p, none⟩ (.int .i64 ((cb : Int) + (cv : Int)))).drew gc N (up (Cf ws (p + 1)) p (((fk ws p (k + 1)).2 : Nat) : Int)) := Bk.congr (Bk.drew (BI.set_ hin.out.2.1 p ((cb : Int) + (cv : Int)))) fun j _ => by rw [up_up, hs.2]; rfl
                  have r1 : BI (w3.setCell ⟨gc, p, none⟩ (.int .i64 ((cb : Int) + (cv : Int)))).drew gt N (up (Tf ws (p + 1)) p ((Bw.tbT (fk ws p (k + 1)) : Nat) : Int)) := by
                    rw [hs.1, HTB.out]; exact Bk.drew (Bk.far hin.out.1 (p := ⟨gc, p, none⟩) hne _)
                  have r3 : Ext wS (w3.setCell ⟨gc, p, none⟩ (.int .i64 ((cb : Int) + (cv : Int)))).drew := (hin.out.2.2.sc lt2).drw
                  have HR := Lib.hid (And.intro r1 (And.intro r2 r3))
                  clear r1 r2 r3 hs hin
                  generalize (w3.setCell ⟨gc, p, none⟩ (.int .i64 ((cb : Int) + (cv : Int)))).drew = w4 at *
                  clear t1 t2 t3 t4 z1 z2 f1 f2
                  go_wp2
                  go_roundw
                  case rel => exact ⟨k + 1, by go_num, by omega, HR⟩
                  case measure => simp [intOf]; omega
                · have g2 : ((lv : Int) + 1 == (tb : Int)) = false := by simp; omega
                  go_upto_region 14 with fail
                  go_region
                  have d1 : w2.drew.cell? ⟨gt, q, none⟩ = some (.int .i64 lv) := t1
                  have d2 : w2.drew.cell? ⟨gt, p, none⟩ = some (.int .i64 tb) := t2
                  have d3 : w2.drew.cell? ⟨gc, q, none⟩ = some (.int .i64 cv) := t3
                  have d4 : w2.drew.cell? ⟨gc, p, none⟩ = some (.int .i64 cb) := t4
                  have y1 : gt < w2.drew.heap.size := z1
                  have y2 : gc < w2.drew.heap.size := z2
                  have x1 : w2.drew.frozen? ⟨gt, p, none⟩ = false := f1
                  have x2 : w2.drew.frozen? ⟨gc, p, none⟩ = false := f2
                  have hin2 := Lib.hid (And.intro (Bk.drew hin.out.1) (And.intro (Bk.drew hin.out.2.1) hin.out.2.2.drw))
                  clear t1 t2 t3 t4 z1 z2 f1 f2 hin
                  generalize w2.drew = w3 at *
                  have t1 := d1; have t2 := d2; have t3 := d3; have t4 := d4; have z1 := y1; have z2 := y2; have f1 := x1; have f2 := x2; have hin := hin2
                  clear d1 d2 d3 d4 y1 y2 x1 x2 hin2
                  go_upto_region 12 with fail
                  go_region
                  have hs := HS.out.2.2 (by omega)
                  have r1 : BI ((w3.setCell ⟨gt, p, none⟩ (.int .i64 ((lv : Int) + 1))).setCell ⟨gc, p, none⟩ (.int .i64 cv)).drew gt N (up (Tf ws (p + 1)) p ((Bw.tbT (fk ws p (k + 1)) : Nat) : Int)) := Bk.congr (Bk.drew (Bk.far (BI.set_ hin.out.1 p ((lv : Int) + 1)) (p := ⟨gc, p, none⟩) hne _)) fun j _ => by rw [up_up, hs.1]; rfl
                  have r2 : BI ((w3.setCell ⟨gt, p, none⟩ (.int .i64 ((lv : Int) + 1))).setCell ⟨gc, p, none⟩ (.int .i64 cv)).drew gc N (up (Cf ws (p + 1)) p (((fk ws p (k + 1)).2 : Nat) : Int)) := Bk.congr (Bk.drew (BI.set_ (Bk.far hin.out.2.1 (p := ⟨gt, p, none⟩) (Ne.symm hne) _) p (cv : Int))) fun j _ => by rw [up_up, hs.2]
                  have r3 : Ext wS ((w3.setCell ⟨gt, p, none⟩ (.int .i64 ((lv : Int) + 1))).setCell ⟨gc, p, none⟩ (.int .i64 cv)).drew := ((hin.out.2.2.sc lt1).sc lt2).drw
                  have HR := Lib.hid (And.intro r1 (And.intro r2 r3))
                  clear r1 r2 r3 hs hin
                  generalize ((w3.setCell ⟨gt, p, none⟩ (.int .i64 ((lv : Int) + 1))).setCell ⟨gc, p, none⟩ (.int .i64 cv)).drew = w4 at *
                  clear t1 t2 t3 t4 z1 z2 f1 f2
                  go_wp2
                  go_roundw
                  case rel => exact ⟨k + 1, by go_num, by omega, HR⟩
                  case measure => simp [intOf]; omega
          · obtain rfl : k = 8 := by omega
            have hps : p < Bw.sz ws := by rw [← HN.out]; exact hpN
            have hT := Bk.congr (f := fun j => .int .i64 (up (Tf ws (p + 1)) p ((Bw.tbT (fk ws p 8) : Nat) : Int) j)) (g := fun j => .int .i64 (Tf ws p j)) hin.out.1 (fun j _ => by rw [Tf_step HOW.out hps HPE.out])
            have hC := Bk.congr (f := fun j => .int .i64 (up (Cf ws (p + 1)) p (((fk ws p 8).2 : Nat) : Int) j)) (g := fun j => .int .i64 (Cf ws p j)) hin.out.2.1 (fun j _ => by rw [Cf_step hps HPE.out])
            have HF := Lib.hid (And.intro hT (And.intro hC hin.out.2.2))
            clear hT hC hin hps
            go_wp2
            go_roundw
            case rel => exact ⟨p, by go_num, by omega, HF⟩
            case measure => simp [intOf] <;> omega
end Go.Proofs.YtlachbodibajlaaDoor
