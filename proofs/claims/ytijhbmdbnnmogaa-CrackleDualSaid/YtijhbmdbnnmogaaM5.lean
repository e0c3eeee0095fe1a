/- Walks: the reference's names, Dual. · Walks: the reference's Face and Euler. · Walks: the reference's Valid. · Walks: slices.Clone, of. -/
import Derived.Test.YtijhbmdbnnmogaaM4
import Derived.Test.YtijhbmdbnnmogaaM1
import Derived.Test.YtijhbmdbnnmogaaM3
import Derived.Lib.MinMax
import Derived.Lib.SliceRun
namespace Go.Proofs.Ytijhbmdbnnmogaa.G
open Go.RowKit

set_option maxHeartbeats 4000000 in
set_option maxRecDepth 100000 in
theorem namesR_any (n : Nat) (m : Nat → Nat) (NV : Value) (W : World) (hN : Il W NV n (fun d => ((m d : Nat) : Int))) (hn : n ≤ 1000) :
    Calls Try.prog 38 #[NV] W fun e W' => e = .returned (.int .i64 (rank m n : Nat)) ∧ Ext W W' := by
  have HN := Lib.hid hN
  obtain ⟨A, c, rfl, hac, hcm, -⟩ := hN
  go_enter Try.func38, Try.ntmps38
  go_wp2_with fail
  go_loopw [3, 8] (fun t i wr => ∃ k : Nat, i = .int .i64 k ∧ k ≤ n ∧ t = .int .i64 (rank m k : Nat) ∧ Hid (Ext W wr)) (fun _ i _ => n - (intOf i).toNat)
  case atStart => exact ⟨0, rfl, Nat.zero_le _, rfl, Lib.hid (Ext.refl _)⟩
  case round =>
    obtain ⟨k, rfl, hk, rfl, hin⟩ := hrel
    obtain ⟨r, hr⟩ : ∃ r, r = rank m k := ⟨_, rfl⟩
    have hr2 : r ≤ 1000 := by have := rank_le m k; omega
    rw [← hr]
    have HR := Lib.hid hr
    clear hr
    by_cases hlt : k < n
    · obtain ⟨b1, o1, rfl, -, e1⟩ := Vl.at HN.out hin.out hlt
      dsimp only at e1
      obtain ⟨z, hz⟩ : ∃ z, z = m k := ⟨_, rfl⟩
      rw [← hz] at e1
      have HZ := Lib.hid hz
      clear hz
      by_cases h : z = k
      · subst h
        have hbe : ((z : Int) == (z : Int)) = true := by simp
        go_wp2
        go_roundw
        case rel => exact ⟨z + 1, by go_num, by omega, by rw [show rank m (z + 1) = r + 1 by unfold rank; rw [if_pos HZ.out.symm, HR.out]]; simp, Lib.hid hin.out⟩
        case measure => simp [intOf]; omega
      · have hbe : ((k : Int) == (z : Int)) = false := by simp; omega
        go_wp2
        go_roundw
        case rel => exact ⟨k + 1, by go_num, by omega, by rw [show rank m (k + 1) = r by conv => lhs; unfold rank
                                                                                         rw [if_neg (fun e => h (by rw [HZ.out]; exact e)), Nat.add_zero, HR.out]], Lib.hid hin.out⟩
        case measure => simp [intOf]; omega
    · obtain rfl : k = n := by omega
      go_wp2
      go_ret
      exact ⟨by rw [← HR.out]; rfl, hin.out⟩

set_option maxHeartbeats 4000000 in
set_option maxRecDepth 100000 in
theorem dualR_any (n : Nat) (f : Nat → Int) (NV : Value) (W : World) (hN : Il W NV n f) (hn : n ≤ 80) (hev : n % 2 = 0) :
    Calls Try.prog 23 #[.agg #[NV]] W fun e W' => ∃ V, e = .returned (.agg #[V]) ∧ Il W' V n (fun d => f (rev d)) ∧ Ext W W' := by
  have HN := Lib.hid hN; have HEV := Lib.hid hev
  clear hev
  obtain ⟨A, c, rfl, hac, hcm, -⟩ := hN
  obtain ⟨i0, hi, hz0, hz1, hz2⟩ := info_parts info3
  have HI := Lib.hid (And.intro hi (And.intro hz0 (And.intro hz1 hz2)))
  clear hi hz0 hz1 hz2
  go_enter Try.func23, Try.ntmps23
  go_upto_region 1 with fail
  have bb := al2 W (.cells #[.slice A n c] 24) (.cells #[.slice none 0 0] 24)
  have h0 := (Below.heap_alloc (W.alloc (.cells #[.slice A n c] 24)) (.cells #[.slice none 0 0] 24) W.heap.size (by simp)).trans (heap_alloc_new W (.cells #[.slice A n c] 24))
  have h1 := heap_alloc_new (W.alloc (.cells #[.slice A n c] 24)) (.cells #[.slice none 0 0] 24)
  simp only [World.size_alloc] at h1
  generalize (W.alloc (.cells #[.slice A n c] 24)).alloc (.cells #[.slice none 0 0] 24) = w2 at *
  obtain ⟨m0, -, mz⟩ := uno h0
  have HB : Hid (Ext W w2) := Lib.hid bb
  have HB0 := bb.size
  have H1 := Lib.hid h1
  have hmz1 : W.heap.size + 1 < w2.heap.size := (uno h1).2.2
  clear bb h0 h1
  go_upto_region 2 with fail
  have b3 := al1 w2 (.cells #[.slice none 0 0] 24)
  have h3 := heap_alloc_new w2 (.cells #[.slice none 0 0] 24)
  obtain ⟨z, hz⟩ : ∃ z, z = w2.heap.size := ⟨_, rfl⟩
  obtain ⟨zi, hzi⟩ : ∃ z, z = W.heap.size := ⟨_, rfl⟩
  rw [← hz] at h3 ⊢
  generalize w2.alloc (.cells #[.slice none 0 0] 24) = w3 at *
  have hz3 : z < w3.heap.size := (uno h3).2.2
  have m3 := keepAt b3 mz m0
  rw [← hzi] at m3 m0 mz H1 hmz1 HB0 ⊢
  have HM0 := Lib.hid m0
  have hw2 : w2.heap.size ≤ z := Nat.le_of_eq hz.symm
  have HW2 := Lib.hid hw2
  have H3 := Lib.hid (And.intro h3 b3)
  have hzi3 : zi < w3.heap.size := by have := b3.size; omega
  have hznz : zi ≠ z := by omega
  have HZI := Lib.hid (And.intro hzi hznz)
  have HZ0 := Lib.hid hzi
  clear hz hw2 b3 h3 hzi m0
  go_wp2_with fail
  clear m3
  go_loopw [8] (fun i wr => ∃ (k : Nat) (q : Value), i = .int .i64 k ∧ k ≤ n ∧ Hid (wr.heap[z]? = some (.cells #[q] 24 (0, 0)) ∧ Qs wr w3.heap.size q k (fun d => f (rev d)) ∧ Ext w2 wr ∧ w3.heap.size ≤ wr.heap.size)) (fun i _ => n - (intOf i).toNat)
  case atStart => exact ⟨0, _, rfl, Nat.zero_le _, Lib.hid ⟨H3.out.1, Qs.nil _ _ _, H3.out.2, Nat.le_refl _⟩⟩
  case round =>
    clear H3
    obtain ⟨k, q, rfl, hk, hin⟩ := hrel
    obtain ⟨Av, cv, rfl⟩ : ∃ A c, q = .slice A k c := by obtain ⟨-, A, c, h, -⟩ := hin.out.2.1; exact ⟨A, c, h⟩
    by_cases hlt : k < n
    · obtain ⟨rv, hrv⟩ : ∃ v, v = rev k := ⟨_, rfl⟩
      have hrn : rv < n := by rw [hrv]; exact rev_lt HEV.out hlt
      have hbx : bits .xor .i64 (k : Int) 1 = (rv : Int) := by rw [hrv]; exact bits_rev k (by omega)
      obtain ⟨b1, o1, rfl, hbW, e1⟩ := Vl.at HN.out (Ext.refl _) hrn
      obtain ⟨y, hy⟩ : ∃ y, y = f rv := ⟨_, rfl⟩
      rw [← hy] at e1
      have HY := Lib.hid (And.intro hy hrv)
      clear hy hrv
      have hSS : wr.cell? ⟨z, 0, none⟩ = some (.slice Av k cv) ∧ wr.cell? ⟨zi, 0, none⟩ = some (.slice (some ⟨b1, o1, none⟩) n c) ∧ wr.cell? ⟨b1, o1 + rv, none⟩ = some (.int .i64 y) := ⟨(uno hin.out.1).1, keepAt hin.out.2.2.1 mz HM0.out, keepAt (HB.out.trans hin.out.2.2.1) hbW e1⟩
      have hsz : w2.heap.size ≤ wr.heap.size := hin.out.2.2.1.size
      have hbw2 : b1 < w2.heap.size := Nat.lt_of_lt_of_le hbW HB.out.size
      have hlt3 : z < wr.heap.size := (uno hin.out.1).2.2
      have hw3r : w3.heap.size ≤ wr.heap.size := hin.out.2.2.2
      have HSS := Lib.hid hSS
      have HLT := Lib.hid (And.intro hlt3 (And.intro (show zi < wr.heap.size by omega) (show b1 < wr.heap.size by omega)))
      have HLT2 := Lib.hid hw3r
      have HZ3 := Lib.hid (And.intro hz3 (And.intro hzi3 (show b1 < w3.heap.size by have := HW2.out; omega)))
      clear hSS e1 hsz hbw2 hlt3 hw3r
      go_upto_region 5 with fail
      refine wp_region_noPanic ?_
      refine wp_split (S := fun X => X.cell? ⟨z, 0, none⟩ = some (.slice Av k cv) ∧ X.cell? ⟨zi, 0, none⟩ = some (.slice (some ⟨b1, o1, none⟩) n c) ∧ X.cell? ⟨b1, o1 + rv, none⟩ = some (.int .i64 y)) 10 (by kernel_rfl) (by kernel_rfl) HSS.out ?_
      simp only [List.take_succ_cons, List.take_zero, List.drop_succ_cons, List.drop_zero]
      refine take_at 0 (some 11) (.pointer (some ⟨z, 0, none⟩)) rfl rfl (by kernel_rfl) (by kernel_rfl) (by kernel_rfl) (fun _ _ _ h => h) (Or.inl ⟨by rfl, fun w' hSw => ?_⟩) (HSS.out) ?_
      · skip
        try clear hSw
        go_simp
        all_goals (with_reducible rfl)
      try simp only [Act.put, List.setIfInBounds_toArray, List.set_cons_zero, List.set_cons_succ]
      refine take_at 1 (some 12) (.slice Av k cv) rfl rfl (by kernel_rfl) (by kernel_rfl) (by kernel_rfl) (fun _ _ _ h => h) (Or.inl ⟨by rfl, fun w' hSw => ?_⟩) (HSS.out) ?_
      · obtain ⟨s1, s2, s3⟩ := hSw
        try clear hSw
        go_simp
        all_goals (with_reducible rfl)
      try simp only [Act.put, List.setIfInBounds_toArray, List.set_cons_zero, List.set_cons_succ]
      refine take_at 2 (some 13) (.pointer (some ⟨zi, 0, none⟩)) rfl rfl (by kernel_rfl) (by kernel_rfl) (by kernel_rfl) (fun _ _ _ h => h) (Or.inl ⟨by rfl, fun w' hSw => ?_⟩) (HSS.out) ?_
      · skip
        try clear hSw
        go_simp
        all_goals (with_reducible rfl)
      try simp only [Act.put, List.setIfInBounds_toArray, List.set_cons_zero, List.set_cons_succ]
      refine take_at 3 (some 14) (.slice (some ⟨b1, o1, none⟩) n c) rfl rfl (by kernel_rfl) (by kernel_rfl) (by kernel_rfl) (fun _ _ _ h => h) (Or.inl ⟨by rfl, fun w' hSw => ?_⟩) (HSS.out) ?_
      · obtain ⟨s1, s2, s3⟩ := hSw
        try clear hSw
        go_simp
        all_goals (with_reducible rfl)
      try simp only [Act.put, List.setIfInBounds_toArray, List.set_cons_zero, List.set_cons_succ]
      refine take_at 4 (some 15) (.int .i64 k) rfl rfl (by kernel_rfl) (by kernel_rfl) (by kernel_rfl) (fun _ _ _ h => h) (Or.inl ⟨by rfl, fun w' hSw => ?_⟩) (HSS.out) ?_
      · skip
        try clear hSw
        go_simp
        all_goals (with_reducible rfl)
      try simp only [Act.put, List.setIfInBounds_toArray, List.set_cons_zero, List.set_cons_succ]
      refine take_at 5 (some 16) (.int .i64 rv) rfl rfl (by kernel_rfl) (by kernel_rfl) (by kernel_rfl) (fun _ _ _ h => h) (Or.inl ⟨by rfl, fun w' hSw => ?_⟩) (HSS.out) ?_
      · have hb2 := hbx
        try clear hSw
        go_simp
        all_goals (first | (with_reducible rfl) | (rw [hbx]) | (simp [hbx]; done))
      try simp only [Act.put, List.setIfInBounds_toArray, List.set_cons_zero, List.set_cons_succ]
      refine take_at 6 (some 17) (.pointer (some ⟨b1, o1 + rv, none⟩)) rfl rfl (by kernel_rfl) (by kernel_rfl) (by kernel_rfl) (fun _ _ _ h => h) (Or.inl ⟨by rfl, fun w' hSw => ?_⟩) (HSS.out) ?_
      · skip
        try clear hSw
        go_simp
        all_goals (with_reducible rfl)
      try simp only [Act.put, List.setIfInBounds_toArray, List.set_cons_zero, List.set_cons_succ]
      refine take_at 7 (some 18) (.int .i64 y) rfl rfl (by kernel_rfl) (by kernel_rfl) (by kernel_rfl) (fun _ _ _ h => h) (Or.inl ⟨by rfl, fun w' hSw => ?_⟩) (HSS.out) ?_
      · obtain ⟨s1, s2, s3⟩ := hSw
        try clear hSw
        go_simp
        all_goals (with_reducible rfl)
      try simp only [Act.put, List.setIfInBounds_toArray, List.set_cons_zero, List.set_cons_succ]
      have hS2 : (wr.drew.alloc (.cells #[.int .i64 y] 3)).cell? ⟨z, 0, none⟩ = some (.slice Av k cv) ∧ (wr.drew.alloc (.cells #[.int .i64 y] 3)).cell? ⟨zi, 0, none⟩ = some (.slice (some ⟨b1, o1, none⟩) n c) ∧ (wr.drew.alloc (.cells #[.int .i64 y] 3)).cell? ⟨b1, o1 + rv, none⟩ = some (.int .i64 y) := by
        obtain ⟨s1, s2, s3⟩ := HSS.out
        have hx : Ext wr (wr.drew.alloc (.cells #[.int .i64 y] 3)) := Ext.alc (Ext.drw (Ext.refl _)) _
        exact ⟨keepAt hx HLT.out.1 s1, keepAt hx HLT.out.2.1 s2, keepAt hx HLT.out.2.2 s3⟩
      refine wpAnyH_ready (rs := [8]) (by kernel_rfl) (by simp) ?_
      refine AllReadyH.cons rfl (fun K hK => ?_) AllReadyH.nil
      go_simp
      refine hK.out _ _ hS2 (fun _ => ?_)
      clear hK K
      try simp only [Act.put, List.setIfInBounds_toArray, List.set_cons_zero, List.set_cons_succ]
      refine wpAnyH_ready (rs := [9]) (by kernel_rfl) (by simp) ?_
      refine AllReadyH.cons rfl (fun K hK => ?_) AllReadyH.nil
      refine wp_append_q _ _ 22 rfl i0 Try.underlying22 HI.out.1 HI.out.2.1 HI.out.2.2.1 HI.out.2.2.2 w3.heap.size (.slice Av k cv) k (fun d => f (rev d)) rfl ?qs ?base ⟨wr.heap.size, 0, none⟩ 1 y rfl ?cell ?n ?_
      case qs => exact hin.out.2.1.ext (Ext.alc (Ext.drw (Ext.refl _)) _)
      case base => have := HLT2.out; simp; omega
      case cell => show (wr.drew.alloc (.cells #[.int .i64 y] 3)).cell? ⟨wr.drew.heap.size, 0, none⟩ = _; rw [World.cell?_alloc_new]; rfl
      case n => omega
      intro v0 w4 hq4 hgr
      obtain ⟨A4, n4, c4, hv0⟩ : ∃ A n c, v0 = .slice A n c := by obtain ⟨-, A, c, h, -⟩ := hq4; exact ⟨A, _, c, h⟩
      subst hv0
      have hob : ∀ b, (Value.slice Av k cv).ownBlock = some b → w3.heap.size ≤ b := fun b hb => (hin.out.2.1.1 b hb).1
      have hk4 : ∀ b o, b < w3.heap.size → w4.cell? ⟨b, o, none⟩ = (wr.drew.alloc (.cells #[.int .i64 y] 3)).cell? ⟨b, o, none⟩ := fun b o hb => World.cell?_of_block (hgr.by_.block b (by have := HLT2.out; simp; omega) (fun e => by have := hob b e.symm; omega))
      have hS3 : w4.cell? ⟨z, 0, none⟩ = some (.slice Av k cv) ∧ w4.cell? ⟨zi, 0, none⟩ = some (.slice (some ⟨b1, o1, none⟩) n c) ∧ w4.cell? ⟨b1, o1 + rv, none⟩ = some (.int .i64 y) := by
        obtain ⟨s1, s2, s3⟩ := hS2
        exact ⟨(hk4 _ _ HZ3.out.1).trans s1, (hk4 _ _ HZ3.out.2.1).trans s2, (hk4 _ _ HZ3.out.2.2).trans s3⟩
      refine hK.out _ _ hS3 (fun _ => ?_)
      clear hK K
      try simp only [Act.put, List.setIfInBounds_toArray, List.set_cons_zero, List.set_cons_succ]
      refine wpAnyH_done (by kernel_rfl) ?_ _
      refine cut_normal ?_
      have hzb : w4.heap[z]? = some (.cells #[.slice Av k cv] 24 (0, 0)) := (hgr.by_.block z (by have := HLT2.out; have := HZ3.out.1; simp; omega) (fun e => by have := hob z e.symm; have := HZ3.out.1; omega)).trans ((Below.heap_alloc wr.drew _ z HLT.out.1).trans hin.out.1)
      have hex : Ext w2 w4 := hgr.ext ((hin.out.2.2.1.drw).alc _) (fun b hb => by have := hob b hb; have := HZ3.out.1; have := HW2.out; omega)
      obtain ⟨zc0, zf0, zl0⟩ := uno hzb
      have F1 : (w4.setCell ⟨z, 0, none⟩ (.slice A4 n4 c4)).heap[z]? = some (.cells #[.slice A4 n4 c4] 24 (0, 0)) := by simp [World.setCell, Array.getElem?_modify, hzb]
      have F2 : Qs (w4.setCell ⟨z, 0, none⟩ (.slice A4 n4 c4)) w3.heap.size (.slice A4 n4 c4) (k + 1) (fun d => f (rev d)) := (hq4.far HZ3.out.1).congr fun d hd => by
        by_cases e : d = k
        · subst e; rw [up_self, HY.out.1, HY.out.2]
        · rw [up_ne _ _ e]
      have F3 : Ext w2 (w4.setCell ⟨z, 0, none⟩ (.slice A4 n4 c4)) := hex.sc HW2.out
      have F4 : w3.heap.size ≤ (w4.setCell ⟨z, 0, none⟩ (.slice A4 n4 c4)).heap.size := by have h1 := hgr.by_.size; have := HLT2.out; simp [World.setCell] at h1 ⊢; omega
      have HF := Lib.hid (And.intro F1 (And.intro F2 (And.intro F3 F4)))
      clear F1 F2 F3 F4 hq4 hgr hob hk4 hS2 hS3 hzb hex zl0
      go_wp2_with fail
      refine NoPanic.normal ?_
      go_wp2
      go_roundw
      case rel => exact ⟨k + 1, _, by go_num, by omega, HF⟩
      case measure => simp [intOf]; omega
    · obtain rfl : k = n := by omega
      obtain ⟨z0, -, -⟩ := uno hin.out.1
      have h5 : wr.heap[zi + 1]? = some (.cells #[.slice none 0 0] 24 (0, 0)) := (Below.block hin.out.2.2.1 _ hmz1).trans H1.out
      obtain ⟨c0, f0, -⟩ := uno h5
      have g0 : (wr.setCell ⟨zi + 1, 0, none⟩ (.slice Av k cv)).cell? ⟨zi + 1, 0, none⟩ = some (.slice Av k cv) := World.cell?_setCell_same _ _ _ c0
      have hx5 : Ext W (wr.setCell ⟨zi + 1, 0, none⟩ (.slice Av k cv)) := (HB.out.trans hin.out.2.2.1).sc (by have := HZ0.out; omega)
      have hq5 : Qs (wr.setCell ⟨zi + 1, 0, none⟩ (.slice Av k cv)) w3.heap.size (.slice Av k cv) k (fun d => f (rev d)) := hin.out.2.1.far (by have := HW2.out; omega)
      have HF := Lib.hid (And.intro hq5.il hx5)
      clear h5 hx5 hq5
      go_wp2
      exact bodyPost_ret (v := .agg #[.slice Av k cv]) (by simp [results, Try.results23, go_sem, g0]) rfl ⟨_, rfl, HF.out.1, HF.out.2⟩
end Go.Proofs.Ytijhbmdbnnmogaa.G
namespace Go.Proofs.Ytijhbmdbnnmogaa.G
open Go.RowKit

theorem Mp.dual {n : Nat} {f : Nat → Int} (h : Mp n f) : Mp n (fun d => f (rev d)) :=
  ⟨h.even, h.le, fun k hk => h.zero _ (rev_lt h.even hk), fun k hk => h.lt _ (rev_lt h.even hk), fun j k hj hk e => by
    have := h.inj _ _ (rev_lt h.even hj) (rev_lt h.even hk) e
    rw [← rev_rev j, this, rev_rev]⟩

set_option maxHeartbeats 4000000 in
set_option maxRecDepth 100000 in
theorem faceR_any (n : Nat) (f : Nat → Int) (NV : Value) (W : World) (hN : Il W NV n f) (hM : Mp n f) (m : Nat → Nat) (hm : Nm n 1 (fun _ => fl f) m) :
    Calls Try.prog 18 #[.agg #[NV]] W fun e W' => ∃ g, e = .returned (.slice (some ⟨g, 0, none⟩) n n) ∧ BI W' g n (fun d => ((m d : Nat) : Int)) ∧ Ext W W' := by
  have HN := Lib.hid hN; have HMM := Lib.hid (And.intro hM hm)
  have hn80 : n ≤ 80 := hM.le
  obtain ⟨A, c, rfl, hac, hcm, -⟩ := hN
  clear hM hm
  go_enter Try.func18, Try.ntmps18
  go_upto_region 1 with fail
  have bb := al1 W (.cells #[.slice A n c] 24)
  obtain ⟨m0, -, mz⟩ := uno (heap_alloc_new W (.cells #[.slice A n c] 24))
  generalize W.alloc (.cells #[.slice A n c] 24) = W1 at *
  have HB : Hid (Ext W W1) := Lib.hid bb
  clear bb
  go_wp2_with fail
  refine (dualR_any n f _ _ (HN.out.ext HB.out) hn80 HMM.out.1.even).mono ?_
  rintro e w2 ⟨V, rfl, hv, hx⟩
  have HX := Lib.hid (And.intro hv (HB.out.trans hx))
  obtain ⟨A2, c2, rfl, -⟩ := hv
  clear hx m0
  go_wp2_with fail
  refine (vertexR_any n (fun d => f (rev d)) _ _ HX.out.1 HMM.out.1.dual m HMM.out.2).mono ?_
  rintro e w3 ⟨g, rfl, hb, hx⟩
  have HF := Lib.hid (And.intro hb (HX.out.2.trans hx))
  clear hb hx
  go_wp2
  go_ret
  exact ⟨g, rfl, HF.out.1, HF.out.2⟩

set_option maxHeartbeats 4000000 in
set_option maxRecDepth 100000 in
theorem eulerR_any (n : Nat) (f : Nat → Int) (NV : Value) (W : World) (hN : Il W NV n f) (hM : Mp n f) (mv mf mp : Nat → Nat) (hv : Nm n 1 (fun _ => tn f) mv) (hf : Nm n 1 (fun _ => fl f) mf) (hp : Nm n 2 (pt f) mp) :
    Calls Try.prog 15 #[.agg #[NV]] W fun e W' => e = .returned (.tuple #[.int .i64 (rank mv n : Nat), .int .i64 ((n / 2 : Nat) : Int), .int .i64 (rank mf n : Nat), .int .i64 (rank mp n : Nat)]) ∧ Ext W W' := by
  obtain ⟨hh, hhf⟩ : ∃ h, h = ((n / 2 : Nat) : Int) := ⟨_, rfl⟩
  rw [← hhf]
  have HN := Lib.hid hN; have HMM := Lib.hid (And.intro hM (And.intro hv (And.intro hf hp)))
  have hn80 : n ≤ 80 := hM.le
  have hquo : ((n : Int)).tdiv 2 = hh := by rw [hhf, Int.tdiv_eq_ediv_of_nonneg (by omega)]; omega
  have hwr : IntKind.i64.wrap hh = hh := IntWalk.i64_in _ (by omega)
  obtain ⟨A, c, rfl, hac, hcm, -⟩ := hN
  clear hM hv hp hhf hf
  go_enter Try.func15, Try.ntmps15
  go_upto_region 1 with fail
  have bb := al1 W (.cells #[.slice A n c] 24)
  obtain ⟨m0, -, mz⟩ := uno (heap_alloc_new W (.cells #[.slice A n c] 24))
  generalize W.alloc (.cells #[.slice A n c] 24) = W1 at *
  have HB : Hid (Ext W W1) := Lib.hid bb
  have HM := Lib.hid m0
  clear bb m0
  refine wp_region_noPanic ?_
  refine wp_region_held_drew (S := fun X => Ext W1 X) (by kernel_rfl) (Ext.drw (Ext.refl _)) (fun _ => ?_)
  refine take_at 0 (some 6) (.agg #[.slice A n c]) rfl rfl (by kernel_rfl) (by kernel_rfl) (by kernel_rfl) (fun _ _ _ h => h) (Or.inl ⟨by rfl, fun w' hSw => ?_⟩) (Ext.drw (Ext.refl _)) ?_
  · have z0 := keepAt hSw mz HM.out
    try clear hSw
    go_simp
    all_goals (with_reducible rfl)
  try simp only [Act.put, List.setIfInBounds_toArray, List.set_cons_zero, List.set_cons_succ]
  refine take_at 7 (some 13) (.agg #[.slice A n c]) rfl rfl (by kernel_rfl) (by kernel_rfl) (by kernel_rfl) (fun _ _ _ h => h) (Or.inl ⟨by rfl, fun w' hSw => ?_⟩) (Ext.drw (Ext.refl _)) ?_
  · have z0 := keepAt hSw mz HM.out
    try clear hSw
    go_simp
    all_goals (with_reducible rfl)
  try simp only [Act.put, List.setIfInBounds_toArray, List.set_cons_zero, List.set_cons_succ]
  refine take_at 10 (some 16) (.agg #[.slice A n c]) rfl rfl (by kernel_rfl) (by kernel_rfl) (by kernel_rfl) (fun _ _ _ h => h) (Or.inl ⟨by rfl, fun w' hSw => ?_⟩) (Ext.drw (Ext.refl _)) ?_
  · have z0 := keepAt hSw mz HM.out
    try clear hSw
    go_simp
    all_goals (with_reducible rfl)
  try simp only [Act.put, List.setIfInBounds_toArray, List.set_cons_zero, List.set_cons_succ]
  refine take_at 3 (some 9) (.pointer (some ⟨W.heap.size, 0, none⟩)) rfl rfl (by kernel_rfl) (by kernel_rfl) (by kernel_rfl) (fun _ _ _ h => h) (Or.inl ⟨by rfl, fun w' hSw => ?_⟩) (Ext.drw (Ext.refl _)) ?_
  · skip
    try clear hSw
    go_simp
    all_goals (with_reducible rfl)
  try simp only [Act.put, List.setIfInBounds_toArray, List.set_cons_zero, List.set_cons_succ]
  refine take_at 4 (some 10) (.slice A n c) rfl rfl (by kernel_rfl) (by kernel_rfl) (by kernel_rfl) (fun _ _ _ h => h) (Or.inl ⟨by rfl, fun w' hSw => ?_⟩) (Ext.drw (Ext.refl _)) ?_
  · have z0 := keepAt hSw mz HM.out
    try clear hSw
    go_simp
    all_goals (with_reducible rfl)
  try simp only [Act.put, List.setIfInBounds_toArray, List.set_cons_zero, List.set_cons_succ]
  refine take_at 5 (some 11) (.int .i64 n) rfl rfl (by kernel_rfl) (by kernel_rfl) (by kernel_rfl) (fun _ _ _ h => h) (Or.inl ⟨by rfl, fun w' hSw => ?_⟩) (Ext.drw (Ext.refl _)) ?_
  · skip
    try clear hSw
    go_simp
    all_goals (with_reducible rfl)
  try simp only [Act.put, List.setIfInBounds_toArray, List.set_cons_zero, List.set_cons_succ]
  refine take_at 6 (some 12) (.int .i64 hh) rfl rfl (by kernel_rfl) (by kernel_rfl) (by kernel_rfl) (fun _ _ _ h => h) (Or.inl ⟨by rfl, fun w' hSw => ?_⟩) (Ext.drw (Ext.refl _)) ?_
  · have hq := hquo
    have hw := hwr
    try clear hSw
    go_simp
    all_goals (first | (with_reducible rfl) | (rw [hquo]; exact hwr) | (simp [hquo, hwr]; done))
  try simp only [Act.put, List.setIfInBounds_toArray, List.set_cons_zero, List.set_cons_succ]
  refine wpAnyH_ready (rs := [1]) (by kernel_rfl) (by simp) ?_
  refine AllReadyH.cons rfl (fun K hK => ?_) AllReadyH.nil
  go_simp
  refine (vertexR_any n f _ _ (HN.out.ext (HB.out.trans (Ext.drw (Ext.refl _)))) HMM.out.1 mv HMM.out.2.1).mono ?_
  rintro e v1 ⟨g1, rfl, hb_1, hb1⟩
  have e1 : Ext W1 v1 := (Ext.drw (Ext.refl _)).trans hb1
  try go_wp2_with fail
  refine hK.out _ _ e1 (fun _ => ?_)
  clear hK K
  try simp only [Act.put, List.setIfInBounds_toArray, List.set_cons_zero, List.set_cons_succ]
  have HI1 := Lib.hid (hb_1.il (show n ≤ 9223372036854775807 by omega))
  clear hb_1
  refine wpAnyH_ready (rs := [2]) (by kernel_rfl) (by simp) ?_
  refine AllReadyH.cons rfl (fun K hK => ?_) AllReadyH.nil
  go_simp
  refine (namesR_any n mv _ _ HI1.out (by omega)).mono ?_
  rintro e v2 ⟨rfl, hb2⟩
  have e2 : Ext W1 v2 := (e1).trans hb2
  try go_wp2_with fail
  refine hK.out _ _ e2 (fun _ => ?_)
  clear hK K
  try simp only [Act.put, List.setIfInBounds_toArray, List.set_cons_zero, List.set_cons_succ]
  refine wpAnyH_ready (rs := [8]) (by kernel_rfl) (by simp) ?_
  refine AllReadyH.cons rfl (fun K hK => ?_) AllReadyH.nil
  go_simp
  refine (faceR_any n f _ _ (HN.out.ext (HB.out.trans e2)) HMM.out.1 mf HMM.out.2.2.1).mono ?_
  rintro e v8 ⟨g8, rfl, hb_8, hb8⟩
  have e8 : Ext W1 v8 := (e2).trans hb8
  try go_wp2_with fail
  refine hK.out _ _ e8 (fun _ => ?_)
  clear hK K
  try simp only [Act.put, List.setIfInBounds_toArray, List.set_cons_zero, List.set_cons_succ]
  have HI8 := Lib.hid (hb_8.il (show n ≤ 9223372036854775807 by omega))
  clear hb_8
  refine wpAnyH_ready (rs := [9]) (by kernel_rfl) (by simp) ?_
  refine AllReadyH.cons rfl (fun K hK => ?_) AllReadyH.nil
  go_simp
  refine (namesR_any n mf _ _ HI8.out (by omega)).mono ?_
  rintro e v9 ⟨rfl, hb9⟩
  have e9 : Ext W1 v9 := (e8).trans hb9
  try go_wp2_with fail
  refine hK.out _ _ e9 (fun _ => ?_)
  clear hK K
  try simp only [Act.put, List.setIfInBounds_toArray, List.set_cons_zero, List.set_cons_succ]
  refine wpAnyH_ready (rs := [11]) (by kernel_rfl) (by simp) ?_
  refine AllReadyH.cons rfl (fun K hK => ?_) AllReadyH.nil
  go_simp
  refine (partR_any n f _ _ (HN.out.ext (HB.out.trans e9)) HMM.out.1 mp HMM.out.2.2.2).mono ?_
  rintro e v11 ⟨g11, rfl, hb_11, hb11⟩
  have e11 : Ext W1 v11 := (e9).trans hb11
  try go_wp2_with fail
  refine hK.out _ _ e11 (fun _ => ?_)
  clear hK K
  try simp only [Act.put, List.setIfInBounds_toArray, List.set_cons_zero, List.set_cons_succ]
  have HI11 := Lib.hid (hb_11.il (show n ≤ 9223372036854775807 by omega))
  clear hb_11
  refine wpAnyH_ready (rs := [12]) (by kernel_rfl) (by simp) ?_
  refine AllReadyH.cons rfl (fun K hK => ?_) AllReadyH.nil
  go_simp
  refine (namesR_any n mp _ _ HI11.out (by omega)).mono ?_
  rintro e v12 ⟨rfl, hb12⟩
  have e12 : Ext W1 v12 := (e11).trans hb12
  try go_wp2_with fail
  refine hK.out _ _ e12 (fun _ => ?_)
  clear hK K
  try simp only [Act.put, List.setIfInBounds_toArray, List.set_cons_zero, List.set_cons_succ]
  refine take_at 13 (some 2) (.int .i64 (rank mv n : Nat)) rfl rfl (by kernel_rfl) (by kernel_rfl) (by kernel_rfl) (fun _ _ _ h => h) (Or.inl ⟨by rfl, fun w' hSw => ?_⟩) (e12) ?_
  · skip
    try clear hSw
    go_simp
    all_goals (with_reducible rfl)
  try simp only [Act.put, List.setIfInBounds_toArray, List.set_cons_zero, List.set_cons_succ]
  refine take_at 14 (some 3) (.int .i64 hh) rfl rfl (by kernel_rfl) (by kernel_rfl) (by kernel_rfl) (fun _ _ _ h => h) (Or.inl ⟨by rfl, fun w' hSw => ?_⟩) (e12) ?_
  · skip
    try clear hSw
    go_simp
    all_goals (with_reducible rfl)
  try simp only [Act.put, List.setIfInBounds_toArray, List.set_cons_zero, List.set_cons_succ]
  refine take_at 15 (some 4) (.int .i64 (rank mf n : Nat)) rfl rfl (by kernel_rfl) (by kernel_rfl) (by kernel_rfl) (fun _ _ _ h => h) (Or.inl ⟨by rfl, fun w' hSw => ?_⟩) (e12) ?_
  · skip
    try clear hSw
    go_simp
    all_goals (with_reducible rfl)
  try simp only [Act.put, List.setIfInBounds_toArray, List.set_cons_zero, List.set_cons_succ]
  refine take_at 16 (some 5) (.int .i64 (rank mp n : Nat)) rfl rfl (by kernel_rfl) (by kernel_rfl) (by kernel_rfl) (fun _ _ _ h => h) (Or.inl ⟨by rfl, fun w' hSw => ?_⟩) (e12) ?_
  · skip
    try clear hSw
    go_simp
    all_goals (with_reducible rfl)
  try simp only [Act.put, List.setIfInBounds_toArray, List.set_cons_zero, List.set_cons_succ]
  refine wpAnyH_done (by kernel_rfl) ?_ _
  refine NoPanic.normal ?_
  have HX := Lib.hid (HB.out.trans e12)
  clear e1 e2 e8 e9 e11 e12 hb1 hb2 hb8 hb9 hb11 hb12
  go_wp2
  exact bodyPost_ret (v := .tuple #[.int .i64 (rank mv n : Nat), .int .i64 hh, .int .i64 (rank mf n : Nat), .int .i64 (rank mp n : Nat)]) (by simp [results, Try.results15, go_sem]) rfl ⟨rfl, HX.out⟩
end Go.Proofs.Ytijhbmdbnnmogaa.G
namespace Go.Proofs.Ytijhbmdbnnmogaa.G
open Go.RowKit

set_option maxHeartbeats 4000000 in
set_option maxRecDepth 100000 in
theorem validR_any (n : Nat) (f : Nat → Int) (NV : Value) (W : World) (hN : Il W NV n f) :
    Calls Try.prog 13 #[.agg #[NV]] W fun e W' => e = .returned (.bool (vMap n f)) ∧ Ext W W' := by
  obtain ⟨r, hr⟩ : ∃ r, r = vMap n f := ⟨_, rfl⟩
  rw [← hr]
  have HR := Lib.hid hr; clear hr
  have HN := Lib.hid hN
  obtain ⟨A, c, rfl, hac, hcm, -⟩ := hN
  go_enter Try.func13, Try.ntmps13
  go_upto_region 1 with fail
  have bb := al1 W (.cells #[.slice A n c] 24)
  obtain ⟨m0, -, mz⟩ := uno (heap_alloc_new W (.cells #[.slice A n c] 24))
  generalize W.alloc (.cells #[.slice A n c] 24) = W1 at *
  have HB : Hid (Ext W W1) := Lib.hid bb
  have HM := Lib.hid m0
  clear bb
  obtain ⟨q, hq⟩ : ∃ q, q = n % 2 := ⟨_, rfl⟩
  have hd : ((n : Int)).tmod 2 = (q : Int) := by rw [hq]; exact (Int.ofNat_tmod n 2).symm
  have hq2 : q ≤ 1 := by omega
  have HQ := Lib.hid hq; clear hq
  have hno : ¬ (n % 2 = 0 ∧ n ≤ 80) → r = false := fun h => by rw [HR.out]; unfold vMap; rw [decide_eq_false h, Bool.false_and]
  have HNO := Lib.hid hno; clear hno
  by_cases hq0 : q = 0
  · by_cases hn80 : n ≤ 80
    · have hm1 : ∀ w, (Instr.makeSlice 54 (.int .i64 (n : Int)) (.int .i64 (n : Int))).run Try.prog w = .ok (.slice (some ⟨w.heap.size, 0, none⟩) n n) (w.alloc (.cells (Array.ofFn fun _ : Fin n => .bool false) 4)) := fun w => make_one 54 4 _ 1 Try.underlying54 info4 rfl (by omega) n (by omega) w
      have hq0' : (q : Int) = 0 := by omega
      rw [hq0'] at hd
      go_upto_region 5 with fail
      have HZ : Hid (n % 2 = 0) := Lib.hid (by rw [← HQ.out]; exact hq0)
      have y1 : BB (W1.alloc (.cells (Array.ofFn fun _ : Fin n => Value.bool false) 4)) W1.heap.size n (fun _ => false) := heap_alloc_new W1 _
      have e1 : Ext W1 (W1.alloc (.cells (Array.ofFn fun _ : Fin n => Value.bool false) 4)) := Ext.alc (Ext.refl _) _
      obtain ⟨g, hg⟩ : ∃ g, g = W1.heap.size := ⟨_, rfl⟩
      rw [← hg] at y1
      rw [← hg]
      have hgW : W1.heap.size ≤ g := by omega
      have Y1 := Lib.hid (And.intro y1 e1)
      have m1 := keepAt e1 mz m0
      clear y1 e1 hg m0 hd hq2 hq0 hq0'
      generalize W1.alloc (.cells (Array.ofFn fun _ : Fin n => Value.bool false) 4) = W2 at *
      go_wp2_with fail
      clear m1
      go_loopw [22] (fun i wr => ∃ k : Nat, i = .int .i64 k ∧ k ≤ n ∧ Hid ((∀ j, j < k → okD n f j = true) ∧ BB wr g n (sn f k) ∧ Ext W1 wr)) (fun i _ => n - (intOf i).toNat)
      case atStart => exact ⟨0, rfl, Nat.zero_le _, Lib.hid ⟨fun j hj => by omega, Bk.congr Y1.out.1 (fun j _ => by simp [sn]), Y1.out.2⟩⟩
      case round =>
        clear Y1
        obtain ⟨k, rfl, hk, hin⟩ := hrel
        by_cases hlt : k < n
        · obtain ⟨b1, o1, rfl, -, e1⟩ := Vl.at HN.out (HB.out.trans hin.out.2.2) hlt
          have hbad : okD n f k = false → r = false := fun h => by
            rw [HR.out]
            cases hc : vMap n f
            · rfl
            · rw [(vMap_iff.1 hc).2 k hlt] at h; cases h
          have HBAD := Lib.hid hbad; clear hbad
          obtain ⟨x, hx⟩ : ∃ x, x = f k := ⟨_, rfl⟩
          rw [← hx] at e1
          have HX := Lib.hid hx; clear hx
          by_cases h1 : 0 ≤ x ∧ x ≤ (n : Int) - 1
          · obtain ⟨h2, h3⟩ := h1
            obtain ⟨v, rfl⟩ : ∃ v : Nat, x = v := ⟨x.toNat, by omega⟩
            have hvn : v < n := by omega
            have c4 := Bk.cell hin.out.2.1 hvn
            have f4 := Bk.free hin.out.2.1 v
            have hb1 : (decide ((0 : Int) ≤ (v : Int)) && decide ((v : Int) ≤ (n : Int) - 1)) = true := by rw [decide_eq_true h2, decide_eq_true h3]; rfl
            cases hs : sn f k v
            · have hok : okD n f k = true := okD_iff.2 ⟨by rw [← HX.out]; exact ⟨h2, h3⟩, by rw [← HX.out, Int.toNat_natCast]; exact hs⟩
              rw [hs] at c4
              have HOK := Lib.hid hok
              clear hok hs
              clear hb1
              have hlt0 : ¬ ((v : Int) < 0) := by omega
              have hge0 : ¬ ((n : Int) ≤ (v : Int)) := by omega
              go_wp2
              go_roundw
              case rel =>
                refine ⟨k + 1, by go_num, by omega, Lib.hid ⟨fun j hj => ?_, Bk.congr (BB.set_ hin.out.2.1 v true) (fun j _ => ?_), hin.out.2.2.sc hgW⟩⟩
                · by_cases e : j = k
                  · subst e; exact HOK.out
                  · exact hin.out.1 j (by omega)
                · congr 1
                  rw [sn_succ, ← HX.out]
                  by_cases e : j = v
                  · subst e; rw [up_self]; simp
                  · rw [up_ne _ _ e, decide_eq_false (fun c => e (by omega)), Bool.or_false]
              case measure => simp [intOf]; omega
            · have hok : r = false := HBAD.out (by
                cases hc : okD n f k
                · rfl
                · have := (okD_iff.1 hc).2; rw [← HX.out, Int.toNat_natCast, hs] at this; cases this)
              rw [hs] at c4
              have HOK := Lib.hid hok
              clear hok hs
              clear hb1
              have hlt0 : ¬ ((v : Int) < 0) := by omega
              have hge0 : ¬ ((n : Int) ≤ (v : Int)) := by omega
              go_wp2
              go_ret
              exact ⟨by rw [HOK.out]; rfl, HB.out.trans hin.out.2.2⟩
          · have hok : r = false := HBAD.out (by
              cases hc : okD n f k
              · rfl
              · exact absurd (by rw [HX.out]; exact (okD_iff.1 hc).1) h1)
            have HOK := Lib.hid hok
            have hcase : x < 0 ∨ (¬ x < 0 ∧ (n : Int) ≤ x) := by omega
            clear hok h1
            rcases hcase with hc | ⟨hc1, hc⟩
            all_goals
              go_wp2
              go_ret
              exact ⟨by rw [HOK.out]; rfl, HB.out.trans hin.out.2.2⟩
        · obtain rfl : k = n := by omega
          have hok : r = true := by rw [HR.out]; exact vMap_iff.2 ⟨⟨HZ.out, hn80⟩, hin.out.1⟩
          have HOK := Lib.hid hok
          clear hok
          go_wp2
          go_ret
          exact ⟨by rw [HOK.out]; rfl, HB.out.trans hin.out.2.2⟩
    · have hq0' : (q : Int) = 0 := by omega
      rw [hq0'] at hd
      have hok : r = false := HNO.out (fun h => hn80 h.2)
      have HOK := Lib.hid hok
      clear hok
      go_wp2
      go_ret
      exact ⟨by rw [HOK.out]; rfl, HB.out⟩
  · have hok : r = false := HNO.out (fun h => hq0 (by rw [HQ.out]; exact h.1))
    have HOK := Lib.hid hok
    obtain rfl : q = 1 := by omega
    clear hok
    go_wp2
    go_ret
    exact ⟨by rw [HOK.out]; rfl, HB.out⟩
end Go.Proofs.Ytijhbmdbnnmogaa.G
namespace Go.Proofs.Ytijhbmdbnnmogaa.G
open Go.RowKit

set_option maxHeartbeats 2000000 in
set_option maxRecDepth 100000 in
theorem clone_any (n : Nat) (x : Nat → Int) (V : Value) (W : World) (hV : Il W V n x) (hn : n ≤ 1000000) :
    Calls Try.prog 31 #[V] W fun e W' => ∃ U, e = .returned U ∧ W'.ownsRow W.heap.size 3 1 U n (nl n x) ∧ Ext W W' := by
  have HV := Lib.hid hV
  obtain ⟨A, c, rfl, hc, hd, hex⟩ := hV
  obtain ⟨i0, hi, hz0, hz1, hz2⟩ := info_parts info3
  have q33 : ∀ (w : World) (a : Option Addr) (n c n' c' : Nat), (binOp .eql 22 (.slice a n c) (.slice none n' c')).run Try.prog w = .ok (.bool a.isNone) w := fun w a n c n' c' => Lib.run_eql_slice_nil w _ _ a n c n' c' Try.underlying22
  cases A with
  | none =>
    obtain rfl : n = 0 := by
      rcases Nat.eq_zero_or_pos n with h | h
      · exact h
      · obtain ⟨b, o, e, -⟩ := hex h; cases e
    clear hex
    go_enter Try.func31, Try.ntmps31
    go_wp2
    go_ret
    exact ⟨_, rfl, World.ownsRow_nil _ _ _ _, Ext.refl _⟩
  | some ad =>
    have hcell : ∀ j u, (nl n x)[j]? = some u → W.cell? (ad.add j) = some u := by
      intro j u hu
      have hj : j < n := by have := (List.getElem?_eq_some_iff.1 hu).1; rw [nl_len] at this; exact this
      obtain ⟨b, o, e, -, hcs⟩ := hex (by omega)
      cases e
      rw [nl_get x hj] at hu
      cases hu
      rw [Addr.add_lit]
      exact hcs j hj
    have HC := Lib.hid hcell
    clear hex hcell
    go_enter Try.func31, Try.ntmps31
    go_wp2_with (at_builtin; refine wpList_append_own _ rfl _ _ 22 rfl W.heap.size 3 i0 (.int .i64 0) 1 8 Try.underlying22 hi hz0 hz1 hz2 rfl (by decide) _ 0 [] rfl (World.ownsRow_lit W #[] 0 (Nat.le_refl _) (Nat.zero_le _) rfl) ad n c (nl n x) rfl ?qc1 ?qc2 ?qc3 ?qc4 ?qc5 ?qc6 ?_)
    case qc1 => rw [nl_len]; omega
    case qc2 =>
      intro j u hj
      exact Lib.cell?_alloc_some _ (HC.out j u hj)
    case qc3 => intro u hu; unfold nl at hu; obtain ⟨y, _, rfl⟩ := List.mem_map.1 hu; rfl
    case qc4 => unfold maxLen; omega
    case qc5 => omega
    case qc6 => simp
    intro v' w1 hown hgrow hnil
    clear hnil
    have hI : w1.ownsRow W.heap.size 3 1 v' n (nl n x) := by simpa using hown
    have hE : Ext W w1 := ⟨hgrow.os, hgrow.tape, hgrow.output, by have h1 := hgrow.size; simp at h1; omega, fun k hk => (hgrow.block k (by simp; omega) (fun e => by simp [Value.ownBlock] at e; omega)).trans (Below.heap_alloc _ _ k hk)⟩
    have HR := Lib.hid (And.intro hI hE)
    clear hI hE hown hgrow
    go_wp2
    go_ret
    exact ⟨v', rfl, HR.out.1, HR.out.2⟩

theorem Il.cut {W : World} {A : Option Addr} {n c k : Nat} {f : Nat → Int} (h : Il W (.slice A n c) n f) (hk : k ≤ n) : Il W (.slice A k c) k f := by
  obtain ⟨A', c', e, h1, h2, h3⟩ := h
  injection e with e1 e2 e3
  subst e1 e3
  exact ⟨A, c, rfl, Nat.le_trans hk h1, h2, fun hp => by
    obtain ⟨b, off, e, hb, hc⟩ := h3 (by omega)
    exact ⟨b, off, e, hb, fun j hj => hc j (by omega)⟩⟩
theorem ownFar {w : World} {base n size : Nat} {e : TypeId} {v : Value} {xs : List Value} (h : w.ownsRow base e size v n xs) (p : Addr) (hp : p.block < base) (u : Value) : (w.setCell p u).ownsRow base e size v n xs := by
  obtain ⟨h1, h2 | ⟨g, cap, cur, rfl, hb, hh, rest⟩⟩ := h
  · exact ⟨h1, .inl h2⟩
  · exact ⟨h1, .inr ⟨g, cap, cur, rfl, hb, (Below.heap_setCell w p u g (by omega)).trans hh, rest⟩⟩

set_option maxHeartbeats 4000000 in
set_option maxRecDepth 100000 in
/-- of: a copy of the first 82 at most -/
theorem of_any (n : Nat) (f : Nat → Int) (NV : Value) (W : World) (hN : Il W NV n f) :
    Calls Try.prog 8 #[.agg #[NV]] W fun e W' => ∃ U, e = .returned (.agg #[U]) ∧ Il W' U (min n 82) f ∧ Ext W W' := by
  obtain ⟨k, hk⟩ : ∃ k, k = min n 82 := ⟨_, rfl⟩
  have hkn : k ≤ n := by omega
  have hmin : min (n : Int) 82 = (k : Int) := by omega
  have HK := Lib.hid hk
  rw [← hk]
  clear hk
  have HN := Lib.hid hN
  obtain ⟨A, c, rfl, hac, hcm, -⟩ := hN
  go_enter Try.func8, Try.ntmps8
  go_upto_region 1 with fail
  have bb := al2 W (.cells #[.slice A n c] 24) (.cells #[.slice none 0 0] 28)
  have h0 := (Below.heap_alloc (W.alloc (.cells #[.slice A n c] 24)) (.cells #[.slice none 0 0] 28) W.heap.size (by simp)).trans (heap_alloc_new W (.cells #[.slice A n c] 24))
  have h1 := heap_alloc_new (W.alloc (.cells #[.slice A n c] 24)) (.cells #[.slice none 0 0] 28)
  simp only [World.size_alloc] at h1
  generalize (W.alloc (.cells #[.slice A n c] 24)).alloc (.cells #[.slice none 0 0] 28) = W1 at *
  obtain ⟨m0, -, mz⟩ := uno h0
  have HB : Hid (Ext W W1) := Lib.hid bb
  have H1 := Lib.hid h1
  clear bb h0 h1
  go_wp2_with fail
  refine (clone_any k f _ _ ((HN.out.ext HB.out).cut hkn) (by have := HK.out; omega)).mono ?_
  rintro e w2 ⟨U, rfl, hown, hx⟩
  have hil := ownsRow_il hown
  obtain ⟨c0, f0, l0⟩ := uno ((Below.block hx _ (uno H1.out).2.2).trans H1.out)
  have g0 : (w2.setCell ⟨W.heap.size + 1, 0, none⟩ U).cell? ⟨W.heap.size + 1, 0, none⟩ = some U := World.cell?_setCell_same _ _ _ c0
  have hx2 : Ext W (w2.setCell ⟨W.heap.size + 1, 0, none⟩ U) := (HB.out.trans hx).sc (by omega)
  have hown2 : (w2.setCell ⟨W.heap.size + 1, 0, none⟩ U).ownsRow W1.heap.size 3 1 U k (nl k f) := ownFar hown ⟨W.heap.size + 1, 0, none⟩ (uno H1.out).2.2 U
  have HF := Lib.hid (And.intro (ownsRow_il hown2) hx2)
  obtain ⟨A2, c2, rfl⟩ := shape_own hown
  clear hown hil hx hx2 hown2 m0 l0
  go_wp2
  exact bodyPost_ret (v := .agg #[.slice A2 k c2]) (by simp [results, Try.results8, go_sem, g0]) rfl ⟨_, rfl, HF.out.1, HF.out.2⟩
end Go.Proofs.Ytijhbmdbnnmogaa.G
