/- Walks: the reference's Apply. -/
import Derived.Test.YtgjanbgehbpciaaV16
namespace Go.Proofs.Ytgjanbgehbpciaa
open Go.RowKit

/-- behind the first statement: a stamp of zeros -/
def ZCut (W3 : World) (w h : Int) (N : Nat) (s : Value) (wx : World) : Prop :=
  ∃ g5 gc, s = .pointer (some ⟨g5, 0, none⟩) ∧ Q3 wx g5 (.int .i64 w) (.int .i64 h) (.slice (some ⟨gc, 0, none⟩) N N) ∧ Ar wx gc (List.replicate N 0) ∧ g5 ≠ gc ∧ W3.heap.size ≤ g5 ∧ W3.heap.size ≤ gc ∧ g5 < wx.heap.size ∧ Ext W3 wx

theorem TB.new (X : World) (a b c : Value) (t : TypeId) : TB (X.alloc (.cells #[a, b, c] t)) X.heap.size := ⟨_, _, _, _, heap_alloc_new _ _⟩
theorem TB.put {X : World} {h : Nat} (H : TB X h) (a b c : Value) : Q3 (((X.setCell ⟨h, 0, none⟩ a).setCell ⟨h, 1, none⟩ b).setCell ⟨h, 2, none⟩ c) h a b c := by
  obtain ⟨a', b', c', t, H⟩ := H
  have e : (((X.setCell ⟨h, 0, none⟩ a).setCell ⟨h, 1, none⟩ b).setCell ⟨h, 2, none⟩ c).heap[h]? = some (.cells #[a, b, c] t (0, 0)) := by simp [World.setCell, Array.getElem?_modify, H]
  exact ⟨cell_of_row _ h 0 _ t (0, 0) e, cell_of_row _ h 1 _ t (0, 0) e, cell_of_row _ h 2 _ t (0, 0) e⟩

set_option maxHeartbeats 2000000 in
set_option maxRecDepth 100000 in
theorem applyR_c (w h : Nat) (dx dy : Int) (n : Nat) (f : Bool) (b off c : Nat) (cs : List Int) (N : Nat) (W : World) (hs : 1 ≤ w ∧ w ≤ 8 ∧ 1 ≤ h ∧ h ≤ 8) (hm : 0 ≤ dx ∧ dx < w ∧ 0 ≤ dy ∧ dy < h) (hn : n < 4)
    (hN : N = w * h) (hb : b < W.heap.size) (hc : ∀ j, j < N → W.cell? ⟨b, off + j, none⟩ = some (.int .i64 (cs.getD j 0))) :
    Calls Try.prog 22 #[.agg #[.int .i64 dx, .int .i64 dy, .int .i64 n, .bool f], .agg #[.int .i64 w, .int .i64 h, .slice (some ⟨b, off, none⟩) N c]] W fun e W' =>
      ∃ A, e = .returned (.agg #[.int .i64 w, .int .i64 h, .slice A N N]) ∧ Il W' (.slice A N N) (apl w h ⟨dx, dy, n, f⟩ cs N) ∧ Ext W W' := by
  have hN1 : 1 ≤ N ∧ N ≤ 64 := by
    have := area_in (w := w) (h := h) (okSize_iff.2 (by omega))
    rw [hN]
    have e : ((w * h : Nat) : Int) = (w : Int) * h := by simp
    omega
  have hgn : ∀ i, gN w h ⟨dx, dy, n, f⟩ i < N ∧ goalAt w h ⟨dx, dy, n, f⟩ i = (gN w h ⟨dx, dy, n, f⟩ i : Int) := fun i => by rw [hN]; exact gN_in _ i hs.1 hs.2.2.1
  have hgo : ∀ i, i < N → ∀ X, Calls Try.prog 54 #[.int .i64 w, .int .i64 h, .agg #[.int .i64 dx, .int .i64 dy, .int .i64 n, .bool f], .int .i64 i] X fun e W' => e = .returned (.int .i64 (gN w h ⟨dx, dy, n, f⟩ i : Nat)) ∧ Ext X W' :=
    fun i hi X => (goes_c w h dx dy n f i X hs hm hn (by rw [← hN]; exact hi)).mono (fun _ _ k => ⟨by rw [← (hgn i).2]; exact k.1, k.2⟩)
  have HGO := Lib.hid hgo
  have HGN := Lib.hid hgn; clear hgo hgn
  have hla : ∀ k, (apl w h ⟨dx, dy, n, f⟩ cs k).length = N := fun k => by rw [apl_len, hN]
  have HLA := Lib.hid hla; clear hla
  have hmk := make_i64 N (by omega)
  obtain ⟨ob, hob⟩ : ∃ ob : Obj, ob = .cells ((List.replicate N (0 : Int)).map iv).toArray 3 := ⟨_, rfl⟩
  rw [← hob] at hmk
  have HOB := Lib.hid hob; clear hob
  have HN := Lib.hid hN; clear hN
  have HC := Lib.hid hc; clear hc
  go_enter Try.func22, Try.ntmps22
  go_wp2_with fail
  have q0 := q4_a1 W (.int .i64 dx) (.int .i64 dy) (.int .i64 n) (.bool f) 26 (.cells #[.int .i64 w, .int .i64 h, .slice (some ⟨b, off, none⟩) N c] 24) (.cells #[.int .i64 0, .int .i64 0, .slice none 0 0] 24)
  have q1 : Q3 (((W.alloc (.cells #[.int .i64 dx, .int .i64 dy, .int .i64 n, .bool f] 26)).alloc (.cells #[.int .i64 w, .int .i64 h, .slice (some ⟨b, off, none⟩) N c] 24)).alloc (.cells #[.int .i64 0, .int .i64 0, .slice none 0 0] 24)) (W.heap.size + 1) (.int .i64 w) (.int .i64 h) (.slice (some ⟨b, off, none⟩) N c) := by
    refine ⟨?_, ?_, ?_⟩ <;> (rw [World.cell?_alloc_past _ _ _ (by simp), World.cell?_alloc_at _ _ _ _ (by simp)]; rfl)
  have q2 : TB (((W.alloc (.cells #[.int .i64 dx, .int .i64 dy, .int .i64 n, .bool f] 26)).alloc (.cells #[.int .i64 w, .int .i64 h, .slice (some ⟨b, off, none⟩) N c] 24)).alloc (.cells #[.int .i64 0, .int .i64 0, .slice none 0 0] 24)) (W.heap.size + 1 + 1) := by
    have := heap_alloc_new ((W.alloc (.cells #[.int .i64 dx, .int .i64 dy, .int .i64 n, .bool f] 26)).alloc (.cells #[.int .i64 w, .int .i64 h, .slice (some ⟨b, off, none⟩) N c] 24)) (.cells #[.int .i64 0, .int .i64 0, .slice none 0 0] 24)
    simp only [World.size_alloc] at this
    exact ⟨_, _, _, _, this⟩
  have bb := al3 W (.cells #[.int .i64 dx, .int .i64 dy, .int .i64 n, .bool f] 26) (.cells #[.int .i64 w, .int .i64 h, .slice (some ⟨b, off, none⟩) N c] 24) (.cells #[.int .i64 0, .int .i64 0, .slice none 0 0] 24)
  have zz : (((W.alloc (.cells #[.int .i64 dx, .int .i64 dy, .int .i64 n, .bool f] 26)).alloc (.cells #[.int .i64 w, .int .i64 h, .slice (some ⟨b, off, none⟩) N c] 24)).alloc (.cells #[.int .i64 0, .int .i64 0, .slice none 0 0] 24)).heap.size = W.heap.size + 1 + 1 + 1 := by simp
  generalize (((W.alloc (.cells #[.int .i64 dx, .int .i64 dy, .int .i64 n, .bool f] 26)).alloc (.cells #[.int .i64 w, .int .i64 h, .slice (some ⟨b, off, none⟩) N c] 24)).alloc (.cells #[.int .i64 0, .int .i64 0, .slice none 0 0] 24)) = W3 at *
  have zle : W.heap.size + 1 + 1 + 1 ≤ W3.heap.size := by omega
  have zge : W3.heap.size ≤ W.heap.size + 1 + 1 + 1 := by omega
  have BB : Hid (Ext W W3) := Lib.hid bb; clear bb zz
  have Q0 := Lib.hid q0; have Q1 := Lib.hid q1; have Q2 := Lib.hid q2; clear q0 q1 q2
  go_upto_region 2 with fail
  go_cut [5] (fun s wx => ZCut W3 w h N s wx)
  case first =>
    refine wp_region_noPanic ?_
    refine wp_split (S := fun X => Ext W3 X) 10 (by kernel_rfl) (by kernel_rfl) (Ext.drw (Ext.refl _)) ?_
    simp only [List.take_succ_cons, List.take_zero, List.drop_succ_cons, List.drop_zero]
    refine take_at 0 (some 8) (.pointer (some ⟨W.heap.size + 1, 0, none⟩)) rfl rfl (by kernel_rfl) (by kernel_rfl) (by kernel_rfl) (fun _ _ _ h => h) (Or.inl ⟨by rfl, fun w' hSw => ?_⟩) (Ext.drw (Ext.refl _)) ?_
    · skip
      clear hSw
      go_simp
      all_goals (with_reducible rfl)
    try simp only [Act.put, List.setIfInBounds_toArray, List.set_cons_zero, List.set_cons_succ]
    refine take_at 1 (some 9) (.int .i64 w) rfl rfl (by kernel_rfl) (by kernel_rfl) (by kernel_rfl) (fun _ _ _ h => h) (Or.inl ⟨by rfl, fun w' hSw => ?_⟩) (Ext.drw (Ext.refl _)) ?_
    · have q0 := keepAt hSw (by omega) Q1.out.1
      clear hSw
      go_simp
      all_goals (with_reducible rfl)
    try simp only [Act.put, List.setIfInBounds_toArray, List.set_cons_zero, List.set_cons_succ]
    refine take_at 2 (some 10) (.pointer (some ⟨W.heap.size + 1, 1, none⟩)) rfl rfl (by kernel_rfl) (by kernel_rfl) (by kernel_rfl) (fun _ _ _ h => h) (Or.inl ⟨by rfl, fun w' hSw => ?_⟩) (Ext.drw (Ext.refl _)) ?_
    · skip
      clear hSw
      go_simp
      all_goals (with_reducible rfl)
    try simp only [Act.put, List.setIfInBounds_toArray, List.set_cons_zero, List.set_cons_succ]
    refine take_at 3 (some 11) (.int .i64 h) rfl rfl (by kernel_rfl) (by kernel_rfl) (by kernel_rfl) (fun _ _ _ h => h) (Or.inl ⟨by rfl, fun w' hSw => ?_⟩) (Ext.drw (Ext.refl _)) ?_
    · have q0 := keepAt hSw (by omega) Q1.out.2.1
      clear hSw
      go_simp
      all_goals (with_reducible rfl)
    try simp only [Act.put, List.setIfInBounds_toArray, List.set_cons_zero, List.set_cons_succ]
    refine take_at 4 (some 12) (.pointer (some ⟨W.heap.size + 1, 2, none⟩)) rfl rfl (by kernel_rfl) (by kernel_rfl) (by kernel_rfl) (fun _ _ _ h => h) (Or.inl ⟨by rfl, fun w' hSw => ?_⟩) (Ext.drw (Ext.refl _)) ?_
    · skip
      clear hSw
      go_simp
      all_goals (with_reducible rfl)
    try simp only [Act.put, List.setIfInBounds_toArray, List.set_cons_zero, List.set_cons_succ]
    refine take_at 5 (some 13) (.slice (some ⟨b, off, none⟩) N c) rfl rfl (by kernel_rfl) (by kernel_rfl) (by kernel_rfl) (fun _ _ _ h => h) (Or.inl ⟨by rfl, fun w' hSw => ?_⟩) (Ext.drw (Ext.refl _)) ?_
    · have q0 := keepAt hSw (by omega) Q1.out.2.2
      clear hSw
      go_simp
      all_goals (with_reducible rfl)
    try simp only [Act.put, List.setIfInBounds_toArray, List.set_cons_zero, List.set_cons_succ]
    refine take_at 6 (some 14) (.int .i64 N) rfl rfl (by kernel_rfl) (by kernel_rfl) (by kernel_rfl) (fun _ _ _ h => h) (Or.inl ⟨by rfl, fun w' hSw => ?_⟩) (Ext.drw (Ext.refl _)) ?_
    · skip
      clear hSw
      go_simp
      all_goals (with_reducible rfl)
    try simp only [Act.put, List.setIfInBounds_toArray, List.set_cons_zero, List.set_cons_succ]
    refine wpAnyH_ready (rs := [7, 9]) (by kernel_rfl) (by simp) ?_
    refine AllReadyH.cons rfl (fun K hK => ?_) (AllReadyH.cons rfl (fun K hK => ?_) AllReadyH.nil)
    · go_simp
      refine hK.out _ _ (Ext.drw ((Ext.refl _).alc _)) (fun _ => ?_)
      clear hK K
      try simp only [Act.put, List.setIfInBounds_toArray, List.set_cons_zero, List.set_cons_succ]
      refine take_at 8 (some 16) (.agg #[.int .i64 w, .int .i64 h, .slice (some ⟨W3.heap.size, 0, none⟩) N N]) rfl rfl (by kernel_rfl) (by kernel_rfl) (by kernel_rfl) (fun _ _ _ h => h) (Or.inl ⟨by rfl, fun w' hSw => ?_⟩) (Ext.drw ((Ext.refl _).alc _)) ?_
      · clear hSw
        go_simp
        all_goals (with_reducible rfl)
      try simp only [Act.put, List.setIfInBounds_toArray, List.set_cons_zero, List.set_cons_succ]
      refine wpAnyH_ready (rs := [9]) (by kernel_rfl) (by simp) ?_
      refine AllReadyH.cons rfl (fun K hK => ?_) AllReadyH.nil
      go_simp
      refine hK.out _ _ (Ext.drw (((Ext.refl _).alc _).alc _)) (fun _ => ?_)
      clear hK K
      try simp only [Act.put, List.setIfInBounds_toArray, List.set_cons_zero, List.set_cons_succ]
      refine wpAnyH_done (by kernel_rfl) ?_ _
      refine cut_normal ?_
      have tb : TB ((W3.alloc ob).alloc (.cells #[.int .i64 0, .int .i64 0, .slice none 0 0] 24)).drew (W3.heap.size + 1) := (by have := TB.new (W3.alloc ob) (.int .i64 0) (.int .i64 0) (.slice none 0 0) 24; rw [World.size_alloc] at this; exact this)
      have ar : Ar ((W3.alloc ob).alloc (.cells #[.int .i64 0, .int .i64 0, .slice none 0 0] 24)).drew (W3.heap.size) (List.replicate N 0) := (by rw [HOB.out]; exact (Ar.new W3 (List.replicate N 0) 3).ext (Ext.drw ((Ext.refl _).alc _)))
      have zy : ((W3.alloc ob).alloc (.cells #[.int .i64 0, .int .i64 0, .slice none 0 0] 24)).drew.heap.size = W3.heap.size + 1 + 1 := by simp
      have ey : Ext W3 ((W3.alloc ob).alloc (.cells #[.int .i64 0, .int .i64 0, .slice none 0 0] 24)).drew := Ext.drw (((Ext.refl _).alc _).alc _)
      generalize ((W3.alloc ob).alloc (.cells #[.int .i64 0, .int .i64 0, .slice none 0 0] 24)).drew = Y at *
      have TBh := Lib.hid tb; have ARh := Lib.hid ar; have EYh := Lib.hid ey
      have zyl : W3.heap.size + 1 + 1 ≤ Y.heap.size := by omega
      obtain ⟨⟨_, _, _, r0, r1, r2⟩, rf⟩ := tb.facts
      clear tb ar ey zy
      go_wp2_with fail
      refine NoPanic.normal ?_
      go_wp2_with fail
      go_meet
      exact ⟨W3.heap.size + 1, W3.heap.size, rfl, TBh.out.put _ _ _, ((ARh.out.far (by omega)).far (by omega)).far (by omega), by omega, by omega, by omega, by simp [World.setCell] <;> omega, ((EYh.out.sc (by omega)).sc (by omega)).sc (by omega)⟩
    · go_simp
      refine hK.out _ _ (Ext.drw ((Ext.refl _).alc _)) (fun _ => ?_)
      clear hK K
      try simp only [Act.put, List.setIfInBounds_toArray, List.set_cons_zero, List.set_cons_succ]
      refine wpAnyH_ready (rs := [7]) (by kernel_rfl) (by simp) ?_
      refine AllReadyH.cons rfl (fun K hK => ?_) AllReadyH.nil
      go_simp
      refine hK.out _ _ (Ext.drw (((Ext.refl _).alc _).alc _)) (fun _ => ?_)
      clear hK K
      try simp only [Act.put, List.setIfInBounds_toArray, List.set_cons_zero, List.set_cons_succ]
      refine take_at 8 (some 16) (.agg #[.int .i64 w, .int .i64 h, .slice (some ⟨W3.heap.size + 1, 0, none⟩) N N]) rfl rfl (by kernel_rfl) (by kernel_rfl) (by kernel_rfl) (fun _ _ _ h => h) (Or.inl ⟨by rfl, fun w' hSw => ?_⟩) (Ext.drw (((Ext.refl _).alc _).alc _)) ?_
      · clear hSw
        go_simp
        all_goals (with_reducible rfl)
      try simp only [Act.put, List.setIfInBounds_toArray, List.set_cons_zero, List.set_cons_succ]
      refine wpAnyH_done (by kernel_rfl) ?_ _
      refine cut_normal ?_
      have tb : TB ((W3.alloc (.cells #[.int .i64 0, .int .i64 0, .slice none 0 0] 24)).alloc ob).drew (W3.heap.size) := (TB.new W3 (.int .i64 0) (.int .i64 0) (.slice none 0 0) 24).ext (Ext.drw ((Ext.refl _).alc _))
      have ar : Ar ((W3.alloc (.cells #[.int .i64 0, .int .i64 0, .slice none 0 0] 24)).alloc ob).drew (W3.heap.size + 1) (List.replicate N 0) := (by have := Ar.new (W3.alloc (.cells #[.int .i64 0, .int .i64 0, .slice none 0 0] 24)) (List.replicate N 0) 3; rw [World.size_alloc, ← HOB.out] at this; exact this)
      have zy : ((W3.alloc (.cells #[.int .i64 0, .int .i64 0, .slice none 0 0] 24)).alloc ob).drew.heap.size = W3.heap.size + 1 + 1 := by simp
      have ey : Ext W3 ((W3.alloc (.cells #[.int .i64 0, .int .i64 0, .slice none 0 0] 24)).alloc ob).drew := Ext.drw (((Ext.refl _).alc _).alc _)
      generalize ((W3.alloc (.cells #[.int .i64 0, .int .i64 0, .slice none 0 0] 24)).alloc ob).drew = Y at *
      have TBh := Lib.hid tb; have ARh := Lib.hid ar; have EYh := Lib.hid ey
      have zyl : W3.heap.size + 1 + 1 ≤ Y.heap.size := by omega
      obtain ⟨⟨_, _, _, r0, r1, r2⟩, rf⟩ := tb.facts
      clear tb ar ey zy
      go_wp2_with fail
      refine NoPanic.normal ?_
      go_wp2_with fail
      go_meet
      exact ⟨W3.heap.size, W3.heap.size + 1, rfl, TBh.out.put _ _ _, ((ARh.out.far (by omega)).far (by omega)).far (by omega), by omega, by omega, by omega, by simp [World.setCell] <;> omega, ((EYh.out.sc (by omega)).sc (by omega)).sc (by omega)⟩
  case rest =>
    obtain ⟨g5, gc, rfl, z5, zc, hne, l5, lc, lt5, e0⟩ := hcut
    have Z5 := Lib.hid z5; have ZC := Lib.hid zc
    clear z5 zc
    have k2 := keepAt e0 (by omega) Q1.out.2.2
    go_wp2_with fail
    clear k2
    have zc0 : Hid (Ar wc gc (apl w h ⟨dx, dy, n, f⟩ cs 0)) := by
      have := ZC.out
      rw [HN.out] at this
      exact Lib.hid this
    go_loopw [20] (fun i wr => ∃ k : Nat, i = .int .i64 k ∧ k ≤ N ∧ Hid (Ar wr gc (apl w h ⟨dx, dy, n, f⟩ cs k)) ∧ Hid (Q3 wr g5 (.int .i64 w) (.int .i64 h) (.slice (some ⟨gc, 0, none⟩) N N)) ∧ g5 < wr.heap.size ∧ Ext W3 wr) (fun i _ => N - (intOf i).toNat)
    case atStart => exact ⟨0, rfl, Nat.zero_le _, zc0, Z5, lt5, e0⟩
    case round =>
      obtain ⟨k, rfl, hk, har, hq5, hl5, ex⟩ := hrel
      clear zc0 Z5 ZC lt5 e0
      by_cases hlt : k < N
      · have hG := HGN.out k
        have hgo := HGO.out k hlt
        obtain ⟨G, hGe⟩ : ∃ G, G = gN w h ⟨dx, dy, n, f⟩ k := ⟨_, rfl⟩
        rw [← hGe] at hG hgo
        have hGN := hG.1
        have HGK := Lib.hid hgo
        clear hG hgo
        obtain ⟨x, hx⟩ : ∃ x, x = cs.getD k 0 := ⟨_, rfl⟩
        have hs1 := keepAt (nx BB.out ex) hb (HC.out k hlt)
        rw [← hx] at hs1
        have hasu := apl_succ w h ⟨dx, dy, n, f⟩ cs k
        rw [← hGe, ← hx] at hasu
        have HASU := Lib.hid hasu
        clear hasu hGe hx
        have hzx := ex.size
        go_wp2_with fail
        clear hs1
        have J0 := Lib.hid (keepAt ex (by omega) Q0.out.1); have J1 := Lib.hid (keepAt ex (by omega) Q0.out.2.1); have J2 := Lib.hid (keepAt ex (by omega) Q0.out.2.2.1); have J3 := Lib.hid (keepAt ex (by omega) Q0.out.2.2.2)
        have K0 := Lib.hid (keepAt ex (by omega) Q1.out.1); have K1 := Lib.hid (keepAt ex (by omega) Q1.out.2.1)
        refine wp_region_noPanic ?_
        refine wp_split (S := fun X => Ext wr X) 10 (by kernel_rfl) (by kernel_rfl) (Ext.drw (Ext.refl _)) ?_
        simp only [List.take_succ_cons, List.take_zero, List.drop_succ_cons, List.drop_zero]
        refine take_at 0 (some 25) (.pointer (some ⟨g5, 2, none⟩)) rfl rfl (by kernel_rfl) (by kernel_rfl) (by kernel_rfl) (fun _ _ _ h => h) (Or.inl ⟨by rfl, fun w' hSw => ?_⟩) (Ext.drw (Ext.refl _)) ?_
        · skip
          clear hSw
          go_simp
          all_goals (with_reducible rfl)
        try simp only [Act.put, List.setIfInBounds_toArray, List.set_cons_zero, List.set_cons_succ]
        refine take_at 1 (some 26) (.slice (some ⟨gc, 0, none⟩) N N) rfl rfl (by kernel_rfl) (by kernel_rfl) (by kernel_rfl) (fun _ _ _ h => h) (Or.inl ⟨by rfl, fun w' hSw => ?_⟩) (Ext.drw (Ext.refl _)) ?_
        · have q0 := keepAt hSw hl5 hq5.out.2.2
          clear hSw
          go_simp
          all_goals (with_reducible rfl)
        try simp only [Act.put, List.setIfInBounds_toArray, List.set_cons_zero, List.set_cons_succ]
        refine take_at 2 (some 27) (.pointer (some ⟨W.heap.size + 1, 0, none⟩)) rfl rfl (by kernel_rfl) (by kernel_rfl) (by kernel_rfl) (fun _ _ _ h => h) (Or.inl ⟨by rfl, fun w' hSw => ?_⟩) (Ext.drw (Ext.refl _)) ?_
        · skip
          clear hSw
          go_simp
          all_goals (with_reducible rfl)
        try simp only [Act.put, List.setIfInBounds_toArray, List.set_cons_zero, List.set_cons_succ]
        refine take_at 3 (some 28) (.int .i64 w) rfl rfl (by kernel_rfl) (by kernel_rfl) (by kernel_rfl) (fun _ _ _ h => h) (Or.inl ⟨by rfl, fun w' hSw => ?_⟩) (Ext.drw (Ext.refl _)) ?_
        · have q0 := keepAt hSw (by omega) K0.out
          clear hSw
          go_simp
          all_goals (with_reducible rfl)
        try simp only [Act.put, List.setIfInBounds_toArray, List.set_cons_zero, List.set_cons_succ]
        refine take_at 4 (some 29) (.pointer (some ⟨W.heap.size + 1, 1, none⟩)) rfl rfl (by kernel_rfl) (by kernel_rfl) (by kernel_rfl) (fun _ _ _ h => h) (Or.inl ⟨by rfl, fun w' hSw => ?_⟩) (Ext.drw (Ext.refl _)) ?_
        · skip
          clear hSw
          go_simp
          all_goals (with_reducible rfl)
        try simp only [Act.put, List.setIfInBounds_toArray, List.set_cons_zero, List.set_cons_succ]
        refine take_at 5 (some 30) (.int .i64 h) rfl rfl (by kernel_rfl) (by kernel_rfl) (by kernel_rfl) (fun _ _ _ h => h) (Or.inl ⟨by rfl, fun w' hSw => ?_⟩) (Ext.drw (Ext.refl _)) ?_
        · have q0 := keepAt hSw (by omega) K1.out
          clear hSw
          go_simp
          all_goals (with_reducible rfl)
        try simp only [Act.put, List.setIfInBounds_toArray, List.set_cons_zero, List.set_cons_succ]
        refine take_at 6 (some 31) (.agg #[.int .i64 dx, .int .i64 dy, .int .i64 n, .bool f]) rfl rfl (by kernel_rfl) (by kernel_rfl) (by kernel_rfl) (fun _ _ _ h => h) (Or.inl ⟨by rfl, fun w' hSw => ?_⟩) (Ext.drw (Ext.refl _)) ?_
        · have q0 := keepAt hSw (by omega) J0.out
          have q1 := keepAt hSw (by omega) J1.out
          have q2 := keepAt hSw (by omega) J2.out
          have q3 := keepAt hSw (by omega) J3.out
          clear hSw
          go_simp
          all_goals (with_reducible rfl)
        try simp only [Act.put, List.setIfInBounds_toArray, List.set_cons_zero, List.set_cons_succ]
        refine take_at 7 (some 32) (.int .i64 k) rfl rfl (by kernel_rfl) (by kernel_rfl) (by kernel_rfl) (fun _ _ _ h => h) (Or.inl ⟨by rfl, fun w' hSw => ?_⟩) (Ext.drw (Ext.refl _)) ?_
        · skip
          clear hSw
          go_simp
          all_goals (with_reducible rfl)
        try simp only [Act.put, List.setIfInBounds_toArray, List.set_cons_zero, List.set_cons_succ]
        refine take_at 9 (some 34) (.int .i64 x) rfl rfl (by kernel_rfl) (by kernel_rfl) (by kernel_rfl) (fun _ _ _ h => h) (Or.inl ⟨by rfl, fun w' hSw => ?_⟩) (Ext.drw (Ext.refl _)) ?_
        · skip
          clear hSw
          go_simp
          all_goals (with_reducible rfl)
        try simp only [Act.put, List.setIfInBounds_toArray, List.set_cons_zero, List.set_cons_succ]
        refine wpAnyH_ready (rs := [8]) (by kernel_rfl) (by simp) ?_
        refine AllReadyH.cons rfl (fun K hK => ?_) AllReadyH.nil
        go_simp
        refine (HGK.out _).mono ?_
        rintro e v8 ⟨rfl, hb8⟩
        have e8 : Ext wr v8 := (Ext.drw (Ext.refl _)).trans hb8
        try go_wp2_with fail
        refine hK.out _ _ e8 (fun _ => ?_)
        clear hK K
        try simp only [Act.put, List.setIfInBounds_toArray, List.set_cons_zero, List.set_cons_succ]
        refine wpAnyH_done (by kernel_rfl) ?_ _
        refine cut_normal ?_
        have har8 := Lib.hid (har.out.ext e8)
        have hq8 := Lib.hid (hq5.out.ext hl5 e8)
        have hac := har8.out.cell (j := G) (by rw [HLA.out]; exact hGN)
        have haf := har8.out.frozen
        have hz8 := e8.size
        go_wp2_with fail
        refine NoPanic.normal ?_
        go_wp2
        go_roundw
        case rel =>
          refine ⟨k + 1, by go_num, by omega, ?_, ?_, ?_, ?_⟩
          · rw [HASU.out]
            exact Lib.hid (har8.out.set G x)
          · have far : ∀ o, (v8.setCell ⟨gc, G, none⟩ (.int .i64 x)).cell? ⟨g5, o, none⟩ = v8.cell? ⟨g5, o, none⟩ := fun o => World.cell?_setCell_other _ _ _ _ (by intro e; injection e with e; omega)
            exact Lib.hid ⟨(far 0).trans hq8.out.1, (far 1).trans hq8.out.2.1, (far 2).trans hq8.out.2.2⟩
          · simp [World.setCell]; omega
          · exact (ex.trans e8).sc (by omega)
        case measure => simp [intOf]; omega
      · obtain rfl : k = N := by omega
        obtain ⟨p0, p1, p2⟩ := hq5.out
        have hil : Hid (Il wr (.slice (some ⟨gc, 0, none⟩) k k) (apl w h ⟨dx, dy, n, f⟩ cs k)) := Lib.hid (by
          have := har.out.il k (by rw [HLA.out]; exact Nat.le_refl _) (by omega)
          rwa [HLA.out] at this)
        have HT := Lib.hid har
        obtain ⟨⟨_, _, _, r0, r1, r2⟩, rf⟩ := (Q2.out.ext ex).facts
        have zx := ex.size
        clear har hq5
        go_wp2
        refine bodyPost_ret (v := .agg #[.int .i64 w, .int .i64 h, .slice (some ⟨gc, 0, none⟩) k k]) (by simp [results, Try.results22, go_sem, r0, r1, r2]) rfl ⟨_, rfl, ?_, ?_⟩
        · have := (((HT.out.out.far (g' := W.heap.size + 1 + 1) (i := 0) (v := .int .i64 w) (by omega)).far (g' := W.heap.size + 1 + 1) (i := 1) (v := .int .i64 h) (by omega)).far (g' := W.heap.size + 1 + 1) (i := 2) (v := .slice (some ⟨gc, 0, none⟩) k k) (by omega)).il k (by rw [HLA.out]; exact Nat.le_refl _) (by omega)
          rwa [HLA.out] at this
        · exact sc (sc (sc (nx BB.out ex) (by omega) _) (by omega) _) (by omega) _
end Go.Proofs.Ytgjanbgehbpciaa
