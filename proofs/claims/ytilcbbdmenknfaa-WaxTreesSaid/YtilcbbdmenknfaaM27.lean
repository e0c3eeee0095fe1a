/- Walks: Tree. -/
import Derived.Test.YtilcbbdmenknfaaM21
import Derived.Test.YtilcbbdmenknfaaM11
import Derived.Test.YtilcbbdmenknfaaM22
import Derived.Test.YtilcbbdmenknfaaM26
import Derived.RegionTactic
import Derived.ChangeAlike
namespace Go.Proofs.Ytilcbbdmenknfaa
open Go.RowKit

theorem set5 {w : World} {z : Nat} {t : TypeId} {y0 y1 y2 y3 y4 : Value} (h : w.heap[z]? = some (.cells #[y0, y1, y2, y3, y4] t (0, 0))) (x0 x1 x2 x3 x4 : Value) :
    (((((w.setCell ⟨z, 0, none⟩ x0).setCell ⟨z, 1, none⟩ x1).setCell ⟨z, 2, none⟩ x2).setCell ⟨z, 3, none⟩ x3).setCell ⟨z, 4, none⟩ x4).heap[z]? = some (.cells #[x0, x1, x2, x3, x4] t (0, 0)) := by
  simp [World.setCell, Array.getElem?_modify, h]
theorem set5_far (w : World) {z b : Nat} (x0 x1 x2 x3 x4 : Value) (h : b ≠ z) :
    (((((w.setCell ⟨z, 0, none⟩ x0).setCell ⟨z, 1, none⟩ x1).setCell ⟨z, 2, none⟩ x2).setCell ⟨z, 3, none⟩ x3).setCell ⟨z, 4, none⟩ x4).heap[b]? = w.heap[b]? := by
  rw [Below.heap_setCell _ _ _ b h, Below.heap_setCell _ _ _ b h, Below.heap_setCell _ _ _ b h, Below.heap_setCell _ _ _ b h, Below.heap_setCell _ _ _ b h]
theorem set5_size (w : World) (z : Nat) (x0 x1 x2 x3 x4 : Value) :
    (((((w.setCell ⟨z, 0, none⟩ x0).setCell ⟨z, 1, none⟩ x1).setCell ⟨z, 2, none⟩ x2).setCell ⟨z, 3, none⟩ x3).setCell ⟨z, 4, none⟩ x4).heap.size = w.heap.size := by simp [World.setCell]
/-- arcs don't lie in a block that holds no three numbers in a row -/
theorem Al.far5 {w w' : World} {v : Value} {a : Ar} {z : Nat} {t : TypeId} (h : Al w v a) (hz : w.heap[z]? = some (.cells #[.int .i64 0, .int .i64 0, .slice none 0 0, .slice none 0 0, .slice none 0 0] t (0, 0)))
    (hs : w.heap.size ≤ w'.heap.size) (hk : ∀ b, b ≠ z → w'.heap[b]? = w.heap[b]?) : Al w' v a := by
  obtain ⟨A, c, rfl, h1, h2, h3⟩ := h
  refine ⟨A, c, rfl, h1, h2, fun hp => ?_⟩
  obtain ⟨b, off, rfl, hb, hc⟩ := h3 hp
  have hne : b ≠ z := by
    rintro rfl
    have h4 := (hc 0 hp).2.2
    rw [cell_of_row w b _ _ t (0, 0) hz] at h4
    match off, h4 with
    | 0, h4 => simp at h4
    | 1, h4 => simp at h4
    | 2, h4 => simp at h4
    | k + 3, h4 => simp at h4
  exact ⟨b, off, rfl, Nat.lt_of_lt_of_le hb hs, fun j hj => ⟨(World.cell?_of_block (hk b hne)).trans (hc j hj).1, (World.cell?_of_block (hk b hne)).trans (hc j hj).2.1, (World.cell?_of_block (hk b hne)).trans (hc j hj).2.2⟩⟩
theorem Al.keep {w w' : World} {base : Nat} {v : Value} {a : Ar} (h : Al w v a) (ho : ∀ b, v.ownBlock = some b → base ≤ b) (hs : w.heap.size ≤ w'.heap.size) (hk : ∀ b, base ≤ b → w'.heap[b]? = w.heap[b]?) : Al w' v a := by
  obtain ⟨A, c, rfl, h1, h2, h3⟩ := h
  refine ⟨A, c, rfl, h1, h2, fun hp => ?_⟩
  obtain ⟨b, off, rfl, hb, hc⟩ := h3 hp
  have hkb := hk b (ho b rfl)
  exact ⟨b, off, rfl, Nat.lt_of_lt_of_le hb hs, fun j hj => ⟨(World.cell?_of_block hkb).trans (hc j hj).1, (World.cell?_of_block hkb).trans (hc j hj).2.1, (World.cell?_of_block hkb).trans (hc j hj).2.2⟩⟩
/-- is it a web? -/
def webB (N : Int) (a : Ar) : Bool := vNet N a && decide (N ≤ 12)
/-- a tree with all cuts lies at two slices -/
def TreeAt (W : World) (a : Ar) (N : Nat) (PV WV : Value) : Prop := ∃ f p w, Cf a f ∧ Tr f N p w ∧ w 0 = 0 ∧ Il W PV N (parI p) ∧ Il W WV N w
/-- while the nodes behind s are looked at: p below l -/
def pst (p : Nat → Nat) (R : Nat → Bool) (s t l : Nat) (i : Nat) : Nat := if s < i ∧ i < l ∧ R i = true ∧ p i = t then s else p i

set_option maxHeartbeats 4000000 in
set_option maxRecDepth 100000 in
theorem treeS_any (N : Int) (a : Ar) (AV : Value) (W : World) (hA : Al W AV a) :
    Calls Try.prog 35 #[.agg #[.int .i64 N, AV]] W fun e W' => ∃ (PV WV : Value) (er : Int), e = .returned (.tuple #[PV, WV, .int .i64 er]) ∧ Ext W W' ∧
      ((webB N a = false ∧ PV = .slice none 0 0 ∧ WV = .slice none 0 0 ∧ er = 2) ∨ (webB N a = true ∧ er = 0 ∧ TreeAt W' a N.toNat PV WV)) := by
  have HA := Lib.hid hA
  obtain ⟨A, c, rfl, hac, hcm, -⟩ := hA
  go_enter Try.func35, Try.ntmps35
  go_upto_region 1 with fail
  have bb := al1 W (.cells #[.int .i64 N, .slice A a.n c] 30)
  obtain ⟨m0, m1, -, mz⟩ := two (heap_alloc_new W (.cells #[.int .i64 N, .slice A a.n c] 30))
  generalize W.alloc (.cells #[.int .i64 N, .slice A a.n c] 30) = W1 at *
  have HB : Hid (Ext W W1) := Lib.hid bb
  have HM := Lib.hid (And.intro m0 m1)
  clear bb
  go_wp2_with fail
  refine (isWeb_any N a _ _ (HA.out.ext HB.out)).mono ?_
  rintro e w1 ⟨rfl, hx⟩
  have HX : Hid (Ext W1 w1) := Lib.hid hx
  clear hx m0 m1
  cases hv : (vNet N a && decide (N ≤ 12))
  · have HV := Lib.hid hv; clear hv
    go_wp2
    refine bodyPost_ret (v := .tuple #[.slice none 0 0, .slice none 0 0, .int .i64 2]) (by simp [results, Try.results35, go_sem]) rfl ⟨_, _, 2, rfl, HB.out.trans HX.out, .inl ⟨HV.out, rfl, rfl, rfl⟩⟩
  · have hv2 : vNet N a = true ∧ N ≤ 12 := by simpa using hv
    obtain ⟨m, rfl, hm2, hm40, hn, hO⟩ := vNet_ok hv2.1
    have hm12 : m ≤ 12 := by omega
    have hc0 : ∀ k, k < a.n → 0 ≤ a.c k := hO.c0
    obtain ⟨f, hf⟩ := cf_ex a hc0
    have HF := Lib.hid hf; have HO := Lib.hid hO; have HC0 := Lib.hid hc0; have HV := Lib.hid hv
    have hOd := dbl_ok hO
    have HOD := Lib.hid hOd
    have hdn : (dbl a).n ≤ 320 := by show 2 * a.n ≤ 320; omega
    obtain ⟨dn, hdn2⟩ : ∃ d, d = (dbl a).n := ⟨_, rfl⟩
    rw [← hdn2] at hdn
    have HDN := Lib.hid hdn2
    clear hv hv2 hO hc0 hf hOd hdn2
    have mz1 : W.heap.size < w1.heap.size := Nat.lt_of_lt_of_le mz HX.out.size
    have HM1 := Lib.hid (And.intro (keepAt HX.out mz HM.out.1) (keepAt HX.out mz HM.out.2))
    have hm1 : ∀ w, (Instr.makeSlice 33 (.int .i64 (m : Int)) (.int .i64 (m : Int))).run Try.prog w = .ok (.slice (some ⟨w.heap.size, 0, none⟩) m m) (w.alloc (.cells (Array.ofFn fun _ : Fin m => .int .i64 0) 3)) := fun w => make_one 33 3 _ 8 Try.underlying33 info3 rfl (by omega) m (by omega) w
    go_upto_region 3 with fail
    go_cut [2, 3] from 12 to 18 (fun s2 s3 wx => ∃ g1 g2, s2 = .slice (some ⟨g1, 0, none⟩) m m ∧ s3 = .slice (some ⟨g2, 0, none⟩) m m ∧ w1.heap.size ≤ g1 ∧ w1.heap.size ≤ g2 ∧ g1 ≠ g2 ∧ BI wx g1 m (fun _ => 0) ∧ BI wx g2 m (fun _ => 0) ∧ Ext w1 wx)
    case first =>
      refine wp_region_noPanic ?_
      refine wp_region_held_drew (S := fun X => Ext w1 X) (by kernel_rfl) (Ext.drw (Ext.refl _)) (fun _ => ?_)
      refine take_at 0 (some 12) (.pointer (some ⟨W.heap.size, 0, none⟩)) rfl rfl (by kernel_rfl) (by kernel_rfl) (by kernel_rfl) (fun _ _ _ h => h) (Or.inl ⟨by rfl, fun w' hSw => ?_⟩) (Ext.drw (Ext.refl _)) ?_
      · skip
        try clear hSw
        go_simp
        all_goals (with_reducible rfl)
      try simp only [Act.put, List.setIfInBounds_toArray, List.set_cons_zero, List.set_cons_succ]
      refine take_at 1 (some 13) (.int .i64 m) rfl rfl (by kernel_rfl) (by kernel_rfl) (by kernel_rfl) (fun _ _ _ h => h) (Or.inl ⟨by rfl, fun w' hSw => ?_⟩) (Ext.drw (Ext.refl _)) ?_
      · have z0 := keepAt hSw mz1 HM1.out.1
        try clear hSw
        go_simp
        all_goals (with_reducible rfl)
      try simp only [Act.put, List.setIfInBounds_toArray, List.set_cons_zero, List.set_cons_succ]
      refine take_at 3 (some 15) (.pointer (some ⟨W.heap.size, 0, none⟩)) rfl rfl (by kernel_rfl) (by kernel_rfl) (by kernel_rfl) (fun _ _ _ h => h) (Or.inl ⟨by rfl, fun w' hSw => ?_⟩) (Ext.drw (Ext.refl _)) ?_
      · skip
        try clear hSw
        go_simp
        all_goals (with_reducible rfl)
      try simp only [Act.put, List.setIfInBounds_toArray, List.set_cons_zero, List.set_cons_succ]
      refine take_at 4 (some 16) (.int .i64 m) rfl rfl (by kernel_rfl) (by kernel_rfl) (by kernel_rfl) (fun _ _ _ h => h) (Or.inl ⟨by rfl, fun w' hSw => ?_⟩) (Ext.drw (Ext.refl _)) ?_
      · have z0 := keepAt hSw mz1 HM1.out.1
        try clear hSw
        go_simp
        all_goals (with_reducible rfl)
      try simp only [Act.put, List.setIfInBounds_toArray, List.set_cons_zero, List.set_cons_succ]
      refine wpAnyH_ready (rs := [2, 5]) (by kernel_rfl) (by simp) ?_
      refine AllReadyH.cons rfl (fun K hK => ?_) (AllReadyH.cons rfl (fun K hK => ?_) AllReadyH.nil)
      · go_simp
        have e1 : Ext w1 (w1.drew.alloc (.cells (Array.ofFn fun _ : Fin m => Value.int .i64 0) 3)) := Ext.alc (Ext.drw (Ext.refl _)) _
        refine hK.out _ _ e1 (fun _ => ?_)
        clear hK K
        try simp only [Act.put, List.setIfInBounds_toArray, List.set_cons_zero, List.set_cons_succ]
        refine take_at 6 (some 2) (.slice (some ⟨w1.heap.size, 0, none⟩) m m) rfl rfl (by kernel_rfl) (by kernel_rfl) (by kernel_rfl) (fun _ _ _ h => h) (Or.inl ⟨by rfl, fun w' hSw => ?_⟩) (e1) ?_
        · skip
          try clear hSw
          go_simp
          all_goals (with_reducible rfl)
        try simp only [Act.put, List.setIfInBounds_toArray, List.set_cons_zero, List.set_cons_succ]
        refine wpAnyH_ready (rs := [5]) (by kernel_rfl) (by simp) ?_
        refine AllReadyH.cons rfl (fun K hK => ?_) AllReadyH.nil
        go_simp
        have e2 : Ext w1 ((w1.drew.alloc (.cells (Array.ofFn fun _ : Fin m => Value.int .i64 0) 3)).alloc (.cells (Array.ofFn fun _ : Fin m => Value.int .i64 0) 3)) := Ext.alc e1 _
        refine hK.out _ _ e2 (fun _ => ?_)
        clear hK K
        try simp only [Act.put, List.setIfInBounds_toArray, List.set_cons_zero, List.set_cons_succ]
        refine take_at 7 (some 3) (.slice (some ⟨w1.heap.size + 1, 0, none⟩) m m) rfl rfl (by kernel_rfl) (by kernel_rfl) (by kernel_rfl) (fun _ _ _ h => h) (Or.inl ⟨by rfl, fun w' hSw => ?_⟩) (e2) ?_
        · skip
          try clear hSw
          go_simp
          all_goals (with_reducible rfl)
        try simp only [Act.put, List.setIfInBounds_toArray, List.set_cons_zero, List.set_cons_succ]
        refine wpAnyH_done (by kernel_rfl) ?_ _
        refine NoPanic.normal ?_
        go_wp2_with fail
        go_meet
        exact ⟨w1.heap.size, w1.heap.size + 1, rfl, rfl, by omega, by omega, by omega, Bk.alloc (t := 3) (n := m) (f := fun _ => Value.int .i64 0) (heap_alloc_new w1.drew _) _, (by have := heap_alloc_new (w1.drew.alloc (.cells (Array.ofFn fun _ : Fin m => Value.int .i64 0) 3)) (.cells (Array.ofFn fun _ : Fin m => Value.int .i64 0) 3); simp only [World.size_alloc, World.size_drew] at this; exact this), e2⟩
      · go_simp
        have e1 : Ext w1 (w1.drew.alloc (.cells (Array.ofFn fun _ : Fin m => Value.int .i64 0) 3)) := Ext.alc (Ext.drw (Ext.refl _)) _
        refine hK.out _ _ e1 (fun _ => ?_)
        clear hK K
        try simp only [Act.put, List.setIfInBounds_toArray, List.set_cons_zero, List.set_cons_succ]
        refine wpAnyH_ready (rs := [2]) (by kernel_rfl) (by simp) ?_
        refine AllReadyH.cons rfl (fun K hK => ?_) AllReadyH.nil
        go_simp
        have e2 : Ext w1 ((w1.drew.alloc (.cells (Array.ofFn fun _ : Fin m => Value.int .i64 0) 3)).alloc (.cells (Array.ofFn fun _ : Fin m => Value.int .i64 0) 3)) := Ext.alc e1 _
        refine hK.out _ _ e2 (fun _ => ?_)
        clear hK K
        try simp only [Act.put, List.setIfInBounds_toArray, List.set_cons_zero, List.set_cons_succ]
        refine take_at 6 (some 2) (.slice (some ⟨w1.heap.size + 1, 0, none⟩) m m) rfl rfl (by kernel_rfl) (by kernel_rfl) (by kernel_rfl) (fun _ _ _ h => h) (Or.inl ⟨by rfl, fun w' hSw => ?_⟩) (e2) ?_
        · skip
          try clear hSw
          go_simp
          all_goals (with_reducible rfl)
        try simp only [Act.put, List.setIfInBounds_toArray, List.set_cons_zero, List.set_cons_succ]
        refine take_at 7 (some 3) (.slice (some ⟨w1.heap.size, 0, none⟩) m m) rfl rfl (by kernel_rfl) (by kernel_rfl) (by kernel_rfl) (fun _ _ _ h => h) (Or.inl ⟨by rfl, fun w' hSw => ?_⟩) (e2) ?_
        · skip
          try clear hSw
          go_simp
          all_goals (with_reducible rfl)
        try simp only [Act.put, List.setIfInBounds_toArray, List.set_cons_zero, List.set_cons_succ]
        refine wpAnyH_done (by kernel_rfl) ?_ _
        refine NoPanic.normal ?_
        go_wp2_with fail
        go_meet
        exact ⟨w1.heap.size + 1, w1.heap.size, rfl, rfl, by omega, by omega, by omega, (by have := heap_alloc_new (w1.drew.alloc (.cells (Array.ofFn fun _ : Fin m => Value.int .i64 0) 3)) (.cells (Array.ofFn fun _ : Fin m => Value.int .i64 0) 3); simp only [World.size_alloc, World.size_drew] at this; exact this), Bk.alloc (t := 3) (n := m) (f := fun _ => Value.int .i64 0) (heap_alloc_new w1.drew _) _, e2⟩
    case rest =>
      obtain ⟨g1, g2, rfl, rfl, hg1, hg2, hne, y1, y2, ex⟩ := hcut
      have HY := Lib.hid (And.intro y1 (And.intro y2 ex))
      clear y1 y2 ex
      go_wp2_with fail
      go_loopw [5] (fun i wr => ∃ s : Nat, i = .int .i64 s ∧ 1 ≤ s ∧ s ≤ m ∧ Hid (∃ p w, Gu a f m s p w ∧ p 0 = 0 ∧ w 0 = 0 ∧ BI wr g1 m (fun i => ((p i : Nat) : Int)) ∧ BI wr g2 m w ∧ Ext w1 wr)) (fun i _ => m - (intOf i).toNat)
      case atStart => exact ⟨1, rfl, Nat.le_refl _, by omega, Lib.hid ⟨fun _ => 0, fun _ => 0, Gu.start _ _, rfl, rfl, HY.out.1, HY.out.2.1, HY.out.2.2⟩⟩
      case round =>
        clear HY
        obtain ⟨s, rfl, hs1, hsm, hin⟩ := hrel
        obtain ⟨p, w, hgu, hp0, hw0, hb1, hb2, hex⟩ := hin.out
        have HGU := Lib.hid (And.intro hgu (And.intro hp0 hw0)); have HB1 := Lib.hid hb1; have HB2 := Lib.hid hb2; have HEX := Lib.hid hex
        clear hin hgu hp0 hw0 hb1 hb2 hex
        have m0 := keepAt HEX.out mz1 HM1.out.1
        obtain ⟨wo, rfl⟩ : ∃ w, w = wr := ⟨_, rfl⟩
        have mzo : W.heap.size < wo.heap.size := Nat.lt_of_lt_of_le mz1 HEX.out.size
        by_cases hlt : s < m
        · obtain ⟨t, ht⟩ : ∃ t, t = p s := ⟨_, rfl⟩
          have hts : t < s := by rw [ht]; exact (HGU.out.1.par s hlt hs1).1
          have HT := Lib.hid ht
          have c1 : wo.cell? ⟨g1, s, none⟩ = some (.int .i64 t) := by rw [ht]; exact Bk.cell HB1.out hlt
          have HC1 := Lib.hid c1
          have lg1 : g1 < wo.heap.size := Bk.lt HB1.out
          have HG2L : Hid (g2 < wo.heap.size) := Lib.hid (Bk.lt HB2.out)
          clear ht
          go_upto_region 7 with fail
          clear c1 m0
          go_cut [6] from 24 to 31 (fun s6 wx => ∃ (z : Nat) (x : Nat → Int) (gl : Nat) (BV SV : Value), s6 = .pointer (some ⟨z, 0, none⟩) ∧ wo.heap.size ≤ z ∧ wx.heap[z]? = some (.cells #[.int .i64 s, .int .i64 t, BV, SV, .slice (some ⟨gl, 0, none⟩) (2 * dn) (2 * dn)] 87 (0, 0)) ∧
            BI wx gl (2 * dn) x ∧ Full (dbl a).nw m s t x ∧ Al wx BV (dbl a) ∧ (∃ bs, wo.heap.size ≤ bs ∧ Sl wx bs SV m (stf (dbl a).nw (dbl a).n)) ∧ Ext wo wx ∧ wo.heap.size ≤ gl ∧ (∀ b, BV.ownBlock = some b → wo.heap.size ≤ b))
          case first =>
            refine wp_region_noPanic ?_
            refine wp_split (S := fun X => Ext wo X) 8 (by kernel_rfl) (by kernel_rfl) (Ext.drw (Ext.refl _)) ?_
            simp only [List.take_succ_cons, List.take_zero, List.drop_succ_cons, List.drop_zero]
            refine take_at 0 (some 24) (.agg #[.int .i64 m, .slice A a.n c]) rfl rfl (by kernel_rfl) (by kernel_rfl) (by kernel_rfl) (fun _ _ _ h => h) (Or.inl ⟨by rfl, fun w' hSw => ?_⟩) (Ext.drw (Ext.refl _)) ?_
            · have z0 := keepAt hSw mzo (keepAt HEX.out mz1 HM1.out.1)
              have z1 := keepAt hSw mzo (keepAt HEX.out mz1 HM1.out.2)
              try clear hSw
              go_simp
              all_goals (with_reducible rfl)
            try simp only [Act.put, List.setIfInBounds_toArray, List.set_cons_zero, List.set_cons_succ]
            refine take_at 1 (some 25) (.int .i64 s) rfl rfl (by kernel_rfl) (by kernel_rfl) (by kernel_rfl) (fun _ _ _ h => h) (Or.inl ⟨by rfl, fun w' hSw => ?_⟩) (Ext.drw (Ext.refl _)) ?_
            · skip
              try clear hSw
              go_simp
              all_goals (with_reducible rfl)
            try simp only [Act.put, List.setIfInBounds_toArray, List.set_cons_zero, List.set_cons_succ]
            refine take_at 2 (some 26) (.slice (some ⟨g1, 0, none⟩) m m) rfl rfl (by kernel_rfl) (by kernel_rfl) (by kernel_rfl) (fun _ _ _ h => h) (Or.inl ⟨by rfl, fun w' hSw => ?_⟩) (Ext.drw (Ext.refl _)) ?_
            · skip
              try clear hSw
              go_simp
              all_goals (with_reducible rfl)
            try simp only [Act.put, List.setIfInBounds_toArray, List.set_cons_zero, List.set_cons_succ]
            refine take_at 3 (some 27) (.int .i64 s) rfl rfl (by kernel_rfl) (by kernel_rfl) (by kernel_rfl) (fun _ _ _ h => h) (Or.inl ⟨by rfl, fun w' hSw => ?_⟩) (Ext.drw (Ext.refl _)) ?_
            · skip
              try clear hSw
              go_simp
              all_goals (with_reducible rfl)
            try simp only [Act.put, List.setIfInBounds_toArray, List.set_cons_zero, List.set_cons_succ]
            refine take_at 4 (some 28) (.pointer (some ⟨g1, s, none⟩)) rfl rfl (by kernel_rfl) (by kernel_rfl) (by kernel_rfl) (fun _ _ _ h => h) (Or.inl ⟨by rfl, fun w' hSw => ?_⟩) (Ext.drw (Ext.refl _)) ?_
            · skip
              try clear hSw
              go_simp
              all_goals (with_reducible rfl)
            try simp only [Act.put, List.setIfInBounds_toArray, List.set_cons_zero, List.set_cons_succ]
            refine take_at 5 (some 29) (.int .i64 t) rfl rfl (by kernel_rfl) (by kernel_rfl) (by kernel_rfl) (fun _ _ _ h => h) (Or.inl ⟨by rfl, fun w' hSw => ?_⟩) (Ext.drw (Ext.refl _)) ?_
            · have z1 := keepAt hSw lg1 HC1.out
              try clear hSw
              go_simp
              all_goals (with_reducible rfl)
            try simp only [Act.put, List.setIfInBounds_toArray, List.set_cons_zero, List.set_cons_succ]
            refine wpAnyH_ready (rs := [6, 7]) (by kernel_rfl) (by simp) ?_
            refine AllReadyH.cons rfl (fun K hK => ?_) (AllReadyH.cons rfl (fun K hK => ?_) AllReadyH.nil)
            · go_simp
              refine (parted_own m a s t _ _ (HA.out.ext (HB.out.trans (HX.out.trans (HEX.out.trans (Ext.drw (Ext.refl _)))))) HO.out hn (by omega) hlt (by omega) (by omega)).mono ?_
              rintro e v6 ⟨x, gl, BV, SV, rfl, hgl, hbi, hfull, hal, hsl, hx6, hob⟩
              have e6 : Ext wo v6 := (Ext.drw (Ext.refl _)).trans hx6
              rw [← HDN.out] at hbi ⊢
              have HH := Lib.hid (And.intro hbi (And.intro hfull (And.intro hal hsl)))
              obtain ⟨AB9, cB9, rfl, -, -, -⟩ := hal
              obtain ⟨gs9, cs9, rfl, -, -, -⟩ := hsl
              clear hbi hfull
              try go_wp2_with fail
              refine hK.out _ _ e6 (fun _ => ?_)
              clear hK K
              try simp only [Act.put, List.setIfInBounds_toArray, List.set_cons_zero, List.set_cons_succ]
              refine wpAnyH_ready (rs := [7]) (by kernel_rfl) (by simp) ?_
              refine AllReadyH.cons rfl (fun K hK => ?_) AllReadyH.nil
              go_simp
              have e7 : Ext wo (v6.alloc (.cells #[.int .i64 0, .int .i64 0, .slice none 0 0, .slice none 0 0, .slice none 0 0] 87)) := Ext.alc e6 _
              refine hK.out _ _ e7 (fun _ => ?_)
              clear hK K
              try simp only [Act.put, List.setIfInBounds_toArray, List.set_cons_zero, List.set_cons_succ]
              refine wpAnyH_done (by kernel_rfl) ?_ _
              refine cut_normal ?_
              have hz9 := heap_alloc_new v6 (.cells #[.int .i64 0, .int .i64 0, .slice none 0 0, .slice none 0 0, .slice none 0 0] 87)
              have EA : Ext v6 (v6.alloc (.cells #[.int .i64 0, .int .i64 0, .slice none 0 0, .slice none 0 0, .slice none 0 0] 87)) := Ext.alc (Ext.refl _) _
              have hzz : wo.heap.size ≤ v6.heap.size := e6.size
              obtain ⟨z9, hz9e⟩ : ∃ z, z = v6.heap.size := ⟨_, rfl⟩
              have hz6 : v6.heap.size ≤ z9 := by omega
              rw [← hz9e] at hz9 hzz ⊢
              have HZ9 := Lib.hid hz9
              have HE7 := Lib.hid e7; have HEA := Lib.hid EA
              have hglo : wo.heap.size ≤ gl := hgl
              have hobo : ∀ b, (Value.slice AB9 (dbl a).n cB9).ownBlock = some b → wo.heap.size ≤ b := hob
              have HOB := Lib.hid (And.intro hglo hobo)
              clear hz9e e6 e7 EA hx6 hgl hz9 hob hglo hobo
              generalize v6.alloc (.cells #[.int .i64 0, .int .i64 0, .slice none 0 0, .slice none 0 0, .slice none 0 0] 87) = w9 at *
              obtain ⟨p0, p1, p2, p3, p4, p5, -⟩ := five HZ9.out
              go_wp2_with fail
              refine NoPanic.normal ?_
              try go_wp2_with fail
              go_meet
              have EF := ((((HEA.out.sc hz6 (i := 0) (v := .int .i64 s)).sc hz6 (i := 1) (v := .int .i64 t)).sc hz6 (i := 2) (v := .slice AB9 (dbl a).n cB9)).sc hz6 (i := 3) (v := .slice (some ⟨gs9, 0, none⟩) m cs9)).sc hz6 (i := 4) (v := .slice (some ⟨gl, 0, none⟩) (2 * dn) (2 * dn))
              refine ⟨z9, x, gl, _, _, rfl, hzz, set5 HZ9.out _ _ _ _ _, HH.out.1.ext EF, HH.out.2.1, HH.out.2.2.1.ext EF, ⟨_, by show wo.heap.size ≤ wo.heap.size + 1 + 1; omega, HH.out.2.2.2.ext EF⟩, ((((HE7.out.sc hzz).sc hzz).sc hzz).sc hzz).sc hzz, HOB.out.1, HOB.out.2⟩
            · go_simp
              have e7 : Ext wo (wo.drew.alloc (.cells #[.int .i64 0, .int .i64 0, .slice none 0 0, .slice none 0 0, .slice none 0 0] 87)) := Ext.alc (Ext.drw (Ext.refl _)) _
              refine hK.out _ _ e7 (fun _ => ?_)
              clear hK K
              try simp only [Act.put, List.setIfInBounds_toArray, List.set_cons_zero, List.set_cons_succ]
              clear e7
              have e7 : Ext wo (wo.alloc (.cells #[.int .i64 0, .int .i64 0, .slice none 0 0, .slice none 0 0, .slice none 0 0] 87)).drew := Ext.drw (Ext.alc (Ext.refl _) _)
              have hz8 : (wo.alloc (.cells #[.int .i64 0, .int .i64 0, .slice none 0 0, .slice none 0 0, .slice none 0 0] 87)).drew.heap[wo.heap.size]? = _ := heap_alloc_new wo (.cells #[.int .i64 0, .int .i64 0, .slice none 0 0, .slice none 0 0, .slice none 0 0] 87)
              have hzA : wo.heap.size < (wo.alloc (.cells #[.int .i64 0, .int .i64 0, .slice none 0 0, .slice none 0 0, .slice none 0 0] 87)).drew.heap.size := by simp
              generalize (wo.alloc (.cells #[.int .i64 0, .int .i64 0, .slice none 0 0, .slice none 0 0, .slice none 0 0] 87)).drew = wA at *
              refine wpAnyH_ready (rs := [6]) (by kernel_rfl) (by simp) ?_
              refine AllReadyH.cons rfl (fun K hK => ?_) AllReadyH.nil
              go_simp
              refine (parted_own m a s t _ _ (HA.out.ext (HB.out.trans (HX.out.trans (HEX.out.trans (e7))))) HO.out hn (by omega) hlt (by omega) (by omega)).mono ?_
              rintro e v6 ⟨x, gl, BV, SV, rfl, hgl, hbi, hfull, hal, hsl, hx6, hob⟩
              have e6 : Ext wo v6 := (e7).trans hx6
              rw [← HDN.out] at hbi ⊢
              have HH := Lib.hid (And.intro hbi (And.intro hfull (And.intro hal hsl)))
              obtain ⟨AB9, cB9, rfl, -, -, -⟩ := hal
              obtain ⟨gs9, cs9, rfl, -, -, -⟩ := hsl
              clear hbi hfull
              try go_wp2_with fail
              refine hK.out _ _ e6 (fun _ => ?_)
              clear hK K
              try simp only [Act.put, List.setIfInBounds_toArray, List.set_cons_zero, List.set_cons_succ]
              refine wpAnyH_done (by kernel_rfl) ?_ _
              refine cut_normal ?_
              have hz9 := (Below.block hx6 wo.heap.size hzA).trans hz8
              obtain ⟨h1, h2, h3, h4⟩ := HH.out
              have HW := Lib.hid (And.intro h1 (And.intro h3 h4))
              have H2 := Lib.hid h2
              have HZ9 := Lib.hid hz9
              have HE6 := Lib.hid e6
              have hgz : gl ≠ wo.heap.size := by omega
              obtain ⟨z9, hz9e⟩ : ∃ z, z = wo.heap.size := ⟨_, rfl⟩
              have hzz : wo.heap.size ≤ z9 := by omega
              have hzA2 : z9 < wA.heap.size := by omega
              rw [← hz9e] at HZ9 hgz ⊢
              have hglo : wo.heap.size ≤ gl := by omega
              have hobo : ∀ b, (Value.slice AB9 (dbl a).n cB9).ownBlock = some b → wo.heap.size ≤ b := fun b hb => by have := hob b hb; omega
              have HOB := Lib.hid (And.intro hglo hobo)
              clear h1 h2 h3 h4 HH hz8 hz9 hz9e e6 e7 hx6 hgl hob hglo hobo
              obtain ⟨p0, p1, p2, p3, p4, p5, -⟩ := five HZ9.out
              go_wp2_with fail
              refine NoPanic.normal ?_
              try go_wp2_with fail
              go_meet
              refine ⟨z9, x, gl, _, _, rfl, hzz, set5 HZ9.out _ _ _ _ _, (set5_far v6 _ _ _ _ _ hgz).trans HW.out.1, H2.out, HW.out.2.1.far5 HZ9.out (by rw [set5_size]; exact Nat.le_refl _) (fun b hb => set5_far v6 _ _ _ _ _ hb), ⟨_, by omega, HW.out.2.2.keep (by rw [set5_size]; exact Nat.le_refl _) fun b hb => set5_far v6 _ _ _ _ _ (by omega)⟩, ((((HE6.out.sc hzz).sc hzz).sc hzz).sc hzz).sc hzz, HOB.out.1, HOB.out.2⟩
          case rest =>
            obtain ⟨z, x, gl, BV, SV, rfl, hz, hh, hbi, hfull, hal, ⟨bs, hbs, hsl⟩, hx, hgl, hob⟩ := hcut
            obtain ⟨q0, q1, q2, q3, q4, -, q5⟩ := five hh
            have HQ := Lib.hid (And.intro q0 (And.intro q1 (And.intro q2 (And.intro q3 q4))))
            have HN := Lib.hid (And.intro hbi (And.intro hfull (And.intro hal hsl)))
            replace HB1 := Lib.hid (HB1.out.ext hx)
            replace HB2 := Lib.hid (HB2.out.ext hx)
            replace HEX := Lib.hid (HEX.out.trans hx)
            have hIn : (dbl a).nw.In m := HOD.out.in_
            have htm : t < m := by omega
            have hst : s ≠ t := by omega
            have hmc := (hfull.mc hIn hlt htm)
            have hval : (dbl a).nw.sp (Nw.fw x) s = f s t := hmc.one (HF.out.mc hst)
            obtain ⟨v, hv⟩ : ∃ v, v = f s t := ⟨_, rfl⟩
            rw [← hv] at hval
            have HVV := Lib.hid (And.intro hval hv)
            clear hh hbi hfull hal hsl hx hmc hval hv
            go_wp2_with fail
            refine (value_any (dbl a) m s t (2 * dn) 1000000 BV SV gl x _ HN.out.2.2.1 HOD.out (by omega) (by rw [← HDN.out]; omega) (by rw [← HDN.out]) HN.out.1 HN.out.2.1.fp.rs).mono ?_
            clear q0 q1 q2 q3 q4
            rintro e w4 ⟨rfl, hx⟩
            rw [HVV.out.1]
            replace HB1 := Lib.hid (HB1.out.ext hx)
            replace HB2 := Lib.hid (HB2.out.ext hx)
            replace HEX := Lib.hid (HEX.out.trans hx)
            have HN4 := Lib.hid (And.intro (HN.out.1.ext hx) (And.intro HN.out.2.1 (And.intro (HN.out.2.2.1.ext hx) (HN.out.2.2.2.ext hx))))
            have Q0 := keepAt hx q5 HQ.out.1
            have Q1 := keepAt hx q5 HQ.out.2.1
            have Q2 := keepAt hx q5 HQ.out.2.2.1
            have Q3 := keepAt hx q5 HQ.out.2.2.2.1
            have Q4 := keepAt hx q5 HQ.out.2.2.2.2
            have zl4 : z < w4.heap.size := Nat.lt_of_lt_of_le q5 hx.size
            have c2 := Bk.cell HB2.out hlt
            have f2 := Bk.free HB2.out s
            have lg2 : g2 < z := by have h1 := Bk.lt HB2.out; have h2 : g2 < wo.heap.size := HG2L.out; omega
            have HQ4 := Lib.hid (And.intro Q0 (And.intro Q1 (And.intro Q2 (And.intro Q3 Q4))))
            clear hx HN Q0 Q1 Q2 Q3 Q4
            go_upto_region 9 with fail
            clear c2 f2
            have K1 : BI (w4.setCell ⟨g2, s, none⟩ (.int .i64 v)) g1 m (fun i => ((p i : Nat) : Int)) := Bk.far HB1.out (by exact hne) _
            have K2 := BI.set_ HB2.out s v
            have hk5 : ∀ b, b ≠ g2 → (w4.setCell ⟨g2, s, none⟩ (.int .i64 v)).heap[b]? = w4.heap[b]? := fun b hb => Below.heap_setCell w4 ⟨g2, s, none⟩ _ b hb
            have hs5 : (w4.setCell ⟨g2, s, none⟩ (.int .i64 v)).heap.size = w4.heap.size := by simp [World.setCell]
            have lgo : g2 < wo.heap.size := HG2L.out
            have hzg : z ≠ g2 := by omega
            have hglg : gl ≠ g2 := by omega
            have E5 : Ext w1 (w4.setCell ⟨g2, s, none⟩ (.int .i64 v)) := HEX.out.sc hg2
            have N1 : BI (w4.setCell ⟨g2, s, none⟩ (.int .i64 v)) gl (2 * dn) x := Bk.far HN4.out.1 (by exact hglg) _
            have N3 : Al (w4.setCell ⟨g2, s, none⟩ (.int .i64 v)) BV (dbl a) := HN4.out.2.2.1.keep hob (by rw [hs5]; exact Nat.le_refl _) fun b hb => hk5 b (by omega)
            have N4 : Sl (w4.setCell ⟨g2, s, none⟩ (.int .i64 v)) bs SV m (stf (dbl a).nw (dbl a).n) := HN4.out.2.2.2.keep (by rw [hs5]; exact Nat.le_refl _) fun b hb => hk5 b (by omega)
            have q0 := (World.cell?_of_block (hk5 z hzg)).trans HQ4.out.1
            have q1 := (World.cell?_of_block (hk5 z hzg)).trans HQ4.out.2.1
            have q2 := (World.cell?_of_block (hk5 z hzg)).trans HQ4.out.2.2.1
            have q3 := (World.cell?_of_block (hk5 z hzg)).trans HQ4.out.2.2.2.1
            have q4 := (World.cell?_of_block (hk5 z hzg)).trans HQ4.out.2.2.2.2
            have hst4 := HN4.out.2.1
            have HK1 := Lib.hid K1; have HK2 := Lib.hid K2; have HE5 := Lib.hid E5; have HN5 := Lib.hid (And.intro N1 (And.intro hst4 (And.intro N3 N4)))
            clear K1 K2 hk5 hs5 E5 N1 N3 N4 HB1 HB2 HEX HN4 hst4
            generalize w4.setCell ⟨g2, s, none⟩ (.int .i64 v) = w5 at *
            go_wp2_with fail
            refine (least_any (dbl a) m s t (2 * dn) bs 1000000 BV SV gl x _ HN5.out.2.2.1 HOD.out (by rw [← HDN.out]) (by rw [← HDN.out]; omega) (by omega) HN5.out.2.2.2 hlt HN5.out.1).mono ?_
            clear q0 q1 q2 q3 q4
            rintro e w6 ⟨R, la, rk, gs, rfl, hgs, hbR, hwk, hx⟩
            have hlst := HN5.out.2.1.lst hIn hlt htm hwk
            have hXc : across a R = f s t := by rw [← ct_dbl]; exact hlst.1.mc.one (HF.out.mc hst)
            have HR := Lib.hid (And.intro hlst.1.sd.1 (And.intro hlst.1.sd.2 hXc))
            have HBR := Lib.hid hbR
            have hgs1 : gs ≠ g1 := by have := Bk.lt HK1.out; omega
            replace HK1 := Lib.hid (HK1.out.ext hx)
            replace HK2 := Lib.hid (HK2.out.ext hx)
            replace HE5 := Lib.hid (HE5.out.trans hx)
            clear hlst hXc hbR hwk hx
            go_wp2_with fail
            go_loopw [8] (fun j wx => ∃ l : Nat, j = .int .i64 l ∧ s + 1 ≤ l ∧ l ≤ m ∧ Hid (BI wx g1 m (fun i => ((pst p R s t l i : Nat) : Int)) ∧ BI wx g2 m (up w s v) ∧ BB wx gs m R ∧ Ext w1 wx)) (fun j _ => m - (intOf j).toNat)
            case atStart => exact ⟨s + 1, by simp, Nat.le_refl _, by omega, Lib.hid ⟨Bk.congr HK1.out (fun j _ => by dsimp only; rw [show pst p R s t (s + 1) j = p j from by unfold pst; rw [if_neg (by omega)]]), HK2.out, HBR.out, HE5.out⟩⟩
            case round =>
              obtain ⟨l, rfl, hl1, hl2, hin⟩ := hrel
              have m0 := keepAt hin.out.2.2.2 mz1 HM1.out.1
              by_cases hlm : l < m
              · have cR := Bk.cell hin.out.2.2.1 hlm
                have cl1 := Bk.cell hin.out.1 hlm
                have cs1 := Bk.cell hin.out.1 hlt
                have hpl : pst p R s t l l = p l := by unfold pst; rw [if_neg (by omega)]
                have hps : pst p R s t l s = t := by unfold pst; rw [if_neg (by omega)]; exact HT.out.symm
                dsimp only at cl1 cs1
                rw [hpl] at cl1; rw [hps] at cs1
                obtain ⟨pl, hpl2⟩ : ∃ q, q = p l := ⟨_, rfl⟩
                rw [← hpl2] at cl1
                obtain ⟨rl, hrl⟩ : ∃ q, q = R l := ⟨_, rfl⟩
                rw [← hrl] at cR
                have HPL := Lib.hid (And.intro hpl2 hrl)
                have hlm2 : (l : Int) < m := by omega
                clear hpl hps hpl2 hrl
                have HSTAY : Hid (¬ (rl = true ∧ pl = t) → ∀ i, pst p R s t (l + 1) i = pst p R s t l i) := Lib.hid fun hno i => by
                  unfold pst
                  by_cases e : i = l
                  · subst e
                    have h1 : ¬ (s < i ∧ i < i + 1 ∧ R i = true ∧ p i = t) := fun h => hno ⟨by rw [HPL.out.2]; exact h.2.2.1, by rw [HPL.out.1]; exact h.2.2.2⟩
                    rw [if_neg h1, if_neg (by omega)]
                  · have h1 : (s < i ∧ i < l + 1 ∧ R i = true ∧ p i = t) ↔ (s < i ∧ i < l ∧ R i = true ∧ p i = t) := ⟨fun h => ⟨by omega, by omega, h.2.2.1, h.2.2.2⟩, fun h => ⟨by omega, by omega, h.2.2.1, h.2.2.2⟩⟩
                    simp only [h1]
                have HDR : Hid (BI wr.drew g1 m (fun i => ((pst p R s t l i : Nat) : Int)) ∧ BI wr.drew g2 m (up w s v) ∧ BB wr.drew gs m R ∧ Ext w1 wr.drew) := Lib.hid ⟨Bk.drew hin.out.1, Bk.drew hin.out.2.1, Bk.drew hin.out.2.2.1, hin.out.2.2.2.drw⟩
                go_upto_region 13 with fail
                have dR : wr.drew.cell? ⟨gs, l, none⟩ = some (.bool rl) := cR
                have dl : wr.drew.cell? ⟨g1, l, none⟩ = some (.int .i64 pl) := cl1
                have ds : wr.drew.cell? ⟨g1, s, none⟩ = some (.int .i64 t) := cs1
                have fl : wr.drew.frozen? ⟨g1, l, none⟩ = false := Bk.free HDR.out.1 l
                clear cR cl1 cs1 m0 hin
                cases rl
                · clear dl ds fl
                  go_region
                  clear dR
                  go_wp2
                  go_roundw
                  case rel => exact ⟨l + 1, by go_num, by omega, by omega, Lib.hid ⟨Bk.congr HDR.out.1 (fun i _ => by dsimp only; rw [HSTAY.out (fun h => by cases h.1)]), HDR.out.2⟩⟩
                  case measure => simp [intOf]; omega
                · by_cases hpt : pl = t
                  · subst hpt
                    have hbe : ((pl : Int) == (pl : Int)) = true := by simp
                    go_region
                    clear dR ds hbe
                    go_wp2
                    go_roundw
                    case rel =>
                      refine ⟨l + 1, by go_num, by omega, by omega, Lib.hid ⟨?_, Bk.far HDR.out.2.1 (by exact fun e => hne e.symm) _, Bk.far HDR.out.2.2.1 (by exact hgs1) _, HDR.out.2.2.2.sc hg1⟩⟩
                      refine Bk.congr (BI.set_ HDR.out.1 l s) fun i _ => ?_
                      by_cases e : i = l
                      · subst e
                        rw [up_self]
                        dsimp only
                        congr 2
                        unfold pst
                        rw [if_pos ⟨by omega, by omega, HPL.out.2.symm, HPL.out.1.symm⟩]
                      · rw [up_ne _ _ e]
                        dsimp only
                        congr 2
                        unfold pst
                        have h1 : (s < i ∧ i < l + 1 ∧ R i = true ∧ p i = pl) ↔ (s < i ∧ i < l ∧ R i = true ∧ p i = pl) := ⟨fun h => ⟨by omega, by omega, h.2.2.1, h.2.2.2⟩, fun h => ⟨by omega, by omega, h.2.2.1, h.2.2.2⟩⟩
                        simp only [h1]
                    case measure => simp [intOf]; omega
                  · have hbe : ((pl : Int) == (t : Int)) = false := by simp; omega
                    clear fl
                    go_region
                    clear dR dl ds hbe
                    go_wp2
                    go_roundw
                    case rel => exact ⟨l + 1, by go_num, by omega, by omega, Lib.hid ⟨Bk.congr HDR.out.1 (fun i _ => by dsimp only; rw [HSTAY.out (fun h => hpt h.2)]), HDR.out.2⟩⟩
                    case measure => simp [intOf]; omega
              · obtain rfl : l = m := by omega
                have hlm2 : ¬ (l : Int) < l := by omega
                have hgu := HGU.out.1.step HC0.out HF.out hs1 hlt (X := R) HR.out.1 (by rw [← HT.out]; exact HR.out.2.1) (by rw [← HT.out]; exact HR.out.2.2) (p' := pst p R s t l) (w' := up w s v)
                  (fun i hi => by unfold pst; rw [← HT.out]; have h1 : (s < i ∧ i < l ∧ R i = true ∧ p i = t) ↔ (s < i ∧ R i = true ∧ p i = t) := ⟨fun h => ⟨h.1, h.2.2.1, h.2.2.2⟩, fun h => ⟨h.1, by omega, h.2.1, h.2.2⟩⟩
                                  simp only [h1]) (fun i _ => by
                    by_cases e : i = s
                    · subst e; rw [up_self, if_pos rfl, ← HT.out]; exact HVV.out.2
                    · rw [up_ne _ _ e, if_neg e])
                have hp00 : pst p R s t l 0 = 0 := by unfold pst; rw [if_neg (by omega)]; exact HGU.out.2.1
                have hw00 : up w s v 0 = 0 := by rw [up_ne _ _ (by omega)]; exact HGU.out.2.2
                have HNEW := Lib.hid (And.intro hgu (And.intro hp00 hw00))
                clear hgu hp00 hw00
                go_wp2
                go_roundw
                case rel => exact ⟨s + 1, by go_num, by omega, by omega, Lib.hid ⟨pst p R s t l, up w s v, HNEW.out.1, HNEW.out.2.1, HNEW.out.2.2, hin.out.1, hin.out.2.1, hin.out.2.2.2⟩⟩
                case measure => simp [intOf]; omega
        · obtain rfl : s = m := by omega
          have hb : ∀ x y, x ≠ y → f x y ≤ 1152921504606846976 := fun x y hxy => by
            obtain ⟨S, -, hS⟩ := HF.out.is x y hxy
            have := (across_bd HO.out hn S).2
            omega
          have HTR := Lib.hid (HGU.out.1.tr HF.out HGU.out.2.1 hb)
          have hs0 : 0 < s := by omega
          have c0 := Bk.cell HB1.out hs0
          have f0 := Bk.free HB1.out 0
          have HP : Hid (BI (wo.setCell ⟨g1, 0, none⟩ (.int .i64 (-1))) g1 s (parI p)) := Lib.hid (Bk.congr (BI.set_ HB1.out 0 (-1)) fun j _ => rfl)
          have HW : Hid (BI (wo.setCell ⟨g1, 0, none⟩ (.int .i64 (-1))) g2 s w) := Lib.hid (Bk.far HB2.out (by exact fun e => hne e.symm) _)
          have HE : Hid (Ext w1 (wo.setCell ⟨g1, 0, none⟩ (.int .i64 (-1)))) := Lib.hid (HEX.out.sc hg1)
          clear hb
          go_wp2
          refine bodyPost_ret (v := .tuple #[.slice (some ⟨g1, 0, none⟩) s s, .slice (some ⟨g2, 0, none⟩) s s, .int .i64 0]) (by simp [results, Try.results35, go_sem]) rfl ⟨_, _, 0, rfl, HB.out.trans (HX.out.trans HE.out), .inr ⟨HV.out, rfl, f, p, w, HF.out, ?_, HGU.out.2.2, ?_, ?_⟩⟩
          · exact HTR.out
          · exact HP.out.il (by omega)
          · exact HW.out.il (by omega)
end Go.Proofs.Ytilcbbdmenknfaa
