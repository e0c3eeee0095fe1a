/- Walks: the reference's Face and Euler. · Walks: Delete and Contract, of the program and of the reference. · Walks: the reference's Valid. -/
import Derived.Test.YtijhbmdbnnmogaaM8
import Derived.Test.YtijhbmdbnnmogaaM6
import Derived.Test.YtijhbmdbnnmogaaM7
import Derived.Test.YtijhbmdbnnmogaaM1
namespace Go.Proofs.Ytijhbmdbnnmogaa.G
open Go.RowKit

theorem Mp.dual {n : Nat} {f : Nat → Int} (h : Mp n f) : Mp n (fun d => f (rev d)) :=
  ⟨h.even, h.le, fun k hk => h.zero _ (rev_lt h.even hk), fun k hk => h.lt _ (rev_lt h.even hk), fun j k hj hk e => by
    have := h.inj _ _ (rev_lt h.even hj) (rev_lt h.even hk) e
    rw [← rev_rev j, this, rev_rev]⟩

set_option maxHeartbeats 4000000 in
set_option maxRecDepth 100000 in
theorem faceR_any (n : Nat) (f : Nat → Int) (NV : Value) (W : World) (hN : Il W NV n f) (hM : Mp n f) (m : Nat → Nat) (hm : Nm n 1 (fun _ => fl f) m) :
    Calls Try.prog 18 #[.agg #[NV]] W fun e W' => ∃ g, e = .returned (.slice (some ⟨g, 0, none⟩) n n) ∧ BI W' g n (fun d => ((m d : Nat) : Int)) ∧ Ext W W' := by
  have HN := Lib.hid hN; have HMM := Lib.hid (And.intro hM hm)
  have hn80 : n ≤ 80 := hM.le
  obtain ⟨A, c, rfl, hac, hcm, -⟩ := hN
  clear hM hm
  go_enter Try.func18, Try.ntmps18
  go_upto_region 1 with fail
  have bb := al1 W (.cells #[.slice A n c] 24)
  obtain ⟨m0, -, mz⟩ := uno (heap_alloc_new W (.cells #[.slice A n c] 24))
  generalize W.alloc (.cells #[.slice A n c] 24) = W1 at *
  have HB : Hid (Ext W W1) := Lib.hid bb
  clear bb
  go_wp2_with fail
  refine (dualR_any n f _ _ (HN.out.ext HB.out) hn80 HMM.out.1.even).mono ?_
  rintro e w2 ⟨V, rfl, hv, hx⟩
  have HX := Lib.hid (And.intro hv (HB.out.trans hx))
  obtain ⟨A2, c2, rfl, -⟩ := hv
  clear hx m0
  go_wp2_with fail
  refine (vertexR_any n (fun d => f (rev d)) _ _ HX.out.1 HMM.out.1.dual m HMM.out.2).mono ?_
  rintro e w3 ⟨g, rfl, hb, hx⟩
  have HF := Lib.hid (And.intro hb (HX.out.2.trans hx))
  clear hb hx
  go_wp2
  go_ret
  exact ⟨g, rfl, HF.out.1, HF.out.2⟩

set_option maxHeartbeats 4000000 in
set_option maxRecDepth 100000 in
theorem eulerR_any (n : Nat) (f : Nat → Int) (NV : Value) (W : World) (hN : Il W NV n f) (hM : Mp n f) (mv mf mp : Nat → Nat) (hv : Nm n 1 (fun _ => tn f) mv) (hf : Nm n 1 (fun _ => fl f) mf) (hp : Nm n 2 (pt f) mp) :
    Calls Try.prog 15 #[.agg #[NV]] W fun e W' => e = .returned (.tuple #[.int .i64 (rank mv n : Nat), .int .i64 ((n / 2 : Nat) : Int), .int .i64 (rank mf n : Nat), .int .i64 (rank mp n : Nat)]) ∧ Ext W W' := by
  obtain ⟨hh, hhf⟩ : ∃ h, h = ((n / 2 : Nat) : Int) := ⟨_, rfl⟩
  rw [← hhf]
  have HN := Lib.hid hN; have HMM := Lib.hid (And.intro hM (And.intro hv (And.intro hf hp)))
  have hn80 : n ≤ 80 := hM.le
  have hquo : ((n : Int)).tdiv 2 = hh := by rw [hhf, Int.tdiv_eq_ediv_of_nonneg (by omega)]; omega
  have hwr : IntKind.i64.wrap hh = hh := IntWalk.i64_in _ (by omega)
  obtain ⟨A, c, rfl, hac, hcm, -⟩ := hN
  clear hM hv hp hhf hf
  go_enter Try.func15, Try.ntmps15
  go_upto_region 1 with fail
  have bb := al1 W (.cells #[.slice A n c] 24)
  obtain ⟨m0, -, mz⟩ := uno (heap_alloc_new W (.cells #[.slice A n c] 24))
  generalize W.alloc (.cells #[.slice A n c] 24) = W1 at *
  have HB : Hid (Ext W W1) := Lib.hid bb
  have HM := Lib.hid m0
  clear bb m0
  refine wp_region_noPanic ?_
  refine wp_region_held_drew (S := fun X => Ext W1 X) (by kernel_rfl) (Ext.drw (Ext.refl _)) (fun _ => ?_)
  refine take_at 0 (some 6) (.agg #[.slice A n c]) rfl rfl (by kernel_rfl) (by kernel_rfl) (by kernel_rfl) (fun _ _ _ h => h) (Or.inl ⟨by rfl, fun w' hSw => ?_⟩) (Ext.drw (Ext.refl _)) ?_
  · have z0 := keepAt hSw mz HM.out
    try clear hSw
    go_simp
    all_goals (with_reducible rfl)
  try simp only [Act.put, List.setIfInBounds_toArray, List.set_cons_zero, List.set_cons_succ]
  refine take_at 7 (some 13) (.agg #[.slice A n c]) rfl rfl (by kernel_rfl) (by kernel_rfl) (by kernel_rfl) (fun _ _ _ h => h) (Or.inl ⟨by rfl, fun w' hSw => ?_⟩) (Ext.drw (Ext.refl _)) ?_
  · have z0 := keepAt hSw mz HM.out
    try clear hSw
    go_simp
    all_goals (with_reducible rfl)
  try simp only [Act.put, List.setIfInBounds_toArray, List.set_cons_zero, List.set_cons_succ]
  refine take_at 10 (some 16) (.agg #[.slice A n c]) rfl rfl (by kernel_rfl) (by kernel_rfl) (by kernel_rfl) (fun _ _ _ h => h) (Or.inl ⟨by rfl, fun w' hSw => ?_⟩) (Ext.drw (Ext.refl _)) ?_
  · have z0 := keepAt hSw mz HM.out
    try clear hSw
    go_simp
    all_goals (with_reducible rfl)
  try simp only [Act.put, List.setIfInBounds_toArray, List.set_cons_zero, List.set_cons_succ]
  refine take_at 3 (some 9) (.pointer (some ⟨W.heap.size, 0, none⟩)) rfl rfl (by kernel_rfl) (by kernel_rfl) (by kernel_rfl) (fun _ _ _ h => h) (Or.inl ⟨by rfl, fun w' hSw => ?_⟩) (Ext.drw (Ext.refl _)) ?_
  · skip
    try clear hSw
    go_simp
    all_goals (with_reducible rfl)
  try simp only [Act.put, List.setIfInBounds_toArray, List.set_cons_zero, List.set_cons_succ]
  refine take_at 4 (some 10) (.slice A n c) rfl rfl (by kernel_rfl) (by kernel_rfl) (by kernel_rfl) (fun _ _ _ h => h) (Or.inl ⟨by rfl, fun w' hSw => ?_⟩) (Ext.drw (Ext.refl _)) ?_
  · have z0 := keepAt hSw mz HM.out
    try clear hSw
    go_simp
    all_goals (with_reducible rfl)
  try simp only [Act.put, List.setIfInBounds_toArray, List.set_cons_zero, List.set_cons_succ]
  refine take_at 5 (some 11) (.int .i64 n) rfl rfl (by kernel_rfl) (by kernel_rfl) (by kernel_rfl) (fun _ _ _ h => h) (Or.inl ⟨by rfl, fun w' hSw => ?_⟩) (Ext.drw (Ext.refl _)) ?_
  · skip
    try clear hSw
    go_simp
    all_goals (with_reducible rfl)
  try simp only [Act.put, List.setIfInBounds_toArray, List.set_cons_zero, List.set_cons_succ]
  refine take_at 6 (some 12) (.int .i64 hh) rfl rfl (by kernel_rfl) (by kernel_rfl) (by kernel_rfl) (fun _ _ _ h => h) (Or.inl ⟨by rfl, fun w' hSw => ?_⟩) (Ext.drw (Ext.refl _)) ?_
  · have hq := hquo
    have hw := hwr
    try clear hSw
    go_simp
    all_goals (first | (with_reducible rfl) | (rw [hquo]; exact hwr) | (simp [hquo, hwr]; done))
  try simp only [Act.put, List.setIfInBounds_toArray, List.set_cons_zero, List.set_cons_succ]
  refine wpAnyH_ready (rs := [1]) (by kernel_rfl) (by simp) ?_
  refine AllReadyH.cons rfl (fun K hK => ?_) AllReadyH.nil
  go_simp
  refine (vertexR_any n f _ _ (HN.out.ext (HB.out.trans (Ext.drw (Ext.refl _)))) HMM.out.1 mv HMM.out.2.1).mono ?_
  rintro e v1 ⟨g1, rfl, hb_1, hb1⟩
  have e1 : Ext W1 v1 := (Ext.drw (Ext.refl _)).trans hb1
  try go_wp2_with fail
  refine hK.out _ _ e1 (fun _ => ?_)
  clear hK K
  try simp only [Act.put, List.setIfInBounds_toArray, List.set_cons_zero, List.set_cons_succ]
  have HI1 := Lib.hid (hb_1.il (show n ≤ 9223372036854775807 by omega))
  clear hb_1
  refine wpAnyH_ready (rs := [2]) (by kernel_rfl) (by simp) ?_
  refine AllReadyH.cons rfl (fun K hK => ?_) AllReadyH.nil
  go_simp
  refine (namesR_any n mv _ _ HI1.out (by omega)).mono ?_
  rintro e v2 ⟨rfl, hb2⟩
  have e2 : Ext W1 v2 := (e1).trans hb2
  try go_wp2_with fail
  refine hK.out _ _ e2 (fun _ => ?_)
  clear hK K
  try simp only [Act.put, List.setIfInBounds_toArray, List.set_cons_zero, List.set_cons_succ]
  refine wpAnyH_ready (rs := [8]) (by kernel_rfl) (by simp) ?_
  refine AllReadyH.cons rfl (fun K hK => ?_) AllReadyH.nil
  go_simp
  refine (faceR_any n f _ _ (HN.out.ext (HB.out.trans e2)) HMM.out.1 mf HMM.out.2.2.1).mono ?_
  rintro e v8 ⟨g8, rfl, hb_8, hb8⟩
  have e8 : Ext W1 v8 := (e2).trans hb8
  try go_wp2_with fail
  refine hK.out _ _ e8 (fun _ => ?_)
  clear hK K
  try simp only [Act.put, List.setIfInBounds_toArray, List.set_cons_zero, List.set_cons_succ]
  have HI8 := Lib.hid (hb_8.il (show n ≤ 9223372036854775807 by omega))
  clear hb_8
  refine wpAnyH_ready (rs := [9]) (by kernel_rfl) (by simp) ?_
  refine AllReadyH.cons rfl (fun K hK => ?_) AllReadyH.nil
  go_simp
  refine (namesR_any n mf _ _ HI8.out (by omega)).mono ?_
  rintro e v9 ⟨rfl, hb9⟩
  have e9 : Ext W1 v9 := (e8).trans hb9
  try go_wp2_with fail
  refine hK.out _ _ e9 (fun _ => ?_)
  clear hK K
  try simp only [Act.put, List.setIfInBounds_toArray, List.set_cons_zero, List.set_cons_succ]
  refine wpAnyH_ready (rs := [11]) (by kernel_rfl) (by simp) ?_
  refine AllReadyH.cons rfl (fun K hK => ?_) AllReadyH.nil
  go_simp
  refine (partR_any n f _ _ (HN.out.ext (HB.out.trans e9)) HMM.out.1 mp HMM.out.2.2.2).mono ?_
  rintro e v11 ⟨g11, rfl, hb_11, hb11⟩
  have e11 : Ext W1 v11 := (e9).trans hb11
  try go_wp2_with fail
  refine hK.out _ _ e11 (fun _ => ?_)
  clear hK K
  try simp only [Act.put, List.setIfInBounds_toArray, List.set_cons_zero, List.set_cons_succ]
  have HI11 := Lib.hid (hb_11.il (show n ≤ 9223372036854775807 by omega))
  clear hb_11
  refine wpAnyH_ready (rs := [12]) (by kernel_rfl) (by simp) ?_
  refine AllReadyH.cons rfl (fun K hK => ?_) AllReadyH.nil
  go_simp
  refine (namesR_any n mp _ _ HI11.out (by omega)).mono ?_
  rintro e v12 ⟨rfl, hb12⟩
  have e12 : Ext W1 v12 := (e11).trans hb12
  try go_wp2_with fail
  refine hK.out _ _ e12 (fun _ => ?_)
  clear hK K
  try simp only [Act.put, List.setIfInBounds_toArray, List.set_cons_zero, List.set_cons_succ]
  refine take_at 13 (some 2) (.int .i64 (rank mv n : Nat)) rfl rfl (by kernel_rfl) (by kernel_rfl) (by kernel_rfl) (fun _ _ _ h => h) (Or.inl ⟨by rfl, fun w' hSw => ?_⟩) (e12) ?_
  · skip
    try clear hSw
    go_simp
    all_goals (with_reducible rfl)
  try simp only [Act.put, List.setIfInBounds_toArray, List.set_cons_zero, List.set_cons_succ]
  refine take_at 14 (some 3) (.int .i64 hh) rfl rfl (by kernel_rfl) (by kernel_rfl) (by kernel_rfl) (fun _ _ _ h => h) (Or.inl ⟨by rfl, fun w' hSw => ?_⟩) (e12) ?_
  · skip
    try clear hSw
    go_simp
    all_goals (with_reducible rfl)
  try simp only [Act.put, List.setIfInBounds_toArray, List.set_cons_zero, List.set_cons_succ]
  refine take_at 15 (some 4) (.int .i64 (rank mf n : Nat)) rfl rfl (by kernel_rfl) (by kernel_rfl) (by kernel_rfl) (fun _ _ _ h => h) (Or.inl ⟨by rfl, fun w' hSw => ?_⟩) (e12) ?_
  · skip
    try clear hSw
    go_simp
    all_goals (with_reducible rfl)
  try simp only [Act.put, List.setIfInBounds_toArray, List.set_cons_zero, List.set_cons_succ]
  refine take_at 16 (some 5) (.int .i64 (rank mp n : Nat)) rfl rfl (by kernel_rfl) (by kernel_rfl) (by kernel_rfl) (fun _ _ _ h => h) (Or.inl ⟨by rfl, fun w' hSw => ?_⟩) (e12) ?_
  · skip
    try clear hSw
    go_simp
    all_goals (with_reducible rfl)
  try simp only [Act.put, List.setIfInBounds_toArray, List.set_cons_zero, List.set_cons_succ]
  refine wpAnyH_done (by kernel_rfl) ?_ _
  refine NoPanic.normal ?_
  have HX := Lib.hid (HB.out.trans e12)
  clear e1 e2 e8 e9 e11 e12 hb1 hb2 hb8 hb9 hb11 hb12
  go_wp2
  exact bodyPost_ret (v := .tuple #[.int .i64 (rank mv n : Nat), .int .i64 hh, .int .i64 (rank mf n : Nat), .int .i64 (rank mp n : Nat)]) (by simp [results, Try.results15, go_sem]) rfl ⟨rfl, HX.out⟩
end Go.Proofs.Ytijhbmdbnnmogaa.G
namespace Go.Proofs.Ytijhbmdbnnmogaa.G
open Go.RowKit

/-- is it a map that has the edge x? -/
def okE (n : Nat) (f : Nat → Int) (x : Int) : Bool := vMap n f && (decide (0 ≤ x) && decide (x ≤ ((n / 2 : Nat) : Int) - 1))
theorem okE_iff {n : Nat} {f : Nat → Int} {x : Int} : okE n f x = true ↔ vMap n f = true ∧ 0 ≤ x ∧ x ≤ ((n / 2 : Nat) : Int) - 1 := by simp [okE]
/-- the map without the edge, and contracted -/
def dF (f : Nat → Int) (x : Int) (j : Nat) : Int := ((dl (tn f) x.toNat j : Nat) : Int)
def cF (f : Nat → Int) (x : Int) (j : Nat) : Int := dF (fun d => f (rev d)) x (rev j)
/-- what Delete and Contract return -/
def RetE (n : Nat) (f g : Nat → Int) (x : Int) (W : World) (e : Ending) (W' : World) : Prop := ∃ V er, e = .returned (.tuple #[.agg #[V], .int .i64 er]) ∧ Ext W W' ∧
  ((okE n f x = false ∧ V = .slice none 0 0 ∧ er = 2) ∨ (okE n f x = true ∧ er = 0 ∧ Il W' V (n - 2) g))
set_option maxHeartbeats 4000000 in
set_option maxRecDepth 100000 in
theorem deleteS_any (n : Nat) (f : Nat → Int) (NV : Value) (x : Int) (W : World) (hN : Il W NV n f) :
    Calls Try.prog 21 #[.agg #[NV], .int .i64 x] W (RetE n f (dF f x) x W) := by
  have HN := Lib.hid hN
  obtain ⟨A, c, rfl, hac, hcm, -⟩ := hN
  go_enter Try.func21, Try.ntmps21
  go_upto_region 1 with fail
  have bb := al2 W (.cells #[.slice A n c] 28) (.cells #[.slice none 0 0] 28)
  have h0 := (Below.heap_alloc (W.alloc (.cells #[.slice A n c] 28)) (.cells #[.slice none 0 0] 28) W.heap.size (by simp)).trans (heap_alloc_new W (.cells #[.slice A n c] 28))
  have h1 := heap_alloc_new (W.alloc (.cells #[.slice A n c] 28)) (.cells #[.slice none 0 0] 28)
  simp only [World.size_alloc] at h1
  generalize (W.alloc (.cells #[.slice A n c] 28)).alloc (.cells #[.slice none 0 0] 28) = w2 at *
  obtain ⟨m0, -, mz⟩ := uno h0
  have HB : Hid (Ext W w2) := Lib.hid bb
  have HM0 := Lib.hid m0
  have H1 := Lib.hid h1
  have hmz1 : W.heap.size + 1 < w2.heap.size := (uno h1).2.2
  clear bb h0 h1
  go_wp2_with fail
  refine (validS_any n f _ _ (HN.out.ext HB.out)).mono ?_
  rintro e w3 ⟨rfl, hx⟩
  have HX : Hid (Ext w2 w3) := Lib.hid hx
  clear m0
  have m0 := keepAt hx mz HM0.out
  clear hx
  cases hv : vMap n f
  · have hbad : okE n f x = false := by unfold okE; rw [hv]; rfl
    clear hv
    obtain ⟨c0, f0, -⟩ := uno ((Below.block HX.out _ hmz1).trans H1.out)
    have g0 : (w3.setCell ⟨W.heap.size + 1, 0, none⟩ (.slice none 0 0)).cell? ⟨W.heap.size + 1, 0, none⟩ = some (.slice none 0 0) := World.cell?_setCell_same _ _ _ c0
    have hx5 : Ext W (w3.setCell ⟨W.heap.size + 1, 0, none⟩ (.slice none 0 0)) := (HB.out.trans HX.out).sc (by omega)
    have HV := Lib.hid (And.intro hbad hx5)
    clear hbad hx5
    go_wp2
    exact bodyPost_ret (v := .tuple #[.agg #[.slice none 0 0], .int .i64 2]) (by simp [results, Try.results21, go_sem, g0]) rfl ⟨_, _, rfl, HV.out.2, .inl ⟨HV.out.1, rfl, rfl⟩⟩
  · have hM := vMap_mp hv
    have hn : n ≤ 80 := hM.le
    have HV0 := Lib.hid (And.intro hv hM)
    clear hv hM
    go_wp2_with fail
    refine (hasEdge_any n f _ x _ (HN.out.ext (HB.out.trans HX.out)) (by omega)).mono ?_
    rintro e w4 ⟨rfl, hx⟩
    have HX4 : Hid (Ext w2 w4) := Lib.hid (HX.out.trans hx)
    clear m0
    have m0 := keepAt HX4.out mz HM0.out
    clear hx
    cases hb : (decide (0 ≤ x) && decide (x ≤ ((n / 2 : Nat) : Int) - 1))
    · have hbad : okE n f x = false := by unfold okE; rw [hb, Bool.and_false]
      clear hb
      obtain ⟨c0, f0, -⟩ := uno ((Below.block HX4.out _ hmz1).trans H1.out)
      have g0 : (w4.setCell ⟨W.heap.size + 1, 0, none⟩ (.slice none 0 0)).cell? ⟨W.heap.size + 1, 0, none⟩ = some (.slice none 0 0) := World.cell?_setCell_same _ _ _ c0
      have hx5 : Ext W (w4.setCell ⟨W.heap.size + 1, 0, none⟩ (.slice none 0 0)) := (HB.out.trans HX4.out).sc (by omega)
      have HV := Lib.hid (And.intro hbad hx5)
      clear hbad hx5
      go_wp2
      exact bodyPost_ret (v := .tuple #[.agg #[.slice none 0 0], .int .i64 2]) (by simp [results, Try.results21, go_sem, g0]) rfl ⟨_, _, rfl, HV.out.2, .inl ⟨HV.out.1, rfl, rfl⟩⟩
    · have hok : okE n f x = true := by unfold okE; rw [hb, HV0.out.1]; rfl
      obtain ⟨-, hx0, hx1⟩ := okE_iff.1 hok
      obtain ⟨e, rfl⟩ : ∃ e : Nat, x = e := ⟨x.toNat, by omega⟩
      have he : 2 * e + 1 < n := by omega
      have HOK := Lib.hid hok
      clear hok hb hx0 hx1
      go_wp2_with fail
      refine (without_any n e f _ _ (HN.out.ext (HB.out.trans HX4.out)) HV0.out.2 he).mono ?_
      rintro r w9 ⟨g9, rfl, hg9, hb9, hx9⟩
      have hb9' : BI w9 g9 (n - 2) (dF f (e : Nat)) := hb9
      have HY := Lib.hid (And.intro hb9' hx9)
      clear hb9 hb9' hx9 m0
      obtain ⟨c0, f0, -⟩ := uno ((Below.block (HX4.out.trans HY.out.2) _ hmz1).trans H1.out)
      have g0 : (w9.setCell ⟨W.heap.size + 1, 0, none⟩ (.slice (some ⟨g9, 0, none⟩) (n - 2) (n - 2))).cell? ⟨W.heap.size + 1, 0, none⟩ = some (.slice (some ⟨g9, 0, none⟩) (n - 2) (n - 2)) := World.cell?_setCell_same _ _ _ c0
      have hx5 : Ext W (w9.setCell ⟨W.heap.size + 1, 0, none⟩ (.slice (some ⟨g9, 0, none⟩) (n - 2) (n - 2))) := (HB.out.trans (HX4.out.trans HY.out.2)).sc (by omega)
      have hsz := HX4.out.size
      have hb5 : BI (w9.setCell ⟨W.heap.size + 1, 0, none⟩ (.slice (some ⟨g9, 0, none⟩) (n - 2) (n - 2))) g9 (n - 2) (dF f (e : Nat)) := Bk.far HY.out.1 (by show g9 ≠ W.heap.size + 1; omega) _
      have HF := Lib.hid (And.intro (BI.il hb5 (by omega)) hx5)
      clear hx5 hb5
      go_wp2
      exact bodyPost_ret (v := .tuple #[.agg #[.slice (some ⟨g9, 0, none⟩) (n - 2) (n - 2)], .int .i64 0]) (by simp [results, Try.results21, go_sem, g0]) rfl ⟨_, _, rfl, HF.out.2, .inr ⟨HOK.out, rfl, HF.out.1⟩⟩

set_option maxHeartbeats 4000000 in
set_option maxRecDepth 100000 in
theorem contractS_any (n : Nat) (f : Nat → Int) (NV : Value) (x : Int) (W : World) (hN : Il W NV n f) :
    Calls Try.prog 22 #[.agg #[NV], .int .i64 x] W (RetE n f (cF f x) x W) := by
  have HN := Lib.hid hN
  obtain ⟨A, c, rfl, hac, hcm, -⟩ := hN
  go_enter Try.func22, Try.ntmps22
  go_upto_region 1 with fail
  have bb := al2 W (.cells #[.slice A n c] 28) (.cells #[.slice none 0 0] 28)
  have h0 := (Below.heap_alloc (W.alloc (.cells #[.slice A n c] 28)) (.cells #[.slice none 0 0] 28) W.heap.size (by simp)).trans (heap_alloc_new W (.cells #[.slice A n c] 28))
  have h1 := heap_alloc_new (W.alloc (.cells #[.slice A n c] 28)) (.cells #[.slice none 0 0] 28)
  simp only [World.size_alloc] at h1
  generalize (W.alloc (.cells #[.slice A n c] 28)).alloc (.cells #[.slice none 0 0] 28) = w2 at *
  obtain ⟨m0, -, mz⟩ := uno h0
  have HB : Hid (Ext W w2) := Lib.hid bb
  have HM0 := Lib.hid m0
  have H1 := Lib.hid h1
  have hmz1 : W.heap.size + 1 < w2.heap.size := (uno h1).2.2
  clear bb h0 h1
  go_wp2_with fail
  refine (validS_any n f _ _ (HN.out.ext HB.out)).mono ?_
  rintro e w3 ⟨rfl, hx⟩
  have HX : Hid (Ext w2 w3) := Lib.hid hx
  clear m0
  have m0 := keepAt hx mz HM0.out
  clear hx
  cases hv : vMap n f
  · have hbad : okE n f x = false := by unfold okE; rw [hv]; rfl
    clear hv
    obtain ⟨c0, f0, -⟩ := uno ((Below.block HX.out _ hmz1).trans H1.out)
    have g0 : (w3.setCell ⟨W.heap.size + 1, 0, none⟩ (.slice none 0 0)).cell? ⟨W.heap.size + 1, 0, none⟩ = some (.slice none 0 0) := World.cell?_setCell_same _ _ _ c0
    have hx5 : Ext W (w3.setCell ⟨W.heap.size + 1, 0, none⟩ (.slice none 0 0)) := (HB.out.trans HX.out).sc (by omega)
    have HV := Lib.hid (And.intro hbad hx5)
    clear hbad hx5
    go_wp2
    exact bodyPost_ret (v := .tuple #[.agg #[.slice none 0 0], .int .i64 2]) (by simp [results, Try.results22, go_sem, g0]) rfl ⟨_, _, rfl, HV.out.2, .inl ⟨HV.out.1, rfl, rfl⟩⟩
  · have hM := vMap_mp hv
    have hn : n ≤ 80 := hM.le
    have HV0 := Lib.hid (And.intro hv hM)
    clear hv hM
    go_wp2_with fail
    refine (hasEdge_any n f _ x _ (HN.out.ext (HB.out.trans HX.out)) (by omega)).mono ?_
    rintro e w4 ⟨rfl, hx⟩
    have HX4 : Hid (Ext w2 w4) := Lib.hid (HX.out.trans hx)
    clear m0
    have m0 := keepAt HX4.out mz HM0.out
    clear hx
    cases hb : (decide (0 ≤ x) && decide (x ≤ ((n / 2 : Nat) : Int) - 1))
    · have hbad : okE n f x = false := by unfold okE; rw [hb, Bool.and_false]
      clear hb
      obtain ⟨c0, f0, -⟩ := uno ((Below.block HX4.out _ hmz1).trans H1.out)
      have g0 : (w4.setCell ⟨W.heap.size + 1, 0, none⟩ (.slice none 0 0)).cell? ⟨W.heap.size + 1, 0, none⟩ = some (.slice none 0 0) := World.cell?_setCell_same _ _ _ c0
      have hx5 : Ext W (w4.setCell ⟨W.heap.size + 1, 0, none⟩ (.slice none 0 0)) := (HB.out.trans HX4.out).sc (by omega)
      have HV := Lib.hid (And.intro hbad hx5)
      clear hbad hx5
      go_wp2
      exact bodyPost_ret (v := .tuple #[.agg #[.slice none 0 0], .int .i64 2]) (by simp [results, Try.results22, go_sem, g0]) rfl ⟨_, _, rfl, HV.out.2, .inl ⟨HV.out.1, rfl, rfl⟩⟩
    · have hok : okE n f x = true := by unfold okE; rw [hb, HV0.out.1]; rfl
      obtain ⟨-, hx0, hx1⟩ := okE_iff.1 hok
      obtain ⟨e, rfl⟩ : ∃ e : Nat, x = e := ⟨x.toNat, by omega⟩
      have he : 2 * e + 1 < n := by omega
      have HOK := Lib.hid hok
      clear hok hb hx0 hx1
      go_wp2_with fail
      refine (dualS_own n f _ _ (HN.out.ext (HB.out.trans HX4.out)) hn HV0.out.2.even).mono ?_
      rintro r w5 ⟨g5, rfl, hg5, hb5, hx5⟩
      clear m0
      have HC5 := Lib.hid (And.intro (hb5.il (show n ≤ 9223372036854775807 by omega)) hx5)
      clear hb5 hx5
      go_wp2_with fail
      refine (without_any n e (fun d => f (rev d)) _ _ HC5.out.1 HV0.out.2.dual he).mono ?_
      rintro r w6 ⟨g6, rfl, hg6, hb6, hx6⟩
      have hb6' : BI w6 g6 (n - 2) (dF (fun d => f (rev d)) (e : Nat)) := hb6
      have HC6 := Lib.hid (And.intro (hb6'.il (show n - 2 ≤ 9223372036854775807 by omega)) (HC5.out.2.trans hx6))
      clear hb6 hb6' hx6
      have hev : (n - 2) % 2 = 0 := by have := HV0.out.2.even; omega
      have HEV := Lib.hid hev
      clear hev
      go_wp2_with fail
      refine (dualS_own (n - 2) (dF (fun d => f (rev d)) (e : Nat)) _ _ HC6.out.1 (by omega) HEV.out).mono ?_
      rintro r w9 ⟨g9, rfl, hg9, hb9, hx9⟩
      have hb9' : BI w9 g9 (n - 2) (cF f (e : Nat)) := hb9
      have hg9 : w4.heap.size ≤ g9 := Nat.le_trans HC6.out.2.size hg9
      have HY := Lib.hid (And.intro hb9' (HC6.out.2.trans hx9))
      clear hb9 hb9' hx9
      obtain ⟨c0, f0, -⟩ := uno ((Below.block (HX4.out.trans HY.out.2) _ hmz1).trans H1.out)
      have g0 : (w9.setCell ⟨W.heap.size + 1, 0, none⟩ (.slice (some ⟨g9, 0, none⟩) (n - 2) (n - 2))).cell? ⟨W.heap.size + 1, 0, none⟩ = some (.slice (some ⟨g9, 0, none⟩) (n - 2) (n - 2)) := World.cell?_setCell_same _ _ _ c0
      have hx5 : Ext W (w9.setCell ⟨W.heap.size + 1, 0, none⟩ (.slice (some ⟨g9, 0, none⟩) (n - 2) (n - 2))) := (HB.out.trans (HX4.out.trans HY.out.2)).sc (by omega)
      have hsz := HX4.out.size
      have hb5 : BI (w9.setCell ⟨W.heap.size + 1, 0, none⟩ (.slice (some ⟨g9, 0, none⟩) (n - 2) (n - 2))) g9 (n - 2) (cF f (e : Nat)) := Bk.far HY.out.1 (by show g9 ≠ W.heap.size + 1; omega) _
      have HF := Lib.hid (And.intro (BI.il hb5 (by omega)) hx5)
      clear hx5 hb5
      go_wp2
      exact bodyPost_ret (v := .tuple #[.agg #[.slice (some ⟨g9, 0, none⟩) (n - 2) (n - 2)], .int .i64 0]) (by simp [results, Try.results22, go_sem, g0]) rfl ⟨_, _, rfl, HF.out.2, .inr ⟨HOK.out, rfl, HF.out.1⟩⟩

set_option maxHeartbeats 4000000 in
set_option maxRecDepth 100000 in
theorem contractR_any (n e : Nat) (f : Nat → Int) (NV : Value) (W : World) (hN : Il W NV n f) (hM : Mp n f) (he : 2 * e + 1 < n) :
    Calls Try.prog 26 #[.agg #[NV], .int .i64 (e : Nat)] W fun r W' => ∃ V, r = .returned (.agg #[V]) ∧ Il W' V (n - 2) (cF f (e : Nat)) ∧ Ext W W' := by
  have hn80 := hM.le
  have HN := Lib.hid hN; have HM := Lib.hid hM
  obtain ⟨A, c, rfl, hac, hcm, -⟩ := hN
  clear hM
  go_enter Try.func26, Try.ntmps26
  go_upto_region 1 with fail
  have bb := al2 W (.cells #[.slice A n c] 24) (.cells #[.slice none 0 0] 24)
  have h0 := (Below.heap_alloc (W.alloc (.cells #[.slice A n c] 24)) (.cells #[.slice none 0 0] 24) W.heap.size (by simp)).trans (heap_alloc_new W (.cells #[.slice A n c] 24))
  have h1 := heap_alloc_new (W.alloc (.cells #[.slice A n c] 24)) (.cells #[.slice none 0 0] 24)
  simp only [World.size_alloc] at h1
  generalize (W.alloc (.cells #[.slice A n c] 24)).alloc (.cells #[.slice none 0 0] 24) = w2 at *
  obtain ⟨m0, -, mz⟩ := uno h0
  have HB : Hid (Ext W w2) := Lib.hid bb
  have H1 := Lib.hid h1
  have hmz1 : W.heap.size + 1 < w2.heap.size := (uno h1).2.2
  clear bb h0 h1
  go_wp2_with fail
  refine (dualR_any n f _ _ (HN.out.ext HB.out) hn80 HM.out.even).mono ?_
  rintro r w3 ⟨V3, rfl, hv3, hx3⟩
  have H3 := Lib.hid (And.intro hv3 hx3)
  obtain ⟨A3, c3, rfl, -⟩ := hv3
  clear hx3 m0
  go_wp2_with fail
  refine (deleteR_any n e (fun d => f (rev d)) _ _ H3.out.1 HM.out.dual he).mono ?_
  rintro r w4 ⟨V4, rfl, hv4, hx4⟩
  have hv4' : Il w4 V4 (n - 2) (dF (fun d => f (rev d)) (e : Nat)) := hv4
  have H4 := Lib.hid (And.intro hv4' (H3.out.2.trans hx4))
  obtain ⟨A4, c4, rfl, -⟩ := hv4
  clear hx4 hv4'
  go_wp2_with fail
  refine (dualR_any (n - 2) (dF (fun d => f (rev d)) (e : Nat)) _ _ H4.out.1 (by omega) (by have := HM.out.even; omega)).mono ?_
  rintro r w5 ⟨V5, rfl, hv5, hx5⟩
  obtain ⟨c0, f0, -⟩ := uno ((Below.block (H4.out.2.trans hx5) _ hmz1).trans H1.out)
  have hv5' : Vl w5 V5 (n - 2) (fun j => .int .i64 (cF f (e : Nat) j)) := hv5
  obtain ⟨A5, c5, rfl, k1, k2, k3⟩ := hv5'
  have g0 : (w5.setCell ⟨W.heap.size + 1, 0, none⟩ (.slice A5 (n - 2) c5)).cell? ⟨W.heap.size + 1, 0, none⟩ = some (.slice A5 (n - 2) c5) := World.cell?_setCell_same _ _ _ c0
  have hx6 : Ext W (w5.setCell ⟨W.heap.size + 1, 0, none⟩ (.slice A5 (n - 2) c5)) := (HB.out.trans (H4.out.2.trans hx5)).sc (by omega)
  have hv6 : Il (w5.setCell ⟨W.heap.size + 1, 0, none⟩ (.slice A5 (n - 2) c5)) (.slice A5 (n - 2) c5) (n - 2) (cF f (e : Nat)) := by
    refine ⟨A5, c5, rfl, k1, k2, fun hp => ?_⟩
    obtain ⟨bq, off, rfl, hb, hc⟩ := k3 hp
    refine ⟨bq, off, rfl, by simpa [World.setCell] using hb, fun j hj => ?_⟩
    refine (World.cell?_setCell_other _ _ _ _ ?_).trans (hc j hj)
    intro c
    have := hc j hj
    rw [← c, c0] at this
    cases this
  have HF := Lib.hid (And.intro hv6 hx6)
  clear hv6 hx6 hv5 hx5 k1 k2 k3
  go_wp2
  exact bodyPost_ret (v := .agg #[.slice A5 (n - 2) c5]) (by simp [results, Try.results26, go_sem, g0]) rfl ⟨_, rfl, HF.out.1, HF.out.2⟩

set_option maxHeartbeats 4000000 in
set_option maxRecDepth 100000 in
theorem edge_any (n : Nat) (f : Nat → Int) (NV : Value) (x : Int) (W : World) (hN : Il W NV n f) (hn : n ≤ 1000) :
    Calls Try.prog 24 #[.agg #[NV], .int .i64 x] W fun e W' => e = .returned (.bool (decide (0 ≤ x) && decide (x ≤ ((n / 2 : Nat) : Int) - 1))) ∧ Ext W W' := by
  obtain ⟨A, c, rfl, hac, hcm, -⟩ := hN
  obtain ⟨q, hq⟩ : ∃ q, q = n / 2 := ⟨_, rfl⟩
  rw [← hq]
  have hquo : ((n : Int)).tdiv 2 = (q : Int) := by rw [Int.tdiv_eq_ediv_of_nonneg (by omega), hq]; omega
  have hq2 : q ≤ 1000 := by omega
  obtain ⟨r, hr⟩ : ∃ r, r = (decide (0 ≤ x) && decide (x ≤ (q : Int) - 1)) := ⟨_, rfl⟩
  rw [← hr]
  have HR := Lib.hid hr
  clear hq hr
  go_enter Try.func24, Try.ntmps24
  go_upto_region 1 with fail
  have bb := al1 W (.cells #[.slice A n c] 24)
  obtain ⟨m0, -, mz⟩ := uno (heap_alloc_new W (.cells #[.slice A n c] 24))
  generalize W.alloc (.cells #[.slice A n c] 24) = W1 at *
  have HB : Hid (Ext W W1) := Lib.hid bb
  clear bb
  by_cases h0 : 0 ≤ x
  · by_cases h1 : x < (q : Int)
    · have HH := Lib.hid (And.intro h0 h1)
      go_wp2
      go_ret
      exact ⟨by rw [HR.out, decide_eq_true HH.out.1, decide_eq_true (show x ≤ (q : Int) - 1 by have := HH.out.2; omega)]; rfl, HB.out⟩
    · have HH := Lib.hid (And.intro h0 h1)
      go_wp2
      go_ret
      exact ⟨by rw [HR.out, decide_eq_true HH.out.1, decide_eq_false (show ¬ x ≤ (q : Int) - 1 by have := HH.out.2; omega)]; rfl, HB.out⟩
  · have HH := Lib.hid h0
    go_wp2
    go_ret
    exact ⟨by rw [HR.out, decide_eq_false (show ¬ 0 ≤ x by have := HH.out; omega)]; rfl, HB.out⟩
end Go.Proofs.Ytijhbmdbnnmogaa.G
namespace Go.Proofs.Ytijhbmdbnnmogaa.G
open Go.RowKit

set_option maxHeartbeats 4000000 in
set_option maxRecDepth 100000 in
theorem validR_any (n : Nat) (f : Nat → Int) (NV : Value) (W : World) (hN : Il W NV n f) :
    Calls Try.prog 13 #[.agg #[NV]] W fun e W' => e = .returned (.bool (vMap n f)) ∧ Ext W W' := by
  obtain ⟨r, hr⟩ : ∃ r, r = vMap n f := ⟨_, rfl⟩
  rw [← hr]
  have HR := Lib.hid hr; clear hr
  have HN := Lib.hid hN
  obtain ⟨A, c, rfl, hac, hcm, -⟩ := hN
  go_enter Try.func13, Try.ntmps13
  go_upto_region 1 with fail
  have bb := al1 W (.cells #[.slice A n c] 24)
  obtain ⟨m0, -, mz⟩ := uno (heap_alloc_new W (.cells #[.slice A n c] 24))
  generalize W.alloc (.cells #[.slice A n c] 24) = W1 at *
  have HB : Hid (Ext W W1) := Lib.hid bb
  have HM := Lib.hid m0
  clear bb
  obtain ⟨q, hq⟩ : ∃ q, q = n % 2 := ⟨_, rfl⟩
  have hd : ((n : Int)).tmod 2 = (q : Int) := by rw [hq]; exact (Int.ofNat_tmod n 2).symm
  have hq2 : q ≤ 1 := by omega
  have HQ := Lib.hid hq; clear hq
  have hno : ¬ (n % 2 = 0 ∧ n ≤ 80) → r = false := fun h => by rw [HR.out]; unfold vMap; rw [decide_eq_false h, Bool.false_and]
  have HNO := Lib.hid hno; clear hno
  by_cases hq0 : q = 0
  · by_cases hn80 : n ≤ 80
    · have hm1 : ∀ w, (Instr.makeSlice 54 (.int .i64 (n : Int)) (.int .i64 (n : Int))).run Try.prog w = .ok (.slice (some ⟨w.heap.size, 0, none⟩) n n) (w.alloc (.cells (Array.ofFn fun _ : Fin n => .bool false) 4)) := fun w => make_one 54 4 _ 1 Try.underlying54 info4 rfl (by omega) n (by omega) w
      have hq0' : (q : Int) = 0 := by omega
      rw [hq0'] at hd
      go_upto_region 5 with fail
      have HZ : Hid (n % 2 = 0) := Lib.hid (by rw [← HQ.out]; exact hq0)
      have y1 : BB (W1.alloc (.cells (Array.ofFn fun _ : Fin n => Value.bool false) 4)) W1.heap.size n (fun _ => false) := heap_alloc_new W1 _
      have e1 : Ext W1 (W1.alloc (.cells (Array.ofFn fun _ : Fin n => Value.bool false) 4)) := Ext.alc (Ext.refl _) _
      obtain ⟨g, hg⟩ : ∃ g, g = W1.heap.size := ⟨_, rfl⟩
      rw [← hg] at y1
      rw [← hg]
      have hgW : W1.heap.size ≤ g := by omega
      have Y1 := Lib.hid (And.intro y1 e1)
      have m1 := keepAt e1 mz m0
      clear y1 e1 hg m0 hd hq2 hq0 hq0'
      generalize W1.alloc (.cells (Array.ofFn fun _ : Fin n => Value.bool false) 4) = W2 at *
      go_wp2_with fail
      clear m1
      go_loopw [22] (fun i wr => ∃ k : Nat, i = .int .i64 k ∧ k ≤ n ∧ Hid ((∀ j, j < k → okD n f j = true) ∧ BB wr g n (sn f k) ∧ Ext W1 wr)) (fun i _ => n - (intOf i).toNat)
      case atStart => exact ⟨0, rfl, Nat.zero_le _, Lib.hid ⟨fun j hj => by omega, Bk.congr Y1.out.1 (fun j _ => by simp [sn]), Y1.out.2⟩⟩
      case round =>
        clear Y1
        obtain ⟨k, rfl, hk, hin⟩ := hrel
        by_cases hlt : k < n
        · obtain ⟨b1, o1, rfl, -, e1⟩ := Vl.at HN.out (HB.out.trans hin.out.2.2) hlt
          have hbad : okD n f k = false → r = false := fun h => by
            rw [HR.out]
            cases hc : vMap n f
            · rfl
            · rw [(vMap_iff.1 hc).2 k hlt] at h; cases h
          have HBAD := Lib.hid hbad; clear hbad
          obtain ⟨x, hx⟩ : ∃ x, x = f k := ⟨_, rfl⟩
          rw [← hx] at e1
          have HX := Lib.hid hx; clear hx
          by_cases h1 : 0 ≤ x ∧ x ≤ (n : Int) - 1
          · obtain ⟨h2, h3⟩ := h1
            obtain ⟨v, rfl⟩ : ∃ v : Nat, x = v := ⟨x.toNat, by omega⟩
            have hvn : v < n := by omega
            have c4 := Bk.cell hin.out.2.1 hvn
            have f4 := Bk.free hin.out.2.1 v
            have hb1 : (decide ((0 : Int) ≤ (v : Int)) && decide ((v : Int) ≤ (n : Int) - 1)) = true := by rw [decide_eq_true h2, decide_eq_true h3]; rfl
            cases hs : sn f k v
            · have hok : okD n f k = true := okD_iff.2 ⟨by rw [← HX.out]; exact ⟨h2, h3⟩, by rw [← HX.out, Int.toNat_natCast]; exact hs⟩
              rw [hs] at c4
              have HOK := Lib.hid hok
              clear hok hs
              clear hb1
              have hlt0 : ¬ ((v : Int) < 0) := by omega
              have hge0 : ¬ ((n : Int) ≤ (v : Int)) := by omega
              go_wp2
              go_roundw
              case rel =>
                refine ⟨k + 1, by go_num, by omega, Lib.hid ⟨fun j hj => ?_, Bk.congr (BB.set_ hin.out.2.1 v true) (fun j _ => ?_), hin.out.2.2.sc hgW⟩⟩
                · by_cases e : j = k
                  · subst e; exact HOK.out
                  · exact hin.out.1 j (by omega)
                · congr 1
                  rw [sn_succ, ← HX.out]
                  by_cases e : j = v
                  · subst e; rw [up_self]; simp
                  · rw [up_ne _ _ e, decide_eq_false (fun c => e (by omega)), Bool.or_false]
              case measure => simp [intOf]; omega
            · have hok : r = false := HBAD.out (by
                cases hc : okD n f k
                · rfl
                · have := (okD_iff.1 hc).2; rw [← HX.out, Int.toNat_natCast, hs] at this; cases this)
              rw [hs] at c4
              have HOK := Lib.hid hok
              clear hok hs
              clear hb1
              have hlt0 : ¬ ((v : Int) < 0) := by omega
              have hge0 : ¬ ((n : Int) ≤ (v : Int)) := by omega
              go_wp2
              go_ret
              exact ⟨by rw [HOK.out]; rfl, HB.out.trans hin.out.2.2⟩
          · have hok : r = false := HBAD.out (by
              cases hc : okD n f k
              · rfl
              · exact absurd (by rw [HX.out]; exact (okD_iff.1 hc).1) h1)
            have HOK := Lib.hid hok
            have hcase : x < 0 ∨ (¬ x < 0 ∧ (n : Int) ≤ x) := by omega
            clear hok h1
            rcases hcase with hc | ⟨hc1, hc⟩
            all_goals
              go_wp2
              go_ret
              exact ⟨by rw [HOK.out]; rfl, HB.out.trans hin.out.2.2⟩
        · obtain rfl : k = n := by omega
          have hok : r = true := by rw [HR.out]; exact vMap_iff.2 ⟨⟨HZ.out, hn80⟩, hin.out.1⟩
          have HOK := Lib.hid hok
          clear hok
          go_wp2
          go_ret
          exact ⟨by rw [HOK.out]; rfl, HB.out.trans hin.out.2.2⟩
    · have hq0' : (q : Int) = 0 := by omega
      rw [hq0'] at hd
      have hok : r = false := HNO.out (fun h => hn80 h.2)
      have HOK := Lib.hid hok
      clear hok
      go_wp2
      go_ret
      exact ⟨by rw [HOK.out]; rfl, HB.out⟩
  · have hok : r = false := HNO.out (fun h => hq0 (by rw [HQ.out]; exact h.1))
    have HOK := Lib.hid hok
    obtain rfl : q = 1 := by omega
    clear hok
    go_wp2
    go_ret
    exact ⟨by rw [HOK.out]; rfl, HB.out⟩
end Go.Proofs.Ytijhbmdbnnmogaa.G
