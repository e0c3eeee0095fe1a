/- Walks: applied, whose answer is an array of ints. -/
import Derived.Test.YtgjanbgehbpciaaV11
namespace Go.Proofs.Ytgjanbgehbpciaa
open Go.RowKit

/-- block g is an array of these ints, and is tagged so -/
def Ar3 (W : World) (g : Nat) (l : List Int) : Prop := W.heap[g]? = some (.cells (l.map iv).toArray 3 (0, 0))
section
variable {W X Y : World} {g : Nat} {l : List Int}
theorem Ar3.ar (h : Ar3 W g l) : Ar W g l := ⟨3, h⟩
theorem Ar3.lt (h : Ar3 W g l) : g < W.heap.size := h.ar.lt
theorem Ar3.ext (h : Ar3 X g l) (e : Ext X Y) : Ar3 Y g l := (Below.block e g h.lt).trans h
theorem Ar3.cell (h : Ar3 W g l) {j : Nat} (hj : j < l.length) : W.cell? ⟨g, j, none⟩ = some (.int .i64 (l.getD j 0)) := h.ar.cell hj
theorem Ar3.frozen (h : Ar3 W g l) (o : Nat) : W.frozen? ⟨g, o, none⟩ = false := h.ar.frozen o
theorem Ar3.set (h : Ar3 W g l) (j : Nat) (x : Int) : Ar3 (W.setCell ⟨g, j, none⟩ (.int .i64 x)) g (l.set j x) := by
  unfold Ar3 at *
  simp [World.setCell, Array.getElem?_modify, h, List.map_set, iv]
theorem Ar3.far (h : Ar3 W g l) {g' i : Nat} {v : Value} (hne : g ≠ g') : Ar3 (W.setCell ⟨g', i, none⟩ v) g l := by
  unfold Ar3 at *
  have hne' : ¬ g' = g := fun e => hne e.symm
  simp [World.setCell, Array.getElem?_modify, h, hne']
theorem Ar3.new (X : World) (l : List Int) : Ar3 (X.alloc (.cells (l.map iv).toArray 3)) X.heap.size l := heap_alloc_new _ _
end

set_option maxHeartbeats 2000000 in
set_option maxRecDepth 100000 in
theorem applied_w (w h : Nat) (dx dy : Int) (n : Nat) (f : Bool) (b off c : Nat) (cs : List Int) (N : Nat) (W : World) (hs : 1 ≤ w ∧ w ≤ 8 ∧ 1 ≤ h ∧ h ≤ 8) (hm : 0 ≤ dx ∧ dx < w ∧ 0 ≤ dy ∧ dy < h) (hn : n < 4)
    (hN : N = w * h) (hb : b < W.heap.size) (hc : ∀ j, j < N → W.cell? ⟨b, off + j, none⟩ = some (.int .i64 (cs.getD j 0))) :
    Calls Try.prog 52 #[.agg #[.int .i64 dx, .int .i64 dy, .int .i64 n, .bool f], .agg #[.int .i64 w, .int .i64 h, .slice (some ⟨b, off, none⟩) N c]] W fun e W' =>
      ∃ g, e = .returned (.agg #[.int .i64 w, .int .i64 h, .slice (some ⟨g, 0, none⟩) N N]) ∧ W.heap.size ≤ g ∧ Ar3 W' g (apl w h ⟨dx, dy, n, f⟩ cs N) ∧ Ext W W' := by
  have hN1 : 1 ≤ N ∧ N ≤ 64 := by
    have := area_in (w := w) (h := h) (okSize_iff.2 (by omega))
    rw [hN]
    have e : ((w * h : Nat) : Int) = (w : Int) * h := by simp
    omega
  have hgo := fun W => goals_c w h dx dy n f W hs hm hn
  rw [← hN] at hgo
  have hgn : ∀ i, gN w h ⟨dx, dy, n, f⟩ i < N ∧ goalAt w h ⟨dx, dy, n, f⟩ i = (gN w h ⟨dx, dy, n, f⟩ i : Int) := fun i => by rw [hN]; exact gN_in _ i hs.1 hs.2.2.1
  have hgo : ∀ W, Calls Try.prog 70 #[.agg #[.int .i64 w, .int .i64 h], .agg #[.int .i64 dx, .int .i64 dy, .int .i64 n, .bool f]] W fun e W' => ∃ bg og cg, e = .returned (.slice (some ⟨bg, og, none⟩) N cg) ∧ W.heap.size ≤ bg ∧ (∀ j, j < N → W'.cell? ⟨bg, og + j, none⟩ = some (.int .i64 (gN w h ⟨dx, dy, n, f⟩ j : Nat))) ∧ Ext W W' := fun W => by
    refine (hgo W).mono ?_
    rintro e W' ⟨r, rfl, ⟨A, c, rfl, _, _, hcl⟩, hfr, hx⟩
    rw [gl_len] at hcl
    obtain ⟨bg, og, rfl, _, hcl⟩ := hcl (by omega)
    refine ⟨bg, og, c, by rw [gl_len], hfr _ _ _ rfl, fun j hj => ?_, hx⟩
    rw [hcl j hj, ← (hgn j).2]
    simp [gl, List.getD_eq_getElem?_getD, hj]
  have HGO := Lib.hid hgo
  have HGN := Lib.hid hgn; clear hgo hgn
  have hla : ∀ k, (apl w h ⟨dx, dy, n, f⟩ cs k).length = N := fun k => by rw [apl_len, hN]
  have HLA := Lib.hid hla; clear hla
  have hmk := make_i64 N (by omega)
  have hz : ((List.replicate N (0 : Int)).map iv).toArray = ((apl w h ⟨dx, dy, n, f⟩ cs 0).map iv).toArray := by rw [hN]; rfl
  rw [hz] at hmk
  clear hz
  have HN := Lib.hid hN; clear hN
  have HC := Lib.hid hc; clear hc
  obtain ⟨A, hA⟩ : ∃ A, A = some (⟨b, off, none⟩ : Addr) := ⟨_, rfl⟩
  rw [← hA]
  have HA := Lib.hid hA; clear hA
  obtain ⟨ob, hob⟩ : ∃ ob : Obj, ob = .cells ((apl w h ⟨dx, dy, n, f⟩ cs 0).map iv).toArray 3 := ⟨_, rfl⟩
  rw [← hob] at hmk
  have HOB := Lib.hid hob; clear hob
  go_enter Try.func52, Try.ntmps52
  go_wp2_with fail
  have q0 := q4_a1 W (.int .i64 dx) (.int .i64 dy) (.int .i64 n) (.bool f) 31 (.cells #[.int .i64 w, .int .i64 h, .slice A N c] 27) (.cells #[.int .i64 0, .int .i64 0, .slice none 0 0] 27)
  have q1 : Q3 (((W.alloc (.cells #[.int .i64 dx, .int .i64 dy, .int .i64 n, .bool f] 31)).alloc (.cells #[.int .i64 w, .int .i64 h, .slice A N c] 27)).alloc (.cells #[.int .i64 0, .int .i64 0, .slice none 0 0] 27)) (W.heap.size + 1) (.int .i64 w) (.int .i64 h) (.slice A N c) := by
    refine ⟨?_, ?_, ?_⟩ <;> (rw [World.cell?_alloc_past _ _ _ (by simp), World.cell?_alloc_at _ _ _ _ (by simp)]; rfl)
  have q2 : TB (((W.alloc (.cells #[.int .i64 dx, .int .i64 dy, .int .i64 n, .bool f] 31)).alloc (.cells #[.int .i64 w, .int .i64 h, .slice A N c] 27)).alloc (.cells #[.int .i64 0, .int .i64 0, .slice none 0 0] 27)) (W.heap.size + 1 + 1) := by
    have := heap_alloc_new ((W.alloc (.cells #[.int .i64 dx, .int .i64 dy, .int .i64 n, .bool f] 31)).alloc (.cells #[.int .i64 w, .int .i64 h, .slice A N c] 27)) (.cells #[.int .i64 0, .int .i64 0, .slice none 0 0] 27)
    simp only [World.size_alloc] at this
    exact ⟨_, _, _, _, this⟩
  have bb := al3 W (.cells #[.int .i64 dx, .int .i64 dy, .int .i64 n, .bool f] 31) (.cells #[.int .i64 w, .int .i64 h, .slice A N c] 27) (.cells #[.int .i64 0, .int .i64 0, .slice none 0 0] 27)
  have zz : (((W.alloc (.cells #[.int .i64 dx, .int .i64 dy, .int .i64 n, .bool f] 31)).alloc (.cells #[.int .i64 w, .int .i64 h, .slice A N c] 27)).alloc (.cells #[.int .i64 0, .int .i64 0, .slice none 0 0] 27)).heap.size = W.heap.size + 1 + 1 + 1 := by simp
  generalize (((W.alloc (.cells #[.int .i64 dx, .int .i64 dy, .int .i64 n, .bool f] 31)).alloc (.cells #[.int .i64 w, .int .i64 h, .slice A N c] 27)).alloc (.cells #[.int .i64 0, .int .i64 0, .slice none 0 0] 27)) = W3 at *
  have har : Ar3 (W3.alloc ob) (W.heap.size + 1 + 1 + 1) (apl w h ⟨dx, dy, n, f⟩ cs 0) := by rw [HOB.out, ← zz]; exact Ar3.new W3 _
  have e4 : Ext W3 (W3.alloc ob) := (Ext.refl _).alc _
  have z4 : (W3.alloc ob).heap.size = W.heap.size + 1 + 1 + 1 + 1 := by simp; omega
  generalize (W3.alloc ob) = W4 at *
  have zle : W.heap.size + 1 + 1 + 1 ≤ W3.heap.size := by omega
  have zge : W3.heap.size ≤ W.heap.size + 1 + 1 + 1 := by omega
  have zl4 : W.heap.size + 1 + 1 + 1 + 1 ≤ W4.heap.size := by omega
  have BB := Lib.hid bb; clear bb zz z4 hmk
  have Q0 := Lib.hid q0; have Q1 := Lib.hid q1; have Q2 := Lib.hid q2; clear q0 q1 q2
  have HAR := Lib.hid har; clear har
  have csz : ∀ W, Calls Try.prog 50 #[.agg #[.int .i64 w, .int .i64 h, .slice A N c]] W fun e W' => e = .returned (.agg #[.int .i64 w, .int .i64 h]) ∧ Ext W W' := fun W => sizeOf_any w h _ A N c W rfl
  have CSZ := Lib.hid csz; clear csz
  refine wp_region_noPanic ?_
  refine wp_region_held_drew (S := fun X => Ext W4 X) (by kernel_rfl) (Ext.drw (Ext.refl _)) (fun _ => ?_)
  refine wpAnyH_take (i := 0) (v := .agg #[.int .i64 w, .int .i64 h, .slice A N c]) rfl (by kernel_rfl) (by kernel_rfl) (by kernel_rfl) (fun _ _ _ h => h) (Or.inl ⟨by rfl, fun w' hSw => ?_⟩) (Ext.drw (Ext.refl _)) ?_
  · have q0 := keepAt hSw (by omega) (keepAt e4 (by omega) Q1.out.1)
    have q1 := keepAt hSw (by omega) (keepAt e4 (by omega) Q1.out.2.1)
    have q2 := keepAt hSw (by omega) (keepAt e4 (by omega) Q1.out.2.2)
    clear hSw
    go_simp
    all_goals (with_reducible rfl)
  try simp only [Act.put, List.setIfInBounds_toArray, List.set_cons_zero, List.set_cons_succ]
  refine wpAnyH_take (i := 2) (v := .agg #[.int .i64 dx, .int .i64 dy, .int .i64 n, .bool f]) rfl (by kernel_rfl) (by kernel_rfl) (by kernel_rfl) (fun _ _ _ h => h) (Or.inl ⟨by rfl, fun w' hSw => ?_⟩) (Ext.drw (Ext.refl _)) ?_
  · have q0 := keepAt hSw (by omega) (keepAt e4 (by omega) Q0.out.1)
    have q1 := keepAt hSw (by omega) (keepAt e4 (by omega) Q0.out.2.1)
    have q2 := keepAt hSw (by omega) (keepAt e4 (by omega) Q0.out.2.2.1)
    have q3 := keepAt hSw (by omega) (keepAt e4 (by omega) Q0.out.2.2.2)
    clear hSw
    go_simp
    all_goals (with_reducible rfl)
  try simp only [Act.put, List.setIfInBounds_toArray, List.set_cons_zero, List.set_cons_succ]
  refine wpAnyH_take (i := 5) (v := .int .i64 0) rfl (by kernel_rfl) (by kernel_rfl) (by kernel_rfl) (fun _ _ _ h => h) (Or.inl ⟨by rfl, fun w' hSw => ?_⟩) (Ext.drw (Ext.refl _)) ?_
  · skip
    clear hSw
    go_simp
    all_goals (with_reducible rfl)
  try simp only [Act.put, List.setIfInBounds_toArray, List.set_cons_zero, List.set_cons_succ]
  refine wpAnyH_ready (rs := [1]) (by kernel_rfl) (by simp) ?_
  refine AllReadyH.cons rfl (fun K hK => ?_) AllReadyH.nil
  go_simp
  refine (CSZ.out _).mono ?_
  rintro e v1 ⟨rfl, hb1⟩
  have e1 : Ext W4 v1 := (Ext.drw (Ext.refl _)).trans hb1
  try go_wp2_with fail
  refine hK.out _ _ e1 (fun _ => ?_)
  clear hK K
  try simp only [Act.put, List.setIfInBounds_toArray, List.set_cons_zero, List.set_cons_succ]
  refine wpAnyH_ready (rs := [3]) (by kernel_rfl) (by simp) ?_
  refine AllReadyH.cons rfl (fun K hK => ?_) AllReadyH.nil
  go_simp
  refine (HGO.out _).mono ?_
  rintro e v3 ⟨bg, og, cg, rfl, hbg, hcl, hb3⟩
  have e3 : Ext W4 v3 := (e1).trans hb3
  try go_wp2_with fail
  refine hK.out _ _ e3 (fun _ => ?_)
  clear hK K
  try simp only [Act.put, List.setIfInBounds_toArray, List.set_cons_zero, List.set_cons_succ]
  refine take_at 4 (some 16) (.int .i64 N) rfl rfl (by kernel_rfl) (by kernel_rfl) (by kernel_rfl) (fun _ _ _ h => h) (Or.inl ⟨by rfl, fun w' hSw => ?_⟩) (e3) ?_
  · skip
    clear hSw
    go_simp
    all_goals (with_reducible rfl)
  try simp only [Act.put, List.setIfInBounds_toArray, List.set_cons_zero, List.set_cons_succ]
  refine wpAnyH_done (by kernel_rfl) ?_ _
  refine NoPanic.normal ?_
  go_wp2_with fail
  have ARX := Lib.hid (HAR.out.ext e3)
  have E3 := e4.trans e3
  have hcell : Hid (∀ j, j < N → v3.cell? ⟨bg, og + j, none⟩ = some (.int .i64 (gN w h ⟨dx, dy, n, f⟩ j : Nat))) := Lib.hid hcl
  have hbg4 : W.heap.size + 1 + 1 + 1 < bg := by have := e1.size; omega
  have z3 := E3.size
  clear hcl hbg
  go_loopw [17] (fun i wr => ∃ k : Nat, i = .int .i64 k ∧ k ≤ N ∧ Hid (Ar3 wr (W.heap.size + 1 + 1 + 1) (apl w h ⟨dx, dy, n, f⟩ cs k)) ∧ Hid (∀ j, j < N → wr.cell? ⟨bg, og + j, none⟩ = some (.int .i64 (gN w h ⟨dx, dy, n, f⟩ j : Nat))) ∧ Ext W3 wr) (fun i _ => N - (intOf i).toNat)
  case atStart => exact ⟨0, rfl, Nat.zero_le _, ARX, hcell, E3⟩
  case round =>
    obtain ⟨k, rfl, hk, har, hcl, ex⟩ := hrel
    clear ARX hcell E3
    by_cases hlt : k < N
    · have hG := HGN.out k
      obtain ⟨G, hGe⟩ : ∃ G, G = gN w h ⟨dx, dy, n, f⟩ k := ⟨_, rfl⟩
      have hg1 := hcl.out k hlt
      rw [← hGe] at hG hg1
      have hGN := hG.1
      clear hG
      obtain ⟨x, hx⟩ : ∃ x, x = cs.getD k 0 := ⟨_, rfl⟩
      have hs1 := HC.out k hlt
      rw [← hx] at hs1
      have HS1 := Lib.hid (keepAt (nx BB.out ex) hb hs1)
      have hasu := apl_succ w h ⟨dx, dy, n, f⟩ cs k
      rw [← hGe, ← hx] at hasu
      have HASU := Lib.hid hasu
      clear hs1 hasu hGe hx
      have l2 := Lib.hid (keepAt ex (by omega) Q1.out.2.2)
      have hac := har.out.cell (j := G) (by rw [HLA.out]; exact hGN)
      have haf := har.out.frozen
      have hzx := ex.size
      have eA := HA.out
      subst eA
      have s1 := HS1.out
      have s2 := l2.out
      go_wp2
      go_roundw
      case rel =>
        refine ⟨k + 1, by go_num, by omega, ?_, ?_, ?_⟩
        · rw [HASU.out]
          exact Lib.hid (har.out.set G x)
        · refine Lib.hid (fun j hj => ?_)
          rw [World.cell?_setCell_other _ _ _ _ (by intro e; injection e with e1; omega)]
          exact hcl.out j hj
        · exact ex.sc (by omega)
      case measure => simp [intOf]; omega
    · obtain rfl : k = N := by omega
      have l0 := keepAt ex (by omega) Q1.out.1
      have l1 := keepAt ex (by omega) Q1.out.2.1
      have hgt := (har.out).lt
      have HT := Lib.hid har
      clear har hcl
      obtain ⟨⟨_, _, _, r0, r1, r2⟩, rf⟩ := (Q2.out.ext ex).facts
      have zx := ex.size
      go_wp2
      refine bodyPost_ret (v := .agg #[.int .i64 w, .int .i64 h, .slice (some ⟨W.heap.size + 1 + 1 + 1, 0, none⟩) k k]) (by simp [results, Try.results52, go_sem, r0, r1, r2]) rfl ⟨_, rfl, by omega, ?_, ?_⟩
      · exact (((HT.out.out.far (g' := W.heap.size + 1 + 1) (i := 0) (v := .int .i64 w) (by omega)).far (g' := W.heap.size + 1 + 1) (i := 1) (v := .int .i64 h) (by omega)).far (g' := W.heap.size + 1 + 1) (i := 2) (v := .slice (some ⟨W.heap.size + 1 + 1 + 1, 0, none⟩) k k) (by omega))
      · exact sc (sc (sc (nx BB.out ex) (by omega) _) (by omega) _) (by omega) _
end Go.Proofs.Ytgjanbgehbpciaa
