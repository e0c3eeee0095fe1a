/- Walks: applied. -/
import Derived.Test.YtgjanbgehbpciaaV10
import Derived.Deep.RegionHeld
namespace Go.Proofs.Ytgjanbgehbpciaa
open Go.RowKit

/-- block g is an array of these ints -/
def Ar (W : World) (g : Nat) (l : List Int) : Prop := ∃ t, W.heap[g]? = some (.cells (l.map iv).toArray t (0, 0))
section
variable {W X Y : World} {g : Nat} {l : List Int}
theorem Ar.lt (h : Ar W g l) : g < W.heap.size := by obtain ⟨t, h⟩ := h; exact (Array.getElem?_eq_some_iff.1 h).1
theorem Ar.ext (h : Ar X g l) (e : Ext X Y) : Ar Y g l := by
  have hl := h.lt
  obtain ⟨t, h⟩ := h
  exact ⟨t, (Below.block e g hl).trans h⟩
theorem Ar.cell (h : Ar W g l) {j : Nat} (hj : j < l.length) : W.cell? ⟨g, j, none⟩ = some (.int .i64 (l.getD j 0)) := by
  obtain ⟨t, h⟩ := h
  rw [cell_of_row W g j _ t (0, 0) h]
  simp [List.getD_eq_getElem?_getD, List.getElem?_eq_getElem hj, iv]
theorem Ar.frozen (h : Ar W g l) (o : Nat) : W.frozen? ⟨g, o, none⟩ = false := by
  obtain ⟨t, h⟩ := h
  simp [World.frozen?, h]
theorem Ar.set (h : Ar W g l) (j : Nat) (x : Int) : Ar (W.setCell ⟨g, j, none⟩ (.int .i64 x)) g (l.set j x) := by
  obtain ⟨t, h⟩ := h
  refine ⟨t, ?_⟩
  simp [World.setCell, Array.getElem?_modify, h, List.map_set, iv]
theorem Ar.far (h : Ar W g l) {g' i : Nat} {v : Value} (hne : g ≠ g') : Ar (W.setCell ⟨g', i, none⟩ v) g l := by
  obtain ⟨t, h⟩ := h
  have hne' : ¬ g' = g := fun e => hne e.symm
  exact ⟨t, by simp [World.setCell, Array.getElem?_modify, h, hne']⟩
theorem Ar.il (h : Ar W g l) (c : Nat) (hc : l.length ≤ c) (hc' : c ≤ 9223372036854775807) : Il W (.slice (some ⟨g, 0, none⟩) l.length c) l :=
  ⟨_, c, rfl, hc, hc', fun _ => ⟨g, 0, rfl, h.lt, fun j hj => by rw [Nat.zero_add]; exact h.cell hj⟩⟩
theorem Ar.new (X : World) (l : List Int) (t : TypeId) : Ar (X.alloc (.cells (l.map iv).toArray t)) X.heap.size l := ⟨t, heap_alloc_new _ _⟩
end

theorem Il.far {W : World} {v : Value} {l : List Int} {B g i : Nat} {u : Value} (h : Il W v l) (hf : Fr B v) (hg : g < B) : Il (W.setCell ⟨g, i, none⟩ u) v l := by
  obtain ⟨A, c, rfl, h1, h2, h4⟩ := h
  refine ⟨A, c, rfl, h1, h2, fun hp => ?_⟩
  obtain ⟨b, off, rfl, hb, hc⟩ := h4 hp
  have hB : B ≤ b := hf _ _ _ rfl
  refine ⟨b, off, rfl, by simpa [World.setCell] using hb, fun j hj => ?_⟩
  rw [World.cell?_setCell_other _ _ _ _ (by intro e; injection e with e; omega)]
  exact hc j hj

theorem made_i64 (k : Nat) : madeCells (Value.int .i64 0).cells k = ((List.replicate k (0 : Int)).map iv).toArray := by
  apply Array.ext
  · simp [madeCells]
  · intro i h1 h2
    simp [madeCells, Value.cells, Nat.mod_one, iv]
theorem make_i64 (k : Nat) (hk : k ≤ 70368744177664 / 2) (w : World) :
    (Instr.makeSlice 22 (.int .i64 (k : Int)) (.int .i64 (k : Int))).run Try.prog w = .ok (.slice (some ⟨w.heap.size, 0, none⟩) k k) (w.alloc (.cells ((List.replicate k (0 : Int)).map iv).toArray 3)) := by
  obtain ⟨i0, hi, hz0, hz1, hz2⟩ := info_parts info3
  have hr := run_make (P := Try.prog) w 22 3 i0 _ Try.underlying22 hi hz0 .i64 .i64 k k (by omega) (Int.le_refl _) (by rw [hz2]; omega) (by omega)
  rw [hr, Int.toNat_natCast, hz1, Nat.mul_one, made_i64]

/-- the goal as an index -/
def gN (w h : Nat) (m : Mv) (i : Nat) : Nat := (goalAt w h m i).toNat
/-- the cells behind the first k cells' moves -/
def apl (w h : Nat) (m : Mv) (cs : List Int) (k : Nat) : List Int := (List.range k).foldl (fun acc i => acc.set (gN w h m i) (cs.getD i 0)) (List.replicate (w * h) 0)
theorem apl_succ (w h : Nat) (m : Mv) (cs : List Int) (k : Nat) : apl w h m cs (k + 1) = (apl w h m cs k).set (gN w h m k) (cs.getD k 0) := by
  unfold apl; rw [List.range_succ, List.foldl_append]; rfl
theorem apl_len (w h : Nat) (m : Mv) (cs : List Int) (k : Nat) : (apl w h m cs k).length = w * h := by
  induction k with
  | zero => simp [apl]
  | succ k ih => rw [apl_succ, List.length_set, ih]

theorem goalAt_in {w h : Nat} (m : Mv) (i : Nat) (hw : 1 ≤ w) (hh : 1 ≤ h) : 0 ≤ goalAt w h m i ∧ goalAt w h m i < ((w * h : Nat) : Int) := by
  unfold goalAt
  obtain ⟨q, hq⟩ : ∃ q : Int, q = ((spin m.f m.t.toNat (((i % w : Nat) : Int), ((i / w : Nat) : Int))).2 + m.dy) % h := ⟨_, rfl⟩
  obtain ⟨p, hp⟩ : ∃ p : Int, p = ((spin m.f m.t.toNat (((i % w : Nat) : Int), ((i / w : Nat) : Int))).1 + m.dx) % w := ⟨_, rfl⟩
  rw [← hq, ← hp]
  have q0 : 0 ≤ q := by rw [hq]; exact Int.emod_nonneg _ (by omega)
  have q1 : q < h := by rw [hq]; exact Int.emod_lt_of_pos _ (by omega)
  have p0 : 0 ≤ p := by rw [hp]; exact Int.emod_nonneg _ (by omega)
  have p1 : p < w := by rw [hp]; exact Int.emod_lt_of_pos _ (by omega)
  obtain ⟨a, rfl⟩ : ∃ a : Nat, q = a := ⟨q.toNat, by omega⟩
  obtain ⟨b, rfl⟩ : ∃ b : Nat, p = b := ⟨p.toNat, by omega⟩
  have := round_mul (w := w) (y := a) (h := h) (by omega)
  have e : (a : Int) * w = ((a * w : Nat) : Int) := by simp
  omega
theorem gN_in {w h : Nat} (m : Mv) (i : Nat) (hw : 1 ≤ w) (hh : 1 ≤ h) : gN w h m i < w * h ∧ goalAt w h m i = (gN w h m i : Int) := by
  have := goalAt_in m i hw hh
  unfold gN
  omega

/-- block g holds three cells -/
def Q3 (W : World) (g : Nat) (a b c : Value) : Prop := W.cell? ⟨g, 0, none⟩ = some a ∧ W.cell? ⟨g, 1, none⟩ = some b ∧ W.cell? ⟨g, 2, none⟩ = some c
theorem Q3.ext {X Y : World} {g : Nat} {a b c : Value} (h : Q3 X g a b c) (hg : g < X.heap.size) (e : Ext X Y) : Q3 Y g a b c := ⟨keepAt e hg h.1, keepAt e hg h.2.1, keepAt e hg h.2.2⟩
/-- and may be written -/
def TB (W : World) (g : Nat) : Prop := ∃ a b c t, W.heap[g]? = some (.cells #[a, b, c] t (0, 0))
theorem TB.lt {W : World} {g : Nat} (h : TB W g) : g < W.heap.size := by obtain ⟨a, b, c, t, h⟩ := h; exact (Array.getElem?_eq_some_iff.1 h).1
theorem TB.ext {X Y : World} {g : Nat} (h : TB X g) (e : Ext X Y) : TB Y g := by
  have hl := h.lt
  obtain ⟨a, b, c, t, h⟩ := h
  exact ⟨a, b, c, t, (Below.block e g hl).trans h⟩
theorem TB.facts {W : World} {g : Nat} (h : TB W g) : (∃ a b c, W.cell? ⟨g, 0, none⟩ = some a ∧ W.cell? ⟨g, 1, none⟩ = some b ∧ W.cell? ⟨g, 2, none⟩ = some c) ∧ (∀ o, W.frozen? ⟨g, o, none⟩ = false) := by
  obtain ⟨a, b, c, t, h⟩ := h
  exact ⟨⟨a, b, c, cell_of_row W g 0 _ t (0, 0) h, cell_of_row W g 1 _ t (0, 0) h, cell_of_row W g 2 _ t (0, 0) h⟩, fun o => by simp [World.frozen?, h]⟩

set_option maxHeartbeats 2000000 in
set_option maxRecDepth 100000 in
theorem applied_c (w h : Nat) (dx dy : Int) (n : Nat) (f : Bool) (b off c : Nat) (cs : List Int) (N : Nat) (W : World) (hs : 1 ≤ w ∧ w ≤ 8 ∧ 1 ≤ h ∧ h ≤ 8) (hm : 0 ≤ dx ∧ dx < w ∧ 0 ≤ dy ∧ dy < h) (hn : n < 4)
    (hN : N = w * h) (hb : b < W.heap.size) (hc : ∀ j, j < N → W.cell? ⟨b, off + j, none⟩ = some (.int .i64 (cs.getD j 0))) :
    Calls Try.prog 52 #[.agg #[.int .i64 dx, .int .i64 dy, .int .i64 n, .bool f], .agg #[.int .i64 w, .int .i64 h, .slice (some ⟨b, off, none⟩) N c]] W fun e W' =>
      ∃ A, e = .returned (.agg #[.int .i64 w, .int .i64 h, .slice A N N]) ∧ Il W' (.slice A N N) (apl w h ⟨dx, dy, n, f⟩ cs N) ∧ Fr W.heap.size (.slice A N N) ∧ Below W.heap.size W W' := by
  have hN1 : 1 ≤ N ∧ N ≤ 64 := by
    have := area_in (w := w) (h := h) (okSize_iff.2 (by omega))
    rw [hN]
    have e : ((w * h : Nat) : Int) = (w : Int) * h := by simp
    omega
  have hgo := fun W => goals_c w h dx dy n f W hs hm hn
  rw [← hN] at hgo
  have hgn : ∀ i, gN w h ⟨dx, dy, n, f⟩ i < N ∧ goalAt w h ⟨dx, dy, n, f⟩ i = (gN w h ⟨dx, dy, n, f⟩ i : Int) := fun i => by rw [hN]; exact gN_in _ i hs.1 hs.2.2.1
  have hgo : ∀ W, Calls Try.prog 70 #[.agg #[.int .i64 w, .int .i64 h], .agg #[.int .i64 dx, .int .i64 dy, .int .i64 n, .bool f]] W fun e W' => ∃ bg og cg, e = .returned (.slice (some ⟨bg, og, none⟩) N cg) ∧ W.heap.size ≤ bg ∧ (∀ j, j < N → W'.cell? ⟨bg, og + j, none⟩ = some (.int .i64 (gN w h ⟨dx, dy, n, f⟩ j : Nat))) ∧ Ext W W' := fun W => by
    refine (hgo W).mono ?_
    rintro e W' ⟨r, rfl, ⟨A, c, rfl, _, _, hcl⟩, hfr, hx⟩
    rw [gl_len] at hcl
    obtain ⟨bg, og, rfl, _, hcl⟩ := hcl (by omega)
    refine ⟨bg, og, c, by rw [gl_len], hfr _ _ _ rfl, fun j hj => ?_, hx⟩
    rw [hcl j hj, ← (hgn j).2]
    simp [gl, List.getD_eq_getElem?_getD, hj]
  have HGO := Lib.hid hgo
  have HGN := Lib.hid hgn; clear hgo hgn
  have hla : ∀ k, (apl w h ⟨dx, dy, n, f⟩ cs k).length = N := fun k => by rw [apl_len, hN]
  have HLA := Lib.hid hla; clear hla
  have hmk := make_i64 N (by omega)
  have hz : ((List.replicate N (0 : Int)).map iv).toArray = ((apl w h ⟨dx, dy, n, f⟩ cs 0).map iv).toArray := by rw [hN]; rfl
  rw [hz] at hmk
  clear hz
  have HN := Lib.hid hN; clear hN
  have HC := Lib.hid hc; clear hc
  obtain ⟨A, hA⟩ : ∃ A, A = some (⟨b, off, none⟩ : Addr) := ⟨_, rfl⟩
  rw [← hA]
  have HA := Lib.hid hA; clear hA
  obtain ⟨ob, hob⟩ : ∃ ob : Obj, ob = .cells ((apl w h ⟨dx, dy, n, f⟩ cs 0).map iv).toArray 3 := ⟨_, rfl⟩
  rw [← hob] at hmk
  have HOB := Lib.hid hob; clear hob
  go_enter Try.func52, Try.ntmps52
  go_wp2_with fail
  have q0 := q4_a1 W (.int .i64 dx) (.int .i64 dy) (.int .i64 n) (.bool f) 31 (.cells #[.int .i64 w, .int .i64 h, .slice A N c] 27) (.cells #[.int .i64 0, .int .i64 0, .slice none 0 0] 27)
  have q1 : Q3 (((W.alloc (.cells #[.int .i64 dx, .int .i64 dy, .int .i64 n, .bool f] 31)).alloc (.cells #[.int .i64 w, .int .i64 h, .slice A N c] 27)).alloc (.cells #[.int .i64 0, .int .i64 0, .slice none 0 0] 27)) (W.heap.size + 1) (.int .i64 w) (.int .i64 h) (.slice A N c) := by
    refine ⟨?_, ?_, ?_⟩ <;> (rw [World.cell?_alloc_past _ _ _ (by simp), World.cell?_alloc_at _ _ _ _ (by simp)]; rfl)
  have q2 : TB (((W.alloc (.cells #[.int .i64 dx, .int .i64 dy, .int .i64 n, .bool f] 31)).alloc (.cells #[.int .i64 w, .int .i64 h, .slice A N c] 27)).alloc (.cells #[.int .i64 0, .int .i64 0, .slice none 0 0] 27)) (W.heap.size + 1 + 1) := by
    have := heap_alloc_new ((W.alloc (.cells #[.int .i64 dx, .int .i64 dy, .int .i64 n, .bool f] 31)).alloc (.cells #[.int .i64 w, .int .i64 h, .slice A N c] 27)) (.cells #[.int .i64 0, .int .i64 0, .slice none 0 0] 27)
    simp only [World.size_alloc] at this
    exact ⟨_, _, _, _, this⟩
  have bb := al3 W (.cells #[.int .i64 dx, .int .i64 dy, .int .i64 n, .bool f] 31) (.cells #[.int .i64 w, .int .i64 h, .slice A N c] 27) (.cells #[.int .i64 0, .int .i64 0, .slice none 0 0] 27)
  have zz : (((W.alloc (.cells #[.int .i64 dx, .int .i64 dy, .int .i64 n, .bool f] 31)).alloc (.cells #[.int .i64 w, .int .i64 h, .slice A N c] 27)).alloc (.cells #[.int .i64 0, .int .i64 0, .slice none 0 0] 27)).heap.size = W.heap.size + 1 + 1 + 1 := by simp
  generalize (((W.alloc (.cells #[.int .i64 dx, .int .i64 dy, .int .i64 n, .bool f] 31)).alloc (.cells #[.int .i64 w, .int .i64 h, .slice A N c] 27)).alloc (.cells #[.int .i64 0, .int .i64 0, .slice none 0 0] 27)) = W3 at *
  have har : Ar (W3.alloc ob) (W.heap.size + 1 + 1 + 1) (apl w h ⟨dx, dy, n, f⟩ cs 0) := by rw [HOB.out, ← zz]; exact Ar.new W3 _ 3
  have e4 : Ext W3 (W3.alloc ob) := (Ext.refl _).alc _
  have z4 : (W3.alloc ob).heap.size = W.heap.size + 1 + 1 + 1 + 1 := by simp; omega
  generalize (W3.alloc ob) = W4 at *
  have zle : W.heap.size + 1 + 1 + 1 ≤ W3.heap.size := by omega
  have zge : W3.heap.size ≤ W.heap.size + 1 + 1 + 1 := by omega
  have zl4 : W.heap.size + 1 + 1 + 1 + 1 ≤ W4.heap.size := by omega
  have BB := Lib.hid bb; clear bb zz z4 hmk
  have Q0 := Lib.hid q0; have Q1 := Lib.hid q1; have Q2 := Lib.hid q2; clear q0 q1 q2
  have HAR := Lib.hid har; clear har
  have csz : ∀ W, Calls Try.prog 50 #[.agg #[.int .i64 w, .int .i64 h, .slice A N c]] W fun e W' => e = .returned (.agg #[.int .i64 w, .int .i64 h]) ∧ Ext W W' := fun W => sizeOf_any w h _ A N c W rfl
  have CSZ := Lib.hid csz; clear csz
  refine wp_region_noPanic ?_
  refine wp_region_held_drew (S := fun X => Ext W4 X) (by kernel_rfl) (Ext.drw (Ext.refl _)) (fun _ => ?_)
  refine wpAnyH_take (i := 0) (v := .agg #[.int .i64 w, .int .i64 h, .slice A N c]) rfl (by kernel_rfl) (by kernel_rfl) (by kernel_rfl) (fun _ _ _ h => h) (Or.inl ⟨by rfl, fun w' hSw => ?_⟩) (Ext.drw (Ext.refl _)) ?_
  · have q0 := keepAt hSw (by omega) (keepAt e4 (by omega) Q1.out.1)
    have q1 := keepAt hSw (by omega) (keepAt e4 (by omega) Q1.out.2.1)
    have q2 := keepAt hSw (by omega) (keepAt e4 (by omega) Q1.out.2.2)
    clear hSw
    go_simp
    all_goals (with_reducible rfl)
  try simp only [Act.put, List.setIfInBounds_toArray, List.set_cons_zero, List.set_cons_succ]
  refine wpAnyH_take (i := 2) (v := .agg #[.int .i64 dx, .int .i64 dy, .int .i64 n, .bool f]) rfl (by kernel_rfl) (by kernel_rfl) (by kernel_rfl) (fun _ _ _ h => h) (Or.inl ⟨by rfl, fun w' hSw => ?_⟩) (Ext.drw (Ext.refl _)) ?_
  · have q0 := keepAt hSw (by omega) (keepAt e4 (by omega) Q0.out.1)
    have q1 := keepAt hSw (by omega) (keepAt e4 (by omega) Q0.out.2.1)
    have q2 := keepAt hSw (by omega) (keepAt e4 (by omega) Q0.out.2.2.1)
    have q3 := keepAt hSw (by omega) (keepAt e4 (by omega) Q0.out.2.2.2)
    clear hSw
    go_simp
    all_goals (with_reducible rfl)
  try simp only [Act.put, List.setIfInBounds_toArray, List.set_cons_zero, List.set_cons_succ]
  refine wpAnyH_take (i := 5) (v := .int .i64 0) rfl (by kernel_rfl) (by kernel_rfl) (by kernel_rfl) (fun _ _ _ h => h) (Or.inl ⟨by rfl, fun w' hSw => ?_⟩) (Ext.drw (Ext.refl _)) ?_
  · skip
    clear hSw
    go_simp
    all_goals (with_reducible rfl)
  try simp only [Act.put, List.setIfInBounds_toArray, List.set_cons_zero, List.set_cons_succ]
  refine wpAnyH_ready (rs := [1]) (by kernel_rfl) (by simp) ?_
  refine AllReadyH.cons rfl (fun K hK => ?_) AllReadyH.nil
  go_simp
  refine (CSZ.out _).mono ?_
  rintro e v1 ⟨rfl, hb1⟩
  have e1 : Ext W4 v1 := (Ext.drw (Ext.refl _)).trans hb1
  try go_wp2_with fail
  refine hK.out _ _ e1 (fun _ => ?_)
  clear hK K
  try simp only [Act.put, List.setIfInBounds_toArray, List.set_cons_zero, List.set_cons_succ]
  refine wpAnyH_ready (rs := [3]) (by kernel_rfl) (by simp) ?_
  refine AllReadyH.cons rfl (fun K hK => ?_) AllReadyH.nil
  go_simp
  refine (HGO.out _).mono ?_
  rintro e v3 ⟨bg, og, cg, rfl, hbg, hcl, hb3⟩
  have e3 : Ext W4 v3 := (e1).trans hb3
  try go_wp2_with fail
  refine hK.out _ _ e3 (fun _ => ?_)
  clear hK K
  try simp only [Act.put, List.setIfInBounds_toArray, List.set_cons_zero, List.set_cons_succ]
  refine take_at 4 (some 16) (.int .i64 N) rfl rfl (by kernel_rfl) (by kernel_rfl) (by kernel_rfl) (fun _ _ _ h => h) (Or.inl ⟨by rfl, fun w' hSw => ?_⟩) (e3) ?_
  · skip
    clear hSw
    go_simp
    all_goals (with_reducible rfl)
  try simp only [Act.put, List.setIfInBounds_toArray, List.set_cons_zero, List.set_cons_succ]
  refine wpAnyH_done (by kernel_rfl) ?_ _
  refine NoPanic.normal ?_
  go_wp2_with fail
  have ARX := Lib.hid (HAR.out.ext e3)
  have E3 := e4.trans e3
  have hcell : Hid (∀ j, j < N → v3.cell? ⟨bg, og + j, none⟩ = some (.int .i64 (gN w h ⟨dx, dy, n, f⟩ j : Nat))) := Lib.hid hcl
  have hbg4 : W.heap.size + 1 + 1 + 1 < bg := by have := e1.size; omega
  have z3 := E3.size
  clear hcl hbg
  go_loopw [17] (fun i wr => ∃ k : Nat, i = .int .i64 k ∧ k ≤ N ∧ Hid (Ar wr (W.heap.size + 1 + 1 + 1) (apl w h ⟨dx, dy, n, f⟩ cs k)) ∧ Hid (∀ j, j < N → wr.cell? ⟨bg, og + j, none⟩ = some (.int .i64 (gN w h ⟨dx, dy, n, f⟩ j : Nat))) ∧ Ext W3 wr) (fun i _ => N - (intOf i).toNat)
  case atStart => exact ⟨0, rfl, Nat.zero_le _, ARX, hcell, E3⟩
  case round =>
    obtain ⟨k, rfl, hk, har, hcl, ex⟩ := hrel
    clear ARX hcell E3
    by_cases hlt : k < N
    · have hG := HGN.out k
      obtain ⟨G, hGe⟩ : ∃ G, G = gN w h ⟨dx, dy, n, f⟩ k := ⟨_, rfl⟩
      have hg1 := hcl.out k hlt
      rw [← hGe] at hG hg1
      have hGN := hG.1
      clear hG
      obtain ⟨x, hx⟩ : ∃ x, x = cs.getD k 0 := ⟨_, rfl⟩
      have hs1 := HC.out k hlt
      rw [← hx] at hs1
      have HS1 := Lib.hid (keepAt (nx BB.out ex) hb hs1)
      have hasu := apl_succ w h ⟨dx, dy, n, f⟩ cs k
      rw [← hGe, ← hx] at hasu
      have HASU := Lib.hid hasu
      clear hs1 hasu hGe hx
      have l2 := Lib.hid (keepAt ex (by omega) Q1.out.2.2)
      have hac := har.out.cell (j := G) (by rw [HLA.out]; exact hGN)
      have haf := har.out.frozen
      have hzx := ex.size
      have eA := HA.out
      subst eA
      have s1 := HS1.out
      have s2 := l2.out
      go_wp2
      go_roundw
      case rel =>
        refine ⟨k + 1, by go_num, by omega, ?_, ?_, ?_⟩
        · rw [HASU.out]
          exact Lib.hid (har.out.set G x)
        · refine Lib.hid (fun j hj => ?_)
          rw [World.cell?_setCell_other _ _ _ _ (by intro e; injection e with e1; omega)]
          exact hcl.out j hj
        · exact ex.sc (by omega)
      case measure => simp [intOf]; omega
    · obtain rfl : k = N := by omega
      have l0 := keepAt ex (by omega) Q1.out.1
      have l1 := keepAt ex (by omega) Q1.out.2.1
      have hil : Hid (Il wr (.slice (some ⟨W.heap.size + 1 + 1 + 1, 0, none⟩) k k) (apl w h ⟨dx, dy, n, f⟩ cs k)) := Lib.hid (by
        have := har.out.il k (by rw [HLA.out]; exact Nat.le_refl _) (by omega)
        rwa [HLA.out] at this)
      have hgt := (har.out).lt
      have HT := Lib.hid har
      clear har hcl
      obtain ⟨⟨_, _, _, r0, r1, r2⟩, rf⟩ := (Q2.out.ext ex).facts
      have zx := ex.size
      go_wp2
      refine bodyPost_ret (v := .agg #[.int .i64 w, .int .i64 h, .slice (some ⟨W.heap.size + 1 + 1 + 1, 0, none⟩) k k]) (by simp [results, Try.results52, go_sem, r0, r1, r2]) rfl ⟨_, rfl, ?_, ?_, ?_⟩
      · have := (((HT.out.out.far (g' := W.heap.size + 1 + 1) (i := 0) (v := .int .i64 w) (by omega)).far (g' := W.heap.size + 1 + 1) (i := 1) (v := .int .i64 h) (by omega)).far (g' := W.heap.size + 1 + 1) (i := 2) (v := .slice (some ⟨W.heap.size + 1 + 1 + 1, 0, none⟩) k k) (by omega)).il k (by rw [HLA.out]; exact Nat.le_refl _) (by omega)
        rwa [HLA.out] at this
      · intro a n' c' e
        injection e with e1
        injection e1 with e2
        rw [← e2]
        show _ ≤ W.heap.size + 1 + 1 + 1
        omega
      · exact sc (sc (sc (nx BB.out ex) (by omega) _) (by omega) _) (by omega) _
end Go.Proofs.Ytgjanbgehbpciaa
