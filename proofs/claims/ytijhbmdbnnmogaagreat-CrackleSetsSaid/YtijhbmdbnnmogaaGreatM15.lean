/- Walks: minus, compare, times of whole numbers. · Walks: naturals of ints; results copied. · Walks: Valid, allValid. -/
import Derived.Test.YtijhbmdbnnmogaaGreatM14
import Derived.Laws.CopyOwn
namespace Go.Proofs.YtijhbmdbnnmogaaGreat
open Go.RowKit

theorem World.size_drewN' (w : World) (k : Nat) : (w.drewN k).heap.size = w.heap.size := rfl

set_option maxHeartbeats 400000 in
set_option maxRecDepth 100000 in
/-- whole.minus -/
theorem minusZ_any (x y : Int) (u v : Value) (w : World) (hx : ZV w u x) (hy : ZV w v y) (lx : (dig x.natAbs).length ≤ 1000000) (ly : (dig y.natAbs).length ≤ 1000000) :
    Calls Tryz.prog 171 #[u, v] w (RetZ w (x - y)) := by
  obtain ⟨A, n, c, rfl, -, -, -⟩ := hx.open_
  obtain ⟨A', n', c', rfl, -, -, -⟩ := hy.open_
  obtain ⟨p, hp⟩ : ∃ p, p = decide (x < 0) := ⟨_, rfl⟩
  obtain ⟨q, hq⟩ : ∃ q, q = decide (y < 0) := ⟨_, rfl⟩
  rw [← hp] at hx ⊢
  rw [← hq] at hy ⊢
  clear hp hq
  have Hx := Lib.hid hx; clear hx
  have Hy := Lib.hid hy; clear hy
  go_enter Tryz.func171, Tryz.ntmps171
  go_wp2_with fail
  have hb3 := below3 w (Obj.cells #[.bool p, .slice A n c] 152) (Obj.cells #[.bool q, .slice A' n' c'] 152) (Obj.cells #[.bool false, .slice none 0 0] 152)
  have Hx3 := Lib.hid (Hx.out.below hb3)
  have Hy3 := Lib.hid (Hy.out.below hb3)
  have Hb3 := Lib.hid hb3; clear hb3
  have HR := Lib.hid (RB.a3 w false none 0 0 152 (Obj.cells #[.bool p, .slice A n c] 152) (Obj.cells #[.bool q, .slice A' n' c'] 152))
  go_region_held3 (fun w' => w'.cell? ⟨w.heap.size, 0, none⟩ = some (.bool p) ∧ w'.cell? ⟨w.heap.size, 1, none⟩ = some (.slice A n c) ∧ w'.cell? ⟨w.heap.size + 1, 0, none⟩ = some (.bool q) ∧ w'.cell? ⟨w.heap.size + 1, 1, none⟩ = some (.slice A' n' c'))
    (first | exact ⟨old1 0, old1 1, old2 0, old2 1⟩ | (go_split_ands; exact ⟨(far2 (by omega)).trans (by assumption), (far2 (by omega)).trans (by assumption), (far2 (by omega)).trans (by assumption), (far2 (by omega)).trans (by assumption)⟩) | (go_split_ands; exact ⟨keepAt hb1 (by simp <;> omega) (by assumption), keepAt hb1 (by simp <;> omega) (by assumption), keepAt hb1 (by simp <;> omega) (by assumption), keepAt hb1 (by simp <;> omega) (by assumption)⟩) | (go_split_ands; exact ⟨keepAt hb2 (by omega) (by assumption), keepAt hb2 (by omega) (by assumption), keepAt hb2 (by omega) (by assumption), keepAt hb2 (by omega) (by assumption)⟩))
    (first | (go_at_call 212; refine (asAgg (oppositeZ_any y _ _ (by exact Hy3.out))).mono ?_; rintro e w1 ⟨b4, A4, n4, c4, rfl, hr, hb1⟩; have z1 : w.heap.size + 1 + 1 + 1 ≤ w1.heap.size := (by have h := (undrew hb1).size; simp at h; omega); have hR1 := HR.out.below (undrew hb1) (by simp <;> omega); have hx1 := Hx3.out.below (undrew hb1)) | (go_at_call 206; refine (asAgg (plusZ_any x (-y) _ _ _ hx1 hr lx (by rw [Int.natAbs_neg]; exact ly))).mono ?_; rintro e w2 ⟨b5, A5, n5, c5, rfl, hr5, hb2⟩; have z2 := hb2.size; have hR := hR1.below hb2 (by omega); obtain ⟨a0, A0, n0, c0, k10, k11, k20, k21⟩ := hR.facts))
  have s0 := hR.set0 b5 (.slice A5 n5 c5)
  have s1 := hR.set1 b5 (.slice A5 n5 c5)
  have fin := And.intro (hr5.rb hR (.bool b5) (.slice A5 n5 c5)) (below_set2 (g := w.heap.size + 1 + 1) (i := 0) (j := 1) ((Hb3.out.trans ((undrew hb1).mono (by simp <;> omega))).trans (hb2.mono (by omega))) (by omega) (.bool b5) (.slice A5 n5 c5))
  have Fin := Lib.hid fin; clear fin
  go_wp2
  exact bodyPost_ret (v := .agg #[.bool b5, .slice A5 n5 c5]) (by simp [results, Tryz.results171, go_sem, s0, s1]) rfl ⟨_, rfl, by rw [Int.sub_eq_add_neg]; exact Fin.out.1, Fin.out.2⟩

theorem len_add {x y : Int} {k : Nat} (lx : (dig x.natAbs).length ≤ k) (ly : (dig y.natAbs).length ≤ k) : (dig (x + y).natAbs).length ≤ k + 1 := by
  have h1 := lt_of_dig_len lx
  have h2 := lt_of_dig_len ly
  apply dig_len_le
  rw [Nat.pow_succ]
  have : (x + y).natAbs ≤ x.natAbs + y.natAbs := Int.natAbs_add_le x y
  omega
theorem len_mul {x y : Int} {k l : Nat} (lx : (dig x.natAbs).length ≤ k) (ly : (dig y.natAbs).length ≤ l) : (dig (x * y).natAbs).length ≤ k + l := by
  have h1 := lt_of_dig_len lx
  have h2 := lt_of_dig_len ly
  apply dig_len_le
  rw [Int.natAbs_mul, Nat.pow_add]
  exact Nat.mul_lt_mul'' h1 h2

set_option maxRecDepth 100000 in
/-- whole.compare -/
theorem compareZ_any (x y : Int) (u v : Value) (w : World) (hx : ZV w u x) (hy : ZV w v y) (lx : (dig x.natAbs).length ≤ 1000000) (ly : (dig y.natAbs).length ≤ 1000000) :
    Calls Tryz.prog 122 #[u, v] w fun e w' => e = .returned (.int .i64 (x - y).sign) ∧ Below w.heap.size w w' := by
  obtain ⟨A, n, c, rfl, -, -, -⟩ := hx.open_
  obtain ⟨A', n', c', rfl, -, -, -⟩ := hy.open_
  obtain ⟨p, hp⟩ : ∃ p, p = decide (x < 0) := ⟨_, rfl⟩
  obtain ⟨q, hq⟩ : ∃ q, q = decide (y < 0) := ⟨_, rfl⟩
  rw [← hp] at hx ⊢
  rw [← hq] at hy ⊢
  clear hp hq
  have Hx := Lib.hid hx; clear hx
  have Hy := Lib.hid hy; clear hy
  go_enter Tryz.func122, Tryz.ntmps122
  go_wp2_with fail
  have hb2 := below2 w (Obj.cells #[.bool p, .slice A n c] 152) (Obj.cells #[.bool q, .slice A' n' c'] 152)
  refine (asAgg (minusZ_any x y _ _ _ (Hx.out.below hb2) (Hy.out.below hb2) lx ly)).mono ?_
  rintro e w1 ⟨b4, A4, n4, c4, rfl, hr, hb1⟩
  have hb := hb2.trans (hb1.mono (by simp; omega))
  clear hb1 hb2
  have Hr := Lib.hid hr; clear hr
  have Hb := Lib.hid hb; clear hb
  go_wp2_with fail
  refine (signZ_any (x - y) _ _ Hr.out).mono ?_
  rintro e w2 ⟨rfl, hb2⟩
  have hb := Hb.out.trans (hb2.mono Hb.out.size)
  obtain ⟨sg, hsg⟩ : ∃ sg, sg = (x - y).sign := ⟨_, rfl⟩
  rw [← hsg]
  have Hsg := Lib.hid hsg; clear hsg
  go_wp2
  go_ret
  exact ⟨by rw [← Hsg.out]; rfl, hb⟩

set_option maxHeartbeats 400000 in
set_option maxRecDepth 100000 in
/-- whole.times -/
theorem timesZ_any (x y : Int) (u v : Value) (w : World) (hx : ZV w u x) (hy : ZV w v y) (lx : (dig x.natAbs).length ≤ 1000000) (ly : (dig y.natAbs).length ≤ 1000000) :
    Calls Tryz.prog 205 #[u, v] w (RetZ w (x * y)) := by
  obtain ⟨A, n, c, rfl, hx0, -, -⟩ := hx.open_
  obtain ⟨A', n', c', rfl, hy0, -, -⟩ := hy.open_
  obtain ⟨p, hp⟩ : ∃ p, p = decide (x < 0) := ⟨_, rfl⟩
  obtain ⟨q, hq⟩ : ∃ q, q = decide (y < 0) := ⟨_, rfl⟩
  rw [← hp, ← hq]
  obtain ⟨sg, hsg⟩ : ∃ sg, sg = (p == q) := ⟨_, rfl⟩
  have hsg' : (p == q) = sg := hsg.symm
  have Hp := Lib.hid hp; clear hp
  have Hq := Lib.hid hq; clear hq
  have Hsg := Lib.hid hsg; clear hsg hx hy
  have Hx := Lib.hid hx0; clear hx0
  have Hy := Lib.hid hy0; clear hy0
  go_enter Tryz.func205, Tryz.ntmps205
  go_wp2_with fail
  have hb3 := below3 w (Obj.cells #[.bool p, .slice A n c] 152) (Obj.cells #[.bool q, .slice A' n' c'] 152) (Obj.cells #[.bool false, .slice none 0 0] 152)
  have Hx3 := Lib.hid (Hx.out.below hb3)
  have Hy3 := Lib.hid (Hy.out.below hb3)
  have Hb3 := Lib.hid hb3; clear hb3
  have HR := Lib.hid (RB.a3 w false none 0 0 152 (Obj.cells #[.bool p, .slice A n c] 152) (Obj.cells #[.bool q, .slice A' n' c'] 152))
  go_region_held3 (fun w' => w'.cell? ⟨w.heap.size, 0, none⟩ = some (.bool p) ∧ w'.cell? ⟨w.heap.size, 1, none⟩ = some (.slice A n c) ∧ w'.cell? ⟨w.heap.size + 1, 0, none⟩ = some (.bool q) ∧ w'.cell? ⟨w.heap.size + 1, 1, none⟩ = some (.slice A' n' c'))
    (first | exact ⟨old1 0, old1 1, old2 0, old2 1⟩ | (go_split_ands; exact ⟨(far2 (by omega)).trans (by assumption), (far2 (by omega)).trans (by assumption), (far2 (by omega)).trans (by assumption), (far2 (by omega)).trans (by assumption)⟩) | (go_split_ands; exact ⟨keepAt hb1 (by simp <;> omega) (by assumption), keepAt hb1 (by simp <;> omega) (by assumption), keepAt hb1 (by simp <;> omega) (by assumption), keepAt hb1 (by simp <;> omega) (by assumption)⟩) | (go_split_ands; exact ⟨keepAt hb2 (by omega) (by assumption), keepAt hb2 (by omega) (by assumption), keepAt hb2 (by omega) (by assumption), keepAt hb2 (by omega) (by assumption)⟩))
    (first | (go_at_call 226; refine (asSlice (timesE_any _ _ _ _ _ (by exact Hx3.out) (by exact Hy3.out) lx ly)).mono ?_; rintro e w1 ⟨A5, n5, c5, rfl, hr, hb1⟩; have z1 : w.heap.size + 1 + 1 + 1 ≤ w1.heap.size := (by have h := (undrew hb1).size; simp at h; omega); have hl5 := hr.len_le; have hR1 := HR.out.below (undrew hb1) (by simp <;> omega)) | (go_at_call 225; refine (signed_any (!sg) A5 n5 c5 _ hl5).mono ?_; rintro e w2 ⟨rfl, hb2⟩; have z2 := hb2.size; have hR := hR1.below hb2 (by omega); obtain ⟨a0, A0, n0, c0, k10, k11, k20, k21⟩ := hR.facts))
  have s0 := hR.set0 (!sg && decide (0 < n5)) (.slice A5 n5 c5)
  have s1 := hR.set1 (!sg && decide (0 < n5)) (.slice A5 n5 c5)
  have fin := And.intro ((hr.below hb2).rb hR (.bool (!sg && decide (0 < n5))) (.slice A5 n5 c5)) (below_set2 (g := w.heap.size + 1 + 1) (i := 0) (j := 1) ((Hb3.out.trans ((undrew hb1).mono (by simp <;> omega))).trans (hb2.mono (by omega))) (by omega) (.bool (!sg && decide (0 < n5))) (.slice A5 n5 c5))
  have Fin := Lib.hid fin; clear fin
  have hn5 := hr.len
  have Hn5 := Lib.hid hn5; clear hn5
  go_wp2
  refine bodyPost_ret (v := .agg #[.bool (!sg && decide (0 < n5)), .slice A5 n5 c5]) (by simp [results, Tryz.results205, go_sem, s0, s1]) rfl ⟨_, rfl, ZV.mk ?_ ?_, Fin.out.2⟩
  · rw [Hsg.out, Hp.out, Hq.out, Hn5.out, Bool.eq_iff_iff]
    simp only [Bool.and_eq_true, Bool.not_eq_true', beq_eq_false_iff_ne, ne_eq, decide_eq_decide, decide_eq_true_eq, dig_len_pos]
    rcases Int.lt_trichotomy x 0 with hx | hx | hx <;> rcases Int.lt_trichotomy y 0 with hy | hy | hy
    · have := Int.mul_pos_of_neg_of_neg hx hy; have h2 : 0 < x.natAbs * y.natAbs := Nat.mul_pos (by omega) (by omega); omega
    · subst hy; simp
    · have := Int.mul_neg_of_neg_of_pos hx hy; have h2 : 0 < x.natAbs * y.natAbs := Nat.mul_pos (by omega) (by omega); omega
    · subst hx; simp
    · subst hx; simp
    · subst hx; simp
    · have := Int.mul_neg_of_pos_of_neg hx hy; have h2 : 0 < x.natAbs * y.natAbs := Nat.mul_pos (by omega) (by omega); omega
    · subst hy; simp
    · have := Int.mul_pos hx hy; have h2 : 0 < x.natAbs * y.natAbs := Nat.mul_pos (by omega) (by omega); omega
  · rw [Int.natAbs_mul]; exact Fin.out.1
end Go.Proofs.YtijhbmdbnnmogaaGreat
namespace Go.Proofs.YtijhbmdbnnmogaaGreat
open Go.RowKit

theorem drop_len_U32s (l : List Nat) : (U32s l).size = l.length := by simp [U32s]

theorem copy_u32 (dT sT ty : TypeId) (hd : Tryz.prog.underlying dT = some (.slice 172)) (W : World) (g n c b off : Nat) (l : List Nat) (hn : n = l.length)
    (hg : W.heap[g]? = some (.cells (U32s (zeros n)) 172 (0, 0))) (hs : ∀ j, j < l.length → W.cell? ⟨b, off + j, none⟩ = some (.int .u32 (l.getD j 0 : Nat))) :
    (Builtin.copy_ #[dT, sT] ty #[.slice (some ⟨g, 0, none⟩) n n, .slice (some ⟨b, off, none⟩) n c]).run Tryz.prog W = .ok (.int .i64 n) (W.setRow g (U32s l)) := by
  have hsz : (Tryz.prog.info? 172).map (·.size) = some 1 := by kernel_rfl
  have hr := run_copy_row (P := Tryz.prog) W dT sT ty 172 g 0 n n ⟨b, off, none⟩ n c (U32s (zeros n)) 172 (U32s l).toList hd hsz hg (by simp [U32s, hn]) (fun j v hj => by
    have hjl : j < l.length := by
      have := (List.getElem?_eq_some_iff.1 hj).1
      simpa [U32s] using this
    have hv : v = .int .u32 (l.getD j 0 : Nat) := by
      have h2 := U32s_get hjl
      rw [← Array.getElem?_toList, hj] at h2
      exact Option.some.inj h2
    rw [hv]
    have e : (⟨b, off, none⟩ : Addr).add j = ⟨b, off + j, none⟩ := by unfold Addr.add; split <;> simp_all
    rw [e]
    exact hs j hjl) (by simp [U32s, zeros, hn]) (fun v hv => by
    simp [U32s] at hv
    obtain ⟨x, _, rfl⟩ := hv
    rfl)
  rw [hr]
  have e1 : (U32s l).toList.length = n := by simp [U32s, hn]
  have e2 : ((U32s (zeros n)).toList.take 0 ++ (U32s l).toList ++ (U32s (zeros n)).toList.drop (0 + (U32s l).toList.length)).toArray = U32s l := by
    have e3 : (U32s (zeros n)).toList.drop (0 + (U32s l).toList.length) = [] := by
      apply List.drop_of_length_le
      simp [U32s, zeros, hn]
    rw [e3]; simp
  rw [e2, e1]
  rfl

theorem Blk.setRow {W : World} {g : Nat} {l l' : List Nat} (h : Blk W g l) : Blk (W.setRow g (U32s l')) g l' := by
  unfold Blk at h ⊢
  exact setRow_heap W g _ _ 172 (0, 0) h
theorem RB.alloc {W : World} {g : Nat} (r : RB W g) (o : Obj) : RB (W.alloc o) g := by
  have hl := r.lt
  obtain ⟨a, A, n, c, t, hh⟩ := r
  exact ⟨a, A, n, c, t, by rw [Below.heap_alloc _ _ _ hl]; exact hh⟩
theorem RB.setRow {W : World} {g h : Nat} (r : RB W g) (hne : g ≠ h) (cs : Array Value) : RB (W.setRow h cs) g := by
  obtain ⟨a, A, n, c, t, hh⟩ := r
  exact ⟨a, A, n, c, t, by rw [setRow_other W h g cs hne]; exact hh⟩
theorem cell_setRow {W : World} {g h i : Nat} (hne : g ≠ h) (cs : Array Value) : (W.setRow h cs).cell? ⟨g, i, none⟩ = W.cell? ⟨g, i, none⟩ :=
  World.cell?_of_block (w := W) (setRow_other W h g cs hne)


set_option maxRecDepth 100000 in
theorem intOf_zero (a : Value) (w : World) (ha : ZV w a 0) : Calls Tryz.prog 118 #[a] w (RetZ w 0) := by
  obtain ⟨A, n, c, rfl, -, -, -⟩ := ha.open_
  obtain ⟨p, hp⟩ : ∃ p, p = decide ((0 : Int) < 0) := ⟨_, rfl⟩
  rw [← hp] at ha ⊢
  clear hp
  have Ha := Lib.hid ha; clear ha
  go_enter Tryz.func118, Tryz.ntmps118
  go_wp2_with fail
  have hb2 := below2 w (Obj.cells #[.bool p, .slice A n c] 152) (Obj.cells #[.bool false, .slice none 0 0] 56)
  refine (signZ_any 0 _ _ (Ha.out.below hb2)).mono ?_
  rintro e w1 ⟨rfl, hb1⟩
  rw [Int.sign_zero]
  have hR := (RB.b2 w false none 0 0 56 (Obj.cells #[.bool p, .slice A n c] 152)).below hb1 (by simp)
  obtain ⟨a0, A0, n0, c0, k10, k11, k20, k21⟩ := hR.facts
  have s0 := hR.set0 false (.slice none 0 0)
  have s1 := hR.set1 false (.slice none 0 0)
  have hb := below_set2 (g := w.heap.size + 1) (i := 0) (j := 1) (hb2.trans (hb1.mono (by simp; omega))) (by omega) (.bool false) (.slice none 0 0)
  have Hb := Lib.hid hb; clear hb hb1 hb2 hR
  go_wp2
  exact bodyPost_ret (v := .agg #[.bool false, .slice none 0 0]) (by simp [results, Tryz.results118, go_sem, s0, s1]) rfl ⟨_, rfl, ZV.mk (by simp) (by rw [Int.natAbs_zero, dig_zero]; exact Wd.nil_ _), Hb.out⟩

set_option maxRecDepth 100000 in
theorem intOf_ne (z : Int) (a : Value) (w : World) (ha : ZV w a z) (hz : z ≠ 0) (hlen : (dig z.natAbs).length ≤ 1000000) : Calls Tryz.prog 118 #[a] w (RetZ w z) := by
  obtain ⟨A, n, c, rfl, hv, hn, -⟩ := ha.open_
  have hnp : 0 < n := by rw [hn]; exact dig_len_pos.2 (by omega)
  obtain ⟨A', c', he, -, -, hok, hcells⟩ := hv
  injection he with e1 e2 e3
  subst e1 e3
  obtain ⟨b, off, rfl, hbl, hc⟩ := hcells (by rw [← e2]; exact hnp)
  clear e2
  obtain ⟨p, hp⟩ : ∃ p, p = decide (z < 0) := ⟨_, rfl⟩
  rw [← hp] at ha ⊢
  obtain ⟨l, hl⟩ : ∃ l, l = dig z.natAbs := ⟨_, rfl⟩
  rw [← hl] at hn hok hc hlen
  have hn6 : n ≤ 1000000 := by omega
  have Ha := Lib.hid ha; clear ha
  have Hc := Lib.hid hc; clear hc
  have Hp := Lib.hid hp; clear hp
  have Hn := Lib.hid hn; clear hn hlen hcells
  have Hl := Lib.hid hl; clear hl
  go_enter Tryz.func118, Tryz.ntmps118
  go_wp2_with fail
  have hb2 := below2 w (Obj.cells #[.bool p, .slice (some ⟨b, off, none⟩) n c] 152) (Obj.cells #[.bool false, .slice none 0 0] 56)
  have o10 := RB.b1 w p (some ⟨b, off, none⟩) n c 152 (Obj.cells #[.bool false, .slice none 0 0] 56)
  refine (signZ_any z _ _ (Ha.out.below hb2)).mono ?_
  rintro e w1 ⟨rfl, hb1⟩
  obtain ⟨sg, hsg⟩ : ∃ sg, sg = z.sign := ⟨_, rfl⟩
  rw [← hsg]
  have hsg0 : (sg == 0) = false := by rw [hsg]; simpa using hz
  clear hsg
  have z1 : w.heap.size + 1 + 1 ≤ w1.heap.size := by have := hb1.size; simpa using this
  have q0 : w1.cell? ⟨w.heap.size, 0, none⟩ = some (.bool p) := keepAt hb1 (by simp <;> omega) (by rw [World.cell?_alloc_past _ _ _ (by simp), World.cell?_alloc_new]; rfl)
  have q1 : w1.cell? ⟨w.heap.size, 1, none⟩ = some (.slice (some ⟨b, off, none⟩) n c) := keepAt hb1 (by simp <;> omega) (by rw [World.cell?_alloc_past _ _ _ (by simp), World.cell?_alloc_new]; rfl)
  have hR1 := (RB.b2 w false none 0 0 56 (Obj.cells #[.bool p, .slice (some ⟨b, off, none⟩) n c] 152)).below hb1 (by simp)
  have hb01 := hb2.trans (hb1.mono (by simp; omega))
  have hmk : ∀ w, (Instr.makeSlice 54 (.int .i64 (n : Int)) (.int .i64 (n : Int))).run Tryz.prog w = .ok (.slice (some ⟨w.heap.size, 0, none⟩) n n) (w.alloc (.cells (U32s (zeros n)) 172)) := fun w => make_u32 54 Tryz.underlying54 n (by omega) w
  have hbk : Blk (w1.alloc (.cells (U32s (zeros n)) 172)) w1.heap.size (zeros n) := heap_alloc_new _ _
  have hb02 : Below w.heap.size w (w1.alloc (.cells (U32s (zeros n)) 172)) := hb01.alloc hb01.size _
  have hcp : ∀ ty, (Builtin.copy_ #[54, 150] ty #[.slice (some ⟨w1.heap.size, 0, none⟩) n n, .slice (some ⟨b, off, none⟩) n c]).run Tryz.prog (w1.alloc (.cells (U32s (zeros n)) 172)) = .ok (.int .i64 n) ((w1.alloc (.cells (U32s (zeros n)) 172)).setRow w1.heap.size (U32s l)) :=
    fun ty => copy_u32 54 150 ty Tryz.underlying54 _ _ n c b off l Hn.out hbk (fun j hj => (hb02.cell (p := ⟨b, off + j, none⟩) hbl).trans (Hc.out j hj))
  have hR2 := (hR1.alloc (.cells (U32s (zeros n)) 172)).setRow (by omega) (U32s l) (h := w1.heap.size)
  have t0 : ((w1.alloc (.cells (U32s (zeros n)) 172)).setRow w1.heap.size (U32s l)).cell? ⟨w.heap.size, 0, none⟩ = some (.bool p) := by rw [cell_setRow (by omega), World.cell?_alloc_past _ _ _ (by omega)]; exact q0
  have t1 : ((w1.alloc (.cells (U32s (zeros n)) 172)).setRow w1.heap.size (U32s l)).cell? ⟨w.heap.size, 1, none⟩ = some (.slice (some ⟨b, off, none⟩) n c) := by rw [cell_setRow (by omega), World.cell?_alloc_past _ _ _ (by omega)]; exact q1
  have u0 : (w1.alloc (.cells (U32s (zeros n)) 172)).cell? ⟨w.heap.size, 0, none⟩ = some (.bool p) := by rw [World.cell?_alloc_past _ _ _ (by omega)]; exact q0
  have u1 : (w1.alloc (.cells (U32s (zeros n)) 172)).cell? ⟨w.heap.size, 1, none⟩ = some (.slice (some ⟨b, off, none⟩) n c) := by rw [World.cell?_alloc_past _ _ _ (by omega)]; exact q1
  have hnl := Hn.out
  have hw := (hbk.setRow (l' := l)).wd hok (by omega) n (by omega) (by omega)
  rw [← hnl] at hw
  have hb03 : Below w.heap.size w ((w1.alloc (.cells (U32s (zeros n)) 172)).setRow w1.heap.size (U32s l)) := below_setRow hb02 hb01.size _
  obtain ⟨a0, A0, n0, c0, k10, k11, k20, k21⟩ := hR2.facts
  have s0 := hR2.set0 p (.slice (some ⟨w1.heap.size, 0, none⟩) n n)
  have s1 := hR2.set1 p (.slice (some ⟨w1.heap.size, 0, none⟩) n n)
  have fin := And.intro (hw.rb hR2 (.bool p) (.slice (some ⟨w1.heap.size, 0, none⟩) n n)) (below_set2 (g := w.heap.size + 1) (i := 0) (j := 1) hb03 (by omega) (.bool p) (.slice (some ⟨w1.heap.size, 0, none⟩) n n))
  have Fin := Lib.hid fin
  clear fin hw hb03 hR2 hbk hb02 hb01 hR1 hb1 hb2 o10 hnl
  go_wp2
  refine bodyPost_ret (v := .agg #[.bool p, .slice (some ⟨w1.heap.size, 0, none⟩) n n]) (by simp [results, Tryz.results118, go_sem, s0, s1]) rfl ⟨_, rfl, ZV.mk Hp.out ?_, Fin.out.2⟩
  rw [← Hl.out]
  exact Fin.out.1

/-- exact.intOf -/
theorem intOf_any (z : Int) (a : Value) (w : World) (ha : ZV w a z) (hlen : (dig z.natAbs).length ≤ 1000000) : Calls Tryz.prog 118 #[a] w (RetZ w z) := by
  by_cases hz : z = 0
  · subst hz; exact intOf_zero a w ha
  · exact intOf_ne z a w ha hz hlen

/-- exact.fits -/
theorem fits_any (z : Int) (a : Value) (w : World) (ha : ZV w a z) : Calls Tryz.prog 202 #[a] w fun e w' => e = .returned (.bool (decide ((dig z.natAbs).length ≤ 256))) ∧ Below w.heap.size w w' := by
  obtain ⟨A, n, c, rfl, -, hn, -⟩ := ha.open_
  rw [← hn]
  clear ha hn
  have hb := below_alloc w (Obj.cells #[.bool (decide (z < 0)), .slice A n c] 152)
  obtain ⟨p, hp⟩ : ∃ p, p = decide (z < 0) := ⟨_, rfl⟩
  rw [← hp] at hb ⊢
  have Hb := Lib.hid hb; clear hb hp
  go_enter Tryz.func202, Tryz.ntmps202
  go_wp2
  go_ret
  exact ⟨by simp; omega, Hb.out⟩

set_option maxRecDepth 100000 in
/-- exact.fitInt -/
theorem fitInt_yes (z : Int) (a : Value) (w : World) (ha : ZV w a z) (hlen : (dig z.natAbs).length ≤ 256) :
    Calls Tryz.prog 232 #[a] w fun e w' => ∃ b A n c, e = .returned (.tuple #[.agg #[.bool b, .slice A n c], .int .i64 0]) ∧ ZV w' (.agg #[.bool b, .slice A n c]) z ∧ Below w.heap.size w w' := by
  obtain ⟨A, n, c, rfl, -, -, -⟩ := ha.open_
  obtain ⟨p, hp⟩ : ∃ p, p = decide (z < 0) := ⟨_, rfl⟩
  rw [← hp] at ha ⊢
  clear hp
  have hd : decide ((dig z.natAbs).length ≤ 256) = true := by simpa using hlen
  have Ha := Lib.hid ha; clear ha
  have Hd := Lib.hid hd; clear hd
  go_enter Tryz.func232, Tryz.ntmps232
  go_wp2_with fail
  have hb2 := below2 w (Obj.cells #[.bool p, .slice A n c] 152) (Obj.cells #[.bool false, .slice none 0 0] 56)
  have hR2 := RB.b2 w false none 0 0 56 (Obj.cells #[.bool p, .slice A n c] 152)
  refine (fits_any z _ _ (Ha.out.below hb2)).mono ?_
  rintro e w1 ⟨rfl, hb1⟩
  rw [Hd.out]
  have z1 : w.heap.size + 1 + 1 ≤ w1.heap.size := by have := hb1.size; simpa using this
  have q0 : w1.cell? ⟨w.heap.size, 0, none⟩ = some (.bool p) := keepAt hb1 (by simp <;> omega) (by rw [World.cell?_alloc_past _ _ _ (by simp), World.cell?_alloc_new]; rfl)
  have q1 : w1.cell? ⟨w.heap.size, 1, none⟩ = some (.slice A n c) := keepAt hb1 (by simp <;> omega) (by rw [World.cell?_alloc_past _ _ _ (by simp), World.cell?_alloc_new]; rfl)
  have hR1 := Lib.hid (hR2.below hb1 (by simp))
  have ha1 := Lib.hid (Ha.out.below (hb2.trans (hb1.mono (by simp; omega))))
  have hb01 := Lib.hid (hb2.trans (hb1.mono (by simp; omega)))
  clear hb1 hb2 hR2
  go_wp2_with fail
  refine (asAgg (intOf_any z _ _ ha1.out (by omega))).mono ?_
  rintro e w2 ⟨b, A3, n3, c3, rfl, hr, hb3⟩
  have hR := hR1.out.below hb3 (by omega)
  obtain ⟨a0, A0, n0, c0, k10, k11, k20, k21⟩ := hR.facts
  have s0 := hR.set0 b (.slice A3 n3 c3)
  have s1 := hR.set1 b (.slice A3 n3 c3)
  have fin := And.intro (hr.rb hR (.bool b) (.slice A3 n3 c3)) (below_set2 (g := w.heap.size + 1) (i := 0) (j := 1) (hb01.out.trans (hb3.mono hb01.out.size)) (by omega) (.bool b) (.slice A3 n3 c3))
  have Fin := Lib.hid fin; clear fin hb3 hR
  go_wp2
  exact bodyPost_ret (v := .tuple #[.agg #[.bool b, .slice A3 n3 c3], .int .i64 0]) (by simp [results, Tryz.results232, go_sem, s0, s1]) rfl ⟨b, A3, n3, c3, rfl, Fin.out.1, Fin.out.2⟩

set_option maxRecDepth 100000 in
theorem fitInt_no (z : Int) (a : Value) (w : World) (ha : ZV w a z) (hlen : 256 < (dig z.natAbs).length) :
    Calls Tryz.prog 232 #[a] w fun e w' => e = .returned (.tuple #[.agg #[.bool false, .slice none 0 0], .int .i64 5]) ∧ Below w.heap.size w w' := by
  obtain ⟨A, n, c, rfl, -, -, -⟩ := ha.open_
  obtain ⟨p, hp⟩ : ∃ p, p = decide (z < 0) := ⟨_, rfl⟩
  rw [← hp] at ha ⊢
  clear hp
  have hd : decide ((dig z.natAbs).length ≤ 256) = false := by simp; omega
  have Ha := Lib.hid ha; clear ha
  have Hd := Lib.hid hd; clear hd
  go_enter Tryz.func232, Tryz.ntmps232
  go_wp2_with fail
  have hb2 := below2 w (Obj.cells #[.bool p, .slice A n c] 152) (Obj.cells #[.bool false, .slice none 0 0] 56)
  have hR2 := RB.b2 w false none 0 0 56 (Obj.cells #[.bool p, .slice A n c] 152)
  refine (fits_any z _ _ (Ha.out.below hb2)).mono ?_
  rintro e w1 ⟨rfl, hb1⟩
  rw [Hd.out]
  have hR := hR2.below hb1 (by simp)
  obtain ⟨a0, A0, n0, c0, k10, k11, k20, k21⟩ := hR.facts
  have s0 := hR.set0 false (.slice none 0 0)
  have s1 := hR.set1 false (.slice none 0 0)
  have fin := below_set2 (g := w.heap.size + 1) (i := 0) (j := 1) (hb2.trans (hb1.mono (by simp; omega))) (by omega) (.bool false) (.slice none 0 0)
  have Fin := Lib.hid fin; clear fin hb1 hb2 hR hR2
  go_wp2
  exact bodyPost_ret (v := .tuple #[.agg #[.bool false, .slice none 0 0], .int .i64 5]) (by simp [results, Tryz.results232, go_sem, s0, s1]) rfl ⟨rfl, Fin.out⟩
end Go.Proofs.YtijhbmdbnnmogaaGreat
namespace Go.Proofs.YtijhbmdbnnmogaaGreat
open Go.RowKit

/-- is a struct of a sign and words the only form of its number? -/
def vld (neg : Bool) (l : List Nat) : Bool := if l.length = 0 then !neg else (decide (l.length ≤ 256) && !decide (l.getD (l.length - 1) 0 = 0))

/-- the number that it stands for -/
def numOf (neg : Bool) (l : List Nat) : Int := if neg then -(val l : Int) else (val l : Int)

theorem vld_len {neg : Bool} {l : List Nat} (h : vld neg l = true) : l.length ≤ 256 := by
  unfold vld at h
  split at h
  · omega
  · simp at h; exact h.1
theorem vld_norm {neg : Bool} {l : List Nat} (h : vld neg l = true) : Norm l := by
  unfold vld at h
  split at h
  · rename_i h0
    rw [List.eq_nil_of_length_eq_zero h0]; exact Norm.nil
  · rename_i h0
    simp at h
    unfold Norm
    rw [List.getLast?_eq_getElem?]
    have hl : l.length - 1 < l.length := by omega
    rw [List.getElem?_eq_getElem hl]
    have h2 := h.2
    rw [List.getElem?_eq_getElem hl] at h2
    simpa using h2
theorem vld_dig {neg : Bool} {l : List Nat} (ho : Ok l) (h : vld neg l = true) : dig (numOf neg l).natAbs = l := by
  have : (numOf neg l).natAbs = val l := by unfold numOf; split <;> omega
  rw [this]
  exact dig_val ho (vld_norm h)
theorem vld_neg {neg : Bool} {l : List Nat} (ho : Ok l) (h : vld neg l = true) : neg = decide (numOf neg l < 0) := by
  unfold numOf
  cases neg
  · simp
  · have hne : l.length ≠ 0 := by
      intro h0; unfold vld at h; rw [if_pos h0] at h; simp at h
    have hp := val_pos_of_norm (vld_norm h) (by intro e; rw [e] at hne; simp at hne)
    simp; omega
theorem vld_zv {w : World} {neg : Bool} {v : Value} {l : List Nat} (hv : Wd w v l) (h : vld neg l = true) : ZV w (.agg #[.bool neg, v]) (numOf neg l) :=
  ZV.mk (vld_neg hv.ok h) (by rw [vld_dig hv.ok h]; exact hv)

theorem below1 (w : World) (o : Obj) : Below w.heap.size w (w.alloc o) := below_alloc w o

set_option maxRecDepth 100000 in
/-- exact.Valid -/
theorem validE_any (neg : Bool) (A : Option Addr) (n c : Nat) (l : List Nat) (w : World) (hv : Wd w (.slice A n c) l) :
    Calls Tryz.prog 170 #[.agg #[.bool neg, .slice A n c]] w fun e w' => e = .returned (.bool (vld neg l)) ∧ Below w.heap.size w w' := by
  have hb := below1 w (Obj.cells #[.bool neg, .slice A n c] 56)
  have Hb := Lib.hid hb; clear hb
  have hn := hv.len
  have hl := hv.len_le
  obtain ⟨A', c', he, -, -, hok, hcells⟩ := hv
  injection he with e1 e2 e3
  subst e1 e3
  rw [← e2] at hcells
  clear e2
  by_cases h0 : n = 0
  · subst h0
    have hr : vld neg l = !neg := by unfold vld; rw [if_pos hn.symm]
    have Hr := Lib.hid hr; clear hr hcells hn
    go_enter Tryz.func170, Tryz.ntmps170
    go_wp2
    go_ret
    exact ⟨by rw [Hr.out]; rfl, Hb.out⟩
  · obtain ⟨b, off, rfl, hbl, hc⟩ := hcells (by omega)
    have h1 := hc (n - 1) (by omega)
    obtain ⟨x, hx⟩ : ∃ x, x = l.getD (n - 1) 0 := ⟨_, rfl⟩
    rw [← hx] at h1
    have h1' : (w.alloc (Obj.cells #[.bool neg, .slice (some ⟨b, off, none⟩) n c] 56)).cell? ⟨b, off + (n - 1), none⟩ = some (.int .u32 x) := by rw [World.cell?_alloc_past _ _ _ hbl]; exact h1
    have hr : vld neg l = (decide (n ≤ 256) && !decide (x = 0)) := by unfold vld; rw [if_neg (by omega), ← hn, ← hx]
    have Hr := Lib.hid hr; clear hr hcells hc hx hn
    by_cases h2 : n ≤ 256
    · have h2b : decide ((n : Int) ≤ 256) = true := by simp; omega
      by_cases h3 : x = 0
      · subst h3
        go_enter Tryz.func170, Tryz.ntmps170
        go_wp2
        go_ret
        exact ⟨by rw [Hr.out]; simp [h2], Hb.out⟩
      · have h4 : ((x : Int) != 0) = true := by simp; omega
        go_enter Tryz.func170, Tryz.ntmps170
        go_wp2
        go_ret
        exact ⟨by rw [Hr.out]; simp [h2, h3], Hb.out⟩
    · have h4 : decide ((n : Int) ≤ 256) = false := by simp; omega
      go_enter Tryz.func170, Tryz.ntmps170
      go_wp2
      go_ret
      exact ⟨by rw [Hr.out]; simp [h2], Hb.out⟩

set_option maxRecDepth 100000 in
/-- exact.allValid -/
theorem allValid_any (m cap g : Nat) (N : Nat → Bool) (AA : Nat → Option Addr) (nn cc : Nat → Nat) (L : Nat → List Nat) (w : World) (hm : m ≤ 1000) (hg : g < w.heap.size)
    (h0 : ∀ i, i < m → w.cell? ⟨g, i * 2, none⟩ = some (.bool (N i))) (h1 : ∀ i, i < m → w.cell? ⟨g, i * 2 + 1, none⟩ = some (.slice (AA i) (nn i) (cc i)))
    (hL : ∀ i, i < m → Wd w (.slice (AA i) (nn i) (cc i)) (L i)) :
    Calls Tryz.prog 120 #[.slice (some ⟨g, 0, none⟩) m cap] w fun e w' => e = .returned (.bool ((List.range m).all fun i => vld (N i) (L i))) ∧ Below w.heap.size w w' := by
  have H0 := Lib.hid h0; clear h0
  have H1 := Lib.hid h1; clear h1
  have HL := Lib.hid hL; clear hL
  go_enter Tryz.func120, Tryz.ntmps120
  go_wp2_with fail
  go_loopw [7] (fun i wr => ∃ k : Nat, i = .int .i64 k ∧ k ≤ m ∧ Below w.heap.size w wr ∧ ∀ j, j < k → vld (N j) (L j) = true) (fun i _ => m - (intOf i).toNat)
  case atStart => exact ⟨0, rfl, Nat.zero_le _, Below.refl _ _, fun j hj => by omega⟩
  case round =>
    obtain ⟨k, rfl, hk, hbel, hall⟩ := hrel
    have HA := Lib.hid hall; clear hall
    by_cases hlt : k < m
    · have a0 := (hbel.cell (p := ⟨g, k * 2, none⟩) hg).trans (H0.out k hlt)
      have a1 := (hbel.cell (p := ⟨g, k * 2 + 1, none⟩) hg).trans (H1.out k hlt)
      have hl := (HL.out k hlt).below hbel
      obtain ⟨p, hp⟩ : ∃ p, p = N k := ⟨_, rfl⟩
      obtain ⟨A, hA⟩ : ∃ A, A = AA k := ⟨_, rfl⟩
      obtain ⟨n, hn⟩ : ∃ n, n = nn k := ⟨_, rfl⟩
      obtain ⟨c, hc⟩ : ∃ c, c = cc k := ⟨_, rfl⟩
      rw [← hA, ← hn, ← hc] at a1 hl
      rw [← hp] at a0
      clear hA hn hc
      have Hp := Lib.hid hp; clear hp
      have Hl := Lib.hid hl; clear hl
      go_wp2_with fail
      have hb2 := below1 wr (Obj.cells #[.bool p, .slice A n c] 56)
      refine (validE_any p A n c (L k) _ (Hl.out.below hb2)).mono ?_
      rintro e w2 ⟨rfl, hb3⟩
      have hb4 := hbel.trans ((hb2.trans (hb3.mono (by simp))).mono hbel.size)
      clear hb2 hb3
      by_cases hvd : vld p (L k) = true
      · rw [hvd]
        have Hvd := Lib.hid hvd; clear hvd
        go_wp2
        go_roundw
        case rel =>
          refine ⟨k + 1, by go_num, by omega, hb4, fun j hj => ?_⟩
          by_cases e : j = k
          · rw [e, ← Hp.out]; exact Hvd.out
          · exact HA.out j (by omega)
        case measure => simp [intOf]; omega
      · have hvf : vld p (L k) = false := by simpa using hvd
        have hr : ((List.range m).all fun i => vld (N i) (L i)) = false := by
          rw [List.all_eq_false]
          exact ⟨k, List.mem_range.2 hlt, by rw [← Hp.out]; exact hvd⟩
        have Hr := Lib.hid hr; clear hr hvd
        rw [hvf]
        clear hvf
        go_wp2
        go_ret
        exact ⟨by rw [Hr.out]; rfl, hb4⟩
    · have hr : ((List.range m).all fun i => vld (N i) (L i)) = true := by
        rw [List.all_eq_true]
        intro i hi
        exact HA.out i (by have := List.mem_range.1 hi; omega)
      have Hr := Lib.hid hr; clear hr
      go_wp2
      go_ret
      exact ⟨by rw [Hr.out]; rfl, hbel⟩
end Go.Proofs.YtijhbmdbnnmogaaGreat
