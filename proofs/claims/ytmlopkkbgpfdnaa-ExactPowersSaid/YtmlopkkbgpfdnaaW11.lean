/- Walks: naturals of ints; results copied. -/
import Derived.Test.YtmlopkkbgpfdnaaW10
import Derived.Laws.CopyOwn
namespace Go.Proofs.Ytmlopkkbgpfdnaa
open Go.RowKit

theorem drop_len_U32s (l : List Nat) : (U32s l).size = l.length := by simp [U32s]

theorem copy_u32 (dT sT ty : TypeId) (hd : Try.prog.underlying dT = some (.slice 66)) (W : World) (g n c b off : Nat) (l : List Nat) (hn : n = l.length)
    (hg : W.heap[g]? = some (.cells (U32s (zeros n)) 66 (0, 0))) (hs : ∀ j, j < l.length → W.cell? ⟨b, off + j, none⟩ = some (.int .u32 (l.getD j 0 : Nat))) :
    (Builtin.copy_ #[dT, sT] ty #[.slice (some ⟨g, 0, none⟩) n n, .slice (some ⟨b, off, none⟩) n c]).run Try.prog W = .ok (.int .i64 n) (W.setRow g (U32s l)) := by
  have hsz : (Try.prog.info? 66).map (·.size) = some 1 := by kernel_rfl
  have hr := run_copy_row (P := Try.prog) W dT sT ty 66 g 0 n n ⟨b, off, none⟩ n c (U32s (zeros n)) 66 (U32s l).toList hd hsz hg (by simp [U32s, hn]) (fun j v hj => by
    have hjl : j < l.length := by
      have := (List.getElem?_eq_some_iff.1 hj).1
      simpa [U32s] using this
    have hv : v = .int .u32 (l.getD j 0 : Nat) := by
      have h2 := U32s_get hjl
      rw [← Array.getElem?_toList, hj] at h2
      exact Option.some.inj h2
    rw [hv]
    have e : (⟨b, off, none⟩ : Addr).add j = ⟨b, off + j, none⟩ := by unfold Addr.add; split <;> simp_all
    rw [e]
    exact hs j hjl) (by simp [U32s, zeros, hn]) (fun v hv => by
    simp [U32s] at hv
    obtain ⟨x, _, rfl⟩ := hv
    rfl)
  rw [hr]
  have e1 : (U32s l).toList.length = n := by simp [U32s, hn]
  have e2 : ((U32s (zeros n)).toList.take 0 ++ (U32s l).toList ++ (U32s (zeros n)).toList.drop (0 + (U32s l).toList.length)).toArray = U32s l := by
    have e3 : (U32s (zeros n)).toList.drop (0 + (U32s l).toList.length) = [] := by
      apply List.drop_of_length_le
      simp [U32s, zeros, hn]
    rw [e3]; simp
  rw [e2, e1]
  rfl

theorem Blk.setRow {W : World} {g : Nat} {l l' : List Nat} (h : Blk W g l) : Blk (W.setRow g (U32s l')) g l' := by
  unfold Blk at h ⊢
  exact setRow_heap W g _ _ 66 (0, 0) h
theorem RB.alloc {W : World} {g : Nat} (r : RB W g) (o : Obj) : RB (W.alloc o) g := by
  have hl := r.lt
  obtain ⟨a, A, n, c, t, hh⟩ := r
  exact ⟨a, A, n, c, t, by rw [Below.heap_alloc _ _ _ hl]; exact hh⟩
theorem RB.setRow {W : World} {g h : Nat} (r : RB W g) (hne : g ≠ h) (cs : Array Value) : RB (W.setRow h cs) g := by
  obtain ⟨a, A, n, c, t, hh⟩ := r
  exact ⟨a, A, n, c, t, by rw [setRow_other W h g cs hne]; exact hh⟩
theorem cell_setRow {W : World} {g h i : Nat} (hne : g ≠ h) (cs : Array Value) : (W.setRow h cs).cell? ⟨g, i, none⟩ = W.cell? ⟨g, i, none⟩ :=
  World.cell?_of_block (w := W) (setRow_other W h g cs hne)


set_option maxRecDepth 100000 in
theorem intOf_zero (a : Value) (w : World) (ha : ZV w a 0) : Calls Try.prog 53 #[a] w (RetZ w 0) := by
  obtain ⟨A, n, c, rfl, -, -, -⟩ := ha.open_
  obtain ⟨p, hp⟩ : ∃ p, p = decide ((0 : Int) < 0) := ⟨_, rfl⟩
  rw [← hp] at ha ⊢
  clear hp
  have Ha := Lib.hid ha; clear ha
  go_enter Try.func53, Try.ntmps53
  go_wp2_with fail
  have hb2 := below2 w (Obj.cells #[.bool p, .slice A n c] 60) (Obj.cells #[.bool false, .slice none 0 0] 24)
  refine (signZ_any 0 _ _ (Ha.out.below hb2)).mono ?_
  rintro e w1 ⟨rfl, hb1⟩
  rw [Int.sign_zero]
  have hR := (RB.b2 w false none 0 0 24 (Obj.cells #[.bool p, .slice A n c] 60)).below hb1 (by simp)
  obtain ⟨a0, A0, n0, c0, k10, k11, k20, k21⟩ := hR.facts
  have s0 := hR.set0 false (.slice none 0 0)
  have s1 := hR.set1 false (.slice none 0 0)
  have hb := below_set2 (g := w.heap.size + 1) (i := 0) (j := 1) (hb2.trans (hb1.mono (by simp; omega))) (by omega) (.bool false) (.slice none 0 0)
  have Hb := Lib.hid hb; clear hb hb1 hb2 hR
  go_wp2
  exact bodyPost_ret (v := .agg #[.bool false, .slice none 0 0]) (by simp [results, Try.results53, go_sem, s0, s1]) rfl ⟨_, rfl, ZV.mk (by simp) (by rw [Int.natAbs_zero, dig_zero]; exact Wd.nil_ _), Hb.out⟩

set_option maxRecDepth 100000 in
theorem intOf_ne (z : Int) (a : Value) (w : World) (ha : ZV w a z) (hz : z ≠ 0) (hlen : (dig z.natAbs).length ≤ 1000000) : Calls Try.prog 53 #[a] w (RetZ w z) := by
  obtain ⟨A, n, c, rfl, hv, hn, -⟩ := ha.open_
  have hnp : 0 < n := by rw [hn]; exact dig_len_pos.2 (by omega)
  obtain ⟨A', c', he, -, -, hok, hcells⟩ := hv
  injection he with e1 e2 e3
  subst e1 e3
  obtain ⟨b, off, rfl, hbl, hc⟩ := hcells (by rw [← e2]; exact hnp)
  clear e2
  obtain ⟨p, hp⟩ : ∃ p, p = decide (z < 0) := ⟨_, rfl⟩
  rw [← hp] at ha ⊢
  obtain ⟨l, hl⟩ : ∃ l, l = dig z.natAbs := ⟨_, rfl⟩
  rw [← hl] at hn hok hc hlen
  have hn6 : n ≤ 1000000 := by omega
  have Ha := Lib.hid ha; clear ha
  have Hc := Lib.hid hc; clear hc
  have Hp := Lib.hid hp; clear hp
  have Hn := Lib.hid hn; clear hn hlen hcells
  have Hl := Lib.hid hl; clear hl
  go_enter Try.func53, Try.ntmps53
  go_wp2_with fail
  have hb2 := below2 w (Obj.cells #[.bool p, .slice (some ⟨b, off, none⟩) n c] 60) (Obj.cells #[.bool false, .slice none 0 0] 24)
  have o10 := RB.b1 w p (some ⟨b, off, none⟩) n c 60 (Obj.cells #[.bool false, .slice none 0 0] 24)
  refine (signZ_any z _ _ (Ha.out.below hb2)).mono ?_
  rintro e w1 ⟨rfl, hb1⟩
  obtain ⟨sg, hsg⟩ : ∃ sg, sg = z.sign := ⟨_, rfl⟩
  rw [← hsg]
  have hsg0 : (sg == 0) = false := by rw [hsg]; simpa using hz
  clear hsg
  have z1 : w.heap.size + 1 + 1 ≤ w1.heap.size := by have := hb1.size; simpa using this
  have q0 : w1.cell? ⟨w.heap.size, 0, none⟩ = some (.bool p) := keepAt hb1 (by simp <;> omega) (by rw [World.cell?_alloc_past _ _ _ (by simp), World.cell?_alloc_new]; rfl)
  have q1 : w1.cell? ⟨w.heap.size, 1, none⟩ = some (.slice (some ⟨b, off, none⟩) n c) := keepAt hb1 (by simp <;> omega) (by rw [World.cell?_alloc_past _ _ _ (by simp), World.cell?_alloc_new]; rfl)
  have hR1 := (RB.b2 w false none 0 0 24 (Obj.cells #[.bool p, .slice (some ⟨b, off, none⟩) n c] 60)).below hb1 (by simp)
  have hb01 := hb2.trans (hb1.mono (by simp; omega))
  have hmk : ∀ w, (Instr.makeSlice 22 (.int .i64 (n : Int)) (.int .i64 (n : Int))).run Try.prog w = .ok (.slice (some ⟨w.heap.size, 0, none⟩) n n) (w.alloc (.cells (U32s (zeros n)) 66)) := fun w => make_u32 22 Try.underlying22 n (by omega) w
  have hbk : Blk (w1.alloc (.cells (U32s (zeros n)) 66)) w1.heap.size (zeros n) := heap_alloc_new _ _
  have hb02 : Below w.heap.size w (w1.alloc (.cells (U32s (zeros n)) 66)) := hb01.alloc hb01.size _
  have hcp : ∀ ty, (Builtin.copy_ #[22, 58] ty #[.slice (some ⟨w1.heap.size, 0, none⟩) n n, .slice (some ⟨b, off, none⟩) n c]).run Try.prog (w1.alloc (.cells (U32s (zeros n)) 66)) = .ok (.int .i64 n) ((w1.alloc (.cells (U32s (zeros n)) 66)).setRow w1.heap.size (U32s l)) :=
    fun ty => copy_u32 22 58 ty Try.underlying22 _ _ n c b off l Hn.out hbk (fun j hj => (hb02.cell (p := ⟨b, off + j, none⟩) hbl).trans (Hc.out j hj))
  have hR2 := (hR1.alloc (.cells (U32s (zeros n)) 66)).setRow (by omega) (U32s l) (h := w1.heap.size)
  have t0 : ((w1.alloc (.cells (U32s (zeros n)) 66)).setRow w1.heap.size (U32s l)).cell? ⟨w.heap.size, 0, none⟩ = some (.bool p) := by rw [cell_setRow (by omega), World.cell?_alloc_past _ _ _ (by omega)]; exact q0
  have t1 : ((w1.alloc (.cells (U32s (zeros n)) 66)).setRow w1.heap.size (U32s l)).cell? ⟨w.heap.size, 1, none⟩ = some (.slice (some ⟨b, off, none⟩) n c) := by rw [cell_setRow (by omega), World.cell?_alloc_past _ _ _ (by omega)]; exact q1
  have u0 : (w1.alloc (.cells (U32s (zeros n)) 66)).cell? ⟨w.heap.size, 0, none⟩ = some (.bool p) := by rw [World.cell?_alloc_past _ _ _ (by omega)]; exact q0
  have u1 : (w1.alloc (.cells (U32s (zeros n)) 66)).cell? ⟨w.heap.size, 1, none⟩ = some (.slice (some ⟨b, off, none⟩) n c) := by rw [World.cell?_alloc_past _ _ _ (by omega)]; exact q1
  have hnl := Hn.out
  have hw := (hbk.setRow (l' := l)).wd hok (by omega) n (by omega) (by omega)
  rw [← hnl] at hw
  have hb03 : Below w.heap.size w ((w1.alloc (.cells (U32s (zeros n)) 66)).setRow w1.heap.size (U32s l)) := below_setRow hb02 hb01.size _
  obtain ⟨a0, A0, n0, c0, k10, k11, k20, k21⟩ := hR2.facts
  have s0 := hR2.set0 p (.slice (some ⟨w1.heap.size, 0, none⟩) n n)
  have s1 := hR2.set1 p (.slice (some ⟨w1.heap.size, 0, none⟩) n n)
  have fin := And.intro (hw.rb hR2 (.bool p) (.slice (some ⟨w1.heap.size, 0, none⟩) n n)) (below_set2 (g := w.heap.size + 1) (i := 0) (j := 1) hb03 (by omega) (.bool p) (.slice (some ⟨w1.heap.size, 0, none⟩) n n))
  have Fin := Lib.hid fin
  clear fin hw hb03 hR2 hbk hb02 hb01 hR1 hb1 hb2 o10 hnl
  go_wp2
  refine bodyPost_ret (v := .agg #[.bool p, .slice (some ⟨w1.heap.size, 0, none⟩) n n]) (by simp [results, Try.results53, go_sem, s0, s1]) rfl ⟨_, rfl, ZV.mk Hp.out ?_, Fin.out.2⟩
  rw [← Hl.out]
  exact Fin.out.1

/-- exact.intOf -/
theorem intOf_any (z : Int) (a : Value) (w : World) (ha : ZV w a z) (hlen : (dig z.natAbs).length ≤ 1000000) : Calls Try.prog 53 #[a] w (RetZ w z) := by
  by_cases hz : z = 0
  · subst hz; exact intOf_zero a w ha
  · exact intOf_ne z a w ha hz hlen

/-- exact.fits -/
theorem fits_any (z : Int) (a : Value) (w : World) (ha : ZV w a z) : Calls Try.prog 99 #[a] w fun e w' => e = .returned (.bool (decide ((dig z.natAbs).length ≤ 256))) ∧ Below w.heap.size w w' := by
  obtain ⟨A, n, c, rfl, -, hn, -⟩ := ha.open_
  rw [← hn]
  clear ha hn
  have hb := below_alloc w (Obj.cells #[.bool (decide (z < 0)), .slice A n c] 60)
  obtain ⟨p, hp⟩ : ∃ p, p = decide (z < 0) := ⟨_, rfl⟩
  rw [← hp] at hb ⊢
  have Hb := Lib.hid hb; clear hb hp
  go_enter Try.func99, Try.ntmps99
  go_wp2
  go_ret
  exact ⟨by simp; omega, Hb.out⟩

set_option maxRecDepth 100000 in
/-- exact.fitInt -/
theorem fitInt_yes (z : Int) (a : Value) (w : World) (ha : ZV w a z) (hlen : (dig z.natAbs).length ≤ 256) :
    Calls Try.prog 77 #[a] w fun e w' => ∃ b A n c, e = .returned (.tuple #[.agg #[.bool b, .slice A n c], .int .i64 0]) ∧ ZV w' (.agg #[.bool b, .slice A n c]) z ∧ Below w.heap.size w w' := by
  obtain ⟨A, n, c, rfl, -, -, -⟩ := ha.open_
  obtain ⟨p, hp⟩ : ∃ p, p = decide (z < 0) := ⟨_, rfl⟩
  rw [← hp] at ha ⊢
  clear hp
  have hd : decide ((dig z.natAbs).length ≤ 256) = true := by simpa using hlen
  have Ha := Lib.hid ha; clear ha
  have Hd := Lib.hid hd; clear hd
  go_enter Try.func77, Try.ntmps77
  go_wp2_with fail
  have hb2 := below2 w (Obj.cells #[.bool p, .slice A n c] 60) (Obj.cells #[.bool false, .slice none 0 0] 24)
  have hR2 := RB.b2 w false none 0 0 24 (Obj.cells #[.bool p, .slice A n c] 60)
  refine (fits_any z _ _ (Ha.out.below hb2)).mono ?_
  rintro e w1 ⟨rfl, hb1⟩
  rw [Hd.out]
  have z1 : w.heap.size + 1 + 1 ≤ w1.heap.size := by have := hb1.size; simpa using this
  have q0 : w1.cell? ⟨w.heap.size, 0, none⟩ = some (.bool p) := keepAt hb1 (by simp <;> omega) (by rw [World.cell?_alloc_past _ _ _ (by simp), World.cell?_alloc_new]; rfl)
  have q1 : w1.cell? ⟨w.heap.size, 1, none⟩ = some (.slice A n c) := keepAt hb1 (by simp <;> omega) (by rw [World.cell?_alloc_past _ _ _ (by simp), World.cell?_alloc_new]; rfl)
  have hR1 := Lib.hid (hR2.below hb1 (by simp))
  have ha1 := Lib.hid (Ha.out.below (hb2.trans (hb1.mono (by simp; omega))))
  have hb01 := Lib.hid (hb2.trans (hb1.mono (by simp; omega)))
  clear hb1 hb2 hR2
  go_wp2_with fail
  refine (asAgg (intOf_any z _ _ ha1.out (by omega))).mono ?_
  rintro e w2 ⟨b, A3, n3, c3, rfl, hr, hb3⟩
  have hR := hR1.out.below hb3 (by omega)
  obtain ⟨a0, A0, n0, c0, k10, k11, k20, k21⟩ := hR.facts
  have s0 := hR.set0 b (.slice A3 n3 c3)
  have s1 := hR.set1 b (.slice A3 n3 c3)
  have fin := And.intro (hr.rb hR (.bool b) (.slice A3 n3 c3)) (below_set2 (g := w.heap.size + 1) (i := 0) (j := 1) (hb01.out.trans (hb3.mono hb01.out.size)) (by omega) (.bool b) (.slice A3 n3 c3))
  have Fin := Lib.hid fin; clear fin hb3 hR
  go_wp2
  exact bodyPost_ret (v := .tuple #[.agg #[.bool b, .slice A3 n3 c3], .int .i64 0]) (by simp [results, Try.results77, go_sem, s0, s1]) rfl ⟨b, A3, n3, c3, rfl, Fin.out.1, Fin.out.2⟩

set_option maxRecDepth 100000 in
theorem fitInt_no (z : Int) (a : Value) (w : World) (ha : ZV w a z) (hlen : 256 < (dig z.natAbs).length) :
    Calls Try.prog 77 #[a] w fun e w' => e = .returned (.tuple #[.agg #[.bool false, .slice none 0 0], .int .i64 5]) ∧ Below w.heap.size w w' := by
  obtain ⟨A, n, c, rfl, -, -, -⟩ := ha.open_
  obtain ⟨p, hp⟩ : ∃ p, p = decide (z < 0) := ⟨_, rfl⟩
  rw [← hp] at ha ⊢
  clear hp
  have hd : decide ((dig z.natAbs).length ≤ 256) = false := by simp; omega
  have Ha := Lib.hid ha; clear ha
  have Hd := Lib.hid hd; clear hd
  go_enter Try.func77, Try.ntmps77
  go_wp2_with fail
  have hb2 := below2 w (Obj.cells #[.bool p, .slice A n c] 60) (Obj.cells #[.bool false, .slice none 0 0] 24)
  have hR2 := RB.b2 w false none 0 0 24 (Obj.cells #[.bool p, .slice A n c] 60)
  refine (fits_any z _ _ (Ha.out.below hb2)).mono ?_
  rintro e w1 ⟨rfl, hb1⟩
  rw [Hd.out]
  have hR := hR2.below hb1 (by simp)
  obtain ⟨a0, A0, n0, c0, k10, k11, k20, k21⟩ := hR.facts
  have s0 := hR.set0 false (.slice none 0 0)
  have s1 := hR.set1 false (.slice none 0 0)
  have fin := below_set2 (g := w.heap.size + 1) (i := 0) (j := 1) (hb2.trans (hb1.mono (by simp; omega))) (by omega) (.bool false) (.slice none 0 0)
  have Fin := Lib.hid fin; clear fin hb1 hb2 hR hR2
  go_wp2
  exact bodyPost_ret (v := .tuple #[.agg #[.bool false, .slice none 0 0], .int .i64 5]) (by simp [results, Try.results77, go_sem, s0, s1]) rfl ⟨rfl, Fin.out⟩
end Go.Proofs.Ytmlopkkbgpfdnaa
