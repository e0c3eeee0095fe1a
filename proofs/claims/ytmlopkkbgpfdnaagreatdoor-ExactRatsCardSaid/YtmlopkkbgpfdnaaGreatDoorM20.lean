/- Walks: NewRat. -/
import Derived.Test.YtmlopkkbgpfdnaaGreatDoorM16
import Derived.Test.YtmlopkkbgpfdnaaGreatDoorM19
import Derived.Test.YtmlopkkbgpfdnaaGreatDoorM2
import Derived.Test.YtmlopkkbgpfdnaaGreatDoorM15
namespace Go.Proofs.YtmlopkkbgpfdnaaGreatDoor
open Go.RowKit

theorem asAgg4 {f : Nat} {args : Array Value} {w : World} {x y : Int} (h : Calls Tryz.prog f args w (RetF w x y)) : Calls Tryz.prog f args w fun e w' => ∃ b A n c b' A' n' c', e = .returned (.agg #[.bool b, .slice A n c, .bool b', .slice A' n' c']) ∧ ZV w' (.agg #[.bool b, .slice A n c]) x ∧ ZV w' (.agg #[.bool b', .slice A' n' c']) y ∧ Below w.heap.size w w' := h

theorem whole_z {z : Int} {b : Bool} {A : Option Addr} {n c : Nat} {w : World} (hz : ZV w (.agg #[.bool b, .slice A n c]) z) :
    Calls Tryz.prog 19 #[.agg #[.bool b, .slice A n c]] w fun e w' => ∃ b A n c, e = .returned (.agg #[.bool b, .slice A n c]) ∧ ZV w' (.agg #[.bool b, .slice A n c]) z ∧ Below w.heap.size w w' :=
  (wholeOf_any b A n c w).mono fun e w' ⟨he, hb⟩ => ⟨b, A, n, c, he, hz.below hb, hb⟩
theorem of_z {z : Int} {b : Bool} {A : Option Addr} {n c : Nat} {w : World} (hz : ZV w (.agg #[.bool b, .slice A n c]) z) :
    Calls Tryz.prog 25 #[.agg #[.bool b, .slice A n c]] w fun e w' => ∃ b A n c, e = .returned (.agg #[.bool b, .slice A n c]) ∧ ZV w' (.agg #[.bool b, .slice A n c]) z ∧ Below w.heap.size w w' :=
  (of_any b A n c w).mono fun e w' ⟨he, hb⟩ => ⟨b, A, n, c, he, hz.below hb, hb⟩
theorem int_z {z : Int} {b : Bool} {A : Option Addr} {n c : Nat} {w : World} (hz : ZV w (.agg #[.bool b, .slice A n c]) z) :
    Calls Tryz.prog 42 #[.agg #[.bool b, .slice A n c]] w fun e w' => ∃ b A n c, e = .returned (.agg #[.bool b, .slice A n c]) ∧ ZV w' (.agg #[.bool b, .slice A n c]) z ∧ Below w.heap.size w w' :=
  (int_any b A n c w).mono fun e w' ⟨he, hb⟩ => ⟨b, A, n, c, he, hz.below hb, hb⟩
theorem HW.hz {W : World} {g : Nat} {p : Bool} {A : Option Addr} {n c : Nat} {l : List Nat} (H : HW W g p A n c l) (h : vld p l = true) : HZ W g (numOf p l) :=
  ⟨p, A, n, c, H.c0, H.c1, vld_zv H.w h⟩

set_option maxHeartbeats 800000 in
set_option maxRecDepth 100000 in
theorem newRat_no (p q : Bool) (A A' : Option Addr) (n c n' c' : Nat) (l l' : List Nat) (w : World) (hx : Wd w (.slice A n c) l) (hy : Wd w (.slice A' n' c') l') (hno : (vld p l && vld q l') = false) : Calls Tryz.prog 5 #[.agg #[.bool p, .slice A n c], .agg #[.bool q, .slice A' n' c']] w (RetR w 0 0 2) := by
  obtain ⟨W0, hW0⟩ : ∃ W0, W0 = ((w.alloc (Obj.cells #[.bool p, .slice A n c] 24)).alloc (Obj.cells #[.bool q, .slice A' n' c'] 24)).alloc (Obj.cells #[.bool false, .slice none 0 0, .bool false, .slice none 0 0] 26) := ⟨_, rfl⟩
  have e0 : Ext w W0 := by rw [hW0]; exact (((Ext.refl w).alc _).alc _).alc _
  have s0 : W0.heap.size = w.heap.size + 1 + 1 + 1 := by rw [hW0]; simp
  have h1 : HW W0 w.heap.size p A n c l := by rw [hW0]; exact ((HW.new w p A n c l 24 hx).alloc _).alloc _
  have h2 : HW W0 (w.heap.size + 1) q A' n' c' l' := by
    have := (HW.new (w.alloc (Obj.cells #[.bool p, .slice A n c] 24)) q A' n' c' l' 24 (hy.below (below_alloc _ _))).alloc (Obj.cells #[.bool false, .slice none 0 0, .bool false, .slice none 0 0] 26)
    rw [World.size_alloc] at this
    rw [hW0]; exact this
  have r4 : FB W0 (w.heap.size + 1 + 1) := by
    have := FB.new ((w.alloc (Obj.cells #[.bool p, .slice A n c] 24)).alloc (Obj.cells #[.bool q, .slice A' n' c'] 24)) false none 0 0 false none 0 0 26
    rw [World.size_alloc, World.size_alloc] at this
    rw [hW0]; exact this
  obtain ⟨W1, hW1⟩ : ∃ W1, W1 = W0.alloc (Obj.cells #[.bool p, .slice A n c, .bool q, .slice A' n' c'] 24) := ⟨_, rfl⟩
  have e1 : Ext W0 W1 := by rw [hW1]; exact (Ext.refl _).alc _
  have hs : W1.heap[w.heap.size + 1 + 1 + 1]? = some (.cells #[.bool p, .slice A n c, .bool q, .slice A' n' c'] 24 (0, 0)) := by
    have := heap_alloc_new W0 (Obj.cells #[.bool p, .slice A n c, .bool q, .slice A' n' c'] 24)
    rw [s0] at this
    rw [hW1]; exact this
  have AV := Lib.hid (allValid_two p q A A' n c n' c' l l' w W1 _ hs (h1.next e1).w (h2.next e1).w)
  have HWA := Lib.hid hW1
  have H1 := Lib.hid (h1.next e1); have H2 := Lib.hid (h2.next e1); have R4 := Lib.hid (r4.ext e1); have E1 := Lib.hid (e0.trans e1); have HW0 := Lib.hid hW0
  have z1 : w.heap.size + 1 + 1 + 1 ≤ W1.heap.size := by have := e1.size; omega
  clear h1 h2 r4 e0 e1 s0 hs hW0 hW1 hx hy
  go_enter Tryz.func5, Tryz.ntmps5
  go_wp2_with fail
  rw [← HW0.out, ← HWA.out]
  refine AV.out.mono ?_
  rintro e W2 ⟨rfl, x2⟩
  replace x2 : Ext W1 W2 := x2
  clear AV HW0 HWA
  rw [hno]
  have r4 := R4.out.ext x2
  obtain ⟨_, _, _, _, k40, k41, k42, k43, k44, k45, k46, k47⟩ := put4_walk r4 (.bool false) (.slice none 0 0) (.bool false)
  obtain ⟨W', hW'⟩ : ∃ W', W' = put4 W2 (w.heap.size + 1 + 1) (.bool false) (.slice none 0 0) (.bool false) (.slice none 0 0) := ⟨_, rfl⟩
  obtain ⟨f0, f1, f2, f3⟩ := put4_cells r4 (.bool false) (.slice none 0 0) (.bool false) (.slice none 0 0)
  have hz1 := (ZV.zero W2).put4 r4 (.bool false) (.slice none 0 0) (.bool false) (.slice none 0 0)
  rw [← hW'] at hz1
  have hz2 := (ZV.zero W2).put4 r4 (.bool false) (.slice none 0 0) (.bool false) (.slice none 0 0)
  rw [← hW'] at hz2
  have hbf : Below w.heap.size w W' := by rw [hW']; exact put4_below (Ext.below (E1.out.trans x2)) (by omega) (.bool false) (.slice none 0 0) (.bool false) (.slice none 0 0)
  rw [← hW'] at f0 f1 f2 f3
  unfold put4 at hW'
  have HG := Lib.hid (And.intro hz1 (And.intro hz2 (And.intro hbf (And.intro f0 (And.intro f1 (And.intro f2 f3))))))
  have HW' := Lib.hid hW'
  clear hz1 hz2 hbf f0 f1 f2 f3 hW' x2 r4
  go_wp2
  rw [← HW'.out]
  obtain ⟨hz1, hz2, hbf, f0, f1, f2, f3⟩ := HG.out
  exact bodyPost_ret (v := .tuple #[.agg #[.bool false, .slice none 0 0, .bool false, .slice none 0 0], .int .i64 2]) (by simp [results, Tryz.results5, go_sem, f0, f1, f2, f3]) rfl ⟨_, _, _, _, _, _, _, _, rfl, hz1, hz2, hbf⟩
set_option maxHeartbeats 800000 in
set_option maxRecDepth 100000 in
theorem newRat_zero (p q : Bool) (A A' : Option Addr) (n c n' c' : Nat) (l l' : List Nat) (w : World) (hx : Wd w (.slice A n c) l) (hy : Wd w (.slice A' n' c') l') (hp : vld p l = true) (hq : vld q l' = true) (h0 : numOf q l' = 0) : Calls Tryz.prog 5 #[.agg #[.bool p, .slice A n c], .agg #[.bool q, .slice A' n' c']] w (RetR w 0 0 4) := by
  obtain ⟨W0, hW0⟩ : ∃ W0, W0 = ((w.alloc (Obj.cells #[.bool p, .slice A n c] 24)).alloc (Obj.cells #[.bool q, .slice A' n' c'] 24)).alloc (Obj.cells #[.bool false, .slice none 0 0, .bool false, .slice none 0 0] 26) := ⟨_, rfl⟩
  have e0 : Ext w W0 := by rw [hW0]; exact (((Ext.refl w).alc _).alc _).alc _
  have s0 : W0.heap.size = w.heap.size + 1 + 1 + 1 := by rw [hW0]; simp
  have h1 : HW W0 w.heap.size p A n c l := by rw [hW0]; exact ((HW.new w p A n c l 24 hx).alloc _).alloc _
  have h2 : HW W0 (w.heap.size + 1) q A' n' c' l' := by
    have := (HW.new (w.alloc (Obj.cells #[.bool p, .slice A n c] 24)) q A' n' c' l' 24 (hy.below (below_alloc _ _))).alloc (Obj.cells #[.bool false, .slice none 0 0, .bool false, .slice none 0 0] 26)
    rw [World.size_alloc] at this
    rw [hW0]; exact this
  have r4 : FB W0 (w.heap.size + 1 + 1) := by
    have := FB.new ((w.alloc (Obj.cells #[.bool p, .slice A n c] 24)).alloc (Obj.cells #[.bool q, .slice A' n' c'] 24)) false none 0 0 false none 0 0 26
    rw [World.size_alloc, World.size_alloc] at this
    rw [hW0]; exact this
  obtain ⟨W1, hW1⟩ : ∃ W1, W1 = W0.alloc (Obj.cells #[.bool p, .slice A n c, .bool q, .slice A' n' c'] 24) := ⟨_, rfl⟩
  have e1 : Ext W0 W1 := by rw [hW1]; exact (Ext.refl _).alc _
  have hs : W1.heap[w.heap.size + 1 + 1 + 1]? = some (.cells #[.bool p, .slice A n c, .bool q, .slice A' n' c'] 24 (0, 0)) := by
    have := heap_alloc_new W0 (Obj.cells #[.bool p, .slice A n c, .bool q, .slice A' n' c'] 24)
    rw [s0] at this
    rw [hW1]; exact this
  have AV := Lib.hid (allValid_two p q A A' n c n' c' l l' w W1 _ hs (h1.next e1).w (h2.next e1).w)
  have HWA := Lib.hid hW1
  have H1 := Lib.hid (h1.next e1); have H2 := Lib.hid (h2.next e1); have R4 := Lib.hid (r4.ext e1); have E1 := Lib.hid (e0.trans e1); have HW0 := Lib.hid hW0
  have z1 : w.heap.size + 1 + 1 + 1 ≤ W1.heap.size := by have := e1.size; omega
  have F1 := Lib.hid ((h1.next e1).hz hp); have F2 := Lib.hid ((h2.next e1).hz hq)
  obtain ⟨ux, hux⟩ : ∃ z, z = numOf p l := ⟨_, rfl⟩
  obtain ⟨uy, huy⟩ : ∃ z, z = numOf q l' := ⟨_, rfl⟩
  rw [← hux] at F1; rw [← huy] at F2
  rw [← huy] at h0
  have hyes : (vld p l && vld q l') = true := by rw [hp, hq]; rfl
  clear hux huy hp hq
  clear h1 h2 r4 e0 e1 s0 hs hW0 hW1 hx hy
  go_enter Tryz.func5, Tryz.ntmps5
  go_wp2_with fail
  rw [← HW0.out, ← HWA.out]
  refine AV.out.mono ?_
  rintro e W2 ⟨rfl, x2⟩
  replace x2 : Ext W1 W2 := x2
  clear AV HW0 HWA
  rw [hyes]
  have F1 := Lib.hid (F1.out.ext (by omega) x2); have F2 := Lib.hid (F2.out.ext (by omega) x2); have R4 := Lib.hid (R4.out.ext x2); have E2 := Lib.hid (E1.out.trans x2)
  have lr := R4.out.lt
  clear x2 hyes H1 H2 E1 z1
  obtain ⟨b9, A9, n9, c9, j0, j1, jz⟩ := F2.out
  have FO := Lib.hid (whole_z jz)
  clear jz
  go_wp2_with fail
  refine FO.out.mono ?_
  rintro e W3 ⟨b, B, m, d, rfl, y1, x3⟩
  replace x3 : Ext W2 W3 := x3
  have SG := Lib.hid (signZ_any uy _ _ y1)
  have F1 := Lib.hid (F1.out.ext (by omega) x3); have F2 := Lib.hid (F2.out.ext (by omega) x3); have R4 := Lib.hid (R4.out.ext x3); have E3 := Lib.hid (E2.out.trans x3)
  have lr3 := x3.size
  clear x3 y1 FO j0 j1 E2
  go_wp2_with fail
  refine SG.out.mono ?_
  rintro e W4 ⟨rfl, x4⟩
  replace x4 : Ext W3 W4 := x4
  have F1 := Lib.hid (F1.out.ext (by omega) x4); have F2 := Lib.hid (F2.out.ext (by omega) x4); have R4 := Lib.hid (R4.out.ext x4); have E4 := Lib.hid (E3.out.trans x4)
  obtain ⟨sg, hsg⟩ : ∃ s, s = uy.sign := ⟨_, rfl⟩
  rw [← hsg]
  have lr4 := x4.size
  clear x4 SG E3
  have hs : (sg == 0) = true := by rw [hsg, h0]; rfl
  clear hsg h0
  have r4 := R4.out
  obtain ⟨_, _, _, _, k40, k41, k42, k43, k44, k45, k46, k47⟩ := put4_walk r4 (.bool false) (.slice none 0 0) (.bool false)
  obtain ⟨W', hW'⟩ : ∃ W', W' = put4 W4 (w.heap.size + 1 + 1) (.bool false) (.slice none 0 0) (.bool false) (.slice none 0 0) := ⟨_, rfl⟩
  obtain ⟨f0, f1, f2, f3⟩ := put4_cells r4 (.bool false) (.slice none 0 0) (.bool false) (.slice none 0 0)
  have hz1 := (ZV.zero W4).put4 r4 (.bool false) (.slice none 0 0) (.bool false) (.slice none 0 0)
  rw [← hW'] at hz1
  have hz2 := (ZV.zero W4).put4 r4 (.bool false) (.slice none 0 0) (.bool false) (.slice none 0 0)
  rw [← hW'] at hz2
  have hbf : Below w.heap.size w W' := by rw [hW']; exact put4_below (Ext.below E4.out) (by omega) (.bool false) (.slice none 0 0) (.bool false) (.slice none 0 0)
  rw [← hW'] at f0 f1 f2 f3
  unfold put4 at hW'
  have HG := Lib.hid (And.intro hz1 (And.intro hz2 (And.intro hbf (And.intro f0 (And.intro f1 (And.intro f2 f3))))))
  have HW' := Lib.hid hW'
  clear hz1 hz2 hbf f0 f1 f2 f3 hW' r4
  go_wp2
  rw [← HW'.out]
  obtain ⟨hz1, hz2, hbf, f0, f1, f2, f3⟩ := HG.out
  exact bodyPost_ret (v := .tuple #[.agg #[.bool false, .slice none 0 0, .bool false, .slice none 0 0], .int .i64 4]) (by simp [results, Tryz.results5, go_sem, f0, f1, f2, f3]) rfl ⟨_, _, _, _, _, _, _, _, rfl, hz1, hz2, hbf⟩
set_option maxHeartbeats 800000 in
set_option maxRecDepth 100000 in
theorem newRat_yes (p q : Bool) (A A' : Option Addr) (n c n' c' : Nat) (l l' : List Nat) (w : World) (hx : Wd w (.slice A n c) l) (hy : Wd w (.slice A' n' c') l') (hp : vld p l = true) (hq : vld q l' = true) (h0 : numOf q l' ≠ 0) : Calls Tryz.prog 5 #[.agg #[.bool p, .slice A n c], .agg #[.bool q, .slice A' n' c']] w (RetR w (numOf p l / nfg (numOf p l) (numOf q l')) (numOf q l' / nfg (numOf p l) (numOf q l')) 0) := by
  obtain ⟨W0, hW0⟩ : ∃ W0, W0 = ((w.alloc (Obj.cells #[.bool p, .slice A n c] 24)).alloc (Obj.cells #[.bool q, .slice A' n' c'] 24)).alloc (Obj.cells #[.bool false, .slice none 0 0, .bool false, .slice none 0 0] 26) := ⟨_, rfl⟩
  have e0 : Ext w W0 := by rw [hW0]; exact (((Ext.refl w).alc _).alc _).alc _
  have s0 : W0.heap.size = w.heap.size + 1 + 1 + 1 := by rw [hW0]; simp
  have h1 : HW W0 w.heap.size p A n c l := by rw [hW0]; exact ((HW.new w p A n c l 24 hx).alloc _).alloc _
  have h2 : HW W0 (w.heap.size + 1) q A' n' c' l' := by
    have := (HW.new (w.alloc (Obj.cells #[.bool p, .slice A n c] 24)) q A' n' c' l' 24 (hy.below (below_alloc _ _))).alloc (Obj.cells #[.bool false, .slice none 0 0, .bool false, .slice none 0 0] 26)
    rw [World.size_alloc] at this
    rw [hW0]; exact this
  have r4 : FB W0 (w.heap.size + 1 + 1) := by
    have := FB.new ((w.alloc (Obj.cells #[.bool p, .slice A n c] 24)).alloc (Obj.cells #[.bool q, .slice A' n' c'] 24)) false none 0 0 false none 0 0 26
    rw [World.size_alloc, World.size_alloc] at this
    rw [hW0]; exact this
  obtain ⟨W1, hW1⟩ : ∃ W1, W1 = W0.alloc (Obj.cells #[.bool p, .slice A n c, .bool q, .slice A' n' c'] 24) := ⟨_, rfl⟩
  have e1 : Ext W0 W1 := by rw [hW1]; exact (Ext.refl _).alc _
  have hs : W1.heap[w.heap.size + 1 + 1 + 1]? = some (.cells #[.bool p, .slice A n c, .bool q, .slice A' n' c'] 24 (0, 0)) := by
    have := heap_alloc_new W0 (Obj.cells #[.bool p, .slice A n c, .bool q, .slice A' n' c'] 24)
    rw [s0] at this
    rw [hW1]; exact this
  have AV := Lib.hid (allValid_two p q A A' n c n' c' l l' w W1 _ hs (h1.next e1).w (h2.next e1).w)
  have HWA := Lib.hid hW1
  have H1 := Lib.hid (h1.next e1); have H2 := Lib.hid (h2.next e1); have R4 := Lib.hid (r4.ext e1); have E1 := Lib.hid (e0.trans e1); have HW0 := Lib.hid hW0
  have z1 : w.heap.size + 1 + 1 + 1 ≤ W1.heap.size := by have := e1.size; omega
  have F1 := Lib.hid ((h1.next e1).hz hp); have F2 := Lib.hid ((h2.next e1).hz hq)
  obtain ⟨ux, hux⟩ : ∃ z, z = numOf p l := ⟨_, rfl⟩
  obtain ⟨uy, huy⟩ : ∃ z, z = numOf q l' := ⟨_, rfl⟩
  rw [← hux] at F1; rw [← huy] at F2
  have lux : (dig ux.natAbs).length ≤ 256 := by rw [hux, vld_dig hx.ok hp]; exact vld_len hp
  have luy : (dig uy.natAbs).length ≤ 256 := by rw [huy, vld_dig hy.ok hq]; exact vld_len hq
  rw [← hux, ← huy]
  rw [← huy] at h0
  have hyes : (vld p l && vld q l') = true := by rw [hp, hq]; rfl
  have LQ := Lib.hid (show (dig (ux / nfg ux uy).natAbs).length ≤ 1000000 ∧ (dig (uy / nfg ux uy).natAbs).length ≤ 1000000 from ⟨Nat.le_trans (len_mono (Int.natAbs_ediv_le_natAbs _ _)) (by omega), Nat.le_trans (len_mono (Int.natAbs_ediv_le_natAbs _ _)) (by omega)⟩)
  have LU := Lib.hid (And.intro lux luy)
  have HU := Lib.hid h0
  clear hux huy hp hq lux luy
  clear h1 h2 r4 e0 e1 s0 hs hW0 hW1 hx hy
  go_enter Tryz.func5, Tryz.ntmps5
  go_wp2_with fail
  rw [← HW0.out, ← HWA.out]
  refine AV.out.mono ?_
  rintro e W2 ⟨rfl, x2⟩
  replace x2 : Ext W1 W2 := x2
  clear AV HW0 HWA
  rw [hyes]
  have F1 := Lib.hid (F1.out.ext (by omega) x2); have F2 := Lib.hid (F2.out.ext (by omega) x2); have R4 := Lib.hid (R4.out.ext x2); have E2 := Lib.hid (E1.out.trans x2)
  have lr := R4.out.lt
  clear x2 hyes H1 H2 E1 z1
  obtain ⟨b9, A9, n9, c9, j0, j1, jz⟩ := F2.out
  have FO := Lib.hid (whole_z jz)
  clear jz
  go_wp2_with fail
  refine FO.out.mono ?_
  rintro e W3 ⟨b, B, m, d, rfl, y1, x3⟩
  replace x3 : Ext W2 W3 := x3
  have SG := Lib.hid (signZ_any uy _ _ y1)
  have F1 := Lib.hid (F1.out.ext (by omega) x3); have F2 := Lib.hid (F2.out.ext (by omega) x3); have R4 := Lib.hid (R4.out.ext x3); have E3 := Lib.hid (E2.out.trans x3)
  have lr3 := x3.size
  clear x3 y1 FO j0 j1 E2
  go_wp2_with fail
  refine SG.out.mono ?_
  rintro e W4 ⟨rfl, x4⟩
  replace x4 : Ext W3 W4 := x4
  have F1 := Lib.hid (F1.out.ext (by omega) x4); have F2 := Lib.hid (F2.out.ext (by omega) x4); have R4 := Lib.hid (R4.out.ext x4); have E4 := Lib.hid (E3.out.trans x4)
  obtain ⟨sg, hsg⟩ : ∃ s, s = uy.sign := ⟨_, rfl⟩
  rw [← hsg]
  have lr4 := x4.size
  clear x4 SG E3
  have hs : (sg == 0) = false := by
    rw [beq_eq_false_iff_ne, hsg]
    exact fun e => h0 (Int.sign_eq_zero_iff_zero.1 e)
  clear hsg h0
  go_upto_region 5 with fail
  refine wp_region_noPanic ?_
  refine wp_pool 6 [some 17, some 18, some 19, some 20, some 21, some 22] [] [] [(fun (v : Value) (X : World) => ∃ b A n c, v = .agg #[.bool b, .slice A n c] ∧ ZV X (.agg #[.bool b, .slice A n c]) (ux)), (fun (v : Value) (X : World) => ∃ b A n c, v = .agg #[.bool b, .slice A n c] ∧ ZV X (.agg #[.bool b, .slice A n c]) (ux)), (fun (v : Value) (X : World) => ∃ b A n c, v = .agg #[.bool b, .slice A n c] ∧ ZV X (.agg #[.bool b, .slice A n c]) (uy)), (fun (v : Value) (X : World) => ∃ b A n c, v = .agg #[.bool b, .slice A n c] ∧ ZV X (.agg #[.bool b, .slice A n c]) (uy)), (fun (v : Value) (X : World) => ∃ b A n c b' A' n' c', v = .agg #[.bool b, .slice A n c, .bool b', .slice A' n' c'] ∧ ZV X (.agg #[.bool b, .slice A n c]) (ux / nfg ux uy) ∧ ZV X (.agg #[.bool b', .slice A' n' c']) (uy / nfg ux uy)), (fun (v : Value) (X : World) => ∃ b A n c b' A' n' c', v = .agg #[.bool b, .slice A n c, .bool b', .slice A' n' c'] ∧ ZV X (.agg #[.bool b, .slice A n c]) (ux / nfg ux uy) ∧ ZV X (.agg #[.bool b', .slice A' n' c']) (uy / nfg ux uy))] [noF, noF, noF, noF, noF, noF] (by kernel_rfl) (by kernel_rfl) (by kernel_rfl) (by kernel_rfl) (by kernel_rfl) (by kernel_rfl) (by kernel_rfl) (by kernel_rfl) (fun _ _ _ _ h => h) ⟨(fun _ _ _ e ⟨b, A, n, c, h1, h2⟩ => ⟨b, A, n, c, h1, h2.ext e⟩), (fun _ _ _ e ⟨b, A, n, c, h1, h2⟩ => ⟨b, A, n, c, h1, h2.ext e⟩), (fun _ _ _ e ⟨b, A, n, c, h1, h2⟩ => ⟨b, A, n, c, h1, h2.ext e⟩), (fun _ _ _ e ⟨b, A, n, c, h1, h2⟩ => ⟨b, A, n, c, h1, h2.ext e⟩), (fun _ _ _ e ⟨b, A, n, c, b', A', n', c', h1, h2, h3⟩ => ⟨b, A, n, c, b', A', n', c', h1, h2.ext e, h3.ext e⟩), (fun _ _ _ e ⟨b, A, n, c, b', A', n', c', h1, h2, h3⟩ => ⟨b, A, n, c, b', A', n', c', h1, h2.ext e, h3.ext e⟩), True.intro⟩ ?steps ?done
  case steps =>
    simp only [List.take_succ_cons, List.take_zero]
    refine Steps.cons (fun (v : Value) (X : World) => ∃ b A n c, v = .agg #[.bool b, .slice A n c] ∧ ZV X (.agg #[.bool b, .slice A n c]) (ux)) [] rfl (by kernel_rfl) rfl (by kernel_rfl) (fun y X ex0 hf K hK => ?_) ?_
    · clear hf
      have ex := (Ext.drw (Ext.refl _)).trans ex0
      refine Box.mk ?_
      simp only [fill, Act.put, Nat.reduceAdd, List.setIfInBounds_toArray, List.set_cons_zero, List.set_cons_succ] at hK ⊢
      obtain ⟨bl, Al, nl, cl, k0, k1, kz⟩ := (F1.out.ext (by omega) ex)
      go_simp
      exact hK.out _ _ ⟨_, _, _, _, rfl, kz⟩ (Ext.refl _) (fun b hb => by cases hb)
    refine Steps.cons (fun (v : Value) (X : World) => ∃ b A n c, v = .agg #[.bool b, .slice A n c] ∧ ZV X (.agg #[.bool b, .slice A n c]) (ux)) [0] rfl (by kernel_rfl) rfl (by kernel_rfl) (fun y X ex0 hf K hK => ?_) ?_
    · obtain ⟨b0, A0, n0, c0, h0, z0⟩ : ((fun (v : Value) (X : World) => ∃ b A n c, v = .agg #[.bool b, .slice A n c] ∧ ZV X (.agg #[.bool b, .slice A n c]) (ux))) (y 0) X := hf.1
      clear hf
      have ex := (Ext.drw (Ext.refl _)).trans ex0
      refine Box.mk ?_
      simp only [fill, Act.put, Nat.reduceAdd, List.setIfInBounds_toArray, List.set_cons_zero, List.set_cons_succ, h0] at hK ⊢
      go_simp
      refine (whole_z z0).mono ?_
      rintro e V ⟨b9, A9, n9, c9, rfl, hz, hb⟩
      try go_wp2_with fail
      exact hK.out _ _ ⟨_, _, _, _, rfl, hz⟩ hb (fun b hb => by cases hb)
    refine Steps.cons (fun (v : Value) (X : World) => ∃ b A n c, v = .agg #[.bool b, .slice A n c] ∧ ZV X (.agg #[.bool b, .slice A n c]) (uy)) [] rfl (by kernel_rfl) rfl (by kernel_rfl) (fun y X ex0 hf K hK => ?_) ?_
    · clear hf
      have ex := (Ext.drw (Ext.refl _)).trans ex0
      refine Box.mk ?_
      simp only [fill, Act.put, Nat.reduceAdd, List.setIfInBounds_toArray, List.set_cons_zero, List.set_cons_succ] at hK ⊢
      obtain ⟨bl, Al, nl, cl, k0, k1, kz⟩ := (F2.out.ext (by omega) ex)
      go_simp
      exact hK.out _ _ ⟨_, _, _, _, rfl, kz⟩ (Ext.refl _) (fun b hb => by cases hb)
    refine Steps.cons (fun (v : Value) (X : World) => ∃ b A n c, v = .agg #[.bool b, .slice A n c] ∧ ZV X (.agg #[.bool b, .slice A n c]) (uy)) [2, 1] rfl (by kernel_rfl) rfl (by kernel_rfl) (fun y X ex0 hf K hK => ?_) ?_
    · obtain ⟨b2, A2, n2, c2, h2, z2⟩ : ((fun (v : Value) (X : World) => ∃ b A n c, v = .agg #[.bool b, .slice A n c] ∧ ZV X (.agg #[.bool b, .slice A n c]) (uy))) (y 2) X := hf.1
      obtain ⟨b1, A1, n1, c1, h1, z1⟩ : ((fun (v : Value) (X : World) => ∃ b A n c, v = .agg #[.bool b, .slice A n c] ∧ ZV X (.agg #[.bool b, .slice A n c]) (ux))) (y 1) X := hf.2.1
      clear hf
      have ex := (Ext.drw (Ext.refl _)).trans ex0
      refine Box.mk ?_
      simp only [fill, Act.put, Nat.reduceAdd, List.setIfInBounds_toArray, List.set_cons_zero, List.set_cons_succ, h2, h1] at hK ⊢
      go_simp
      refine (whole_z z2).mono ?_
      rintro e V ⟨b9, A9, n9, c9, rfl, hz, hb⟩
      try go_wp2_with fail
      exact hK.out _ _ ⟨_, _, _, _, rfl, hz⟩ hb (fun b hb => by cases hb)
    refine Steps.cons (fun (v : Value) (X : World) => ∃ b A n c b' A' n' c', v = .agg #[.bool b, .slice A n c, .bool b', .slice A' n' c'] ∧ ZV X (.agg #[.bool b, .slice A n c]) (ux / nfg ux uy) ∧ ZV X (.agg #[.bool b', .slice A' n' c']) (uy / nfg ux uy)) [1, 3] rfl (by kernel_rfl) rfl (by kernel_rfl) (fun y X ex0 hf K hK => ?_) ?_
    · obtain ⟨b1, A1, n1, c1, h1, z1⟩ : ((fun (v : Value) (X : World) => ∃ b A n c, v = .agg #[.bool b, .slice A n c] ∧ ZV X (.agg #[.bool b, .slice A n c]) (ux))) (y 1) X := hf.1
      obtain ⟨b3, A3, n3, c3, h3, z3⟩ : ((fun (v : Value) (X : World) => ∃ b A n c, v = .agg #[.bool b, .slice A n c] ∧ ZV X (.agg #[.bool b, .slice A n c]) (uy))) (y 3) X := hf.2.1
      clear hf
      have ex := (Ext.drw (Ext.refl _)).trans ex0
      refine Box.mk ?_
      simp only [fill, Act.put, Nat.reduceAdd, List.setIfInBounds_toArray, List.set_cons_zero, List.set_cons_succ, h1, h3] at hK ⊢
      go_simp
      refine (asAgg4 (newFraction_any ux uy _ _ _ 256 z1 z3 HU.out LU.out.1 LU.out.2 (by omega) (by omega))).mono ?_
      rintro e V ⟨b9, A9, n9, c9, b8, A8, n8, c8, rfl, hz, hy, hb⟩
      try go_wp2_with fail
      exact hK.out _ _ ⟨_, _, _, _, _, _, _, _, rfl, hz, hy⟩ hb (fun b hb => by cases hb)
    refine Steps.cons (fun (v : Value) (X : World) => ∃ b A n c b' A' n' c', v = .agg #[.bool b, .slice A n c, .bool b', .slice A' n' c'] ∧ ZV X (.agg #[.bool b, .slice A n c]) (ux / nfg ux uy) ∧ ZV X (.agg #[.bool b', .slice A' n' c']) (uy / nfg ux uy)) [4] rfl (by kernel_rfl) rfl (by kernel_rfl) (fun y X ex0 hf K hK => ?_) ?_
    · obtain ⟨b4, A4, n4, c4, bb4, AA4, nn4, cc4, h4, z4, y4⟩ : ((fun (v : Value) (X : World) => ∃ b A n c b' A' n' c', v = .agg #[.bool b, .slice A n c, .bool b', .slice A' n' c'] ∧ ZV X (.agg #[.bool b, .slice A n c]) (ux / nfg ux uy) ∧ ZV X (.agg #[.bool b', .slice A' n' c']) (uy / nfg ux uy))) (y 4) X := hf.1
      clear hf
      have ex := (Ext.drw (Ext.refl _)).trans ex0
      refine Box.mk ?_
      simp only [fill, Act.put, Nat.reduceAdd, List.setIfInBounds_toArray, List.set_cons_zero, List.set_cons_succ, h4] at hK ⊢
      go_simp
      refine (asAgg4 (ratOf_any _ _ _ _ ⟨_, _, _, _, _, _, _, _, rfl, z4, y4⟩ LQ.out.1 LQ.out.2)).mono ?_
      rintro e V ⟨b9, A9, n9, c9, b8, A8, n8, c8, rfl, hz, hy, hb⟩
      try go_wp2_with fail
      exact hK.out _ _ ⟨_, _, _, _, _, _, _, _, rfl, hz, hy⟩ hb (fun b hb => by cases hb)
    exact Steps.nil
  case done =>
    intro y X ex hf hlt hsep
    obtain ⟨b0, A0, n0, c0, h0, z0⟩ : ((fun (v : Value) (X : World) => ∃ b A n c, v = .agg #[.bool b, .slice A n c] ∧ ZV X (.agg #[.bool b, .slice A n c]) (ux))) (y 0) X := hf.1
    obtain ⟨b1, A1, n1, c1, h1, z1⟩ : ((fun (v : Value) (X : World) => ∃ b A n c, v = .agg #[.bool b, .slice A n c] ∧ ZV X (.agg #[.bool b, .slice A n c]) (ux))) (y 1) X := hf.2.1
    obtain ⟨b2, A2, n2, c2, h2, z2⟩ : ((fun (v : Value) (X : World) => ∃ b A n c, v = .agg #[.bool b, .slice A n c] ∧ ZV X (.agg #[.bool b, .slice A n c]) (uy))) (y 2) X := hf.2.2.1
    obtain ⟨b3, A3, n3, c3, h3, z3⟩ : ((fun (v : Value) (X : World) => ∃ b A n c, v = .agg #[.bool b, .slice A n c] ∧ ZV X (.agg #[.bool b, .slice A n c]) (uy))) (y 3) X := hf.2.2.2.1
    obtain ⟨b4, A4, n4, c4, bb4, AA4, nn4, cc4, h4, z4, y4⟩ : ((fun (v : Value) (X : World) => ∃ b A n c b' A' n' c', v = .agg #[.bool b, .slice A n c, .bool b', .slice A' n' c'] ∧ ZV X (.agg #[.bool b, .slice A n c]) (ux / nfg ux uy) ∧ ZV X (.agg #[.bool b', .slice A' n' c']) (uy / nfg ux uy))) (y 4) X := hf.2.2.2.2.1
    obtain ⟨b5, A5, n5, c5, bb5, AA5, nn5, cc5, h5, z5, y5⟩ : ((fun (v : Value) (X : World) => ∃ b A n c b' A' n' c', v = .agg #[.bool b, .slice A n c, .bool b', .slice A' n' c'] ∧ ZV X (.agg #[.bool b, .slice A n c]) (ux / nfg ux uy) ∧ ZV X (.agg #[.bool b', .slice A' n' c']) (uy / nfg ux uy))) (y 5) X := hf.2.2.2.2.2.1
    clear hf
    clear hsep hlt
    refine Box.mk ?_
    simp only [List.drop_succ_cons, List.drop_zero, fill, Act.put, Nat.reduceAdd, List.setIfInBounds_toArray, List.set_cons_zero, List.set_cons_succ, h0, h1, h2, h3, h4, h5]
    clear h0 h1 h2 h3 h4 h5
    have r4 := R4.out.ext ex
    obtain ⟨_, _, _, _, k40, k41, k42, k43, k44, k45, k46, k47⟩ := put4_walk r4 (.bool b5) (.slice A5 n5 c5) (.bool bb5)
    obtain ⟨W', hW'⟩ : ∃ W', W' = put4 X (w.heap.size + 1 + 1) (.bool b5) (.slice A5 n5 c5) (.bool bb5) (.slice AA5 nn5 cc5) := ⟨_, rfl⟩
    obtain ⟨f0, f1, f2, f3⟩ := put4_cells r4 (.bool b5) (.slice A5 n5 c5) (.bool bb5) (.slice AA5 nn5 cc5)
    have hz1 := (z5).put4 r4 (.bool b5) (.slice A5 n5 c5) (.bool bb5) (.slice AA5 nn5 cc5)
    rw [← hW'] at hz1
    have hz2 := (y5).put4 r4 (.bool b5) (.slice A5 n5 c5) (.bool bb5) (.slice AA5 nn5 cc5)
    rw [← hW'] at hz2
    have hbf : Below w.heap.size w W' := by rw [hW']; exact put4_below (Ext.below (E4.out.trans ex)) (by omega) (.bool b5) (.slice A5 n5 c5) (.bool bb5) (.slice AA5 nn5 cc5)
    rw [← hW'] at f0 f1 f2 f3
    unfold put4 at hW'
    have HG := Lib.hid (And.intro hz1 (And.intro hz2 (And.intro hbf (And.intro f0 (And.intro f1 (And.intro f2 f3))))))
    have HW' := Lib.hid hW'
    clear hz1 hz2 hbf f0 f1 f2 f3 hW' r4 ex z0 z1 z2 z3 z4 y4 z5 y5
    go_wp2_with fail
    refine NoPanic.normal ?_
    go_wp2
    rw [← HW'.out]
    obtain ⟨hz1, hz2, hbf, f0, f1, f2, f3⟩ := HG.out
    exact bodyPost_ret (v := .tuple #[.agg #[.bool b5, .slice A5 n5 c5, .bool bb5, .slice AA5 nn5 cc5], .int .i64 0]) (by simp [results, Tryz.results5, go_sem, f0, f1, f2, f3]) rfl ⟨_, _, _, _, _, _, _, _, rfl, hz1, hz2, hbf⟩
set_option maxHeartbeats 800000 in
set_option maxRecDepth 100000 in
theorem refNewRat_noa (p q : Bool) (A A' : Option Addr) (n c n' c' : Nat) (l l' : List Nat) (w : World) (hx : Wd w (.slice A n c) l) (hy : Wd w (.slice A' n' c') l') (hp : vld p l = false) : Calls Tryz.prog 6 #[.agg #[.bool p, .slice A n c], .agg #[.bool q, .slice A' n' c']] w (RetR w 0 0 2) := by
  obtain ⟨W0, hW0⟩ : ∃ W0, W0 = ((w.alloc (Obj.cells #[.bool p, .slice A n c] 24)).alloc (Obj.cells #[.bool q, .slice A' n' c'] 24)).alloc (Obj.cells #[.bool false, .slice none 0 0, .bool false, .slice none 0 0] 26) := ⟨_, rfl⟩
  have e0 : Ext w W0 := by rw [hW0]; exact (((Ext.refl w).alc _).alc _).alc _
  have s0 : W0.heap.size = w.heap.size + 1 + 1 + 1 := by rw [hW0]; simp
  have h1 : HW W0 w.heap.size p A n c l := by rw [hW0]; exact ((HW.new w p A n c l 24 hx).alloc _).alloc _
  have h2 : HW W0 (w.heap.size + 1) q A' n' c' l' := by
    have := (HW.new (w.alloc (Obj.cells #[.bool p, .slice A n c] 24)) q A' n' c' l' 24 (hy.below (below_alloc _ _))).alloc (Obj.cells #[.bool false, .slice none 0 0, .bool false, .slice none 0 0] 26)
    rw [World.size_alloc] at this
    rw [hW0]; exact this
  have r4 : FB W0 (w.heap.size + 1 + 1) := by
    have := FB.new ((w.alloc (Obj.cells #[.bool p, .slice A n c] 24)).alloc (Obj.cells #[.bool q, .slice A' n' c'] 24)) false none 0 0 false none 0 0 26
    rw [World.size_alloc, World.size_alloc] at this
    rw [hW0]; exact this
  have V1 := Lib.hid (validR_any p A n c l W0 h1.w)
  have H1 := Lib.hid h1; have H2 := Lib.hid h2; have R4 := Lib.hid r4; have E0 := Lib.hid e0; have HW0 := Lib.hid hW0
  have z0 : w.heap.size + 1 + 1 + 1 ≤ W0.heap.size := by omega
  rw [hp] at V1
  clear h1 h2 r4 e0 s0 hW0 hx hy
  go_enter Tryz.func6, Tryz.ntmps6
  go_upto_region 1 with fail
  rw [← HW0.out]
  clear HW0
  have k0 := H1.out.c0; have k1 := H1.out.c1
  go_wp2_with fail
  refine V1.out.mono ?_
  rintro e W1 ⟨rfl, x1⟩
  replace x1 : Ext W0 W1 := x1
  have H1 := Lib.hid (H1.out.next x1); have H2 := Lib.hid (H2.out.next x1); have R4 := Lib.hid (R4.out.ext x1); have E1 := Lib.hid (E0.out.trans x1)
  have zz1 := x1.size
  clear x1 V1 k0 k1 E0
  have r4 := R4.out
  obtain ⟨_, _, _, _, k40, k41, k42, k43, k44, k45, k46, k47⟩ := put4_walk r4 (.bool false) (.slice none 0 0) (.bool false)
  obtain ⟨W', hW'⟩ : ∃ W', W' = put4 W1 (w.heap.size + 1 + 1) (.bool false) (.slice none 0 0) (.bool false) (.slice none 0 0) := ⟨_, rfl⟩
  obtain ⟨f0, f1, f2, f3⟩ := put4_cells r4 (.bool false) (.slice none 0 0) (.bool false) (.slice none 0 0)
  have hz1 := (ZV.zero W1).put4 r4 (.bool false) (.slice none 0 0) (.bool false) (.slice none 0 0)
  rw [← hW'] at hz1
  have hz2 := (ZV.zero W1).put4 r4 (.bool false) (.slice none 0 0) (.bool false) (.slice none 0 0)
  rw [← hW'] at hz2
  have hbf : Below w.heap.size w W' := by rw [hW']; exact put4_below (Ext.below E1.out) (by omega) (.bool false) (.slice none 0 0) (.bool false) (.slice none 0 0)
  rw [← hW'] at f0 f1 f2 f3
  unfold put4 at hW'
  have HG := Lib.hid (And.intro hz1 (And.intro hz2 (And.intro hbf (And.intro f0 (And.intro f1 (And.intro f2 f3))))))
  have HW' := Lib.hid hW'
  clear hz1 hz2 hbf f0 f1 f2 f3 hW' r4
  go_wp2
  rw [← HW'.out]
  obtain ⟨hz1, hz2, hbf, f0, f1, f2, f3⟩ := HG.out
  exact bodyPost_ret (v := .tuple #[.agg #[.bool false, .slice none 0 0, .bool false, .slice none 0 0], .int .i64 2]) (by simp [results, Tryz.results6, go_sem, f0, f1, f2, f3]) rfl ⟨_, _, _, _, _, _, _, _, rfl, hz1, hz2, hbf⟩
set_option maxHeartbeats 800000 in
set_option maxRecDepth 100000 in
theorem refNewRat_nob (p q : Bool) (A A' : Option Addr) (n c n' c' : Nat) (l l' : List Nat) (w : World) (hx : Wd w (.slice A n c) l) (hy : Wd w (.slice A' n' c') l') (hp : vld p l = true) (hq : vld q l' = false) : Calls Tryz.prog 6 #[.agg #[.bool p, .slice A n c], .agg #[.bool q, .slice A' n' c']] w (RetR w 0 0 2) := by
  obtain ⟨W0, hW0⟩ : ∃ W0, W0 = ((w.alloc (Obj.cells #[.bool p, .slice A n c] 24)).alloc (Obj.cells #[.bool q, .slice A' n' c'] 24)).alloc (Obj.cells #[.bool false, .slice none 0 0, .bool false, .slice none 0 0] 26) := ⟨_, rfl⟩
  have e0 : Ext w W0 := by rw [hW0]; exact (((Ext.refl w).alc _).alc _).alc _
  have s0 : W0.heap.size = w.heap.size + 1 + 1 + 1 := by rw [hW0]; simp
  have h1 : HW W0 w.heap.size p A n c l := by rw [hW0]; exact ((HW.new w p A n c l 24 hx).alloc _).alloc _
  have h2 : HW W0 (w.heap.size + 1) q A' n' c' l' := by
    have := (HW.new (w.alloc (Obj.cells #[.bool p, .slice A n c] 24)) q A' n' c' l' 24 (hy.below (below_alloc _ _))).alloc (Obj.cells #[.bool false, .slice none 0 0, .bool false, .slice none 0 0] 26)
    rw [World.size_alloc] at this
    rw [hW0]; exact this
  have r4 : FB W0 (w.heap.size + 1 + 1) := by
    have := FB.new ((w.alloc (Obj.cells #[.bool p, .slice A n c] 24)).alloc (Obj.cells #[.bool q, .slice A' n' c'] 24)) false none 0 0 false none 0 0 26
    rw [World.size_alloc, World.size_alloc] at this
    rw [hW0]; exact this
  have V1 := Lib.hid (validR_any p A n c l W0 h1.w)
  have H1 := Lib.hid h1; have H2 := Lib.hid h2; have R4 := Lib.hid r4; have E0 := Lib.hid e0; have HW0 := Lib.hid hW0
  have z0 : w.heap.size + 1 + 1 + 1 ≤ W0.heap.size := by omega
  rw [hp] at V1
  have HQ := Lib.hid hq
  clear hp hq
  clear h1 h2 r4 e0 s0 hW0 hx hy
  go_enter Tryz.func6, Tryz.ntmps6
  go_upto_region 1 with fail
  rw [← HW0.out]
  clear HW0
  have k0 := H1.out.c0; have k1 := H1.out.c1
  go_wp2_with fail
  refine V1.out.mono ?_
  rintro e W1 ⟨rfl, x1⟩
  replace x1 : Ext W0 W1 := x1
  have H1 := Lib.hid (H1.out.next x1); have H2 := Lib.hid (H2.out.next x1); have R4 := Lib.hid (R4.out.ext x1); have E1 := Lib.hid (E0.out.trans x1)
  have zz1 := x1.size
  clear x1 V1 k0 k1 E0
  have V2 := Lib.hid (validR_any q A' n' c' l' W1 H2.out.w)
  have k0 := H2.out.c0; have k1 := H2.out.c1
  rw [HQ.out] at V2
  go_wp2_with fail
  refine V2.out.mono ?_
  rintro e W2 ⟨rfl, x2⟩
  replace x2 : Ext W1 W2 := x2
  have H1 := Lib.hid (H1.out.next x2); have H2 := Lib.hid (H2.out.next x2); have R4 := Lib.hid (R4.out.ext x2); have E2 := Lib.hid (E1.out.trans x2)
  have zz2 := x2.size
  clear x2 V2 k0 k1 E1
  have r4 := R4.out
  obtain ⟨_, _, _, _, k40, k41, k42, k43, k44, k45, k46, k47⟩ := put4_walk r4 (.bool false) (.slice none 0 0) (.bool false)
  obtain ⟨W', hW'⟩ : ∃ W', W' = put4 W2 (w.heap.size + 1 + 1) (.bool false) (.slice none 0 0) (.bool false) (.slice none 0 0) := ⟨_, rfl⟩
  obtain ⟨f0, f1, f2, f3⟩ := put4_cells r4 (.bool false) (.slice none 0 0) (.bool false) (.slice none 0 0)
  have hz1 := (ZV.zero W2).put4 r4 (.bool false) (.slice none 0 0) (.bool false) (.slice none 0 0)
  rw [← hW'] at hz1
  have hz2 := (ZV.zero W2).put4 r4 (.bool false) (.slice none 0 0) (.bool false) (.slice none 0 0)
  rw [← hW'] at hz2
  have hbf : Below w.heap.size w W' := by rw [hW']; exact put4_below (Ext.below E2.out) (by omega) (.bool false) (.slice none 0 0) (.bool false) (.slice none 0 0)
  rw [← hW'] at f0 f1 f2 f3
  unfold put4 at hW'
  have HG := Lib.hid (And.intro hz1 (And.intro hz2 (And.intro hbf (And.intro f0 (And.intro f1 (And.intro f2 f3))))))
  have HW' := Lib.hid hW'
  clear hz1 hz2 hbf f0 f1 f2 f3 hW' r4
  go_wp2
  rw [← HW'.out]
  obtain ⟨hz1, hz2, hbf, f0, f1, f2, f3⟩ := HG.out
  exact bodyPost_ret (v := .tuple #[.agg #[.bool false, .slice none 0 0, .bool false, .slice none 0 0], .int .i64 2]) (by simp [results, Tryz.results6, go_sem, f0, f1, f2, f3]) rfl ⟨_, _, _, _, _, _, _, _, rfl, hz1, hz2, hbf⟩
set_option maxHeartbeats 800000 in
set_option maxRecDepth 100000 in
theorem refNewRat_zero (p q : Bool) (A A' : Option Addr) (n c n' c' : Nat) (l l' : List Nat) (w : World) (hx : Wd w (.slice A n c) l) (hy : Wd w (.slice A' n' c') l') (hp : vld p l = true) (hq : vld q l' = true) (h0 : numOf q l' = 0) : Calls Tryz.prog 6 #[.agg #[.bool p, .slice A n c], .agg #[.bool q, .slice A' n' c']] w (RetR w 0 0 4) := by
  obtain ⟨W0, hW0⟩ : ∃ W0, W0 = ((w.alloc (Obj.cells #[.bool p, .slice A n c] 24)).alloc (Obj.cells #[.bool q, .slice A' n' c'] 24)).alloc (Obj.cells #[.bool false, .slice none 0 0, .bool false, .slice none 0 0] 26) := ⟨_, rfl⟩
  have e0 : Ext w W0 := by rw [hW0]; exact (((Ext.refl w).alc _).alc _).alc _
  have s0 : W0.heap.size = w.heap.size + 1 + 1 + 1 := by rw [hW0]; simp
  have h1 : HW W0 w.heap.size p A n c l := by rw [hW0]; exact ((HW.new w p A n c l 24 hx).alloc _).alloc _
  have h2 : HW W0 (w.heap.size + 1) q A' n' c' l' := by
    have := (HW.new (w.alloc (Obj.cells #[.bool p, .slice A n c] 24)) q A' n' c' l' 24 (hy.below (below_alloc _ _))).alloc (Obj.cells #[.bool false, .slice none 0 0, .bool false, .slice none 0 0] 26)
    rw [World.size_alloc] at this
    rw [hW0]; exact this
  have r4 : FB W0 (w.heap.size + 1 + 1) := by
    have := FB.new ((w.alloc (Obj.cells #[.bool p, .slice A n c] 24)).alloc (Obj.cells #[.bool q, .slice A' n' c'] 24)) false none 0 0 false none 0 0 26
    rw [World.size_alloc, World.size_alloc] at this
    rw [hW0]; exact this
  have V1 := Lib.hid (validR_any p A n c l W0 h1.w)
  have H1 := Lib.hid h1; have H2 := Lib.hid h2; have R4 := Lib.hid r4; have E0 := Lib.hid e0; have HW0 := Lib.hid hW0
  have z0 : w.heap.size + 1 + 1 + 1 ≤ W0.heap.size := by omega
  rw [hp] at V1
  have F1 := Lib.hid (h1.hz hp); have F2 := Lib.hid (h2.hz hq)
  obtain ⟨ux, hux⟩ : ∃ z, z = numOf p l := ⟨_, rfl⟩
  obtain ⟨uy, huy⟩ : ∃ z, z = numOf q l' := ⟨_, rfl⟩
  rw [← hux] at F1; rw [← huy] at F2
  rw [← huy] at h0
  have HQ := Lib.hid hq
  have HD : Hid (decide (uy = 0) = true) := Lib.hid (decide_eq_true h0)
  clear hux huy hp hq h0
  clear h1 h2 r4 e0 s0 hW0 hx hy
  go_enter Tryz.func6, Tryz.ntmps6
  go_upto_region 1 with fail
  rw [← HW0.out]
  clear HW0
  have k0 := H1.out.c0; have k1 := H1.out.c1
  go_wp2_with fail
  refine V1.out.mono ?_
  rintro e W1 ⟨rfl, x1⟩
  replace x1 : Ext W0 W1 := x1
  have H1 := Lib.hid (H1.out.next x1); have H2 := Lib.hid (H2.out.next x1); have R4 := Lib.hid (R4.out.ext x1); have E1 := Lib.hid (E0.out.trans x1)
  have zz1 := x1.size
  have X01 := Lib.hid x1
  clear x1 V1 k0 k1 E0
  have V2 := Lib.hid (validR_any q A' n' c' l' W1 H2.out.w)
  have k0 := H2.out.c0; have k1 := H2.out.c1
  rw [HQ.out] at V2
  go_wp2_with fail
  refine V2.out.mono ?_
  rintro e W2 ⟨rfl, x2⟩
  replace x2 : Ext W1 W2 := x2
  have H1 := Lib.hid (H1.out.next x2); have H2 := Lib.hid (H2.out.next x2); have R4 := Lib.hid (R4.out.ext x2); have E2 := Lib.hid (E1.out.trans x2)
  have zz2 := x2.size
  have X02 := Lib.hid (X01.out.trans x2)
  clear x2 V2 k0 k1 E1
  have e2 := E2.out
  have F1 := Lib.hid (F1.out.ext (by omega) X02.out); have F2 := Lib.hid (F2.out.ext (by omega) X02.out)
  obtain ⟨b9, A9, n9, c9, j0, j1, jz⟩ := F2.out
  have FO := Lib.hid (of_z jz)
  clear jz e2
  have lr := R4.out.lt
  clear H1 H2
  go_wp2_with fail
  refine FO.out.mono ?_
  rintro e W3 ⟨b, B, m, d, rfl, y1, x3⟩
  replace x3 : Ext W2 W3 := x3
  have SG := Lib.hid (zeroR_any uy _ _ y1)
  have F1 := Lib.hid (F1.out.ext (by omega) x3); have F2 := Lib.hid (F2.out.ext (by omega) x3); have R4 := Lib.hid (R4.out.ext x3); have E3 := Lib.hid (E2.out.trans x3)
  have lr3 := x3.size
  clear x3 y1 FO j0 j1 E2
  rw [HD.out] at SG
  go_wp2_with fail
  refine SG.out.mono ?_
  rintro e W4 ⟨rfl, x4⟩
  replace x4 : Ext W3 W4 := x4
  have F1 := Lib.hid (F1.out.ext (by omega) x4); have F2 := Lib.hid (F2.out.ext (by omega) x4); have R4 := Lib.hid (R4.out.ext x4); have E4 := Lib.hid (E3.out.trans x4)
  have lr4 := x4.size
  clear x4 SG E3
  have r4 := R4.out
  obtain ⟨_, _, _, _, k40, k41, k42, k43, k44, k45, k46, k47⟩ := put4_walk r4 (.bool false) (.slice none 0 0) (.bool false)
  obtain ⟨W', hW'⟩ : ∃ W', W' = put4 W4 (w.heap.size + 1 + 1) (.bool false) (.slice none 0 0) (.bool false) (.slice none 0 0) := ⟨_, rfl⟩
  obtain ⟨f0, f1, f2, f3⟩ := put4_cells r4 (.bool false) (.slice none 0 0) (.bool false) (.slice none 0 0)
  have hz1 := (ZV.zero W4).put4 r4 (.bool false) (.slice none 0 0) (.bool false) (.slice none 0 0)
  rw [← hW'] at hz1
  have hz2 := (ZV.zero W4).put4 r4 (.bool false) (.slice none 0 0) (.bool false) (.slice none 0 0)
  rw [← hW'] at hz2
  have hbf : Below w.heap.size w W' := by rw [hW']; exact put4_below (Ext.below E4.out) (by omega) (.bool false) (.slice none 0 0) (.bool false) (.slice none 0 0)
  rw [← hW'] at f0 f1 f2 f3
  unfold put4 at hW'
  have HG := Lib.hid (And.intro hz1 (And.intro hz2 (And.intro hbf (And.intro f0 (And.intro f1 (And.intro f2 f3))))))
  have HW' := Lib.hid hW'
  clear hz1 hz2 hbf f0 f1 f2 f3 hW' r4
  go_wp2
  rw [← HW'.out]
  obtain ⟨hz1, hz2, hbf, f0, f1, f2, f3⟩ := HG.out
  exact bodyPost_ret (v := .tuple #[.agg #[.bool false, .slice none 0 0, .bool false, .slice none 0 0], .int .i64 4]) (by simp [results, Tryz.results6, go_sem, f0, f1, f2, f3]) rfl ⟨_, _, _, _, _, _, _, _, rfl, hz1, hz2, hbf⟩
set_option maxHeartbeats 800000 in
set_option maxRecDepth 100000 in
theorem refNewRat_yes (p q : Bool) (A A' : Option Addr) (n c n' c' : Nat) (l l' : List Nat) (w : World) (hx : Wd w (.slice A n c) l) (hy : Wd w (.slice A' n' c') l') (hp : vld p l = true) (hq : vld q l' = true) (h0 : numOf q l' ≠ 0) : Calls Tryz.prog 6 #[.agg #[.bool p, .slice A n c], .agg #[.bool q, .slice A' n' c']] w (RetR w (numOf p l / nfg (numOf p l) (numOf q l')) (numOf q l' / nfg (numOf p l) (numOf q l')) 0) := by
  obtain ⟨W0, hW0⟩ : ∃ W0, W0 = ((w.alloc (Obj.cells #[.bool p, .slice A n c] 24)).alloc (Obj.cells #[.bool q, .slice A' n' c'] 24)).alloc (Obj.cells #[.bool false, .slice none 0 0, .bool false, .slice none 0 0] 26) := ⟨_, rfl⟩
  have e0 : Ext w W0 := by rw [hW0]; exact (((Ext.refl w).alc _).alc _).alc _
  have s0 : W0.heap.size = w.heap.size + 1 + 1 + 1 := by rw [hW0]; simp
  have h1 : HW W0 w.heap.size p A n c l := by rw [hW0]; exact ((HW.new w p A n c l 24 hx).alloc _).alloc _
  have h2 : HW W0 (w.heap.size + 1) q A' n' c' l' := by
    have := (HW.new (w.alloc (Obj.cells #[.bool p, .slice A n c] 24)) q A' n' c' l' 24 (hy.below (below_alloc _ _))).alloc (Obj.cells #[.bool false, .slice none 0 0, .bool false, .slice none 0 0] 26)
    rw [World.size_alloc] at this
    rw [hW0]; exact this
  have r4 : FB W0 (w.heap.size + 1 + 1) := by
    have := FB.new ((w.alloc (Obj.cells #[.bool p, .slice A n c] 24)).alloc (Obj.cells #[.bool q, .slice A' n' c'] 24)) false none 0 0 false none 0 0 26
    rw [World.size_alloc, World.size_alloc] at this
    rw [hW0]; exact this
  have V1 := Lib.hid (validR_any p A n c l W0 h1.w)
  have H1 := Lib.hid h1; have H2 := Lib.hid h2; have R4 := Lib.hid r4; have E0 := Lib.hid e0; have HW0 := Lib.hid hW0
  have z0 : w.heap.size + 1 + 1 + 1 ≤ W0.heap.size := by omega
  rw [hp] at V1
  have F1 := Lib.hid (h1.hz hp); have F2 := Lib.hid (h2.hz hq)
  obtain ⟨ux, hux⟩ : ∃ z, z = numOf p l := ⟨_, rfl⟩
  obtain ⟨uy, huy⟩ : ∃ z, z = numOf q l' := ⟨_, rfl⟩
  rw [← hux] at F1; rw [← huy] at F2
  have lux : (dig ux.natAbs).length ≤ 256 := by rw [hux, vld_dig hx.ok hp]; exact vld_len hp
  have luy : (dig uy.natAbs).length ≤ 256 := by rw [huy, vld_dig hy.ok hq]; exact vld_len hq
  rw [← hux, ← huy]
  rw [← huy] at h0
  obtain ⟨vn, hvn⟩ : ∃ vn, vn = ux / nfg ux uy := ⟨_, rfl⟩
  obtain ⟨vd, hvd⟩ : ∃ vd, vd = uy / nfg ux uy := ⟨_, rfl⟩
  have hfit : (dig vn.natAbs).length ≤ 256 ∧ (dig vd.natAbs).length ≤ 256 := by
    rw [hvn, hvd]
    exact ⟨Nat.le_trans (len_mono (Int.natAbs_ediv_le_natAbs _ _)) lux, Nat.le_trans (len_mono (Int.natAbs_ediv_le_natAbs _ _)) luy⟩
  have RT := Lib.hid (fun W v (f : FV W v vn vd) => ratioR_fit vn vd v W f hfit)
  have QT := Lib.hid (show ∀ W u u', ZV W u ux → ZV W u' uy → Calls Tryz.prog 27 #[u, u'] W (RetF W vn vd) from fun W u u' f g => by rw [hvn, hvd]; exact ratio_any ux uy u u' W 256 f g h0 lux luy (by omega))
  rw [← hvn, ← hvd]
  have HQ := Lib.hid hq
  have HD : Hid (decide (uy = 0) = false) := Lib.hid (decide_eq_false h0)
  clear hux huy hp hq h0 lux luy hvn hvd hfit
  clear h1 h2 r4 e0 s0 hW0 hx hy
  go_enter Tryz.func6, Tryz.ntmps6
  go_upto_region 1 with fail
  rw [← HW0.out]
  clear HW0
  have k0 := H1.out.c0; have k1 := H1.out.c1
  go_wp2_with fail
  refine V1.out.mono ?_
  rintro e W1 ⟨rfl, x1⟩
  replace x1 : Ext W0 W1 := x1
  have H1 := Lib.hid (H1.out.next x1); have H2 := Lib.hid (H2.out.next x1); have R4 := Lib.hid (R4.out.ext x1); have E1 := Lib.hid (E0.out.trans x1)
  have zz1 := x1.size
  have X01 := Lib.hid x1
  clear x1 V1 k0 k1 E0
  have V2 := Lib.hid (validR_any q A' n' c' l' W1 H2.out.w)
  have k0 := H2.out.c0; have k1 := H2.out.c1
  rw [HQ.out] at V2
  go_wp2_with fail
  refine V2.out.mono ?_
  rintro e W2 ⟨rfl, x2⟩
  replace x2 : Ext W1 W2 := x2
  have H1 := Lib.hid (H1.out.next x2); have H2 := Lib.hid (H2.out.next x2); have R4 := Lib.hid (R4.out.ext x2); have E2 := Lib.hid (E1.out.trans x2)
  have zz2 := x2.size
  have X02 := Lib.hid (X01.out.trans x2)
  clear x2 V2 k0 k1 E1
  have e2 := E2.out
  have F1 := Lib.hid (F1.out.ext (by omega) X02.out); have F2 := Lib.hid (F2.out.ext (by omega) X02.out)
  obtain ⟨b9, A9, n9, c9, j0, j1, jz⟩ := F2.out
  have FO := Lib.hid (of_z jz)
  clear jz e2
  have lr := R4.out.lt
  clear H1 H2
  go_wp2_with fail
  refine FO.out.mono ?_
  rintro e W3 ⟨b, B, m, d, rfl, y1, x3⟩
  replace x3 : Ext W2 W3 := x3
  have SG := Lib.hid (zeroR_any uy _ _ y1)
  have F1 := Lib.hid (F1.out.ext (by omega) x3); have F2 := Lib.hid (F2.out.ext (by omega) x3); have R4 := Lib.hid (R4.out.ext x3); have E3 := Lib.hid (E2.out.trans x3)
  have lr3 := x3.size
  clear x3 y1 FO j0 j1 E2
  rw [HD.out] at SG
  go_wp2_with fail
  refine SG.out.mono ?_
  rintro e W4 ⟨rfl, x4⟩
  replace x4 : Ext W3 W4 := x4
  have F1 := Lib.hid (F1.out.ext (by omega) x4); have F2 := Lib.hid (F2.out.ext (by omega) x4); have R4 := Lib.hid (R4.out.ext x4); have E4 := Lib.hid (E3.out.trans x4)
  have lr4 := x4.size
  clear x4 SG E3
  go_upto_region 5 with fail
  refine wp_region_noPanic ?_
  refine wp_pool 8 [some 19, some 20, some 21, some 22, some 23, some 24, some 25, some 26] [] [] [(fun (v : Value) (X : World) => ∃ b A n c, v = .agg #[.bool b, .slice A n c] ∧ ZV X (.agg #[.bool b, .slice A n c]) (ux)), (fun (v : Value) (X : World) => ∃ b A n c, v = .agg #[.bool b, .slice A n c] ∧ ZV X (.agg #[.bool b, .slice A n c]) (ux)), (fun (v : Value) (X : World) => ∃ b A n c, v = .agg #[.bool b, .slice A n c] ∧ ZV X (.agg #[.bool b, .slice A n c]) (uy)), (fun (v : Value) (X : World) => ∃ b A n c, v = .agg #[.bool b, .slice A n c] ∧ ZV X (.agg #[.bool b, .slice A n c]) (uy)), (fun (v : Value) (X : World) => ∃ b A n c b' A' n' c', v = .agg #[.bool b, .slice A n c, .bool b', .slice A' n' c'] ∧ ZV X (.agg #[.bool b, .slice A n c]) (vn) ∧ ZV X (.agg #[.bool b', .slice A' n' c']) (vd)), (fun (v : Value) (X : World) => ∃ b A n c b' A' n' c', v = .tuple #[.agg #[.bool b, .slice A n c, .bool b', .slice A' n' c'], .int .i64 0] ∧ ZV X (.agg #[.bool b, .slice A n c]) (vn) ∧ ZV X (.agg #[.bool b', .slice A' n' c']) (vd)), (fun (v : Value) (X : World) => ∃ b A n c b' A' n' c', v = .agg #[.bool b, .slice A n c, .bool b', .slice A' n' c'] ∧ ZV X (.agg #[.bool b, .slice A n c]) (vn) ∧ ZV X (.agg #[.bool b', .slice A' n' c']) (vd)), (fun (v : Value) (_ : World) => v = .int .i64 (0 : Int))] [noF, noF, noF, noF, noF, noF, noF, noF] (by kernel_rfl) (by kernel_rfl) (by kernel_rfl) (by kernel_rfl) (by kernel_rfl) (by kernel_rfl) (by kernel_rfl) (by kernel_rfl) (fun _ _ _ _ h => h) ⟨(fun _ _ _ e ⟨b, A, n, c, h1, h2⟩ => ⟨b, A, n, c, h1, h2.ext e⟩), (fun _ _ _ e ⟨b, A, n, c, h1, h2⟩ => ⟨b, A, n, c, h1, h2.ext e⟩), (fun _ _ _ e ⟨b, A, n, c, h1, h2⟩ => ⟨b, A, n, c, h1, h2.ext e⟩), (fun _ _ _ e ⟨b, A, n, c, h1, h2⟩ => ⟨b, A, n, c, h1, h2.ext e⟩), (fun _ _ _ e ⟨b, A, n, c, b', A', n', c', h1, h2, h3⟩ => ⟨b, A, n, c, b', A', n', c', h1, h2.ext e, h3.ext e⟩), (fun _ _ _ e ⟨b, A, n, c, b', A', n', c', h1, h2, h3⟩ => ⟨b, A, n, c, b', A', n', c', h1, h2.ext e, h3.ext e⟩), (fun _ _ _ e ⟨b, A, n, c, b', A', n', c', h1, h2, h3⟩ => ⟨b, A, n, c, b', A', n', c', h1, h2.ext e, h3.ext e⟩), Stays.pure _, True.intro⟩ ?steps ?done
  case steps =>
    simp only [List.take_succ_cons, List.take_zero]
    refine Steps.cons (fun (v : Value) (X : World) => ∃ b A n c, v = .agg #[.bool b, .slice A n c] ∧ ZV X (.agg #[.bool b, .slice A n c]) (ux)) [] rfl (by kernel_rfl) rfl (by kernel_rfl) (fun y X ex0 hf K hK => ?_) ?_
    · clear hf
      have ex := (Ext.drw (Ext.refl _)).trans ex0
      refine Box.mk ?_
      simp only [fill, Act.put, Nat.reduceAdd, List.setIfInBounds_toArray, List.set_cons_zero, List.set_cons_succ] at hK ⊢
      obtain ⟨bl, Al, nl, cl, k0, k1, kz⟩ := (F1.out.ext (by omega) ex)
      go_simp
      exact hK.out _ _ ⟨_, _, _, _, rfl, kz⟩ (Ext.refl _) (fun b hb => by cases hb)
    refine Steps.cons (fun (v : Value) (X : World) => ∃ b A n c, v = .agg #[.bool b, .slice A n c] ∧ ZV X (.agg #[.bool b, .slice A n c]) (ux)) [0] rfl (by kernel_rfl) rfl (by kernel_rfl) (fun y X ex0 hf K hK => ?_) ?_
    · obtain ⟨b0, A0, n0, c0, h0, z0⟩ : ((fun (v : Value) (X : World) => ∃ b A n c, v = .agg #[.bool b, .slice A n c] ∧ ZV X (.agg #[.bool b, .slice A n c]) (ux))) (y 0) X := hf.1
      clear hf
      have ex := (Ext.drw (Ext.refl _)).trans ex0
      refine Box.mk ?_
      simp only [fill, Act.put, Nat.reduceAdd, List.setIfInBounds_toArray, List.set_cons_zero, List.set_cons_succ, h0] at hK ⊢
      go_simp
      refine (of_z z0).mono ?_
      rintro e V ⟨b9, A9, n9, c9, rfl, hz, hb⟩
      try go_wp2_with fail
      exact hK.out _ _ ⟨_, _, _, _, rfl, hz⟩ hb (fun b hb => by cases hb)
    refine Steps.cons (fun (v : Value) (X : World) => ∃ b A n c, v = .agg #[.bool b, .slice A n c] ∧ ZV X (.agg #[.bool b, .slice A n c]) (uy)) [] rfl (by kernel_rfl) rfl (by kernel_rfl) (fun y X ex0 hf K hK => ?_) ?_
    · clear hf
      have ex := (Ext.drw (Ext.refl _)).trans ex0
      refine Box.mk ?_
      simp only [fill, Act.put, Nat.reduceAdd, List.setIfInBounds_toArray, List.set_cons_zero, List.set_cons_succ] at hK ⊢
      obtain ⟨bl, Al, nl, cl, k0, k1, kz⟩ := (F2.out.ext (by omega) ex)
      go_simp
      exact hK.out _ _ ⟨_, _, _, _, rfl, kz⟩ (Ext.refl _) (fun b hb => by cases hb)
    refine Steps.cons (fun (v : Value) (X : World) => ∃ b A n c, v = .agg #[.bool b, .slice A n c] ∧ ZV X (.agg #[.bool b, .slice A n c]) (uy)) [2, 1] rfl (by kernel_rfl) rfl (by kernel_rfl) (fun y X ex0 hf K hK => ?_) ?_
    · obtain ⟨b2, A2, n2, c2, h2, z2⟩ : ((fun (v : Value) (X : World) => ∃ b A n c, v = .agg #[.bool b, .slice A n c] ∧ ZV X (.agg #[.bool b, .slice A n c]) (uy))) (y 2) X := hf.1
      obtain ⟨b1, A1, n1, c1, h1, z1⟩ : ((fun (v : Value) (X : World) => ∃ b A n c, v = .agg #[.bool b, .slice A n c] ∧ ZV X (.agg #[.bool b, .slice A n c]) (ux))) (y 1) X := hf.2.1
      clear hf
      have ex := (Ext.drw (Ext.refl _)).trans ex0
      refine Box.mk ?_
      simp only [fill, Act.put, Nat.reduceAdd, List.setIfInBounds_toArray, List.set_cons_zero, List.set_cons_succ, h2, h1] at hK ⊢
      go_simp
      refine (of_z z2).mono ?_
      rintro e V ⟨b9, A9, n9, c9, rfl, hz, hb⟩
      try go_wp2_with fail
      exact hK.out _ _ ⟨_, _, _, _, rfl, hz⟩ hb (fun b hb => by cases hb)
    refine Steps.cons (fun (v : Value) (X : World) => ∃ b A n c b' A' n' c', v = .agg #[.bool b, .slice A n c, .bool b', .slice A' n' c'] ∧ ZV X (.agg #[.bool b, .slice A n c]) (vn) ∧ ZV X (.agg #[.bool b', .slice A' n' c']) (vd)) [1, 3] rfl (by kernel_rfl) rfl (by kernel_rfl) (fun y X ex0 hf K hK => ?_) ?_
    · obtain ⟨b1, A1, n1, c1, h1, z1⟩ : ((fun (v : Value) (X : World) => ∃ b A n c, v = .agg #[.bool b, .slice A n c] ∧ ZV X (.agg #[.bool b, .slice A n c]) (ux))) (y 1) X := hf.1
      obtain ⟨b3, A3, n3, c3, h3, z3⟩ : ((fun (v : Value) (X : World) => ∃ b A n c, v = .agg #[.bool b, .slice A n c] ∧ ZV X (.agg #[.bool b, .slice A n c]) (uy))) (y 3) X := hf.2.1
      clear hf
      have ex := (Ext.drw (Ext.refl _)).trans ex0
      refine Box.mk ?_
      simp only [fill, Act.put, Nat.reduceAdd, List.setIfInBounds_toArray, List.set_cons_zero, List.set_cons_succ, h1, h3] at hK ⊢
      go_simp
      refine (QT.out _ _ _ z1 z3).mono ?_
      rintro e V ⟨b9, A9, n9, c9, b8, A8, n8, c8, rfl, hz, hy, hb⟩
      try go_wp2_with fail
      exact hK.out _ _ ⟨_, _, _, _, _, _, _, _, rfl, hz, hy⟩ hb (fun b hb => by cases hb)
    refine Steps.cons (fun (v : Value) (X : World) => ∃ b A n c b' A' n' c', v = .tuple #[.agg #[.bool b, .slice A n c, .bool b', .slice A' n' c'], .int .i64 0] ∧ ZV X (.agg #[.bool b, .slice A n c]) (vn) ∧ ZV X (.agg #[.bool b', .slice A' n' c']) (vd)) [4] rfl (by kernel_rfl) rfl (by kernel_rfl) (fun y X ex0 hf K hK => ?_) ?_
    · obtain ⟨b4, A4, n4, c4, bb4, AA4, nn4, cc4, h4, z4, y4⟩ : ((fun (v : Value) (X : World) => ∃ b A n c b' A' n' c', v = .agg #[.bool b, .slice A n c, .bool b', .slice A' n' c'] ∧ ZV X (.agg #[.bool b, .slice A n c]) (vn) ∧ ZV X (.agg #[.bool b', .slice A' n' c']) (vd))) (y 4) X := hf.1
      clear hf
      have ex := (Ext.drw (Ext.refl _)).trans ex0
      refine Box.mk ?_
      simp only [fill, Act.put, Nat.reduceAdd, List.setIfInBounds_toArray, List.set_cons_zero, List.set_cons_succ, h4] at hK ⊢
      go_simp
      refine (RT.out _ _ (fv_mk z4 y4)).mono ?_
      rintro e V ⟨b9, A9, n9, c9, b8, A8, n8, c8, rfl, hz, hy, hb⟩
      try go_wp2_with fail
      exact hK.out _ _ ⟨_, _, _, _, _, _, _, _, rfl, hz, hy⟩ hb (fun b hb => by cases hb)
    refine Steps.cons (fun (v : Value) (X : World) => ∃ b A n c b' A' n' c', v = .agg #[.bool b, .slice A n c, .bool b', .slice A' n' c'] ∧ ZV X (.agg #[.bool b, .slice A n c]) (vn) ∧ ZV X (.agg #[.bool b', .slice A' n' c']) (vd)) [5] rfl (by kernel_rfl) rfl (by kernel_rfl) (fun y X ex0 hf K hK => ?_) ?_
    · obtain ⟨b5, A5, n5, c5, bb5, AA5, nn5, cc5, h5, z5, y5⟩ : ((fun (v : Value) (X : World) => ∃ b A n c b' A' n' c', v = .tuple #[.agg #[.bool b, .slice A n c, .bool b', .slice A' n' c'], .int .i64 0] ∧ ZV X (.agg #[.bool b, .slice A n c]) (vn) ∧ ZV X (.agg #[.bool b', .slice A' n' c']) (vd))) (y 5) X := hf.1
      clear hf
      have ex := (Ext.drw (Ext.refl _)).trans ex0
      refine Box.mk ?_
      simp only [fill, Act.put, Nat.reduceAdd, List.setIfInBounds_toArray, List.set_cons_zero, List.set_cons_succ, h5] at hK ⊢
      go_simp
      exact hK.out _ _ ⟨_, _, _, _, _, _, _, _, rfl, z5, y5⟩ (Ext.refl _) (fun b hb => by cases hb)
    refine Steps.cons (fun (v : Value) (_ : World) => v = .int .i64 (0 : Int)) [5] rfl (by kernel_rfl) rfl (by kernel_rfl) (fun y X ex0 hf K hK => ?_) ?_
    · obtain ⟨b5, A5, n5, c5, bb5, AA5, nn5, cc5, h5, z5, y5⟩ : ((fun (v : Value) (X : World) => ∃ b A n c b' A' n' c', v = .tuple #[.agg #[.bool b, .slice A n c, .bool b', .slice A' n' c'], .int .i64 0] ∧ ZV X (.agg #[.bool b, .slice A n c]) (vn) ∧ ZV X (.agg #[.bool b', .slice A' n' c']) (vd))) (y 5) X := hf.1
      clear hf
      have ex := (Ext.drw (Ext.refl _)).trans ex0
      refine Box.mk ?_
      simp only [fill, Act.put, Nat.reduceAdd, List.setIfInBounds_toArray, List.set_cons_zero, List.set_cons_succ, h5] at hK ⊢
      go_simp
      exact hK.out _ _ rfl (Ext.refl _) (fun b hb => by cases hb)
    exact Steps.nil
  case done =>
    intro y X ex hf hlt hsep
    obtain ⟨b0, A0, n0, c0, h0, z0⟩ : ((fun (v : Value) (X : World) => ∃ b A n c, v = .agg #[.bool b, .slice A n c] ∧ ZV X (.agg #[.bool b, .slice A n c]) (ux))) (y 0) X := hf.1
    obtain ⟨b1, A1, n1, c1, h1, z1⟩ : ((fun (v : Value) (X : World) => ∃ b A n c, v = .agg #[.bool b, .slice A n c] ∧ ZV X (.agg #[.bool b, .slice A n c]) (ux))) (y 1) X := hf.2.1
    obtain ⟨b2, A2, n2, c2, h2, z2⟩ : ((fun (v : Value) (X : World) => ∃ b A n c, v = .agg #[.bool b, .slice A n c] ∧ ZV X (.agg #[.bool b, .slice A n c]) (uy))) (y 2) X := hf.2.2.1
    obtain ⟨b3, A3, n3, c3, h3, z3⟩ : ((fun (v : Value) (X : World) => ∃ b A n c, v = .agg #[.bool b, .slice A n c] ∧ ZV X (.agg #[.bool b, .slice A n c]) (uy))) (y 3) X := hf.2.2.2.1
    obtain ⟨b4, A4, n4, c4, bb4, AA4, nn4, cc4, h4, z4, y4⟩ : ((fun (v : Value) (X : World) => ∃ b A n c b' A' n' c', v = .agg #[.bool b, .slice A n c, .bool b', .slice A' n' c'] ∧ ZV X (.agg #[.bool b, .slice A n c]) (vn) ∧ ZV X (.agg #[.bool b', .slice A' n' c']) (vd))) (y 4) X := hf.2.2.2.2.1
    obtain ⟨b5, A5, n5, c5, bb5, AA5, nn5, cc5, h5, z5, y5⟩ : ((fun (v : Value) (X : World) => ∃ b A n c b' A' n' c', v = .tuple #[.agg #[.bool b, .slice A n c, .bool b', .slice A' n' c'], .int .i64 0] ∧ ZV X (.agg #[.bool b, .slice A n c]) (vn) ∧ ZV X (.agg #[.bool b', .slice A' n' c']) (vd))) (y 5) X := hf.2.2.2.2.2.1
    obtain ⟨b6, A6, n6, c6, bb6, AA6, nn6, cc6, h6, z6, y6⟩ : ((fun (v : Value) (X : World) => ∃ b A n c b' A' n' c', v = .agg #[.bool b, .slice A n c, .bool b', .slice A' n' c'] ∧ ZV X (.agg #[.bool b, .slice A n c]) (vn) ∧ ZV X (.agg #[.bool b', .slice A' n' c']) (vd))) (y 6) X := hf.2.2.2.2.2.2.1
    have h7 : ((fun (v : Value) (_ : World) => v = .int .i64 (0 : Int))) (y 7) X := hf.2.2.2.2.2.2.2.1
    clear hf
    clear hsep hlt
    refine Box.mk ?_
    simp only [List.drop_succ_cons, List.drop_zero, fill, Act.put, Nat.reduceAdd, List.setIfInBounds_toArray, List.set_cons_zero, List.set_cons_succ, h0, h1, h2, h3, h4, h5, h6, h7]
    clear h0 h1 h2 h3 h4 h5 h6 h7
    have r4 := R4.out.ext ex
    obtain ⟨_, _, _, _, k40, k41, k42, k43, k44, k45, k46, k47⟩ := put4_walk r4 (.bool b6) (.slice A6 n6 c6) (.bool bb6)
    obtain ⟨W', hW'⟩ : ∃ W', W' = put4 X (w.heap.size + 1 + 1) (.bool b6) (.slice A6 n6 c6) (.bool bb6) (.slice AA6 nn6 cc6) := ⟨_, rfl⟩
    obtain ⟨f0, f1, f2, f3⟩ := put4_cells r4 (.bool b6) (.slice A6 n6 c6) (.bool bb6) (.slice AA6 nn6 cc6)
    have hz1 := (z6).put4 r4 (.bool b6) (.slice A6 n6 c6) (.bool bb6) (.slice AA6 nn6 cc6)
    rw [← hW'] at hz1
    have hz2 := (y6).put4 r4 (.bool b6) (.slice A6 n6 c6) (.bool bb6) (.slice AA6 nn6 cc6)
    rw [← hW'] at hz2
    have hbf : Below w.heap.size w W' := by rw [hW']; exact put4_below (Ext.below (E4.out.trans ex)) (by omega) (.bool b6) (.slice A6 n6 c6) (.bool bb6) (.slice AA6 nn6 cc6)
    rw [← hW'] at f0 f1 f2 f3
    unfold put4 at hW'
    have HG := Lib.hid (And.intro hz1 (And.intro hz2 (And.intro hbf (And.intro f0 (And.intro f1 (And.intro f2 f3))))))
    have HW' := Lib.hid hW'
    clear hz1 hz2 hbf f0 f1 f2 f3 hW' r4 ex z0 z1 z2 z3 z4 y4 z5 y5 z6 y6
    go_wp2_with fail
    refine NoPanic.normal ?_
    go_wp2
    rw [← HW'.out]
    obtain ⟨hz1, hz2, hbf, f0, f1, f2, f3⟩ := HG.out
    exact bodyPost_ret (v := .tuple #[.agg #[.bool b6, .slice A6 n6 c6, .bool bb6, .slice AA6 nn6 cc6], .int .i64 0]) (by simp [results, Tryz.results6, go_sem, f0, f1, f2, f3]) rfl ⟨_, _, _, _, _, _, _, _, rfl, hz1, hz2, hbf⟩
end Go.Proofs.YtmlopkkbgpfdnaaGreatDoor
