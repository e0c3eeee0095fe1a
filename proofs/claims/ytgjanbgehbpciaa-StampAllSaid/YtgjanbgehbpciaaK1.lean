/- Walks: patterns: their colours, and which moves keep them. -/
import Derived.Test.YtgjanbgehbpciaaF6
namespace Go.Proofs.Ytgjanbgehbpciaa
open Go.RowKit

/-- the colour of a place of the plane -/
def col (w h : Nat) (cs : List Int) (x y : Int) : Int := cs.getD (y % h * w + x % w).toNat 0
theorem place_in {w h : Nat} (hw : 1 ≤ w) (hh : 1 ≤ h) (x y : Int) : ∃ i : Nat, y % h * w + x % w = (i : Int) ∧ i < w * h := by
  have h1 := Int.emod_nonneg x (b := (w : Int)) (by omega)
  have h2 := Int.emod_lt_of_pos x (b := (w : Int)) (by omega)
  have h3 := Int.emod_nonneg y (b := (h : Int)) (by omega)
  have h4 := Int.emod_lt_of_pos y (b := (h : Int)) (by omega)
  obtain ⟨a, ha⟩ : ∃ a : Nat, x % w = a := ⟨(x % w).toNat, by omega⟩
  obtain ⟨b, hb⟩ : ∃ b : Nat, y % h = b := ⟨(y % h).toNat, by omega⟩
  rw [ha] at h2 ⊢
  rw [hb] at h4 ⊢
  refine ⟨b * w + a, by simp, ?_⟩
  have := round_mul (w := w) (y := b) (h := h) (by omega)
  omega

set_option maxHeartbeats 2000000 in
set_option maxRecDepth 100000 in
theorem colour_c (w h N bs os cS Bs Bz : Nat) (cs : List Int) (px py : Int) (W : World) (hs : okSize w h = true) (hN : N = w * h) (hBs : Bs < W.heap.size) (hBz : Bz < W.heap.size) (hbs : bs < W.heap.size)
    (hq : Q3 W Bs (.int .i64 w) (.int .i64 h) (.slice (some ⟨bs, os, none⟩) N cS)) (hz : C2 W Bz (.int .i64 w) (.int .i64 h)) (hc : ∀ j, j < N → W.cell? ⟨bs, os + j, none⟩ = some (.int .i64 (cs.getD j 0)))
    (hx : -10000 ≤ px) (hx' : px ≤ 10000) (hy : -10000 ≤ py) (hy' : py ≤ 10000) :
    Calls Try.prog 88 #[.int .i64 px, .int .i64 py, .pointer (some ⟨Bs, 0, none⟩), .pointer (some ⟨Bz, 0, none⟩)] W fun e W' => e = .returned (.int .i64 (col w h cs px py)) ∧ Ext W W' := by
  have hs' := okSize_iff.1 hs
  have hN64 : N ≤ 64 := by rw [hN]; exact Nat.mul_le_mul (show w ≤ 8 by omega) (show h ≤ 8 by omega)
  obtain ⟨i, hi, hil⟩ := place_in (w := w) (h := h) (by omega) (by omega) px py
  have hce := fun X => cell_any w h px py X (by omega) hx hx' hy hy'
  rw [hi] at hce
  have hcol : col w h cs px py = cs.getD i 0 := by unfold col; rw [hi]; rfl
  rw [hcol]
  rw [← hN] at hil
  have hci := hc i hil
  obtain ⟨cv, hv⟩ : ∃ cv, cv = cs.getD i 0 := ⟨_, rfl⟩
  rw [← hv] at hci ⊢
  have HCE := Lib.hid hce; have HCI := Lib.hid hci; have HQ := Lib.hid hq; have HZ := Lib.hid hz; have HIL := Lib.hid hil
  clear hce hci hq hz hc hcol hi hv hs hs' hN hil
  go_enter Try.func88, Try.ntmps88
  go_upto_region 1 with fail
  refine wp_region_noPanic ?_
  refine wp_pool 8 [some 7, some 8, some 9, some 10, some 11, some 12, some 13, some 14] [] [] [(fun (v : Value) (_ : World) => v = .pointer (some ⟨Bs, 2, none⟩)), (fun (v : Value) (_ : World) => v = .slice (some ⟨bs, os, none⟩) N cS), (fun (v : Value) (_ : World) => v = .agg #[.int .i64 w, .int .i64 h]), (fun (v : Value) (_ : World) => v = .int .i64 px), (fun (v : Value) (_ : World) => v = .int .i64 py), (fun (v : Value) (_ : World) => v = .int .i64 i), (fun (v : Value) (_ : World) => v = .pointer (some ⟨bs, os + i, none⟩)), (fun (v : Value) (_ : World) => v = .int .i64 cv)] [noF, noF, noF, noF, noF, noF, noF, noF] (by kernel_rfl) (by kernel_rfl) (by kernel_rfl) (by kernel_rfl) (by kernel_rfl) (by kernel_rfl) (by kernel_rfl) (by kernel_rfl) (fun _ _ _ _ h => h) ⟨Stays.pure _, Stays.pure _, Stays.pure _, Stays.pure _, Stays.pure _, Stays.pure _, Stays.pure _, Stays.pure _, True.intro⟩ ?steps ?done
  case steps =>
    simp only [List.take_succ_cons, List.take_zero]
    refine Steps.cons (fun (v : Value) (_ : World) => v = .pointer (some ⟨Bs, 2, none⟩)) [] rfl (by kernel_rfl) rfl (by kernel_rfl) (fun y X ex0 hf K hK => ?_) ?_
    · clear hf
      have ex := (Ext.drw (Ext.refl _)).trans ex0
      refine Box.mk ?_
      simp only [fill, Act.put, Nat.reduceAdd, List.setIfInBounds_toArray, List.set_cons_zero, List.set_cons_succ] at hK ⊢
      go_simp
      exact hK.out _ _ rfl (Ext.refl _) (fun b hb => by cases hb)
    refine Steps.cons (fun (v : Value) (_ : World) => v = .slice (some ⟨bs, os, none⟩) N cS) [0] rfl (by kernel_rfl) rfl (by kernel_rfl) (fun y X ex0 hf K hK => ?_) ?_
    · have h0 : ((fun (v : Value) (_ : World) => v = .pointer (some ⟨Bs, 2, none⟩))) (y 0) X := hf.1
      clear hf
      have ex := (Ext.drw (Ext.refl _)).trans ex0
      refine Box.mk ?_
      simp only [fill, Act.put, Nat.reduceAdd, List.setIfInBounds_toArray, List.set_cons_zero, List.set_cons_succ, h0] at hK ⊢
      have q := keepAt ex hBs HQ.out.2.2
      go_simp
      exact hK.out _ _ rfl (Ext.refl _) (fun b hb => by cases hb)
    refine Steps.cons (fun (v : Value) (_ : World) => v = .agg #[.int .i64 w, .int .i64 h]) [] rfl (by kernel_rfl) rfl (by kernel_rfl) (fun y X ex0 hf K hK => ?_) ?_
    · clear hf
      have ex := (Ext.drw (Ext.refl _)).trans ex0
      refine Box.mk ?_
      simp only [fill, Act.put, Nat.reduceAdd, List.setIfInBounds_toArray, List.set_cons_zero, List.set_cons_succ] at hK ⊢
      have q0 := keepAt ex hBz HZ.out.1
      have q1 := keepAt ex hBz HZ.out.2
      go_simp
      exact hK.out _ _ rfl (Ext.refl _) (fun b hb => by cases hb)
    refine Steps.cons (fun (v : Value) (_ : World) => v = .int .i64 px) [] rfl (by kernel_rfl) rfl (by kernel_rfl) (fun y X ex0 hf K hK => ?_) ?_
    · clear hf
      have ex := (Ext.drw (Ext.refl _)).trans ex0
      refine Box.mk ?_
      simp only [fill, Act.put, Nat.reduceAdd, List.setIfInBounds_toArray, List.set_cons_zero, List.set_cons_succ] at hK ⊢
      go_simp
      exact hK.out _ _ rfl (Ext.refl _) (fun b hb => by cases hb)
    refine Steps.cons (fun (v : Value) (_ : World) => v = .int .i64 py) [] rfl (by kernel_rfl) rfl (by kernel_rfl) (fun y X ex0 hf K hK => ?_) ?_
    · clear hf
      have ex := (Ext.drw (Ext.refl _)).trans ex0
      refine Box.mk ?_
      simp only [fill, Act.put, Nat.reduceAdd, List.setIfInBounds_toArray, List.set_cons_zero, List.set_cons_succ] at hK ⊢
      go_simp
      exact hK.out _ _ rfl (Ext.refl _) (fun b hb => by cases hb)
    refine Steps.cons (fun (v : Value) (_ : World) => v = .int .i64 i) [2, 3, 4] rfl (by kernel_rfl) rfl (by kernel_rfl) (fun y X ex0 hf K hK => ?_) ?_
    · have h2 : ((fun (v : Value) (_ : World) => v = .agg #[.int .i64 w, .int .i64 h])) (y 2) X := hf.1
      have h3 : ((fun (v : Value) (_ : World) => v = .int .i64 px)) (y 3) X := hf.2.1
      have h4 : ((fun (v : Value) (_ : World) => v = .int .i64 py)) (y 4) X := hf.2.2.1
      clear hf
      have ex := (Ext.drw (Ext.refl _)).trans ex0
      refine Box.mk ?_
      simp only [fill, Act.put, Nat.reduceAdd, List.setIfInBounds_toArray, List.set_cons_zero, List.set_cons_succ, h2, h3, h4] at hK ⊢
      go_simp
      refine (HCE.out _).mono ?_
      rintro e V ⟨rfl, hb⟩
      try go_wp2_with fail
      exact hK.out _ _ rfl hb (fun b hb => by cases hb)
    refine Steps.cons (fun (v : Value) (_ : World) => v = .pointer (some ⟨bs, os + i, none⟩)) [1, 5] rfl (by kernel_rfl) rfl (by kernel_rfl) (fun y X ex0 hf K hK => ?_) ?_
    · have h1 : ((fun (v : Value) (_ : World) => v = .slice (some ⟨bs, os, none⟩) N cS)) (y 1) X := hf.1
      have h5 : ((fun (v : Value) (_ : World) => v = .int .i64 i)) (y 5) X := hf.2.1
      clear hf
      have ex := (Ext.drw (Ext.refl _)).trans ex0
      refine Box.mk ?_
      simp only [fill, Act.put, Nat.reduceAdd, List.setIfInBounds_toArray, List.set_cons_zero, List.set_cons_succ, h1, h5] at hK ⊢
      have il := HIL.out
      go_simp
      exact hK.out _ _ rfl (Ext.refl _) (fun b hb => by cases hb)
    refine Steps.cons (fun (v : Value) (_ : World) => v = .int .i64 cv) [6] rfl (by kernel_rfl) rfl (by kernel_rfl) (fun y X ex0 hf K hK => ?_) ?_
    · have h6 : ((fun (v : Value) (_ : World) => v = .pointer (some ⟨bs, os + i, none⟩))) (y 6) X := hf.1
      clear hf
      have ex := (Ext.drw (Ext.refl _)).trans ex0
      refine Box.mk ?_
      simp only [fill, Act.put, Nat.reduceAdd, List.setIfInBounds_toArray, List.set_cons_zero, List.set_cons_succ, h6] at hK ⊢
      have q := keepAt ex hbs HCI.out
      go_simp
      exact hK.out _ _ rfl (Ext.refl _) (fun b hb => by cases hb)
    exact Steps.nil
  case done =>
    intro y X ex hf hlt hsep
    have h0 : ((fun (v : Value) (_ : World) => v = .pointer (some ⟨Bs, 2, none⟩))) (y 0) X := hf.1
    have h1 : ((fun (v : Value) (_ : World) => v = .slice (some ⟨bs, os, none⟩) N cS)) (y 1) X := hf.2.1
    have h2 : ((fun (v : Value) (_ : World) => v = .agg #[.int .i64 w, .int .i64 h])) (y 2) X := hf.2.2.1
    have h3 : ((fun (v : Value) (_ : World) => v = .int .i64 px)) (y 3) X := hf.2.2.2.1
    have h4 : ((fun (v : Value) (_ : World) => v = .int .i64 py)) (y 4) X := hf.2.2.2.2.1
    have h5 : ((fun (v : Value) (_ : World) => v = .int .i64 i)) (y 5) X := hf.2.2.2.2.2.1
    have h6 : ((fun (v : Value) (_ : World) => v = .pointer (some ⟨bs, os + i, none⟩))) (y 6) X := hf.2.2.2.2.2.2.1
    have h7 : ((fun (v : Value) (_ : World) => v = .int .i64 cv)) (y 7) X := hf.2.2.2.2.2.2.2.1
    clear hf
    clear hsep hlt
    refine Box.mk ?_
    simp only [List.drop_succ_cons, List.drop_zero, fill, Act.put, Nat.reduceAdd, List.setIfInBounds_toArray, List.set_cons_zero, List.set_cons_succ, h0, h1, h2, h3, h4, h5, h6, h7]
    clear h0 h1 h2 h3 h4 h5 h6 h7
    have EX := Lib.hid ex; clear ex
    go_wp2_with fail
    refine NoPanic.normal ?_
    go_wp2
    go_ret
    exact ⟨rfl, EX.out⟩

/-- does the move keep the cells? -/
def kpm (w h : Nat) (m : Mv) (cs : List Int) : Bool := decide (∀ i, i < w * h → cs.getD (goalAt w h m i).toNat 0 = cs.getD i 0)
theorem col_goal {w h : Nat} {m : Mv} {cs : List Int} {x y : Nat} (hx : x < w) : col w h cs ((spin m.f m.t.toNat ((x : Int), (y : Int))).1 + m.dx) ((spin m.f m.t.toNat ((x : Int), (y : Int))).2 + m.dy) = cs.getD (goalAt w h m (y * w + x)).toNat 0 := by
  unfold col; rw [goalAt_at w h m x y hx]
theorem col_self {w h : Nat} {cs : List Int} {x y : Nat} (hx : x < w) (hy : y < h) : col w h cs (x : Int) (y : Int) = cs.getD (y * w + x) 0 := by
  unfold col
  rw [Int.emod_eq_of_lt (by omega) (by omega), Int.emod_eq_of_lt (by omega) (by omega)]
  have : ((y : Int) * w + x) = ((y * w + x : Nat) : Int) := by simp
  rw [this]; rfl

set_option maxHeartbeats 4000000 in
set_option maxRecDepth 100000 in
theorem keeps_c (w h N bs os cS Bs Bz : Nat) (cs : List Int) (m : Mv) (W : World) (hs : okSize w h = true) (hN : N = w * h) (hBs : Bs < W.heap.size) (hBz : Bz < W.heap.size) (hbs : bs < W.heap.size)
    (hq : Q3 W Bs (.int .i64 w) (.int .i64 h) (.slice (some ⟨bs, os, none⟩) N cS)) (hz : C2 W Bz (.int .i64 w) (.int .i64 h)) (hc : ∀ j, j < N → W.cell? ⟨bs, os + j, none⟩ = some (.int .i64 (cs.getD j 0))) (hm : has w h m = true) :
    Calls Try.prog 67 #[.agg #[.int .i64 w, .int .i64 h, .func (.func 88) #[] #[.pointer (some ⟨Bs, 0, none⟩), .pointer (some ⟨Bz, 0, none⟩)]], .agg #[.int .i64 m.dx, .int .i64 m.dy, .int .i64 m.t, .bool m.f]] W fun e W' => e = .returned (.bool (kpm w h m cs)) ∧ Ext W W' := by
  have hs' := okSize_iff.1 hs
  have hm' := has_iff.1 hm
  obtain ⟨n, hn⟩ : ∃ n : Nat, m.t = n := ⟨m.t.toNat, by omega⟩
  have hsb : ∀ x y : Nat, x < w → y < h → -1000 ≤ (spin m.f m.t.toNat ((x : Int), (y : Int))).1 ∧ (spin m.f m.t.toNat ((x : Int), (y : Int))).1 ≤ 1000 ∧ -1000 ≤ (spin m.f m.t.toNat ((x : Int), (y : Int))).2 ∧ (spin m.f m.t.toNat ((x : Int), (y : Int))).2 ≤ 1000 := fun x y hx hy =>
    spin_bd (f := m.f) (t := m.t) hm'.2.2.2.2.1 hm'.2.2.2.2.2.1 (by omega) (by omega) (by omega) (by omega)
  have hmv : ∀ (x y : Nat) (X : World), x < w → y < h → Calls Try.prog 79 #[.agg #[.int .i64 m.dx, .int .i64 m.dy, .int .i64 m.t, .bool m.f], .int .i64 x, .int .i64 y] X fun e W' => e = .returned (.tuple #[.int .i64 ((spin m.f m.t.toNat ((x : Int), (y : Int))).1 + m.dx), .int .i64 ((spin m.f m.t.toNat ((x : Int), (y : Int))).2 + m.dy)]) ∧ Ext X W' := fun x y X hx hy => by
    rw [hn]
    exact moved_any m.dx m.dy n m.f x y X (by omega) (by omega) (by omega) (by omega) (by omega) (by omega) (by omega) (by omega) (by omega)
  have hco : ∀ (x y : Int) (X : World), Ext W X → -10000 ≤ x → x ≤ 10000 → -10000 ≤ y → y ≤ 10000 → Calls Try.prog 88 #[.int .i64 x, .int .i64 y, .pointer (some ⟨Bs, 0, none⟩), .pointer (some ⟨Bz, 0, none⟩)] X fun e W' => e = .returned (.int .i64 (col w h cs x y)) ∧ Ext X W' := fun x y X hX a b c d =>
    colour_c w h N bs os cS Bs Bz cs x y X hs hN (Nat.lt_of_lt_of_le hBs hX.size) (Nat.lt_of_lt_of_le hBz hX.size) (Nat.lt_of_lt_of_le hbs hX.size) (hq.ext hBs hX) (hz.ext hBz hX) (fun j hj => keepAt hX hbs (hc j hj)) a b c d
  obtain ⟨r, hr⟩ : ∃ r, r = kpm w h m cs := ⟨_, rfl⟩
  rw [← hr]
  have HMV := Lib.hid hmv; have HCO := Lib.hid hco; have HSB := Lib.hid hsb; have HR := Lib.hid hr; have HM := Lib.hid hm'; have HW := Lib.hid hs'
  clear hmv hco hsb hr hm hm' hs hs' hn hq hz hc hN
  have hw8 : w ≤ 8 := by have := HW.out; omega
  have hh8 : h ≤ 8 := by have := HW.out; omega
  go_enter Try.func67, Try.ntmps67
  go_upto_region 1 with fail
  have q1 : Q3 ((W.alloc (.cells #[.int .i64 w, .int .i64 h, .func (.func 88) #[] #[.pointer (some ⟨Bs, 0, none⟩), .pointer (some ⟨Bz, 0, none⟩)]] 107)).alloc (.cells #[.int .i64 m.dx, .int .i64 m.dy, .int .i64 m.t, .bool m.f] 31)) W.heap.size (.int .i64 w) (.int .i64 h) (.func (.func 88) #[] #[.pointer (some ⟨Bs, 0, none⟩), .pointer (some ⟨Bz, 0, none⟩)]) := by
    refine ⟨?_, ?_, ?_⟩ <;> (rw [World.cell?_alloc_past _ _ _ (by simp), World.cell?_alloc_new]; rfl)
  have q2 : Q4 ((W.alloc (.cells #[.int .i64 w, .int .i64 h, .func (.func 88) #[] #[.pointer (some ⟨Bs, 0, none⟩), .pointer (some ⟨Bz, 0, none⟩)]] 107)).alloc (.cells #[.int .i64 m.dx, .int .i64 m.dy, .int .i64 m.t, .bool m.f] 31)) (W.heap.size + 1) (.int .i64 m.dx) (.int .i64 m.dy) (.int .i64 m.t) (.bool m.f) := by
    refine ⟨?_, ?_, ?_, ?_⟩ <;> (rw [World.cell?_alloc_at _ _ _ _ (by simp)]; rfl)
  have bb := al2 W (.cells #[.int .i64 w, .int .i64 h, .func (.func 88) #[] #[.pointer (some ⟨Bs, 0, none⟩), .pointer (some ⟨Bz, 0, none⟩)]] 107) (.cells #[.int .i64 m.dx, .int .i64 m.dy, .int .i64 m.t, .bool m.f] 31)
  have zz : ((W.alloc (.cells #[.int .i64 w, .int .i64 h, .func (.func 88) #[] #[.pointer (some ⟨Bs, 0, none⟩), .pointer (some ⟨Bz, 0, none⟩)]] 107)).alloc (.cells #[.int .i64 m.dx, .int .i64 m.dy, .int .i64 m.t, .bool m.f] 31)).heap.size = W.heap.size + 1 + 1 := by simp
  generalize ((W.alloc (.cells #[.int .i64 w, .int .i64 h, .func (.func 88) #[] #[.pointer (some ⟨Bs, 0, none⟩), .pointer (some ⟨Bz, 0, none⟩)]] 107)).alloc (.cells #[.int .i64 m.dx, .int .i64 m.dy, .int .i64 m.t, .bool m.f] 31)) = W2 at *
  have zle : W.heap.size + 1 + 1 ≤ W2.heap.size := by omega
  have BB : Hid (Ext W W2) := Lib.hid bb; have H1 := Lib.hid q1; have H2 := Lib.hid q2
  obtain ⟨p0, p1, p2⟩ := q1
  clear bb zz q2
  go_wp2_with fail
  clear p0 p1 p2
  go_loopw [10] (fun i wr => ∃ yy : Nat, i = .int .i64 yy ∧ yy ≤ h ∧ (∀ i, i < yy * w → cs.getD (goalAt w h m i).toNat 0 = cs.getD i 0) ∧ Ext W2 wr) (fun i _ => h - (intOf i).toNat)
  case atStart => exact ⟨0, rfl, by omega, (fun i hi => by omega), Ext.refl _⟩
  case round =>
    obtain ⟨yy, rfl, hyy, hok, hex⟩ := hrel
    have HOK := Lib.hid hok; have HEX := Lib.hid hex; clear hok hex
    by_cases hlt : yy < h
    · obtain ⟨p0, p1, p2⟩ := H1.out.ext (by omega) HEX.out
      go_wp2_with fail
      clear p0 p1 p2
      obtain ⟨wo, hwo⟩ : ∃ wo : World, wo = wr := ⟨_, rfl⟩
      rw [← hwo] at HEX ⊢
      clear hwo
      have hex := HEX.out
      have hok0 : ∀ i, i < yy * w + 0 → cs.getD (goalAt w h m i).toNat 0 = cs.getD i 0 := HOK.out
      go_loopw [16] (fun i wr => ∃ xx : Nat, i = .int .i64 xx ∧ xx ≤ w ∧ (∀ i, i < yy * w + xx → cs.getD (goalAt w h m i).toNat 0 = cs.getD i 0) ∧ Ext W2 wr) (fun i _ => w - (intOf i).toNat)
      case atStart => exact ⟨0, rfl, by omega, hok0, hex⟩
      case round =>
        clear hex hok0 HEX HOK
        obtain ⟨xx, rfl, hxx, hok, hex⟩ := hrel
        have HOK := Lib.hid hok; have HEX := Lib.hid hex; clear hok hex
        by_cases hlx : xx < w
        · have hmv := fun X => HMV.out xx yy X hlx hlt
          have hsb := HSB.out xx yy hlx hlt
          have hmm := HM.out
          have hcg := col_goal (m := m) (h := h) (cs := cs) (y := yy) hlx
          have hcs := col_self (cs := cs) hlx hlt
          obtain ⟨p, hp⟩ : ∃ p, p = (spin m.f m.t.toNat ((xx : Int), (yy : Int))).1 + m.dx := ⟨_, rfl⟩
          obtain ⟨q, hq⟩ : ∃ q, q = (spin m.f m.t.toNat ((xx : Int), (yy : Int))).2 + m.dy := ⟨_, rfl⟩
          have hpb : -10000 ≤ p ∧ p ≤ 10000 ∧ -10000 ≤ q ∧ q ≤ 10000 := by omega
          simp only [← hp, ← hq] at hmv
          rw [← hp, ← hq] at hcg
          have hc1 := fun X (hX : Ext W X) => HCO.out p q X hX hpb.1 hpb.2.1 hpb.2.2.1 hpb.2.2.2
          have hc2 := fun X (hX : Ext W X) => HCO.out xx yy X hX (by omega) (by omega) (by omega) (by omega)
          obtain ⟨c1, hcc1⟩ : ∃ c1, c1 = col w h cs p q := ⟨_, rfl⟩
          obtain ⟨c2, hcc2⟩ : ∃ c2, c2 = col w h cs xx yy := ⟨_, rfl⟩
          simp only [← hcc1] at hc1
          simp only [← hcc2] at hc2
          rw [← hcc1] at hcg
          rw [← hcc2] at hcs
          have HMVX := Lib.hid hmv; have HC1 := Lib.hid hc1; have HC2 := Lib.hid hc2; have HCG := Lib.hid hcg; have HCS := Lib.hid hcs
          clear hmv hsb hmm hcg hcs hp hq hpb hc1 hc2 hcc1 hcc2
          have hWr : W.heap.size + 1 + 1 ≤ wr.heap.size := Nat.le_trans zle HEX.out.size
          have HEW := Lib.hid (BB.out.trans HEX.out)
          have h1r := H1.out.ext (by omega) HEX.out
          have h2r := H2.out.ext (by omega) HEX.out
          have H1R := Lib.hid h1r; have H2R := Lib.hid h2r; clear h1r h2r
          go_upto_region 7 with fail
          refine wp_region_noPanic ?_
          refine wp_pool 15 [some 19, some 20, some 21, some 22, some 23, some 24, some 25, some 26, some 27, some 28, some 29, some 30, some 31, some 32, some 33] [] [] [(fun (v : Value) (_ : World) => v = .pointer (some ⟨W.heap.size, 2, none⟩)), (fun (v : Value) (_ : World) => v = .func (.func 88) #[] #[.pointer (some ⟨Bs, 0, none⟩), .pointer (some ⟨Bz, 0, none⟩)]), (fun (v : Value) (_ : World) => v = .agg #[.int .i64 m.dx, .int .i64 m.dy, .int .i64 m.t, .bool m.f]), (fun (v : Value) (_ : World) => v = .int .i64 xx), (fun (v : Value) (_ : World) => v = .int .i64 yy), (fun (v : Value) (_ : World) => v = .tuple #[.int .i64 p, .int .i64 q]), (fun (v : Value) (_ : World) => v = .int .i64 p), (fun (v : Value) (_ : World) => v = .int .i64 q), (fun (v : Value) (_ : World) => v = .int .i64 c1), (fun (v : Value) (_ : World) => v = .pointer (some ⟨W.heap.size, 2, none⟩)), (fun (v : Value) (_ : World) => v = .func (.func 88) #[] #[.pointer (some ⟨Bs, 0, none⟩), .pointer (some ⟨Bz, 0, none⟩)]), (fun (v : Value) (_ : World) => v = .int .i64 xx), (fun (v : Value) (_ : World) => v = .int .i64 yy), (fun (v : Value) (_ : World) => v = .int .i64 c2), (fun (v : Value) (_ : World) => v = .bool (!(c1 == c2)))] [noF, noF, noF, noF, noF, noF, noF, noF, noF, noF, noF, noF, noF, noF, noF] (by kernel_rfl) (by kernel_rfl) (by kernel_rfl) (by kernel_rfl) (by kernel_rfl) (by kernel_rfl) (by kernel_rfl) (by kernel_rfl) (fun _ _ _ _ h => h) ⟨Stays.pure _, Stays.pure _, Stays.pure _, Stays.pure _, Stays.pure _, Stays.pure _, Stays.pure _, Stays.pure _, Stays.pure _, Stays.pure _, Stays.pure _, Stays.pure _, Stays.pure _, Stays.pure _, Stays.pure _, True.intro⟩ ?steps ?done
          case steps =>
            simp only [List.take_succ_cons, List.take_zero]
            refine Steps.cons (fun (v : Value) (_ : World) => v = .pointer (some ⟨W.heap.size, 2, none⟩)) [] rfl (by kernel_rfl) rfl (by kernel_rfl) (fun y X ex0 hf K hK => ?_) ?_
            · clear hf
              have ex := (Ext.drw (Ext.refl _)).trans ex0
              refine Box.mk ?_
              simp only [fill, Act.put, Nat.reduceAdd, List.setIfInBounds_toArray, List.set_cons_zero, List.set_cons_succ] at hK ⊢
              go_simp
              exact hK.out _ _ rfl (Ext.refl _) (fun b hb => by cases hb)
            refine Steps.cons (fun (v : Value) (_ : World) => v = .func (.func 88) #[] #[.pointer (some ⟨Bs, 0, none⟩), .pointer (some ⟨Bz, 0, none⟩)]) [0] rfl (by kernel_rfl) rfl (by kernel_rfl) (fun y X ex0 hf K hK => ?_) ?_
            · have h0 : ((fun (v : Value) (_ : World) => v = .pointer (some ⟨W.heap.size, 2, none⟩))) (y 0) X := hf.1
              clear hf
              have ex := (Ext.drw (Ext.refl _)).trans ex0
              refine Box.mk ?_
              simp only [fill, Act.put, Nat.reduceAdd, List.setIfInBounds_toArray, List.set_cons_zero, List.set_cons_succ, h0] at hK ⊢
              have q := keepAt ex (by omega) H1R.out.2.2
              go_simp
              exact hK.out _ _ rfl (Ext.refl _) (fun b hb => by cases hb)
            refine Steps.cons (fun (v : Value) (_ : World) => v = .agg #[.int .i64 m.dx, .int .i64 m.dy, .int .i64 m.t, .bool m.f]) [] rfl (by kernel_rfl) rfl (by kernel_rfl) (fun y X ex0 hf K hK => ?_) ?_
            · clear hf
              have ex := (Ext.drw (Ext.refl _)).trans ex0
              refine Box.mk ?_
              simp only [fill, Act.put, Nat.reduceAdd, List.setIfInBounds_toArray, List.set_cons_zero, List.set_cons_succ] at hK ⊢
              obtain ⟨q0, q1, q2, q3⟩ := Q4.ext H2R.out (by omega) ex
              go_simp
              exact hK.out _ _ rfl (Ext.refl _) (fun b hb => by cases hb)
            refine Steps.cons (fun (v : Value) (_ : World) => v = .int .i64 xx) [] rfl (by kernel_rfl) rfl (by kernel_rfl) (fun y X ex0 hf K hK => ?_) ?_
            · clear hf
              have ex := (Ext.drw (Ext.refl _)).trans ex0
              refine Box.mk ?_
              simp only [fill, Act.put, Nat.reduceAdd, List.setIfInBounds_toArray, List.set_cons_zero, List.set_cons_succ] at hK ⊢
              go_simp
              exact hK.out _ _ rfl (Ext.refl _) (fun b hb => by cases hb)
            refine Steps.cons (fun (v : Value) (_ : World) => v = .int .i64 yy) [] rfl (by kernel_rfl) rfl (by kernel_rfl) (fun y X ex0 hf K hK => ?_) ?_
            · clear hf
              have ex := (Ext.drw (Ext.refl _)).trans ex0
              refine Box.mk ?_
              simp only [fill, Act.put, Nat.reduceAdd, List.setIfInBounds_toArray, List.set_cons_zero, List.set_cons_succ] at hK ⊢
              go_simp
              exact hK.out _ _ rfl (Ext.refl _) (fun b hb => by cases hb)
            refine Steps.cons (fun (v : Value) (_ : World) => v = .tuple #[.int .i64 p, .int .i64 q]) [2, 3, 4] rfl (by kernel_rfl) rfl (by kernel_rfl) (fun y X ex0 hf K hK => ?_) ?_
            · have h2 : ((fun (v : Value) (_ : World) => v = .agg #[.int .i64 m.dx, .int .i64 m.dy, .int .i64 m.t, .bool m.f])) (y 2) X := hf.1
              have h3 : ((fun (v : Value) (_ : World) => v = .int .i64 xx)) (y 3) X := hf.2.1
              have h4 : ((fun (v : Value) (_ : World) => v = .int .i64 yy)) (y 4) X := hf.2.2.1
              clear hf
              have ex := (Ext.drw (Ext.refl _)).trans ex0
              refine Box.mk ?_
              simp only [fill, Act.put, Nat.reduceAdd, List.setIfInBounds_toArray, List.set_cons_zero, List.set_cons_succ, h2, h3, h4] at hK ⊢
              go_simp
              refine (HMVX.out _).mono ?_
              rintro e V ⟨rfl, hb⟩
              try go_wp2_with fail
              exact hK.out _ _ rfl hb (fun b hb => by cases hb)
            refine Steps.cons (fun (v : Value) (_ : World) => v = .int .i64 p) [5] rfl (by kernel_rfl) rfl (by kernel_rfl) (fun y X ex0 hf K hK => ?_) ?_
            · have h5 : ((fun (v : Value) (_ : World) => v = .tuple #[.int .i64 p, .int .i64 q])) (y 5) X := hf.1
              clear hf
              have ex := (Ext.drw (Ext.refl _)).trans ex0
              refine Box.mk ?_
              simp only [fill, Act.put, Nat.reduceAdd, List.setIfInBounds_toArray, List.set_cons_zero, List.set_cons_succ, h5] at hK ⊢
              go_simp
              exact hK.out _ _ rfl (Ext.refl _) (fun b hb => by cases hb)
            refine Steps.cons (fun (v : Value) (_ : World) => v = .int .i64 q) [5] rfl (by kernel_rfl) rfl (by kernel_rfl) (fun y X ex0 hf K hK => ?_) ?_
            · have h5 : ((fun (v : Value) (_ : World) => v = .tuple #[.int .i64 p, .int .i64 q])) (y 5) X := hf.1
              clear hf
              have ex := (Ext.drw (Ext.refl _)).trans ex0
              refine Box.mk ?_
              simp only [fill, Act.put, Nat.reduceAdd, List.setIfInBounds_toArray, List.set_cons_zero, List.set_cons_succ, h5] at hK ⊢
              go_simp
              exact hK.out _ _ rfl (Ext.refl _) (fun b hb => by cases hb)
            refine Steps.cons (fun (v : Value) (_ : World) => v = .int .i64 c1) [1, 6, 7, 5] rfl (by kernel_rfl) rfl (by kernel_rfl) (fun y X ex0 hf K hK => ?_) ?_
            · have h1 : ((fun (v : Value) (_ : World) => v = .func (.func 88) #[] #[.pointer (some ⟨Bs, 0, none⟩), .pointer (some ⟨Bz, 0, none⟩)])) (y 1) X := hf.1
              have h6 : ((fun (v : Value) (_ : World) => v = .int .i64 p)) (y 6) X := hf.2.1
              have h7 : ((fun (v : Value) (_ : World) => v = .int .i64 q)) (y 7) X := hf.2.2.1
              have h5 : ((fun (v : Value) (_ : World) => v = .tuple #[.int .i64 p, .int .i64 q])) (y 5) X := hf.2.2.2.1
              clear hf
              have ex := (Ext.drw (Ext.refl _)).trans ex0
              refine Box.mk ?_
              simp only [fill, Act.put, Nat.reduceAdd, List.setIfInBounds_toArray, List.set_cons_zero, List.set_cons_succ, h1, h6, h7, h5] at hK ⊢
              go_simp
              refine (HC1.out _ (HEW.out.trans ex)).mono ?_
              rintro e V ⟨rfl, hb⟩
              try go_wp2_with fail
              exact hK.out _ _ rfl hb (fun b hb => by cases hb)
            refine Steps.cons (fun (v : Value) (_ : World) => v = .pointer (some ⟨W.heap.size, 2, none⟩)) [] rfl (by kernel_rfl) rfl (by kernel_rfl) (fun y X ex0 hf K hK => ?_) ?_
            · clear hf
              have ex := (Ext.drw (Ext.refl _)).trans ex0
              refine Box.mk ?_
              simp only [fill, Act.put, Nat.reduceAdd, List.setIfInBounds_toArray, List.set_cons_zero, List.set_cons_succ] at hK ⊢
              go_simp
              exact hK.out _ _ rfl (Ext.refl _) (fun b hb => by cases hb)
            refine Steps.cons (fun (v : Value) (_ : World) => v = .func (.func 88) #[] #[.pointer (some ⟨Bs, 0, none⟩), .pointer (some ⟨Bz, 0, none⟩)]) [9] rfl (by kernel_rfl) rfl (by kernel_rfl) (fun y X ex0 hf K hK => ?_) ?_
            · have h9 : ((fun (v : Value) (_ : World) => v = .pointer (some ⟨W.heap.size, 2, none⟩))) (y 9) X := hf.1
              clear hf
              have ex := (Ext.drw (Ext.refl _)).trans ex0
              refine Box.mk ?_
              simp only [fill, Act.put, Nat.reduceAdd, List.setIfInBounds_toArray, List.set_cons_zero, List.set_cons_succ, h9] at hK ⊢
              have q := keepAt ex (by omega) H1R.out.2.2
              go_simp
              exact hK.out _ _ rfl (Ext.refl _) (fun b hb => by cases hb)
            refine Steps.cons (fun (v : Value) (_ : World) => v = .int .i64 xx) [] rfl (by kernel_rfl) rfl (by kernel_rfl) (fun y X ex0 hf K hK => ?_) ?_
            · clear hf
              have ex := (Ext.drw (Ext.refl _)).trans ex0
              refine Box.mk ?_
              simp only [fill, Act.put, Nat.reduceAdd, List.setIfInBounds_toArray, List.set_cons_zero, List.set_cons_succ] at hK ⊢
              go_simp
              exact hK.out _ _ rfl (Ext.refl _) (fun b hb => by cases hb)
            refine Steps.cons (fun (v : Value) (_ : World) => v = .int .i64 yy) [] rfl (by kernel_rfl) rfl (by kernel_rfl) (fun y X ex0 hf K hK => ?_) ?_
            · clear hf
              have ex := (Ext.drw (Ext.refl _)).trans ex0
              refine Box.mk ?_
              simp only [fill, Act.put, Nat.reduceAdd, List.setIfInBounds_toArray, List.set_cons_zero, List.set_cons_succ] at hK ⊢
              go_simp
              exact hK.out _ _ rfl (Ext.refl _) (fun b hb => by cases hb)
            refine Steps.cons (fun (v : Value) (_ : World) => v = .int .i64 c2) [10, 11, 12, 8] rfl (by kernel_rfl) rfl (by kernel_rfl) (fun y X ex0 hf K hK => ?_) ?_
            · have h10 : ((fun (v : Value) (_ : World) => v = .func (.func 88) #[] #[.pointer (some ⟨Bs, 0, none⟩), .pointer (some ⟨Bz, 0, none⟩)])) (y 10) X := hf.1
              have h11 : ((fun (v : Value) (_ : World) => v = .int .i64 xx)) (y 11) X := hf.2.1
              have h12 : ((fun (v : Value) (_ : World) => v = .int .i64 yy)) (y 12) X := hf.2.2.1
              have h8 : ((fun (v : Value) (_ : World) => v = .int .i64 c1)) (y 8) X := hf.2.2.2.1
              clear hf
              have ex := (Ext.drw (Ext.refl _)).trans ex0
              refine Box.mk ?_
              simp only [fill, Act.put, Nat.reduceAdd, List.setIfInBounds_toArray, List.set_cons_zero, List.set_cons_succ, h10, h11, h12, h8] at hK ⊢
              go_simp
              refine (HC2.out _ (HEW.out.trans ex)).mono ?_
              rintro e V ⟨rfl, hb⟩
              try go_wp2_with fail
              exact hK.out _ _ rfl hb (fun b hb => by cases hb)
            refine Steps.cons (fun (v : Value) (_ : World) => v = .bool (!(c1 == c2))) [8, 13] rfl (by kernel_rfl) rfl (by kernel_rfl) (fun y X ex0 hf K hK => ?_) ?_
            · have h8 : ((fun (v : Value) (_ : World) => v = .int .i64 c1)) (y 8) X := hf.1
              have h13 : ((fun (v : Value) (_ : World) => v = .int .i64 c2)) (y 13) X := hf.2.1
              clear hf
              have ex := (Ext.drw (Ext.refl _)).trans ex0
              refine Box.mk ?_
              simp only [fill, Act.put, Nat.reduceAdd, List.setIfInBounds_toArray, List.set_cons_zero, List.set_cons_succ, h8, h13] at hK ⊢
              go_simp
              exact hK.out _ _ rfl (Ext.refl _) (fun b hb => by cases hb)
            exact Steps.nil
          case done =>
            intro y X ex hf hlt hsep
            have h0 : ((fun (v : Value) (_ : World) => v = .pointer (some ⟨W.heap.size, 2, none⟩))) (y 0) X := hf.1
            have h1 : ((fun (v : Value) (_ : World) => v = .func (.func 88) #[] #[.pointer (some ⟨Bs, 0, none⟩), .pointer (some ⟨Bz, 0, none⟩)])) (y 1) X := hf.2.1
            have h2 : ((fun (v : Value) (_ : World) => v = .agg #[.int .i64 m.dx, .int .i64 m.dy, .int .i64 m.t, .bool m.f])) (y 2) X := hf.2.2.1
            have h3 : ((fun (v : Value) (_ : World) => v = .int .i64 xx)) (y 3) X := hf.2.2.2.1
            have h4 : ((fun (v : Value) (_ : World) => v = .int .i64 yy)) (y 4) X := hf.2.2.2.2.1
            have h5 : ((fun (v : Value) (_ : World) => v = .tuple #[.int .i64 p, .int .i64 q])) (y 5) X := hf.2.2.2.2.2.1
            have h6 : ((fun (v : Value) (_ : World) => v = .int .i64 p)) (y 6) X := hf.2.2.2.2.2.2.1
            have h7 : ((fun (v : Value) (_ : World) => v = .int .i64 q)) (y 7) X := hf.2.2.2.2.2.2.2.1
            have h8 : ((fun (v : Value) (_ : World) => v = .int .i64 c1)) (y 8) X := hf.2.2.2.2.2.2.2.2.1
            have h9 : ((fun (v : Value) (_ : World) => v = .pointer (some ⟨W.heap.size, 2, none⟩))) (y 9) X := hf.2.2.2.2.2.2.2.2.2.1
            have h10 : ((fun (v : Value) (_ : World) => v = .func (.func 88) #[] #[.pointer (some ⟨Bs, 0, none⟩), .pointer (some ⟨Bz, 0, none⟩)])) (y 10) X := hf.2.2.2.2.2.2.2.2.2.2.1
            have h11 : ((fun (v : Value) (_ : World) => v = .int .i64 xx)) (y 11) X := hf.2.2.2.2.2.2.2.2.2.2.2.1
            have h12 : ((fun (v : Value) (_ : World) => v = .int .i64 yy)) (y 12) X := hf.2.2.2.2.2.2.2.2.2.2.2.2.1
            have h13 : ((fun (v : Value) (_ : World) => v = .int .i64 c2)) (y 13) X := hf.2.2.2.2.2.2.2.2.2.2.2.2.2.1
            have h14 : ((fun (v : Value) (_ : World) => v = .bool (!(c1 == c2)))) (y 14) X := hf.2.2.2.2.2.2.2.2.2.2.2.2.2.2.1
            clear hf
            clear hsep hlt
            refine Box.mk ?_
            simp only [List.drop_succ_cons, List.drop_zero, fill, Act.put, Nat.reduceAdd, List.setIfInBounds_toArray, List.set_cons_zero, List.set_cons_succ, h0, h1, h2, h3, h4, h5, h6, h7, h8, h9, h10, h11, h12, h13, h14]
            clear h0 h1 h2 h3 h4 h5 h6 h7 h8 h9 h10 h11 h12 h13 h14
            have EX := Lib.hid ex; clear ex
            have hext := HEX.out.trans EX.out
            have HEXT := Lib.hid hext; clear hext
            by_cases he : c1 = c2
            · have g1 : (c1 == c2) = true := by simp [he]
              have HE := Lib.hid he; clear he
              rw [g1]; clear g1
              go_wp2_with fail
              refine NoPanic.normal ?_
              go_wp2_with fail
              go_roundw
              case rel =>
                refine ⟨xx + 1, by go_num, by omega, fun i hi => ?_, HEXT.out⟩
                rcases Nat.lt_or_ge i (yy * w + xx) with h9 | h9
                · exact HOK.out i h9
                · obtain rfl : i = yy * w + xx := by omega
                  rw [← HCG.out, ← HCS.out]; exact HE.out
              case measure => simp [intOf]; omega
            · have g1 : (c1 == c2) = false := by simp [he]
              have hrf : r = false := by
                rw [HR.out]
                refine decide_eq_false fun hall => he ?_
                rw [HCG.out, HCS.out]
                refine hall (yy * w + xx) ?_
                have := round_mul (w := w) (y := yy) (h := h) hlt
                omega
              have HRF := Lib.hid hrf; clear hrf he
              rw [g1]; clear g1
              go_wp2_with fail
              refine NoPanic.normal ?_
              go_wp2
              go_ret
              exact ⟨by rw [HRF.out]; rfl, BB.out.trans HEXT.out⟩
        · obtain rfl : xx = w := by omega
          have hok2 : ∀ i, i < (yy + 1) * xx → cs.getD (goalAt xx h m i).toNat 0 = cs.getD i 0 := by rw [Nat.add_mul, Nat.one_mul]; exact HOK.out
          have HOK2 := Lib.hid hok2; clear hok2
          go_wp2_with fail
          go_roundw
          case rel => exact ⟨yy + 1, by go_num, by omega, HOK2.out, HEX.out⟩
          case measure => simp [intOf]; omega
    · obtain rfl : yy = h := by omega
      have hrt : r = true := by
        rw [HR.out]
        exact decide_eq_true fun i hi => HOK.out i (by rw [Nat.mul_comm]; exact hi)
      have HRT := Lib.hid hrt; clear hrt
      go_wp2
      go_ret
      exact ⟨by rw [HRT.out]; rfl, BB.out.trans HEX.out⟩
end Go.Proofs.Ytgjanbgehbpciaa
