/- Walks: the reference's Cells. -/
import Derived.Test.YtgjanbgehbpciaaD4
import Derived.Test.YtgjanbgehbpciaaV16
import Derived.Test.YtgjanbgehbpciaaPool
namespace Go.Proofs.Ytgjanbgehbpciaa
open Go.RowKit

/-- the first i cells are done -/
def rx (w h : Nat) (l : List Mv) (i : Nat) : List Int := (List.range (w * h)).map (fun j => if j < i then mg w h l j else 0)
section
variable {w h : Nat} {l : List Mv} {i : Nat}
theorem rx_len : (rx w h l i).length = w * h := by simp [rx]
theorem rx_zero : rx w h l 0 = List.replicate (w * h) 0 := by
  apply List.ext_getElem
  · simp [rx]
  · intro j h1 h2; simp [rx]
theorem rx_end : rx w h l (w * h) = mgs w h l := by
  unfold rx mgs
  refine List.map_congr_left fun j hj => ?_
  rw [List.mem_range] at hj
  rw [if_pos hj]
theorem rx_set (hi : i < w * h) : (rx w h l i).set i (mg w h l i) = rx w h l (i + 1) := by
  apply List.ext_getElem
  · rw [List.length_set, rx_len, rx_len]
  · intro j h1 h2
    rw [List.length_set, rx_len] at h1
    rw [List.getElem_set]
    by_cases hij : i = j
    · subst hij; simp [rx]
    · rw [if_neg hij]
      simp only [rx, List.getElem_map, List.getElem_range]
      by_cases hlt : j < i
      · rw [if_pos hlt, if_pos (by omega)]
      · rw [if_neg hlt, if_neg (by omega)]
theorem set_at {l : List Int} {i : Nat} {x : Int} (hi : i < l.length) : (l.set i x).getD i 0 = x := by
  rw [List.getD_eq_getElem?_getD, List.getElem?_set_self hi]; rfl
end
theorem goes_m (w h : Nat) (m : Mv) (i : Nat) (W : World) (hs : okSize w h = true) (hm : has w h m = true) (hi : i < w * h) :
    Calls Try.prog 54 #[.int .i64 w, .int .i64 h, .agg #[.int .i64 m.dx, .int .i64 m.dy, .int .i64 m.t, .bool m.f], .int .i64 i] W fun e W' => e = .returned (.int .i64 (goalAt w h m i)) ∧ Ext W W' := by
  have hs' := okSize_iff.1 hs
  rw [has_iff] at hm
  obtain ⟨dx, dy, t, f⟩ := m
  simp only at hm
  obtain ⟨n, rfl⟩ : ∃ n : Nat, t = n := ⟨t.toNat, by omega⟩
  exact goes_c w h dx dy n f i W (by omega) (by omega) (by omega) hi

set_option maxHeartbeats 4000000 in
set_option maxRecDepth 100000 in
theorem cellsR_c (w h : Nat) (A : Option Addr) (N c : Nat) (l : List Mv) (W : World) (hs : okSize w h = true) (hml : Ml W (.slice A N c) l) (hN : N ≤ 1000) (hall : ∀ m ∈ l, has w h m = true) :
    Calls Try.prog 45 #[.int .i64 w, .int .i64 h, .slice A N c] W fun e W' => ∃ g, e = .returned (.slice (some ⟨g, 0, none⟩) (w * h) (w * h)) ∧ Aw W' g (mgs w h l) ∧ Ext W W' := by
  have hs' := okSize_iff.1 hs
  have hgo := fun m i X hm hi => goes_m w h m i X hs hm hi
  obtain ⟨P, hP⟩ : ∃ P, P = w * h := ⟨_, rfl⟩
  have hP64 : P ≤ 64 := by rw [hP]; exact Nat.mul_le_mul (show w ≤ 8 by omega) (show h ≤ 8 by omega)
  have s1 : (w : Int) * h = ((P : Nat) : Int) := by rw [hP]; simp
  have s2 : IntKind.i64.wrap ((w : Int) * h) = ((P : Nat) : Int) := by rw [s1]; exact IntWalk.i64_in _ (by omega)
  have hmk := make_i64 P (by omega)
  have hr0 := rx_zero (w := w) (h := h) (l := l)
  rw [← hP] at hr0
  simp only [← hP] at hgo ⊢
  obtain ⟨ob, hob⟩ : ∃ ob : Obj, ob = .cells ((List.replicate P (0 : Int)).map iv).toArray 3 := ⟨_, rfl⟩
  rw [← hob] at hmk
  have HGO := Lib.hid hgo; have HML := Lib.hid hml; have HALL := Lib.hid hall; have HP := Lib.hid hP; have HOB := Lib.hid hob; have HR0 := Lib.hid hr0
  clear hgo hml hall hs hs' hP hob hr0
  have hlen : N = l.length := HML.out.len
  have HLEN := Lib.hid hlen; clear hlen
  go_enter Try.func45, Try.ntmps45
  go_upto_region 2 with fail
  have hb0 : Aw (W.alloc ob) W.heap.size (rx w h l 0) := by
    rw [HR0.out, HOB.out]
    exact ⟨3, _, heap_alloc_new _ _, by simp⟩
  have he0 : Ext W (W.alloc ob) := (Ext.refl W).alc _
  obtain ⟨g7, hg7⟩ : ∃ g7, g7 = W.heap.size := ⟨_, rfl⟩
  rw [← hg7] at hb0 ⊢
  have hgw : W.heap.size ≤ g7 := by omega
  generalize W.alloc ob = W2 at *
  clear hg7 hmk s1 s2
  have HB0 := Lib.hid hb0; have HE0 := Lib.hid he0; clear hb0 he0
  go_wp2_with fail
  go_loopw [17] (fun i wr => ∃ i0 : Nat, i = .int .i64 i0 ∧ i0 ≤ P ∧ Aw wr g7 (rx w h l i0) ∧ Ext W wr) (fun i _ => P - (intOf i).toNat)
  case atStart => exact ⟨0, rfl, by omega, HB0.out, HE0.out⟩
  case round =>
    clear HB0 HE0
    obtain ⟨i, rfl, hi, haw, hex⟩ := hrel
    have HAW := Lib.hid haw; have HEX := Lib.hid hex; clear haw hex
    by_cases hlt : i < P
    · have hiw : i < w * h := by rw [← HP.out]; exact hlt
      have hlenx : i < (rx w h l i).length := by rw [rx_len]; exact hiw
      have hcell := HAW.out.cell hlenx
      have fz := HAW.out.frozen
      obtain ⟨x0, hx0⟩ : ∃ x0, x0 = (rx w h l i).getD i 0 := ⟨_, rfl⟩
      rw [← hx0] at hcell
      have HIW := Lib.hid hiw; have HLX := Lib.hid hlenx; clear hiw hlenx hx0
      obtain ⟨wo, hwo⟩ : ∃ wo : World, wo = wr := ⟨_, rfl⟩
      rw [← hwo] at HAW HEX hcell fz ⊢
      clear hwo
      go_wp2_with fail
      have haw := HAW.out.set i (i : Int)
      have hex := HEX.out.sc (i := i) (v := .int .i64 (i : Int)) hgw
      clear hcell fz
      go_loopw [26] (fun v wr => ∃ k : Nat, v = .int .i64 k ∧ k ≤ N ∧ Aw wr g7 ((rx w h l i).set i (mg w h (l.take k) i)) ∧ Ext W wr) (fun v _ => N - (intOf v).toNat)
      case atStart => exact ⟨0, rfl, by omega, haw, hex⟩
      case round =>
        clear haw hex HAW HEX
        obtain ⟨k, rfl, hk, haw, hex⟩ := hrel
        have HAW := Lib.hid haw; have HEX := Lib.hid hex; clear haw hex
        by_cases hlk : k < N
        · obtain ⟨m, hm⟩ : ∃ m, l[k]? = some m := ⟨l[k]'(by rw [← HLEN.out]; exact hlk), List.getElem?_eq_getElem _⟩
          obtain ⟨b, off, rfl, hb, hc⟩ := HML.out.cm (by omega)
          obtain ⟨d0, d1, d2, d3⟩ := (hc.ext hb HEX.out) k m hm
          clear hc
          have hmh : has w h m = true := HALL.out m (List.mem_of_getElem? hm)
          have HM := Lib.hid hm
          have hgo := fun X => HGO.out m i X hmh hlt
          obtain ⟨x, hx⟩ : ∃ x, x = mg w h (l.take k) i := ⟨_, rfl⟩
          obtain ⟨yv, hy⟩ : ∃ yv, yv = goalAt w h m i := ⟨_, rfl⟩
          have hnext : mg w h (l.take (k + 1)) i = min x yv := by
            rw [List.take_add_one, hm, hx, hy]; exact mg_snoc _ _ _ _ _
          simp only [← hy] at hgo
          rw [← hx] at HAW
          have HGOM := Lib.hid hgo; have HNX := Lib.hid hnext; clear hm hmh hgo hnext hx hy
          have hlx : i < ((rx w h l i).set i x).length := by rw [List.length_set]; exact HLX.out
          have hq := q4_new wr (.int .i64 m.dx) (.int .i64 m.dy) (.int .i64 m.t) (.bool m.f) 26
          have e3 : Ext wr (wr.alloc (.cells #[.int .i64 m.dx, .int .i64 m.dy, .int .i64 m.t, .bool m.f] 26)) := (Ext.refl wr).alc _
          have hs3 : wr.heap.size < (wr.alloc (.cells #[.int .i64 m.dx, .int .i64 m.dy, .int .i64 m.t, .bool m.f] 26)).heap.size := by simp
          have haw3 := HAW.out.ext e3
          have hex3 := HEX.out.trans e3
          go_upto_region 9 with fail
          generalize (wr.alloc (.cells #[.int .i64 m.dx, .int .i64 m.dy, .int .i64 m.t, .bool m.f] 26)) = W3 at *
          have hc3 := haw3.cell hlx
          rw [set_at HLX.out] at hc3
          have HC3 := Lib.hid hc3; have HQ := Lib.hid hq; have HAW3 := Lib.hid haw3; have HEX3 := Lib.hid hex3
          have g7lt := haw3.lt
          clear hc3 hq haw3 hex3 e3 HAW HEX hlx d0 d1 d2 d3
          refine wp_region_noPanic ?_
          refine wp_pool 12 [some 30, some 31, some 32, some 33, some 34, some 35, some 36, some 37, some 38, some 39, some 40, some 41] [] [] [(fun (v : Value) (_ : World) => v = .slice (some ⟨g7, 0, none⟩) P P), (fun (v : Value) (_ : World) => v = .int .i64 i), (fun (v : Value) (_ : World) => v = .slice (some ⟨g7, 0, none⟩) P P), (fun (v : Value) (_ : World) => v = .int .i64 i), (fun (v : Value) (_ : World) => v = .pointer (some ⟨g7, i, none⟩)), (fun (v : Value) (_ : World) => v = .int .i64 x), (fun (v : Value) (_ : World) => v = .int .i64 w), (fun (v : Value) (_ : World) => v = .int .i64 h), (fun (v : Value) (_ : World) => v = .agg #[.int .i64 m.dx, .int .i64 m.dy, .int .i64 m.t, .bool m.f]), (fun (v : Value) (_ : World) => v = .int .i64 i), (fun (v : Value) (_ : World) => v = .int .i64 yv), (fun (v : Value) (_ : World) => v = .int .i64 (min x yv))] [noF, noF, noF, noF, noF, noF, noF, noF, noF, noF, noF, noF] (by kernel_rfl) (by kernel_rfl) (by kernel_rfl) (by kernel_rfl) (by kernel_rfl) (by kernel_rfl) (by kernel_rfl) (by kernel_rfl) (fun _ _ _ _ h => h) ⟨Stays.pure _, Stays.pure _, Stays.pure _, Stays.pure _, Stays.pure _, Stays.pure _, Stays.pure _, Stays.pure _, Stays.pure _, Stays.pure _, Stays.pure _, Stays.pure _, True.intro⟩ ?steps ?done
          case steps =>
            simp only [List.take_succ_cons, List.take_zero]
            refine Steps.cons (fun (v : Value) (_ : World) => v = .slice (some ⟨g7, 0, none⟩) P P) [] rfl (by kernel_rfl) rfl (by kernel_rfl) (fun y X ex0 hf K hK => ?_) ?_
            · clear hf
              have ex := (Ext.drw (Ext.refl _)).trans ex0
              refine Box.mk ?_
              simp only [fill, Act.put, Nat.reduceAdd, List.setIfInBounds_toArray, List.set_cons_zero, List.set_cons_succ] at hK ⊢
              go_simp
              exact hK.out _ _ rfl (Ext.refl _) (fun b hb => by cases hb)
            refine Steps.cons (fun (v : Value) (_ : World) => v = .int .i64 i) [] rfl (by kernel_rfl) rfl (by kernel_rfl) (fun y X ex0 hf K hK => ?_) ?_
            · clear hf
              have ex := (Ext.drw (Ext.refl _)).trans ex0
              refine Box.mk ?_
              simp only [fill, Act.put, Nat.reduceAdd, List.setIfInBounds_toArray, List.set_cons_zero, List.set_cons_succ] at hK ⊢
              go_simp
              exact hK.out _ _ rfl (Ext.refl _) (fun b hb => by cases hb)
            refine Steps.cons (fun (v : Value) (_ : World) => v = .slice (some ⟨g7, 0, none⟩) P P) [] rfl (by kernel_rfl) rfl (by kernel_rfl) (fun y X ex0 hf K hK => ?_) ?_
            · clear hf
              have ex := (Ext.drw (Ext.refl _)).trans ex0
              refine Box.mk ?_
              simp only [fill, Act.put, Nat.reduceAdd, List.setIfInBounds_toArray, List.set_cons_zero, List.set_cons_succ] at hK ⊢
              go_simp
              exact hK.out _ _ rfl (Ext.refl _) (fun b hb => by cases hb)
            refine Steps.cons (fun (v : Value) (_ : World) => v = .int .i64 i) [] rfl (by kernel_rfl) rfl (by kernel_rfl) (fun y X ex0 hf K hK => ?_) ?_
            · clear hf
              have ex := (Ext.drw (Ext.refl _)).trans ex0
              refine Box.mk ?_
              simp only [fill, Act.put, Nat.reduceAdd, List.setIfInBounds_toArray, List.set_cons_zero, List.set_cons_succ] at hK ⊢
              go_simp
              exact hK.out _ _ rfl (Ext.refl _) (fun b hb => by cases hb)
            refine Steps.cons (fun (v : Value) (_ : World) => v = .pointer (some ⟨g7, i, none⟩)) [2, 3] rfl (by kernel_rfl) rfl (by kernel_rfl) (fun y X ex0 hf K hK => ?_) ?_
            · have h2 : ((fun (v : Value) (_ : World) => v = .slice (some ⟨g7, 0, none⟩) P P)) (y 2) X := hf.1
              have h3 : ((fun (v : Value) (_ : World) => v = .int .i64 i)) (y 3) X := hf.2.1
              clear hf
              have ex := (Ext.drw (Ext.refl _)).trans ex0
              refine Box.mk ?_
              simp only [fill, Act.put, Nat.reduceAdd, List.setIfInBounds_toArray, List.set_cons_zero, List.set_cons_succ, h2, h3] at hK ⊢
              go_simp
              exact hK.out _ _ rfl (Ext.refl _) (fun b hb => by cases hb)
            refine Steps.cons (fun (v : Value) (_ : World) => v = .int .i64 x) [4] rfl (by kernel_rfl) rfl (by kernel_rfl) (fun y X ex0 hf K hK => ?_) ?_
            · have h4 : ((fun (v : Value) (_ : World) => v = .pointer (some ⟨g7, i, none⟩))) (y 4) X := hf.1
              clear hf
              have ex := (Ext.drw (Ext.refl _)).trans ex0
              refine Box.mk ?_
              simp only [fill, Act.put, Nat.reduceAdd, List.setIfInBounds_toArray, List.set_cons_zero, List.set_cons_succ, h4] at hK ⊢
              have c3 := keepAt ex g7lt HC3.out
              go_simp
              exact hK.out _ _ rfl (Ext.refl _) (fun b hb => by cases hb)
            refine Steps.cons (fun (v : Value) (_ : World) => v = .int .i64 w) [] rfl (by kernel_rfl) rfl (by kernel_rfl) (fun y X ex0 hf K hK => ?_) ?_
            · clear hf
              have ex := (Ext.drw (Ext.refl _)).trans ex0
              refine Box.mk ?_
              simp only [fill, Act.put, Nat.reduceAdd, List.setIfInBounds_toArray, List.set_cons_zero, List.set_cons_succ] at hK ⊢
              go_simp
              exact hK.out _ _ rfl (Ext.refl _) (fun b hb => by cases hb)
            refine Steps.cons (fun (v : Value) (_ : World) => v = .int .i64 h) [] rfl (by kernel_rfl) rfl (by kernel_rfl) (fun y X ex0 hf K hK => ?_) ?_
            · clear hf
              have ex := (Ext.drw (Ext.refl _)).trans ex0
              refine Box.mk ?_
              simp only [fill, Act.put, Nat.reduceAdd, List.setIfInBounds_toArray, List.set_cons_zero, List.set_cons_succ] at hK ⊢
              go_simp
              exact hK.out _ _ rfl (Ext.refl _) (fun b hb => by cases hb)
            refine Steps.cons (fun (v : Value) (_ : World) => v = .agg #[.int .i64 m.dx, .int .i64 m.dy, .int .i64 m.t, .bool m.f]) [] rfl (by kernel_rfl) rfl (by kernel_rfl) (fun y X ex0 hf K hK => ?_) ?_
            · clear hf
              have ex := (Ext.drw (Ext.refl _)).trans ex0
              refine Box.mk ?_
              simp only [fill, Act.put, Nat.reduceAdd, List.setIfInBounds_toArray, List.set_cons_zero, List.set_cons_succ] at hK ⊢
              obtain ⟨q0, q1, q2, q3⟩ := Q4.ext HQ.out hs3 ex
              go_simp
              exact hK.out _ _ rfl (Ext.refl _) (fun b hb => by cases hb)
            refine Steps.cons (fun (v : Value) (_ : World) => v = .int .i64 i) [] rfl (by kernel_rfl) rfl (by kernel_rfl) (fun y X ex0 hf K hK => ?_) ?_
            · clear hf
              have ex := (Ext.drw (Ext.refl _)).trans ex0
              refine Box.mk ?_
              simp only [fill, Act.put, Nat.reduceAdd, List.setIfInBounds_toArray, List.set_cons_zero, List.set_cons_succ] at hK ⊢
              go_simp
              exact hK.out _ _ rfl (Ext.refl _) (fun b hb => by cases hb)
            refine Steps.cons (fun (v : Value) (_ : World) => v = .int .i64 yv) [6, 7, 8, 9] rfl (by kernel_rfl) rfl (by kernel_rfl) (fun y X ex0 hf K hK => ?_) ?_
            · have h6 : ((fun (v : Value) (_ : World) => v = .int .i64 w)) (y 6) X := hf.1
              have h7 : ((fun (v : Value) (_ : World) => v = .int .i64 h)) (y 7) X := hf.2.1
              have h8 : ((fun (v : Value) (_ : World) => v = .agg #[.int .i64 m.dx, .int .i64 m.dy, .int .i64 m.t, .bool m.f])) (y 8) X := hf.2.2.1
              have h9 : ((fun (v : Value) (_ : World) => v = .int .i64 i)) (y 9) X := hf.2.2.2.1
              clear hf
              have ex := (Ext.drw (Ext.refl _)).trans ex0
              refine Box.mk ?_
              simp only [fill, Act.put, Nat.reduceAdd, List.setIfInBounds_toArray, List.set_cons_zero, List.set_cons_succ, h6, h7, h8, h9] at hK ⊢
              go_simp
              refine (HGOM.out _).mono ?_
              rintro e V ⟨rfl, hb⟩
              try go_wp2_with fail
              exact hK.out _ _ rfl hb (fun b hb => by cases hb)
            refine Steps.cons (fun (v : Value) (_ : World) => v = .int .i64 (min x yv)) [5, 10] rfl (by kernel_rfl) rfl (by kernel_rfl) (fun y X ex0 hf K hK => ?_) ?_
            · have h5 : ((fun (v : Value) (_ : World) => v = .int .i64 x)) (y 5) X := hf.1
              have h10 : ((fun (v : Value) (_ : World) => v = .int .i64 yv)) (y 10) X := hf.2.1
              clear hf
              have ex := (Ext.drw (Ext.refl _)).trans ex0
              refine Box.mk ?_
              simp only [fill, Act.put, Nat.reduceAdd, List.setIfInBounds_toArray, List.set_cons_zero, List.set_cons_succ, h5, h10] at hK ⊢
              go_simp
              exact hK.out _ _ rfl (Ext.refl _) (fun b hb => by cases hb)
            exact Steps.nil
          case done =>
            intro y X ex hf hlt hsep
            have h0 : ((fun (v : Value) (_ : World) => v = .slice (some ⟨g7, 0, none⟩) P P)) (y 0) X := hf.1
            have h1 : ((fun (v : Value) (_ : World) => v = .int .i64 i)) (y 1) X := hf.2.1
            have h2 : ((fun (v : Value) (_ : World) => v = .slice (some ⟨g7, 0, none⟩) P P)) (y 2) X := hf.2.2.1
            have h3 : ((fun (v : Value) (_ : World) => v = .int .i64 i)) (y 3) X := hf.2.2.2.1
            have h4 : ((fun (v : Value) (_ : World) => v = .pointer (some ⟨g7, i, none⟩))) (y 4) X := hf.2.2.2.2.1
            have h5 : ((fun (v : Value) (_ : World) => v = .int .i64 x)) (y 5) X := hf.2.2.2.2.2.1
            have h6 : ((fun (v : Value) (_ : World) => v = .int .i64 w)) (y 6) X := hf.2.2.2.2.2.2.1
            have h7 : ((fun (v : Value) (_ : World) => v = .int .i64 h)) (y 7) X := hf.2.2.2.2.2.2.2.1
            have h8 : ((fun (v : Value) (_ : World) => v = .agg #[.int .i64 m.dx, .int .i64 m.dy, .int .i64 m.t, .bool m.f])) (y 8) X := hf.2.2.2.2.2.2.2.2.1
            have h9 : ((fun (v : Value) (_ : World) => v = .int .i64 i)) (y 9) X := hf.2.2.2.2.2.2.2.2.2.1
            have h10 : ((fun (v : Value) (_ : World) => v = .int .i64 yv)) (y 10) X := hf.2.2.2.2.2.2.2.2.2.2.1
            have h11 : ((fun (v : Value) (_ : World) => v = .int .i64 (min x yv))) (y 11) X := hf.2.2.2.2.2.2.2.2.2.2.2.1
            clear hf
            clear hsep hlt
            refine Box.mk ?_
            simp only [List.drop_succ_cons, List.drop_zero, fill, Act.put, Nat.reduceAdd, List.setIfInBounds_toArray, List.set_cons_zero, List.set_cons_succ, h0, h1, h2, h3, h4, h5, h6, h7, h8, h9, h10, h11]
            clear h0 h1 h2 h3 h4 h5 h6 h7 h8 h9 h10 h11
            have haw := HAW3.out.ext ex
            have fz := haw.frozen
            have hc := haw.cell (j := i) (by rw [List.length_set]; exact HLX.out)
            have hex := HEX3.out.trans ex
            have HAW4 := Lib.hid haw; have HEX4 := Lib.hid hex; clear haw hex ex
            go_wp2_with fail
            refine NoPanic.normal ?_
            go_wp2_with fail
            go_roundw
            case rel => exact ⟨k + 1, by go_num, by omega, by rw [HNX.out]; have := HAW4.out.set i (min x yv); rwa [List.set_set] at this, HEX4.out.sc hgw⟩
            case measure => simp [intOf]; omega
        · obtain rfl : k = N := by omega
          have hfin := HAW.out
          rw [HLEN.out, List.take_of_length_le (Nat.le_refl _), rx_set HIW.out] at hfin
          have HFIN := Lib.hid hfin; clear hfin
          go_wp2_with fail
          go_roundw
          case rel => exact ⟨i + 1, by go_num, by omega, HFIN.out, HEX.out⟩
          case measure => simp [intOf]; omega
    · obtain rfl : i = P := by omega
      have hfin := HAW.out
      rw [HP.out, rx_end] at hfin
      have HFIN := Lib.hid hfin; clear hfin
      go_wp2
      go_ret
      exact ⟨g7, rfl, HFIN.out, HEX.out⟩
end Go.Proofs.Ytgjanbgehbpciaa
