/- Walks: rest.add. -/
import Derived.Test.YtilcbbdmenknfaaM5
import Derived.Test.YtilcbbdmenknfaaM6
import Derived.Test.YtilcbbdmenknfaaM3
namespace Go.Proofs.Ytilcbbdmenknfaa
open Go.RowKit

theorem call89 : ∀ args w, (callFunc 89 args).run Try.prog w = .ok (.enter 89 args) w := by
  intro args w
  go_simp
theorem call81 : ∀ args w, (callFunc 81 args).run Try.prog w = .ok (.enter 81 args) w := by
  intro args w
  go_simp
theorem call82 : ∀ args w, (callFunc 82 args).run Try.prog w = .ok (.enter 82 args) w := by
  intro args w
  go_simp
theorem mfunc : ∀ (fn : Fn) (first cap : Array Value) (w : World), (Instr.makeFunc fn first cap).run Try.prog w = .ok (.func fn first cap) w := fun _ _ _ _ => rfl

set_option maxHeartbeats 8000000 in
set_option maxRecDepth 100000 in
theorem add_any (a : Ar) (N s t n2 bs : Nat) (M : Int) (AV SV : Value) (gl : Nat) (x : Nat → Int) (st : Nat → List Nat) (W : World) (hA : Al W AV a) (hO : a.Ok N M) (hn2 : n2 = 2 * a.n) (hn : a.n ≤ 1000) (hN : N ≤ 1000) (hM : M ≤ 2000000)
    (hS : Sl W bs SV N st) (hst : Stp a.nw N st) (hs : s < N) (ht : t < N) (hne : s ≠ t) (hX : BI W gl n2 x) (hR : a.nw.Rs x) :
    Calls Try.prog 87 #[.agg #[.int .i64 s, .int .i64 t, AV, SV, .slice (some ⟨gl, 0, none⟩) n2 n2]] W fun e W' => ∃ R la rk, a.nw.Wk N s (fun j => decide (0 < x j)) R la rk ∧
      ((R t = false ∧ e = .returned (.bool false) ∧ Ext W W') ∨
       (R t = true ∧ e = .returned (.bool true) ∧ ∃ w r, 1 ≤ r ∧ a.nw.Ch t w s ∧ w.Nodup ∧ (∀ j ∈ w, j < 2 * a.n ∧ r ≤ x j) ∧ BI W' gl n2 (Nw.augs x w r) ∧ W.grownBy W' (some gl))) := by
  obtain ⟨hn2a, hn2b⟩ : n2 ≤ 2 * a.n ∧ 2 * a.n ≤ n2 := by omega
  have hn2' : n2 ≤ 2000 := by omega
  clear hn2
  have hmf := mfunc
  have HA := Lib.hid hA; have HO := Lib.hid hO; have HS := Lib.hid hS; have HST := Lib.hid hst; have HX := Lib.hid hX; have HR := Lib.hid hR
  clear hO hst hR
  have lgl := Bk.lt hX
  clear hX
  obtain ⟨A, c, rfl, hac, hcm, -⟩ := hA
  obtain ⟨gs, cs, rfl, hgs, -, -⟩ := hS
  go_enter Try.func87, Try.ntmps87
  go_upto_region 1 with fail
  have bb := al1 W (.cells #[.int .i64 s, .int .i64 t, .slice A a.n c, .slice (some ⟨gs, 0, none⟩) N cs, .slice (some ⟨gl, 0, none⟩) n2 n2] 87)
  have hh := heap_alloc_new W (.cells #[.int .i64 s, .int .i64 t, .slice A a.n c, .slice (some ⟨gs, 0, none⟩) N cs, .slice (some ⟨gl, 0, none⟩) n2 n2] 87)
  have zz : (W.alloc (.cells #[.int .i64 s, .int .i64 t, .slice A a.n c, .slice (some ⟨gs, 0, none⟩) N cs, .slice (some ⟨gl, 0, none⟩) n2 n2] 87)).heap.size = W.heap.size + 1 := by simp
  generalize W.alloc (.cells #[.int .i64 s, .int .i64 t, .slice A a.n c, .slice (some ⟨gs, 0, none⟩) N cs, .slice (some ⟨gl, 0, none⟩) n2 n2] 87) = W1 at *
  have zle : W.heap.size < W1.heap.size := by omega
  have BB1 : Hid (Ext W W1) := Lib.hid bb
  obtain ⟨q0, q1, q2, q3, q4, q5, -⟩ := five hh
  have HQ := Lib.hid (And.intro q0 (And.intro q1 (And.intro q2 (And.intro q3 q4))))
  clear bb zz hh q5
  have hop : ∀ X, Ext W1 X → ∀ j, j < 2 * a.n → Calls Try.prog 89 #[.int .i64 j, .pointer (some ⟨W.heap.size, 0, none⟩)] X fun e X' => e = .returned (.bool (decide (0 < x j))) ∧ Ext X X' := fun X e j hj => by
    have c4 := keepAt e zle q4
    have cx := keepAt (BB1.out.trans e) lgl (Bk.cell HX.out (by omega : j < n2))
    exact open89 W.heap.size n2 n2 gl 0 j (x j) X c4 (by omega) (by rw [Nat.zero_add]; exact cx)
  have HOP := Lib.hid hop
  clear hop
  go_wp2_with fail
  refine (walk_any s t _ _ a N M st s 89 W.heap.size bs (fun j => decide (0 < x j)) _ (HA.out.ext BB1.out) HO.out hn hN (HS.out.ext BB1.out) HST.out hs call89 HOP.out).mono ?_
  rintro e w1 ⟨R, la, rk, ga, gb, rfl, hh1, hh2, hh12, hbR, hbL, hwk, hlow, hx⟩
  have HBR := Lib.hid hbR; have HBL := Lib.hid hbL; have HWK := Lib.hid hwk; have EX := Lib.hid hx
  have k1 := keepAt hx zle q1
  have k0 := keepAt hx zle q0
  have k4 := keepAt hx zle q4
  have cR := Bk.cell hbR ht
  clear q0 q1 q2 q3 q4 hbR hbL hwk
  cases hRt : R t
  · rw [hRt] at cR
    have HRT := Lib.hid hRt; clear hRt
    go_wp2
    go_ret
    exact ⟨R, la, rk, HWK.out, .inl ⟨HRT.out, rfl, BB1.out.trans EX.out⟩⟩
  · rw [hRt] at cR
    have HRT := Lib.hid hRt; clear hRt
    have eh1 : ga < w1.heap.size := Bk.lt HBR.out
    have eh2 : gb < w1.heap.size := Bk.lt HBL.out
    obtain ⟨i0, hi, hz0, hz1, hz2⟩ := info_parts info3
    have HI := Lib.hid (And.intro hi (And.intro hz0 (And.intro hz1 hz2)))
    have lw1 : W1.heap.size ≤ w1.heap.size := hx.size
    clear hi hz0 hz1 hz2 hx
    go_wp2_with fail
    clear cR k1 k0 k4
    go_loopg [5, 6] (rk t) (fun k q i wr => ∃ (vn : Nat) (w : List Nat), i = .int .i64 vn ∧ vn < N ∧ rk vn ≤ k ∧ Hid (Qs wr w1.heap.size q w.length (fun i => ((w.getD i 0 : Nat) : Int)) ∧ Wy a.nw x R rk t vn w ∧ Ext w1 wr))
    case atStart => exact ⟨t, [], rfl, ht, Nat.le_refl _, Lib.hid ⟨Qs.nil _ _ _, Wy.start HRT.out, Ext.refl _⟩⟩
    case round =>
      obtain ⟨vn, w, rfl, hv, hrk, hh⟩ := hrel
      have lwr : w1.heap.size ≤ wr.heap.size := hh.out.2.2.size
      obtain ⟨q0, q1, q2, q3, q4⟩ := HQ.out
      have k0 := keepAt (EX.out.trans hh.out.2.2) zle q0
      clear q0 q1 q2 q3 q4
      by_cases hvs : vn = s
      · have HVS := Lib.hid hvs
        have hvs' : ((vn : Int) != s) = false := by simp; omega
        clear hvs
        have hpos := hh.out.2.1.ne (by rw [HVS.out]; exact fun e => hne e.symm)
        obtain ⟨AW, cw, rfl, hwc, hwm, hwcell⟩ := hh.out.1.il
        obtain ⟨b, off, rfl, hb, hcl⟩ := hwcell hpos
        have hob := (hh.out.1.1 b rfl).1
        clear hwcell
        have hlen := hh.out.2.1.len
        have hm : a.nw.m = a.n := rfl
        rw [hm] at hlen
        obtain ⟨nw, hnw⟩ : ∃ nw, nw = w.length := ⟨_, rfl⟩
        rw [← hnw] at hpos hwc hcl hlen
        have hwop : ∀ i, i < nw → w.getD i 0 < n2 ∧ 0 < x (w.getD i 0) := fun i hi => by
          have := hh.out.2.1.op (w.getD i 0) (by rw [List.getD_eq_getElem?_getD, List.getElem?_eq_getElem (by omega)]; simp)
          exact ⟨by have h9 := this.1; rw [hm] at h9; omega, this.2⟩
        have hXw : BI wr gl n2 x := HX.out.ext (BB1.out.trans (EX.out.trans hh.out.2.2))
        have HXW := Lib.hid hXw; have HCL := Lib.hid hcl; have HNW := Lib.hid hnw; have HWOP := Lib.hid hwop
        obtain ⟨q0, q1, q2, q3, q4⟩ := HQ.out
        have k4 := keepAt (EX.out.trans hh.out.2.2) zle q4
        have c0 := hcl 0 hpos
        rw [Nat.add_zero] at c0
        obtain ⟨j0, hj0⟩ : ∃ j, j = w.getD 0 0 := ⟨_, rfl⟩
        have hj1 := hwop 0 hpos
        simp only [← hj0] at c0 hj1
        obtain ⟨hj1, hj2⟩ := hj1
        have cx := Bk.cell hXw hj1
        obtain ⟨x0, hx0⟩ : ∃ z, z = x j0 := ⟨_, rfl⟩
        rw [← hx0] at cx hj2
        have hx0M : x0 ≤ 2000000 := by have := (HR.out.le HO.out.cM (j := j0) (by rw [hm]; omega)).2; rw [← hx0] at this; omega
        have lgl2 : gl < wr.heap.size := Bk.lt hXw
        rw [← hnw]
        clear q0 q1 q2 q3 q4 hXw hcl hnw hwop hm hj0 hx0
        go_upto_region 9 with fail
        refine wp_region_noPanic ?_
        refine wp_pool 7 [some 52, some 53, some 54, some 55, some 56, some 57, some 58] [] [] [(fun (v : Value) (_ : World) => v = .pointer (some ⟨W.heap.size, 4, none⟩)), (fun (v : Value) (_ : World) => v = .slice (some ⟨gl, 0, none⟩) n2 n2), (fun (v : Value) (_ : World) => v = .slice (some ⟨b, off, none⟩) nw cw), (fun (v : Value) (_ : World) => v = .pointer (some ⟨b, off, none⟩)), (fun (v : Value) (_ : World) => v = .int .i64 j0), (fun (v : Value) (_ : World) => v = .pointer (some ⟨gl, j0, none⟩)), (fun (v : Value) (_ : World) => v = .int .i64 x0)] [noF, noF, noF, noF, noF, noF, noF] (by kernel_rfl) (by kernel_rfl) (by kernel_rfl) (by kernel_rfl) (by kernel_rfl) (by kernel_rfl) (by kernel_rfl) (by kernel_rfl) (fun _ _ _ _ h => h) ⟨Stays.pure _, Stays.pure _, Stays.pure _, Stays.pure _, Stays.pure _, Stays.pure _, Stays.pure _, True.intro⟩ ?steps ?done
        case steps =>
          simp only [List.take_succ_cons, List.take_zero]
          refine Steps.cons (fun (v : Value) (_ : World) => v = .pointer (some ⟨W.heap.size, 4, none⟩)) [] rfl (by kernel_rfl) rfl (by kernel_rfl) (fun y X ex0 hf K hK => ?_) ?_
          · clear hf
            have ex := (Ext.drw (Ext.refl _)).trans ex0
            refine Box.mk ?_
            simp only [fill, Act.put, Nat.reduceAdd, List.setIfInBounds_toArray, List.set_cons_zero, List.set_cons_succ] at hK ⊢
            go_simp
            exact hK.out _ _ rfl (Ext.refl _) (fun b hb => by cases hb)
          refine Steps.cons (fun (v : Value) (_ : World) => v = .slice (some ⟨gl, 0, none⟩) n2 n2) [0] rfl (by kernel_rfl) rfl (by kernel_rfl) (fun y X ex0 hf K hK => ?_) ?_
          · have h0 : ((fun (v : Value) (_ : World) => v = .pointer (some ⟨W.heap.size, 4, none⟩))) (y 0) X := hf.1
            clear hf
            have ex := (Ext.drw (Ext.refl _)).trans ex0
            refine Box.mk ?_
            simp only [fill, Act.put, Nat.reduceAdd, List.setIfInBounds_toArray, List.set_cons_zero, List.set_cons_succ, h0] at hK ⊢
            have m0 := keepAt ex (by omega) k4
            go_simp
            exact hK.out _ _ rfl (Ext.refl _) (fun b hb => by cases hb)
          refine Steps.cons (fun (v : Value) (_ : World) => v = .slice (some ⟨b, off, none⟩) nw cw) [] rfl (by kernel_rfl) rfl (by kernel_rfl) (fun y X ex0 hf K hK => ?_) ?_
          · clear hf
            have ex := (Ext.drw (Ext.refl _)).trans ex0
            refine Box.mk ?_
            simp only [fill, Act.put, Nat.reduceAdd, List.setIfInBounds_toArray, List.set_cons_zero, List.set_cons_succ] at hK ⊢
            go_simp
            exact hK.out _ _ rfl (Ext.refl _) (fun b hb => by cases hb)
          refine Steps.cons (fun (v : Value) (_ : World) => v = .pointer (some ⟨b, off, none⟩)) [2] rfl (by kernel_rfl) rfl (by kernel_rfl) (fun y X ex0 hf K hK => ?_) ?_
          · have h2 : ((fun (v : Value) (_ : World) => v = .slice (some ⟨b, off, none⟩) nw cw)) (y 2) X := hf.1
            clear hf
            have ex := (Ext.drw (Ext.refl _)).trans ex0
            refine Box.mk ?_
            simp only [fill, Act.put, Nat.reduceAdd, List.setIfInBounds_toArray, List.set_cons_zero, List.set_cons_succ, h2] at hK ⊢
            go_simp
            exact hK.out _ _ rfl (Ext.refl _) (fun b hb => by cases hb)
          refine Steps.cons (fun (v : Value) (_ : World) => v = .int .i64 j0) [3] rfl (by kernel_rfl) rfl (by kernel_rfl) (fun y X ex0 hf K hK => ?_) ?_
          · have h3 : ((fun (v : Value) (_ : World) => v = .pointer (some ⟨b, off, none⟩))) (y 3) X := hf.1
            clear hf
            have ex := (Ext.drw (Ext.refl _)).trans ex0
            refine Box.mk ?_
            simp only [fill, Act.put, Nat.reduceAdd, List.setIfInBounds_toArray, List.set_cons_zero, List.set_cons_succ, h3] at hK ⊢
            have m0 := keepAt ex hb c0
            go_simp
            exact hK.out _ _ rfl (Ext.refl _) (fun b hb => by cases hb)
          refine Steps.cons (fun (v : Value) (_ : World) => v = .pointer (some ⟨gl, j0, none⟩)) [1, 4] rfl (by kernel_rfl) rfl (by kernel_rfl) (fun y X ex0 hf K hK => ?_) ?_
          · have h1 : ((fun (v : Value) (_ : World) => v = .slice (some ⟨gl, 0, none⟩) n2 n2)) (y 1) X := hf.1
            have h4 : ((fun (v : Value) (_ : World) => v = .int .i64 j0)) (y 4) X := hf.2.1
            clear hf
            have ex := (Ext.drw (Ext.refl _)).trans ex0
            refine Box.mk ?_
            simp only [fill, Act.put, Nat.reduceAdd, List.setIfInBounds_toArray, List.set_cons_zero, List.set_cons_succ, h1, h4] at hK ⊢
            go_simp
            exact hK.out _ _ rfl (Ext.refl _) (fun b hb => by cases hb)
          refine Steps.cons (fun (v : Value) (_ : World) => v = .int .i64 x0) [5] rfl (by kernel_rfl) rfl (by kernel_rfl) (fun y X ex0 hf K hK => ?_) ?_
          · have h5 : ((fun (v : Value) (_ : World) => v = .pointer (some ⟨gl, j0, none⟩))) (y 5) X := hf.1
            clear hf
            have ex := (Ext.drw (Ext.refl _)).trans ex0
            refine Box.mk ?_
            simp only [fill, Act.put, Nat.reduceAdd, List.setIfInBounds_toArray, List.set_cons_zero, List.set_cons_succ, h5] at hK ⊢
            have m0 := keepAt ex lgl2 cx
            go_simp
            exact hK.out _ _ rfl (Ext.refl _) (fun b hb => by cases hb)
          exact Steps.nil
        case done =>
          intro y X ex hf hlt hsep
          have h0 : ((fun (v : Value) (_ : World) => v = .pointer (some ⟨W.heap.size, 4, none⟩))) (y 0) X := hf.1
          have h1 : ((fun (v : Value) (_ : World) => v = .slice (some ⟨gl, 0, none⟩) n2 n2)) (y 1) X := hf.2.1
          have h2 : ((fun (v : Value) (_ : World) => v = .slice (some ⟨b, off, none⟩) nw cw)) (y 2) X := hf.2.2.1
          have h3 : ((fun (v : Value) (_ : World) => v = .pointer (some ⟨b, off, none⟩))) (y 3) X := hf.2.2.2.1
          have h4 : ((fun (v : Value) (_ : World) => v = .int .i64 j0)) (y 4) X := hf.2.2.2.2.1
          have h5 : ((fun (v : Value) (_ : World) => v = .pointer (some ⟨gl, j0, none⟩))) (y 5) X := hf.2.2.2.2.2.1
          have h6 : ((fun (v : Value) (_ : World) => v = .int .i64 x0)) (y 6) X := hf.2.2.2.2.2.2.1
          clear hf
          clear hsep hlt
          refine Box.mk ?_
          simp only [List.drop_succ_cons, List.drop_zero, fill, Act.put, Nat.reduceAdd, List.setIfInBounds_toArray, List.set_cons_zero, List.set_cons_succ, h0, h1, h2, h3, h4, h5, h6]
          clear h0 h1 h2 h3 h4 h5 h6
          have EY := Lib.hid ex; clear ex k4 c0 cx
          go_wp2_with fail
          refine NoPanic.normal ?_
          go_wp2_with fail
          have HXX : Hid (BI X gl n2 x) := Lib.hid (HXW.out.ext EY.out)
          have lX : wr.heap.size ≤ X.heap.size := EY.out.size
          go_loopw [7, 61] (fun r i wz => ∃ (k : Nat) (z : Int), i = .int .i64 k ∧ k ≤ nw ∧ r = .int .i64 z ∧ 1 ≤ z ∧ z ≤ 2000000 ∧ Hid (∀ i, i < k → z ≤ x (w.getD i 0)) ∧ wz = X) (fun _ i _ => nw - (intOf i).toNat)
          case atStart => exact ⟨0, x0, rfl, Nat.zero_le _, rfl, by omega, hx0M, Lib.hid (fun i hi => by omega), rfl⟩
          case round =>
            obtain ⟨k, z, rfl, hk, rfl, hz1, hz2, hzz, hwz⟩ := hrel
            rw [hwz]; clear hwz
            obtain ⟨q0, q1, q2, q3, q4⟩ := HQ.out
            have k4 := keepAt (EX.out.trans (hh.out.2.2.trans EY.out)) zle q4
            clear q0 q1 q2 q3 q4
            by_cases hlt : k < nw
            · have ck := keepAt EY.out hb (HCL.out k hlt)
              obtain ⟨j, hj⟩ : ∃ j, j = w.getD k 0 := ⟨_, rfl⟩
              have hjo := HWOP.out k hlt
              simp only [← hj] at ck hjo
              obtain ⟨hjo, hjx⟩ := hjo
              have cx := Bk.cell HXX.out hjo
              obtain ⟨xj, hxj⟩ : ∃ z, z = x j := ⟨_, rfl⟩
              rw [← hxj] at cx hjx
              have hxM : xj ≤ 2000000 := by have := (HR.out.le HO.out.cM (j := j) (by show j < 2 * a.n; omega)).2; rw [← hxj] at this; omega
              have HJ := Lib.hid (And.intro hj hxj); clear hj hxj
              obtain ⟨z2, hz2d⟩ : ∃ z2, z2 = if xj < z then xj else z := ⟨_, rfl⟩
              go_wp2
              go_roundw
              case rel =>
                refine ⟨k + 1, if xj < z then xj else z, by go_num, by omega, rfl, by split <;> omega, by split <;> omega, Lib.hid (fun i hi => ?_), by trivial⟩
                by_cases e : i = k
                · subst e; rw [← HJ.out.1, ← HJ.out.2]; split <;> omega
                · have := hzz.out i (by omega); split <;> omega
              case measure => simp [intOf]; omega
            · obtain rfl : nw = k := by omega
              have hwM : ∀ i ∈ w, i < 2 * a.nw.m ∧ z ≤ x i := fun i hi => by
                obtain ⟨p, hp, e⟩ := List.getElem_of_mem hi
                have h9 := hzz.out p (by rw [HNW.out]; exact hp)
                rw [List.getD_eq_getElem?_getD, List.getElem?_eq_getElem hp, Option.getD_some, e] at h9
                exact ⟨(hh.out.2.1.op i hi).1, h9⟩
              have HWM := Lib.hid hwM; clear hwM hlt hk
              have hX1 := HR.out.part (r := z) (by omega) hh.out.2.1.nd HWM.out
              have HPT := Lib.hid hX1; clear hX1
              go_wp2_with fail
              clear k4
              go_loopw [75] (fun i wz => ∃ (k : Nat), i = .int .i64 k ∧ k ≤ nw ∧ Hid (BI wz gl n2 (Nw.augs x (w.take k) z) ∧ X.grownBy wz (some gl))) (fun i _ => nw - (intOf i).toNat)
              case atStart => exact ⟨0, rfl, Nat.zero_le _, Lib.hid ⟨HXX.out, ⟨rfl, rfl, rfl, Nat.le_refl _, fun _ _ _ => rfl⟩⟩⟩
              case round =>
                obtain ⟨k, rfl, hk, hin⟩ := hrel
                have lz := hin.out.2.size
                obtain ⟨q0, q1, q2, q3, q4⟩ := HQ.out
                have hold : ∀ b o v, b < X.heap.size → b ≠ gl → X.cell? ⟨b, o, none⟩ = some v → wr.cell? ⟨b, o, none⟩ = some v := fun b o v hb hne hc => (World.cell?_of_block (hin.out.2.block b hb (fun e => hne (Option.some.inj e)))).trans hc
                have k4 := hold _ _ _ (by omega) (by omega) (keepAt (EX.out.trans (hh.out.2.2.trans EY.out)) zle q4)
                by_cases hlt : k < nw
                · have ck := hold _ _ _ (by omega) (by omega) (keepAt EY.out hb (HCL.out k hlt))
                  obtain ⟨j, hj⟩ : ∃ j, j = w.getD k 0 := ⟨_, rfl⟩
                  have hjo := HWOP.out k hlt
                  simp only [← hj] at ck hjo
                  obtain ⟨hjo, -⟩ := hjo
                  have hro : rev j < n2 := by have := rev_lt (j := j) (m := a.n) (by omega); omega
                  have HIN := Lib.hid hin.out.1
                  have hgr := Lib.hid hin.out.2
                  have hbd := fun i (hi : i < n2) => (HPT.out k).le HO.out.cM (j := i) (by show i < 2 * a.n; omega)
                  have cj := Bk.cell HIN.out hjo
                  have fj := Bk.free HIN.out j
                  have hbj := hbd j hjo
                  have hbr := hbd (rev j) hro
                  obtain ⟨f, hf⟩ : ∃ f, f = Nw.augs x (w.take k) z := ⟨_, rfl⟩
                  simp only [← hf] at cj hbj hbr HIN
                  have HF := Lib.hid hf; have HJ := Lib.hid hj
                  obtain ⟨xj, hxj⟩ : ∃ z, z = f j := ⟨_, rfl⟩
                  obtain ⟨xr, hxr⟩ : ∃ z, z = f (rev j) := ⟨_, rfl⟩
                  rw [← hxj] at cj hbj; rw [← hxr] at hbr
                  have HXJ := Lib.hid (And.intro hxj hxr)
                  clear q0 q1 q2 q3 q4 hold hin hbd hf hj hxj hxr
                  go_upto_region 19 with fail
                  have y1 := BI.set_ HIN.out j (xj - z)
                  have y2 := Bk.cell y1 hro
                  have y3 := Bk.free y1 (rev j)
                  have y4 : up f j (xj - z) (rev j) = xr := by rw [up_ne _ _ (rev_ne j)]; exact HXJ.out.2.symm
                  have k4b : (wr.setCell ⟨gl, j, none⟩ (.int .i64 (xj - z))).cell? ⟨W.heap.size, 4, none⟩ = some (.slice (some ⟨gl, 0, none⟩) n2 n2) := (World.cell?_of_block (Below.heap_setCell wr ⟨gl, j, none⟩ _ W.heap.size (by simp; omega))).trans k4
                  have lgl3 : gl < (wr.setCell ⟨gl, j, none⟩ (.int .i64 (xj - z))).heap.size := Bk.lt y1
                  have gr2 : X.grownBy (wr.setCell ⟨gl, j, none⟩ (.int .i64 (xj - z))) (some gl) := ⟨hgr.out.os, hgr.out.tape, hgr.out.output, by have := hgr.out.size; simpa [World.setCell] using this, fun b hb hne => (Below.heap_setCell wr ⟨gl, j, none⟩ _ b (fun e => hne (congrArg some e))).trans (hgr.out.block b hb hne)⟩
                  simp only [y4] at y2
                  have Y1 := Lib.hid y1; have Y4 := Lib.hid y4; have GR2 := Lib.hid gr2
                  have lwz : W.heap.size < (wr.setCell ⟨gl, j, none⟩ (.int .i64 (xj - z))).heap.size := World.block_lt_of_cell? _ ⟨W.heap.size, 4, none⟩ k4b
                  clear y1 y3 y4 gr2 hgr HIN cj fj k4 ck
                  generalize wr.setCell ⟨gl, j, none⟩ (.int .i64 (xj - z)) = w4 at *
                  have hwr : IntKind.i64.wrap (xr + z) = xr + z := IntWalk.i64_in _ (by omega)
                  have HWR := Lib.hid hwr; clear hwr
                  refine wp_region_noPanic ?_
                  refine wp_pool 8 [some 87, some 88, some 89, some 90, some 91, some 92, some 93, some 94] [] [] [(fun (v : Value) (_ : World) => v = .pointer (some ⟨W.heap.size, 4, none⟩)), (fun (v : Value) (_ : World) => v = .slice (some ⟨gl, 0, none⟩) n2 n2), (fun (v : Value) (_ : World) => v = .int .i64 j), (fun (v : Value) (_ : World) => v = .int .i64 (rev j : Nat)), (fun (v : Value) (_ : World) => v = .pointer (some ⟨gl, rev j, none⟩)), (fun (v : Value) (_ : World) => v = .int .i64 xr), (fun (v : Value) (_ : World) => v = .int .i64 z), (fun (v : Value) (_ : World) => v = .int .i64 (xr + z))] [noF, noF, noF, noF, noF, noF, noF, noF] (by kernel_rfl) (by kernel_rfl) (by kernel_rfl) (by kernel_rfl) (by kernel_rfl) (by kernel_rfl) (by kernel_rfl) (by kernel_rfl) (fun _ _ _ _ h => h) ⟨Stays.pure _, Stays.pure _, Stays.pure _, Stays.pure _, Stays.pure _, Stays.pure _, Stays.pure _, Stays.pure _, True.intro⟩ ?steps ?done
                  case steps =>
                    simp only [List.take_succ_cons, List.take_zero]
                    refine Steps.cons (fun (v : Value) (_ : World) => v = .pointer (some ⟨W.heap.size, 4, none⟩)) [] rfl (by kernel_rfl) rfl (by kernel_rfl) (fun y X ex0 hf K hK => ?_) ?_
                    · clear hf
                      have ex := (Ext.drw (Ext.refl _)).trans ex0
                      refine Box.mk ?_
                      simp only [fill, Act.put, Nat.reduceAdd, List.setIfInBounds_toArray, List.set_cons_zero, List.set_cons_succ] at hK ⊢
                      go_simp
                      exact hK.out _ _ rfl (Ext.refl _) (fun b hb => by cases hb)
                    refine Steps.cons (fun (v : Value) (_ : World) => v = .slice (some ⟨gl, 0, none⟩) n2 n2) [0] rfl (by kernel_rfl) rfl (by kernel_rfl) (fun y X ex0 hf K hK => ?_) ?_
                    · have h0 : ((fun (v : Value) (_ : World) => v = .pointer (some ⟨W.heap.size, 4, none⟩))) (y 0) X := hf.1
                      clear hf
                      have ex := (Ext.drw (Ext.refl _)).trans ex0
                      refine Box.mk ?_
                      simp only [fill, Act.put, Nat.reduceAdd, List.setIfInBounds_toArray, List.set_cons_zero, List.set_cons_succ, h0] at hK ⊢
                      have m0 := keepAt ex lwz k4b
                      go_simp
                      exact hK.out _ _ rfl (Ext.refl _) (fun b hb => by cases hb)
                    refine Steps.cons (fun (v : Value) (_ : World) => v = .int .i64 j) [] rfl (by kernel_rfl) rfl (by kernel_rfl) (fun y X ex0 hf K hK => ?_) ?_
                    · clear hf
                      have ex := (Ext.drw (Ext.refl _)).trans ex0
                      refine Box.mk ?_
                      simp only [fill, Act.put, Nat.reduceAdd, List.setIfInBounds_toArray, List.set_cons_zero, List.set_cons_succ] at hK ⊢
                      go_simp
                      exact hK.out _ _ rfl (Ext.refl _) (fun b hb => by cases hb)
                    refine Steps.cons (fun (v : Value) (_ : World) => v = .int .i64 (rev j : Nat)) [2] rfl (by kernel_rfl) rfl (by kernel_rfl) (fun y X ex0 hf K hK => ?_) ?_
                    · have h2 : ((fun (v : Value) (_ : World) => v = .int .i64 j)) (y 2) X := hf.1
                      clear hf
                      have ex := (Ext.drw (Ext.refl _)).trans ex0
                      refine Box.mk ?_
                      simp only [fill, Act.put, Nat.reduceAdd, List.setIfInBounds_toArray, List.set_cons_zero, List.set_cons_succ, h2] at hK ⊢
                      go_simp
                      refine (reverse_any j _ (by omega)).mono ?_
                      rintro e V ⟨rfl, rfl⟩
                      try go_wp2_with fail
                      exact hK.out _ _ rfl (Ext.refl _) (fun b hb => by cases hb)
                    refine Steps.cons (fun (v : Value) (_ : World) => v = .pointer (some ⟨gl, rev j, none⟩)) [1, 3] rfl (by kernel_rfl) rfl (by kernel_rfl) (fun y X ex0 hf K hK => ?_) ?_
                    · have h1 : ((fun (v : Value) (_ : World) => v = .slice (some ⟨gl, 0, none⟩) n2 n2)) (y 1) X := hf.1
                      have h3 : ((fun (v : Value) (_ : World) => v = .int .i64 (rev j : Nat))) (y 3) X := hf.2.1
                      clear hf
                      have ex := (Ext.drw (Ext.refl _)).trans ex0
                      refine Box.mk ?_
                      simp only [fill, Act.put, Nat.reduceAdd, List.setIfInBounds_toArray, List.set_cons_zero, List.set_cons_succ, h1, h3] at hK ⊢
                      go_simp
                      exact hK.out _ _ rfl (Ext.refl _) (fun b hb => by cases hb)
                    refine Steps.cons (fun (v : Value) (_ : World) => v = .int .i64 xr) [4] rfl (by kernel_rfl) rfl (by kernel_rfl) (fun y X ex0 hf K hK => ?_) ?_
                    · have h4 : ((fun (v : Value) (_ : World) => v = .pointer (some ⟨gl, rev j, none⟩))) (y 4) X := hf.1
                      clear hf
                      have ex := (Ext.drw (Ext.refl _)).trans ex0
                      refine Box.mk ?_
                      simp only [fill, Act.put, Nat.reduceAdd, List.setIfInBounds_toArray, List.set_cons_zero, List.set_cons_succ, h4] at hK ⊢
                      have m0 := keepAt ex lgl3 y2
                      go_simp
                      exact hK.out _ _ rfl (Ext.refl _) (fun b hb => by cases hb)
                    refine Steps.cons (fun (v : Value) (_ : World) => v = .int .i64 z) [] rfl (by kernel_rfl) rfl (by kernel_rfl) (fun y X ex0 hf K hK => ?_) ?_
                    · clear hf
                      have ex := (Ext.drw (Ext.refl _)).trans ex0
                      refine Box.mk ?_
                      simp only [fill, Act.put, Nat.reduceAdd, List.setIfInBounds_toArray, List.set_cons_zero, List.set_cons_succ] at hK ⊢
                      go_simp
                      exact hK.out _ _ rfl (Ext.refl _) (fun b hb => by cases hb)
                    refine Steps.cons (fun (v : Value) (_ : World) => v = .int .i64 (xr + z)) [5, 6] rfl (by kernel_rfl) rfl (by kernel_rfl) (fun y X ex0 hf K hK => ?_) ?_
                    · have h5 : ((fun (v : Value) (_ : World) => v = .int .i64 xr)) (y 5) X := hf.1
                      have h6 : ((fun (v : Value) (_ : World) => v = .int .i64 z)) (y 6) X := hf.2.1
                      clear hf
                      have ex := (Ext.drw (Ext.refl _)).trans ex0
                      refine Box.mk ?_
                      simp only [fill, Act.put, Nat.reduceAdd, List.setIfInBounds_toArray, List.set_cons_zero, List.set_cons_succ, h5, h6] at hK ⊢
                      have hwr := HWR.out
                      go_simp
                      exact hK.out _ _ rfl (Ext.refl _) (fun b hb => by cases hb)
                    exact Steps.nil
                  case done =>
                    intro y X ex hf hlt hsep
                    have h0 : ((fun (v : Value) (_ : World) => v = .pointer (some ⟨W.heap.size, 4, none⟩))) (y 0) X := hf.1
                    have h1 : ((fun (v : Value) (_ : World) => v = .slice (some ⟨gl, 0, none⟩) n2 n2)) (y 1) X := hf.2.1
                    have h2 : ((fun (v : Value) (_ : World) => v = .int .i64 j)) (y 2) X := hf.2.2.1
                    have h3 : ((fun (v : Value) (_ : World) => v = .int .i64 (rev j : Nat))) (y 3) X := hf.2.2.2.1
                    have h4 : ((fun (v : Value) (_ : World) => v = .pointer (some ⟨gl, rev j, none⟩))) (y 4) X := hf.2.2.2.2.1
                    have h5 : ((fun (v : Value) (_ : World) => v = .int .i64 xr)) (y 5) X := hf.2.2.2.2.2.1
                    have h6 : ((fun (v : Value) (_ : World) => v = .int .i64 z)) (y 6) X := hf.2.2.2.2.2.2.1
                    have h7 : ((fun (v : Value) (_ : World) => v = .int .i64 (xr + z))) (y 7) X := hf.2.2.2.2.2.2.2.1
                    clear hf
                    clear hsep hlt
                    refine Box.mk ?_
                    simp only [List.drop_succ_cons, List.drop_zero, fill, Act.put, Nat.reduceAdd, List.setIfInBounds_toArray, List.set_cons_zero, List.set_cons_succ, h0, h1, h2, h3, h4, h5, h6, h7]
                    clear h0 h1 h2 h3 h4 h5 h6 h7
                    have c9 := Bk.cell (Y1.out.ext ex) hro
                    have f9 := Bk.free (Y1.out.ext ex) (rev j)
                    have EY2 := Lib.hid ex; clear ex k4b y2
                    go_wp2_with fail
                    refine NoPanic.normal ?_
                    go_wp2
                    go_roundw
                    case rel =>
                      have y5 := BI.set_ (Y1.out.ext EY2.out) (rev j) (xr + z)
                      have y6 : up (up f j (xj - z)) (rev j) (xr + z) = Nw.augs x (w.take (k + 1)) z := by
                        have := Nw.aug_up f j z
                        rw [← HXJ.out.1, Y4.out] at this
                        rw [this, Nw.augs_take x w z (by rw [← HNW.out]; exact hlt), HF.out, HJ.out]
                      rw [y6] at y5
                      refine ⟨k + 1, by go_num, by omega, Lib.hid ⟨y5, ?_⟩⟩
                      have g := GR2.out; have e := EY2.out
                      exact ⟨e.os.trans g.os, e.tape.trans g.tape, e.output.trans g.output, by have h1 := g.size; have h2 := Ext.size e; simp [World.setCell]; omega, fun b hb hne => (Below.heap_setCell _ ⟨gl, rev j, none⟩ _ b (fun e => hne (congrArg some e))).trans ((e.block b (Nat.lt_of_lt_of_le hb g.size)).trans (g.block b hb hne))⟩
                    case measure => simp [intOf]; omega
                · obtain rfl : nw = k := by omega
                  go_wp2
                  go_ret
                  have htk : w.take nw = w := List.take_of_length_le (by rw [HNW.out]; exact Nat.le_refl _)
                  have h9 := hin.out.1
                  rw [htk] at h9
                  have hW : W.grownBy wr (some gl) := by
                    have e := BB1.out.trans (EX.out.trans (hh.out.2.2.trans EY.out))
                    have g := hin.out.2
                    exact ⟨g.os.trans e.os, g.tape.trans e.tape, g.output.trans e.output, Nat.le_trans e.size g.size, fun b hb hne => (g.block b (Nat.lt_of_lt_of_le hb e.size) hne).trans (e.block b hb)⟩
                  have hch := hh.out.2.1.ch
                  rw [HVS.out] at hch
                  exact ⟨R, la, rk, HWK.out, .inr ⟨HRT.out, rfl, w, z, hz1, hch, hh.out.2.1.nd, HWM.out, h9, hW⟩⟩
      · have hvs' : ((vn : Int) != s) = true := by simp; omega
        obtain ⟨hwy, hrk2, hpN, hj⟩ := hh.out.2.1.step HWK.out hv hvs
        have c2 : wr.cell? ⟨gb, vn, none⟩ = some (.int .i64 ((la vn : Nat) : Int)) := keepAt hh.out.2.2 eh2 (Bk.cell HBL.out hv)
        have hlen := hh.out.2.1.len
        have hm : a.nw.m = a.n := rfl
        rw [hm] at hlen hj
        obtain ⟨j, hj'⟩ : ∃ j, j = la vn := ⟨_, rfl⟩
        rw [← hj'] at hwy hrk2 hpN hj c2
        obtain ⟨p, hp⟩ : ∃ p, p = a.nw.tl j := ⟨_, rfl⟩
        rw [← hp] at hwy hrk2 hpN
        have HWY := Lib.hid hwy; have HP := Lib.hid hp; have HJ := Lib.hid hj'
        clear hwy hp hj' hvs hm
        go_upto_region 8 with fail
        go_wp2_with (at_builtin; refine wpList_append_q rfl _ _ 33 rfl i0 Try.underlying33 HI.out.1 HI.out.2.1 HI.out.2.2.1 HI.out.2.2.2 w1.heap.size _ w.length (fun i => ((w.getD i 0 : Nat) : Int)) rfl ?qs ?base ⟨wr.heap.size, 0, none⟩ 1 j rfl ?cell ?n ?_)
        case qs => exact hh.out.1.ext (Ext.alc (Ext.refl _) _)
        case base => simp; omega
        case cell => rw [World.cell?_alloc_new]; rfl
        case n => omega
        intro v' w2 hq2 hgr
        have he2 := hgr.ext (hh.out.2.2.alc _) (fun b hb => (hh.out.1.1 b hb).1)
        have HQ2 := Lib.hid hq2; have HE2 := Lib.hid he2
        clear hq2 hgr he2 k0
        go_upto_region 7 with fail
        have c2' : w2.cell? ⟨gb, vn, none⟩ = some (.int .i64 ((la vn : Nat) : Int)) := keepAt HE2.out eh2 (Bk.cell HBL.out hv)
        rw [← HJ.out] at c2'
        obtain ⟨q0, q1, q2, q3, q4⟩ := HQ.out
        have k0 := keepAt (EX.out.trans HE2.out) zle q0
        have k1 := keepAt (EX.out.trans HE2.out) zle q1
        have k2 := keepAt (EX.out.trans HE2.out) zle q2
        have k3 := keepAt (EX.out.trans HE2.out) zle q3
        have lw2 : w1.heap.size ≤ w2.heap.size := HE2.out.size
        have hen : ∀ X, Ext w2 X → Calls Try.prog 88 #[.agg #[.int .i64 s, .int .i64 t, .slice A a.n c, .slice (some ⟨gs, 0, none⟩) N cs], .int .i64 (rev j : Nat)] X fun e W' => e = .returned (.int .i64 p) ∧ Ext X W' := fun X hX => by
          have := end_any s t _ (.slice (some ⟨gs, 0, none⟩) N cs) a N M (rev j) X (HA.out.ext (BB1.out.trans (EX.out.trans (HE2.out.trans hX)))) HO.out (rev_lt hj) hn
          rw [Nw.hd_rev, ← HP.out] at this
          exact this
        have HEN := Lib.hid hen
        clear q0 q1 q2 q3 q4 hen c2
        have hrj : rev j < 2 * a.n := rev_lt hj
        refine wp_region_noPanic ?_
        refine wp_pool 8 [some 37, some 38, some 39, some 40, some 41, some 42, some 43, some 44] [] [] [(fun (v : Value) (_ : World) => v = .pointer (some ⟨W.heap.size, 0, none⟩)), (fun (v : Value) (_ : World) => v = .agg #[.int .i64 s, .int .i64 t, .slice A a.n c, .slice (some ⟨gs, 0, none⟩) N cs]), (fun (v : Value) (_ : World) => v = .slice (some ⟨gb, 0, none⟩) N N), (fun (v : Value) (_ : World) => v = .int .i64 vn), (fun (v : Value) (_ : World) => v = .pointer (some ⟨gb, vn, none⟩)), (fun (v : Value) (_ : World) => v = .int .i64 j), (fun (v : Value) (_ : World) => v = .int .i64 (rev j : Nat)), (fun (v : Value) (_ : World) => v = .int .i64 p)] [noF, noF, noF, noF, noF, noF, noF, noF] (by kernel_rfl) (by kernel_rfl) (by kernel_rfl) (by kernel_rfl) (by kernel_rfl) (by kernel_rfl) (by kernel_rfl) (by kernel_rfl) (fun _ _ _ _ h => h) ⟨Stays.pure _, Stays.pure _, Stays.pure _, Stays.pure _, Stays.pure _, Stays.pure _, Stays.pure _, Stays.pure _, True.intro⟩ ?steps ?done
        case steps =>
          simp only [List.take_succ_cons, List.take_zero]
          refine Steps.cons (fun (v : Value) (_ : World) => v = .pointer (some ⟨W.heap.size, 0, none⟩)) [] rfl (by kernel_rfl) rfl (by kernel_rfl) (fun y X ex0 hf K hK => ?_) ?_
          · clear hf
            have ex := (Ext.drw (Ext.refl _)).trans ex0
            refine Box.mk ?_
            simp only [fill, Act.put, Nat.reduceAdd, List.setIfInBounds_toArray, List.set_cons_zero, List.set_cons_succ] at hK ⊢
            go_simp
            exact hK.out _ _ rfl (Ext.refl _) (fun b hb => by cases hb)
          refine Steps.cons (fun (v : Value) (_ : World) => v = .agg #[.int .i64 s, .int .i64 t, .slice A a.n c, .slice (some ⟨gs, 0, none⟩) N cs]) [0] rfl (by kernel_rfl) rfl (by kernel_rfl) (fun y X ex0 hf K hK => ?_) ?_
          · have h0 : ((fun (v : Value) (_ : World) => v = .pointer (some ⟨W.heap.size, 0, none⟩))) (y 0) X := hf.1
            clear hf
            have ex := (Ext.drw (Ext.refl _)).trans ex0
            refine Box.mk ?_
            simp only [fill, Act.put, Nat.reduceAdd, List.setIfInBounds_toArray, List.set_cons_zero, List.set_cons_succ, h0] at hK ⊢
            have m0 := keepAt ex (by omega) k0
            have m1 := keepAt ex (by omega) k1
            have m2 := keepAt ex (by omega) k2
            have m3 := keepAt ex (by omega) k3
            go_simp
            exact hK.out _ _ rfl (Ext.refl _) (fun b hb => by cases hb)
          refine Steps.cons (fun (v : Value) (_ : World) => v = .slice (some ⟨gb, 0, none⟩) N N) [] rfl (by kernel_rfl) rfl (by kernel_rfl) (fun y X ex0 hf K hK => ?_) ?_
          · clear hf
            have ex := (Ext.drw (Ext.refl _)).trans ex0
            refine Box.mk ?_
            simp only [fill, Act.put, Nat.reduceAdd, List.setIfInBounds_toArray, List.set_cons_zero, List.set_cons_succ] at hK ⊢
            go_simp
            exact hK.out _ _ rfl (Ext.refl _) (fun b hb => by cases hb)
          refine Steps.cons (fun (v : Value) (_ : World) => v = .int .i64 vn) [] rfl (by kernel_rfl) rfl (by kernel_rfl) (fun y X ex0 hf K hK => ?_) ?_
          · clear hf
            have ex := (Ext.drw (Ext.refl _)).trans ex0
            refine Box.mk ?_
            simp only [fill, Act.put, Nat.reduceAdd, List.setIfInBounds_toArray, List.set_cons_zero, List.set_cons_succ] at hK ⊢
            go_simp
            exact hK.out _ _ rfl (Ext.refl _) (fun b hb => by cases hb)
          refine Steps.cons (fun (v : Value) (_ : World) => v = .pointer (some ⟨gb, vn, none⟩)) [2, 3] rfl (by kernel_rfl) rfl (by kernel_rfl) (fun y X ex0 hf K hK => ?_) ?_
          · have h2 : ((fun (v : Value) (_ : World) => v = .slice (some ⟨gb, 0, none⟩) N N)) (y 2) X := hf.1
            have h3 : ((fun (v : Value) (_ : World) => v = .int .i64 vn)) (y 3) X := hf.2.1
            clear hf
            have ex := (Ext.drw (Ext.refl _)).trans ex0
            refine Box.mk ?_
            simp only [fill, Act.put, Nat.reduceAdd, List.setIfInBounds_toArray, List.set_cons_zero, List.set_cons_succ, h2, h3] at hK ⊢
            go_simp
            exact hK.out _ _ rfl (Ext.refl _) (fun b hb => by cases hb)
          refine Steps.cons (fun (v : Value) (_ : World) => v = .int .i64 j) [4] rfl (by kernel_rfl) rfl (by kernel_rfl) (fun y X ex0 hf K hK => ?_) ?_
          · have h4 : ((fun (v : Value) (_ : World) => v = .pointer (some ⟨gb, vn, none⟩))) (y 4) X := hf.1
            clear hf
            have ex := (Ext.drw (Ext.refl _)).trans ex0
            refine Box.mk ?_
            simp only [fill, Act.put, Nat.reduceAdd, List.setIfInBounds_toArray, List.set_cons_zero, List.set_cons_succ, h4] at hK ⊢
            have m5 := keepAt ex (by omega) c2'
            go_simp
            exact hK.out _ _ rfl (Ext.refl _) (fun b hb => by cases hb)
          refine Steps.cons (fun (v : Value) (_ : World) => v = .int .i64 (rev j : Nat)) [5] rfl (by kernel_rfl) rfl (by kernel_rfl) (fun y X ex0 hf K hK => ?_) ?_
          · have h5 : ((fun (v : Value) (_ : World) => v = .int .i64 j)) (y 5) X := hf.1
            clear hf
            have ex := (Ext.drw (Ext.refl _)).trans ex0
            refine Box.mk ?_
            simp only [fill, Act.put, Nat.reduceAdd, List.setIfInBounds_toArray, List.set_cons_zero, List.set_cons_succ, h5] at hK ⊢
            go_simp
            refine (reverse_any j _ (by omega)).mono ?_
            rintro e V ⟨rfl, rfl⟩
            try go_wp2_with fail
            exact hK.out _ _ rfl (Ext.refl _) (fun b hb => by cases hb)
          refine Steps.cons (fun (v : Value) (_ : World) => v = .int .i64 p) [1, 6] rfl (by kernel_rfl) rfl (by kernel_rfl) (fun y X ex0 hf K hK => ?_) ?_
          · have h1 : ((fun (v : Value) (_ : World) => v = .agg #[.int .i64 s, .int .i64 t, .slice A a.n c, .slice (some ⟨gs, 0, none⟩) N cs])) (y 1) X := hf.1
            have h6 : ((fun (v : Value) (_ : World) => v = .int .i64 (rev j : Nat))) (y 6) X := hf.2.1
            clear hf
            have ex := (Ext.drw (Ext.refl _)).trans ex0
            refine Box.mk ?_
            simp only [fill, Act.put, Nat.reduceAdd, List.setIfInBounds_toArray, List.set_cons_zero, List.set_cons_succ, h1, h6] at hK ⊢
            go_simp
            refine (HEN.out _ ex).mono ?_
            rintro e V ⟨rfl, hb⟩
            try go_wp2_with fail
            exact hK.out _ _ rfl hb (fun b hb => by cases hb)
          exact Steps.nil
        case done =>
          intro y X ex hf hlt hsep
          have h0 : ((fun (v : Value) (_ : World) => v = .pointer (some ⟨W.heap.size, 0, none⟩))) (y 0) X := hf.1
          have h1 : ((fun (v : Value) (_ : World) => v = .agg #[.int .i64 s, .int .i64 t, .slice A a.n c, .slice (some ⟨gs, 0, none⟩) N cs])) (y 1) X := hf.2.1
          have h2 : ((fun (v : Value) (_ : World) => v = .slice (some ⟨gb, 0, none⟩) N N)) (y 2) X := hf.2.2.1
          have h3 : ((fun (v : Value) (_ : World) => v = .int .i64 vn)) (y 3) X := hf.2.2.2.1
          have h4 : ((fun (v : Value) (_ : World) => v = .pointer (some ⟨gb, vn, none⟩))) (y 4) X := hf.2.2.2.2.1
          have h5 : ((fun (v : Value) (_ : World) => v = .int .i64 j)) (y 5) X := hf.2.2.2.2.2.1
          have h6 : ((fun (v : Value) (_ : World) => v = .int .i64 (rev j : Nat))) (y 6) X := hf.2.2.2.2.2.2.1
          have h7 : ((fun (v : Value) (_ : World) => v = .int .i64 p)) (y 7) X := hf.2.2.2.2.2.2.2.1
          clear hf
          clear hsep hlt
          refine Box.mk ?_
          simp only [List.drop_succ_cons, List.drop_zero, fill, Act.put, Nat.reduceAdd, List.setIfInBounds_toArray, List.set_cons_zero, List.set_cons_succ, h0, h1, h2, h3, h4, h5, h6, h7]
          clear h0 h1 h2 h3 h4 h5 h6 h7
          have EY := Lib.hid ex; clear ex k0 k1 k2 k3 c2'
          go_wp2_with fail
          refine NoPanic.normal ?_
          go_wp2
          go_roundg (gk - 1)
          case measure => omega
          case rel =>
            refine ⟨p, w ++ [j], rfl, hpN, by omega, Lib.hid ⟨?_, HWY.out, HE2.out.trans EY.out⟩⟩
            rw [List.length_append]
            refine (HQ2.out.ext EY.out).congr fun i hi => ?_
            by_cases e : i = w.length
            · subst e; rw [up_self]; simp
            · rw [up_ne _ _ e]; simp only [List.getD_eq_getElem?_getD]; rw [List.getElem?_append_left (by omega)]
end Go.Proofs.Ytilcbbdmenknfaa
