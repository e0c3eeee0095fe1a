/- Walks: CompactFunc of stamps, the walk. -/
import Derived.Test.YtgjanbgehbpciaaF3
namespace Go.Proofs.Ytgjanbgehbpciaa
open Go.RowKit

theorem take_next {ds : List Sd} {p : Nat} {x : Sd} (hx : ds[p]? = some x) : ds.take (p + 1) = ds.take p ++ [x] := by rw [List.take_add_one, hx]; rfl
theorem clear_run (n c : Nat) (g o : Nat) (w : World) (hn : 0 < n) (hc : ∀ j, j < n * 3 → (w.cell? ⟨g, o + j, none⟩).isSome = true) (hf : ∀ j, j < n * 3 → w.frozen? ⟨g, o + j, none⟩ = false) :
    ∃ vs, ∀ ty, (Builtin.clear_ #[63] ty #[.slice (some ⟨g, o, none⟩) n c]).run Try.prog w = .ok (.tuple #[]) (w.setCells g o vs) := by
  obtain ⟨vs, hvs⟩ : ∃ vs, vs = (Builtin.zeroCells (Value.agg #[.int .i64 0, .int .i64 0, .slice none 0 0]).cells n).toList := ⟨_, rfl⟩
  have hz : ∀ w, (zeroValue 27).run Try.prog w = .ok (.agg #[.int .i64 0, .int .i64 0, .slice none 0 0]) w := fun w => by kernel_rfl
  have hlen : vs.length = n * 3 := by rw [hvs]; simp [Builtin.zeroCells, Value.cells]
  have h1 : ∀ v ∈ vs, v.oneCell' = true := by
    intro v hv
    rw [hvs] at hv
    simp [Builtin.zeroCells, Value.cells] at hv
    obtain ⟨j, hj, rfl⟩ := hv
    rcases (by omega : j % 3 = 0 ∨ j % 3 = 1 ∨ j % 3 = 2) with e | e | e <;> simp [e, Value.oneCell']
  have hst := run_storeCells_cells (P := Try.prog) g o vs 0 w (by rw [hlen]; simpa using hc) (by rw [hlen]; simpa using hf) h1
  simp only [Nat.add_zero] at hst
  obtain ⟨m, rfl⟩ : ∃ m, n = m + 1 := ⟨n - 1, by omega⟩
  refine ⟨vs, fun ty => ?_⟩
  simp [Builtin.clear_, run_underlying Try.underlying63, hz, ← hvs, hst]

/-- the row under way: the first k places hold what is kept, from place q on it is as it was -/
def RU (W0 : World) (w h N gf : Nat) (ds : List Sd) (q : Nat) (wr : World) : Prop :=
  ∃ rs : List Sd, rs.length = ds.length ∧ rs.take (kp ds (q + 1)).length = kp ds (q + 1) ∧ (∀ i, q ≤ i → rs[i]? = ds[i]?) ∧ Rw wr w h N gf rs ∧ Gx gf W0 wr
theorem RU.yes {W0 X : World} {w h N gf q : Nat} {ds : List Sd} {x : Sd} {k : Nat} (hk : k = (kp ds (q + 1)).length) (hr : RU W0 w h N gf ds q X) (hx : ds[q + 1]? = some x) (hb : kpB ds (q + 1) = true) (hkq : k ≤ q) :
    RU W0 w h N gf ds (q + 1) (((X.setCell ⟨gf, k * 3, none⟩ (.int .i64 w)).setCell ⟨gf, k * 3 + 1, none⟩ (.int .i64 h)).setCell ⟨gf, k * 3 + 2, none⟩ (.slice (some ⟨x.b, 0, none⟩) N N)) := by
  obtain ⟨rs, h1, h2, h3, h4, h5⟩ := hr
  have hql : q + 1 < ds.length := (List.getElem?_eq_some_iff.1 hx).1
  rw [← hk] at h2
  have e : kp ds (q + 1 + 1) = kp ds (q + 1) ++ [x] := by rw [kp_yes hb, List.getD_eq_getElem?_getD, hx]; rfl
  refine ⟨rs.set k x, by rw [List.length_set]; exact h1, ?_, fun i hi => ?_, h4.put x (by omega), ((h5.trans (Gx.sc _ _)).trans (Gx.sc _ _)).trans (Gx.sc _ _)⟩
  · rw [e, List.length_append, List.length_singleton, ← hk, List.take_add_one, List.take_set_of_le (Nat.le_refl _), h2, List.getElem?_set_self (by omega)]
    rfl
  · rw [List.getElem?_set_ne (by omega)]
    exact h3 i (by omega)
theorem RU.no {W0 X : World} {w h N gf q : Nat} {ds : List Sd} (hr : RU W0 w h N gf ds q X) (hb : kpB ds (q + 1) = false) : RU W0 w h N gf ds (q + 1) X := by
  obtain ⟨rs, h1, h2, h3, h4, h5⟩ := hr
  rw [← kp_no hb] at h2
  exact ⟨rs, h1, h2, fun i hi => h3 i (by omega), h4, h5⟩
theorem RU.ext {W0 X Y : World} {w h N gf q : Nat} {ds : List Sd} (hr : RU W0 w h N gf ds q X) (e : Ext X Y) : RU W0 w h N gf ds q Y := by
  obtain ⟨rs, h1, h2, h3, h4, h5⟩ := hr
  exact ⟨rs, h1, h2, h3, h4.ext e, h5.trans (Gx.of e)⟩

set_option maxHeartbeats 8000000 in
set_option maxRecDepth 100000 in
theorem compact_c (w h N gf cap n : Nat) (ds : List Sd) (W : World) (hn : n = ds.length) (hn1 : 1 ≤ n) (hn5 : n ≤ 1000) (hcap : n ≤ cap) (hcap2 : cap ≤ 9223372036854775807) (hN : N ≤ 1000) (hrw : Rw W w h N gf ds)
    (har : ∀ x ∈ ds, Ar3 W x.b x.l ∧ x.l.length = N ∧ x.b ≠ gf) :
    Calls Try.prog 92 #[.slice (some ⟨gf, 0, none⟩) n cap, .func (.func 93) #[] #[]] W fun e W' => e = .returned (.slice (some ⟨gf, 0, none⟩) (kp ds n).length cap) ∧ Rw W' w h N gf (kp ds n) ∧ Gx gf W W' := by
  have hsm : ∀ (x y : Sd) (X : World), x ∈ ds → y ∈ ds → Gx gf W X → Calls Try.prog 93 #[.agg #[.int .i64 w, .int .i64 h, .slice (some ⟨x.b, 0, none⟩) N N], .agg #[.int .i64 w, .int .i64 h, .slice (some ⟨y.b, 0, none⟩) N N]] X fun e W' => e = .returned (.bool (decide (x.l = y.l))) ∧ Ext X W' := fun x y X hx hy hX => by
    obtain ⟨a1, a2, a3⟩ := har x hx
    obtain ⟨b1, b2, b3⟩ := har y hy
    have A := a1.gx hX a3
    have B := b1.gx hX b3
    exact isSame_c w h w h x.b 0 N y.b 0 N N x.l y.l X hN a2 b2 A.lt B.lt (fun j hj => by rw [Nat.zero_add]; exact A.cell (by omega)) (fun j hj => by rw [Nat.zero_add]; exact B.cell (by omega))
  have hk0 : kp ds 1 = ds.take 1 := by
    have e0 : kpB ds 0 = true := by simp [kpB]
    have := kp_yes e0
    rw [show kp ds 0 = [] from rfl, List.nil_append] at this
    rw [this, List.take_add_one, List.take_zero, List.nil_append, List.getD_eq_getElem?_getD, List.getElem?_eq_getElem (by omega)]
    rfl
  obtain ⟨hg0, hrc, hrf⟩ := id hrw
  have HSM := Lib.hid hsm; have HRW := Lib.hid hrw; have HN := Lib.hid hn; have HK0 := Lib.hid hk0
  clear hsm har hk0 hrc hrf hrw hn
  go_enter Try.func92, Try.ntmps92
  by_cases hn2 : n < 2
  · obtain rfl : n = 1 := by omega
    have hfin := HRW.out
    have e1 : ds = kp ds 1 := by rw [HK0.out, List.take_of_length_le (by rw [← HN.out]; exact Nat.le_refl _)]
    have el : (kp ds 1).length = 1 := by rw [← e1]; exact HN.out.symm
    rw [e1] at hfin
    have HF := Lib.hid hfin; have HE := Lib.hid el; clear hfin el e1
    go_wp2
    go_ret
    exact ⟨by rw [HE.out]; rfl, HF.out, Gx.refl _ _⟩
  · have hn2' : 2 ≤ n := by omega
    go_wp2_with fail
    go_loopw [5] (fun i wr => ∃ q : Nat, i = .int .i64 ((q : Int) + 1) ∧ q + 1 ≤ n ∧ kp ds (q + 1) = ds.take (q + 1) ∧ Ext W wr) (fun i _ => n - (intOf i).toNat)
    case atStart => exact ⟨0, by go_num, by omega, HK0.out, Ext.refl _⟩
    case round =>
      obtain ⟨q, rfl, hq, hkp, hex⟩ := hrel
      have HKP := Lib.hid hkp; have HEX := Lib.hid hex; clear hkp hex
      by_cases hlt : q + 1 < n
      · have hlt' : (q : Int) + 1 < n := by omega
        obtain ⟨x, hx⟩ : ∃ x, ds[q + 1]? = some x := ⟨ds[q + 1]'(by rw [← HN.out]; exact hlt), List.getElem?_eq_getElem _⟩
        obtain ⟨y0, hy⟩ : ∃ y0, ds[q]? = some y0 := ⟨ds[q]'(by rw [← HN.out]; omega), List.getElem?_eq_getElem _⟩
        have hsm := fun X (hX : Ext wr X) => HSM.out x y0 X (List.mem_of_getElem? hx) (List.mem_of_getElem? hy) (Gx.of (HEX.out.trans hX))
        have hcx := (HRW.out.ext HEX.out).2.1 _ _ hx
        have hcy := (HRW.out.ext HEX.out).2.1 _ _ hy
        have g0 : gf < wr.heap.size := (HRW.out.ext HEX.out).1
        obtain ⟨d, hd⟩ : ∃ d, d = decide (x.l = y0.l) := ⟨_, rfl⟩
        simp only [← hd] at hsm
        have n1 : ((q : Int) + 1).toNat = q + 1 := by omega
        have n2 : (0 : Int) ≤ (q : Int) + 1 := by omega
        have s1 : IntKind.i64.wrap (q : Int) = (q : Int) := IntWalk.i64_in _ (by omega)
        have hqn : q < n := by omega
        have HSMX := Lib.hid hsm; have HCX := Lib.hid hcx; have HCY := Lib.hid hcy; have HX := Lib.hid hx; have HY := Lib.hid hy; have HD := Lib.hid hd; have NN := Lib.hid (And.intro n1 (And.intro n2 s1)); have HL := Lib.hid hlt'; have HQN := Lib.hid hqn
        clear hsm hcx hcy hx hy hd n1 n2 s1 hqn
        go_upto_region 6 with fail
        refine wp_region_noPanic ?_
        refine wp_pool 11 [some 18, some 19, some 20, some 21, some 22, some 23, some 24, some 25, some 26, some 27, some 28] [] [] [(fun (v : Value) (_ : World) => v = .func (.func 93) #[] #[]), (fun (v : Value) (_ : World) => v = .slice (some ⟨gf, 0, none⟩) n cap), (fun (v : Value) (_ : World) => v = .int .i64 ((q : Int) + 1)), (fun (v : Value) (_ : World) => v = .pointer (some ⟨gf, (q + 1) * 3, none⟩)), (fun (v : Value) (_ : World) => v = .agg #[.int .i64 w, .int .i64 h, .slice (some ⟨x.b, 0, none⟩) N N]), (fun (v : Value) (_ : World) => v = .slice (some ⟨gf, 0, none⟩) n cap), (fun (v : Value) (_ : World) => v = .int .i64 ((q : Int) + 1)), (fun (v : Value) (_ : World) => v = .int .i64 q), (fun (v : Value) (_ : World) => v = .pointer (some ⟨gf, q * 3, none⟩)), (fun (v : Value) (_ : World) => v = .agg #[.int .i64 w, .int .i64 h, .slice (some ⟨y0.b, 0, none⟩) N N]), (fun (v : Value) (_ : World) => v = .bool d)] [noF, noF, noF, noF, noF, noF, noF, noF, noF, noF, noF] (by kernel_rfl) (by kernel_rfl) (by kernel_rfl) (by kernel_rfl) (by kernel_rfl) (by kernel_rfl) (by kernel_rfl) (by kernel_rfl) (fun _ _ _ _ h => h) ⟨Stays.pure _, Stays.pure _, Stays.pure _, Stays.pure _, Stays.pure _, Stays.pure _, Stays.pure _, Stays.pure _, Stays.pure _, Stays.pure _, Stays.pure _, True.intro⟩ ?steps ?done
        case steps =>
          simp only [List.take_succ_cons, List.take_zero]
          refine Steps.cons (fun (v : Value) (_ : World) => v = .func (.func 93) #[] #[]) [] rfl (by kernel_rfl) rfl (by kernel_rfl) (fun y X ex0 hf K hK => ?_) ?_
          · clear hf
            have ex := (Ext.drw (Ext.refl _)).trans ex0
            refine Box.mk ?_
            simp only [fill, Act.put, Nat.reduceAdd, List.setIfInBounds_toArray, List.set_cons_zero, List.set_cons_succ] at hK ⊢
            go_simp
            exact hK.out _ _ rfl (Ext.refl _) (fun b hb => by cases hb)
          refine Steps.cons (fun (v : Value) (_ : World) => v = .slice (some ⟨gf, 0, none⟩) n cap) [] rfl (by kernel_rfl) rfl (by kernel_rfl) (fun y X ex0 hf K hK => ?_) ?_
          · clear hf
            have ex := (Ext.drw (Ext.refl _)).trans ex0
            refine Box.mk ?_
            simp only [fill, Act.put, Nat.reduceAdd, List.setIfInBounds_toArray, List.set_cons_zero, List.set_cons_succ] at hK ⊢
            go_simp
            exact hK.out _ _ rfl (Ext.refl _) (fun b hb => by cases hb)
          refine Steps.cons (fun (v : Value) (_ : World) => v = .int .i64 ((q : Int) + 1)) [] rfl (by kernel_rfl) rfl (by kernel_rfl) (fun y X ex0 hf K hK => ?_) ?_
          · clear hf
            have ex := (Ext.drw (Ext.refl _)).trans ex0
            refine Box.mk ?_
            simp only [fill, Act.put, Nat.reduceAdd, List.setIfInBounds_toArray, List.set_cons_zero, List.set_cons_succ] at hK ⊢
            go_simp
            exact hK.out _ _ rfl (Ext.refl _) (fun b hb => by cases hb)
          refine Steps.cons (fun (v : Value) (_ : World) => v = .pointer (some ⟨gf, (q + 1) * 3, none⟩)) [1, 2] rfl (by kernel_rfl) rfl (by kernel_rfl) (fun y X ex0 hf K hK => ?_) ?_
          · have h1 : ((fun (v : Value) (_ : World) => v = .slice (some ⟨gf, 0, none⟩) n cap)) (y 1) X := hf.1
            have h2 : ((fun (v : Value) (_ : World) => v = .int .i64 ((q : Int) + 1))) (y 2) X := hf.2.1
            clear hf
            have ex := (Ext.drw (Ext.refl _)).trans ex0
            refine Box.mk ?_
            simp only [fill, Act.put, Nat.reduceAdd, List.setIfInBounds_toArray, List.set_cons_zero, List.set_cons_succ, h1, h2] at hK ⊢
            obtain ⟨n1, n2, s1⟩ := NN.out
            have hl := HL.out
            go_simp
            exact hK.out _ _ rfl (Ext.refl _) (fun b hb => by cases hb)
          refine Steps.cons (fun (v : Value) (_ : World) => v = .agg #[.int .i64 w, .int .i64 h, .slice (some ⟨x.b, 0, none⟩) N N]) [3] rfl (by kernel_rfl) rfl (by kernel_rfl) (fun y X ex0 hf K hK => ?_) ?_
          · have h3 : ((fun (v : Value) (_ : World) => v = .pointer (some ⟨gf, (q + 1) * 3, none⟩))) (y 3) X := hf.1
            clear hf
            have ex := (Ext.drw (Ext.refl _)).trans ex0
            refine Box.mk ?_
            simp only [fill, Act.put, Nat.reduceAdd, List.setIfInBounds_toArray, List.set_cons_zero, List.set_cons_succ, h3] at hK ⊢
            obtain ⟨l0, l1, l2⟩ := HCX.out
            have k0 := keepAt ex g0 l0
            have k1 := keepAt ex g0 l1
            have k2 := keepAt ex g0 l2
            clear l0 l1 l2
            go_simp
            exact hK.out _ _ rfl (Ext.refl _) (fun b hb => by cases hb)
          refine Steps.cons (fun (v : Value) (_ : World) => v = .slice (some ⟨gf, 0, none⟩) n cap) [] rfl (by kernel_rfl) rfl (by kernel_rfl) (fun y X ex0 hf K hK => ?_) ?_
          · clear hf
            have ex := (Ext.drw (Ext.refl _)).trans ex0
            refine Box.mk ?_
            simp only [fill, Act.put, Nat.reduceAdd, List.setIfInBounds_toArray, List.set_cons_zero, List.set_cons_succ] at hK ⊢
            go_simp
            exact hK.out _ _ rfl (Ext.refl _) (fun b hb => by cases hb)
          refine Steps.cons (fun (v : Value) (_ : World) => v = .int .i64 ((q : Int) + 1)) [] rfl (by kernel_rfl) rfl (by kernel_rfl) (fun y X ex0 hf K hK => ?_) ?_
          · clear hf
            have ex := (Ext.drw (Ext.refl _)).trans ex0
            refine Box.mk ?_
            simp only [fill, Act.put, Nat.reduceAdd, List.setIfInBounds_toArray, List.set_cons_zero, List.set_cons_succ] at hK ⊢
            go_simp
            exact hK.out _ _ rfl (Ext.refl _) (fun b hb => by cases hb)
          refine Steps.cons (fun (v : Value) (_ : World) => v = .int .i64 q) [6] rfl (by kernel_rfl) rfl (by kernel_rfl) (fun y X ex0 hf K hK => ?_) ?_
          · have h6 : ((fun (v : Value) (_ : World) => v = .int .i64 ((q : Int) + 1))) (y 6) X := hf.1
            clear hf
            have ex := (Ext.drw (Ext.refl _)).trans ex0
            refine Box.mk ?_
            simp only [fill, Act.put, Nat.reduceAdd, List.setIfInBounds_toArray, List.set_cons_zero, List.set_cons_succ, h6] at hK ⊢
            obtain ⟨n1, n2, s1⟩ := NN.out
            go_simp
            exact hK.out _ _ rfl (Ext.refl _) (fun b hb => by cases hb)
          refine Steps.cons (fun (v : Value) (_ : World) => v = .pointer (some ⟨gf, q * 3, none⟩)) [5, 7] rfl (by kernel_rfl) rfl (by kernel_rfl) (fun y X ex0 hf K hK => ?_) ?_
          · have h5 : ((fun (v : Value) (_ : World) => v = .slice (some ⟨gf, 0, none⟩) n cap)) (y 5) X := hf.1
            have h7 : ((fun (v : Value) (_ : World) => v = .int .i64 q)) (y 7) X := hf.2.1
            clear hf
            have ex := (Ext.drw (Ext.refl _)).trans ex0
            refine Box.mk ?_
            simp only [fill, Act.put, Nat.reduceAdd, List.setIfInBounds_toArray, List.set_cons_zero, List.set_cons_succ, h5, h7] at hK ⊢
            have hl := HQN.out
            go_simp
            exact hK.out _ _ rfl (Ext.refl _) (fun b hb => by cases hb)
          refine Steps.cons (fun (v : Value) (_ : World) => v = .agg #[.int .i64 w, .int .i64 h, .slice (some ⟨y0.b, 0, none⟩) N N]) [8] rfl (by kernel_rfl) rfl (by kernel_rfl) (fun y X ex0 hf K hK => ?_) ?_
          · have h8 : ((fun (v : Value) (_ : World) => v = .pointer (some ⟨gf, q * 3, none⟩))) (y 8) X := hf.1
            clear hf
            have ex := (Ext.drw (Ext.refl _)).trans ex0
            refine Box.mk ?_
            simp only [fill, Act.put, Nat.reduceAdd, List.setIfInBounds_toArray, List.set_cons_zero, List.set_cons_succ, h8] at hK ⊢
            obtain ⟨l0, l1, l2⟩ := HCY.out
            have k0 := keepAt ex g0 l0
            have k1 := keepAt ex g0 l1
            have k2 := keepAt ex g0 l2
            clear l0 l1 l2
            go_simp
            exact hK.out _ _ rfl (Ext.refl _) (fun b hb => by cases hb)
          refine Steps.cons (fun (v : Value) (_ : World) => v = .bool d) [0, 4, 9] rfl (by kernel_rfl) rfl (by kernel_rfl) (fun y X ex0 hf K hK => ?_) ?_
          · have h0 : ((fun (v : Value) (_ : World) => v = .func (.func 93) #[] #[])) (y 0) X := hf.1
            have h4 : ((fun (v : Value) (_ : World) => v = .agg #[.int .i64 w, .int .i64 h, .slice (some ⟨x.b, 0, none⟩) N N])) (y 4) X := hf.2.1
            have h9 : ((fun (v : Value) (_ : World) => v = .agg #[.int .i64 w, .int .i64 h, .slice (some ⟨y0.b, 0, none⟩) N N])) (y 9) X := hf.2.2.1
            clear hf
            have ex := (Ext.drw (Ext.refl _)).trans ex0
            refine Box.mk ?_
            simp only [fill, Act.put, Nat.reduceAdd, List.setIfInBounds_toArray, List.set_cons_zero, List.set_cons_succ, h0, h4, h9] at hK ⊢
            go_simp
            refine (HSMX.out _ ex).mono ?_
            rintro e V ⟨rfl, hb⟩
            try go_wp2_with fail
            exact hK.out _ _ rfl hb (fun b hb => by cases hb)
          exact Steps.nil
        case done =>
          intro y X ex hf hlt hsep
          have h0 : ((fun (v : Value) (_ : World) => v = .func (.func 93) #[] #[])) (y 0) X := hf.1
          have h1 : ((fun (v : Value) (_ : World) => v = .slice (some ⟨gf, 0, none⟩) n cap)) (y 1) X := hf.2.1
          have h2 : ((fun (v : Value) (_ : World) => v = .int .i64 ((q : Int) + 1))) (y 2) X := hf.2.2.1
          have h3 : ((fun (v : Value) (_ : World) => v = .pointer (some ⟨gf, (q + 1) * 3, none⟩))) (y 3) X := hf.2.2.2.1
          have h4 : ((fun (v : Value) (_ : World) => v = .agg #[.int .i64 w, .int .i64 h, .slice (some ⟨x.b, 0, none⟩) N N])) (y 4) X := hf.2.2.2.2.1
          have h5 : ((fun (v : Value) (_ : World) => v = .slice (some ⟨gf, 0, none⟩) n cap)) (y 5) X := hf.2.2.2.2.2.1
          have h6 : ((fun (v : Value) (_ : World) => v = .int .i64 ((q : Int) + 1))) (y 6) X := hf.2.2.2.2.2.2.1
          have h7 : ((fun (v : Value) (_ : World) => v = .int .i64 q)) (y 7) X := hf.2.2.2.2.2.2.2.1
          have h8 : ((fun (v : Value) (_ : World) => v = .pointer (some ⟨gf, q * 3, none⟩))) (y 8) X := hf.2.2.2.2.2.2.2.2.1
          have h9 : ((fun (v : Value) (_ : World) => v = .agg #[.int .i64 w, .int .i64 h, .slice (some ⟨y0.b, 0, none⟩) N N])) (y 9) X := hf.2.2.2.2.2.2.2.2.2.1
          have h10 : ((fun (v : Value) (_ : World) => v = .bool d)) (y 10) X := hf.2.2.2.2.2.2.2.2.2.2.1
          clear hf
          clear hsep hlt
          refine Box.mk ?_
          simp only [List.drop_succ_cons, List.drop_zero, fill, Act.put, Nat.reduceAdd, List.setIfInBounds_toArray, List.set_cons_zero, List.set_cons_succ, h0, h1, h2, h3, h4, h5, h6, h7, h8, h9, h10]
          clear h0 h1 h2 h3 h4 h5 h6 h7 h8 h9 h10
          have EX := Lib.hid ex; clear ex
          go_wp2_with fail
          refine NoPanic.normal ?_
          have hex9 := HEX.out.trans EX.out
          have HEX9 := Lib.hid hex9; clear hex9 HEX EX HCX HCY HSMX NN
          cases d with
          | false =>
            have hb := kpB_t HX.out HY.out (of_decide_eq_false HD.out.symm)
            have hkp2 : kp ds (q + 1 + 1) = ds.take (q + 1 + 1) := by rw [kp_yes hb, HKP.out, List.getD_eq_getElem?_getD, HX.out, take_next HX.out]; rfl
            have HKP2 := Lib.hid hkp2; clear hkp2 hb
            go_wp2_with fail
            go_roundw
            case rel => exact ⟨q + 1, by go_num, by omega, HKP2.out, HEX9.out⟩
            case measure => simp [intOf]; omega
          | true =>
            have hb := kpB_f HX.out HY.out (of_decide_eq_true HD.out.symm)
            have hru : RU W w h N gf ds (q + 1) X := by
              refine RU.no ⟨ds, rfl, ?_, fun _ _ => rfl, HRW.out.ext HEX9.out, Gx.of HEX9.out⟩ hb
              rw [HKP.out, List.length_take]
              have : min (q + 1) ds.length = q + 1 := by rw [← HN.out]; omega
              rw [this]
            have hkl : (kp ds (q + 1 + 1)).length = q + 1 := by rw [kp_no hb, HKP.out, List.length_take, ← HN.out]; omega
            have HRU := Lib.hid hru; have HKL := Lib.hid hkl; clear hru hkl hb HX HY HD
            have hl2 := HL.out
            go_wp2_with fail
            obtain ⟨wo, hwo⟩ : ∃ wo : World, wo = X := ⟨_, rfl⟩
            rw [← hwo] at HRU ⊢
            clear hwo HEX9 HKP hl2
            go_loopw [5, 7] (fun a i wr => ∃ k r : Nat, a = .int .i64 k ∧ i = .int .i64 ((r : Int) + 1) ∧ q + 1 + r + 1 ≤ n ∧ k = (kp ds (q + 1 + r + 1)).length ∧ k ≤ q + 1 + r ∧ RU W w h N gf ds (q + 1 + r) wr) (fun _ i _ => n - (intOf i).toNat)
            case atStart => exact ⟨q + 1, 0, by go_num, by go_num, by omega, by rw [Nat.add_zero]; exact HKL.out.symm, by omega, by rw [Nat.add_zero]; exact HRU.out⟩
            case round =>
              clear HRU HKL
              obtain ⟨k, r, rfl, rfl, hr, hk, hkr, hru⟩ := hrel
              have HK := Lib.hid hk; have HRU := Lib.hid hru; clear hk hru
              by_cases hlt2 : q + 1 + r + 1 < n
              · have hlt3 : (r : Int) + 1 < ((n - (q + 1) : Nat) : Int) := by omega
                obtain ⟨x, hx⟩ : ∃ x, ds[q + 1 + r + 1]? = some x := ⟨ds[q + 1 + r + 1]'(by rw [← HN.out]; exact hlt2), List.getElem?_eq_getElem _⟩
                obtain ⟨y0, hy⟩ : ∃ y0, ds[q + 1 + r]? = some y0 := ⟨ds[q + 1 + r]'(by rw [← HN.out]; omega), List.getElem?_eq_getElem _⟩
                obtain ⟨rs, hr1, hr2, hr3, hr4, hr5⟩ := id HRU.out
                have hsm := fun Y (hX : Ext wr Y) => HSM.out x y0 Y (List.mem_of_getElem? hx) (List.mem_of_getElem? hy) (hr5.trans (Gx.of hX))
                have hcx := hr4.2.1 (q + 1 + r + 1) x (by rw [hr3 _ (by omega)]; exact hx)
                have hcy := hr4.2.1 (q + 1 + r) y0 (by rw [hr3 _ (by omega)]; exact hy)
                have ea : (q + 1 + r + 1) * 3 = (q + 1) * 3 + (r + 1) * 3 := by omega
                have eb : (q + 1 + r) * 3 = (q + 1) * 3 + r * 3 := by omega
                rw [ea] at hcx
                rw [eb] at hcy
                have g0 : gf < wr.heap.size := hr4.1
                obtain ⟨d, hd⟩ : ∃ d, d = decide (x.l = y0.l) := ⟨_, rfl⟩
                simp only [← hd] at hsm
                have n1 : ((r : Int) + 1).toNat = r + 1 := by omega
                have n2 : (0 : Int) ≤ (r : Int) + 1 := by omega
                have s1 : IntKind.i64.wrap (r : Int) = (r : Int) := IntWalk.i64_in _ (by omega)
                have hqn : r < n - (q + 1) := by omega
                have HSMX := Lib.hid hsm; have HCX := Lib.hid hcx; have HCY := Lib.hid hcy; have HX := Lib.hid hx; have HY := Lib.hid hy; have HD := Lib.hid hd; have NN := Lib.hid (And.intro n1 (And.intro n2 s1)); have HL := Lib.hid hlt3; have HQN := Lib.hid hqn; have HEA := Lib.hid ea
                clear hsm hcx hcy hx hy hd n1 n2 s1 hqn hr1 hr2 hr3 hr4 hr5 ea eb
                go_upto_region 11 with fail
                refine wp_region_noPanic ?_
                refine wp_pool 12 [some 38, some 39, some 40, some 41, some 42, some 43, some 44, some 45, some 46, some 47, some 48, some 49] [] [] [(fun (v : Value) (_ : World) => v = .func (.func 93) #[] #[]), (fun (v : Value) (_ : World) => v = .slice (some ⟨gf, (q + 1) * 3, none⟩) (n - (q + 1)) (cap - (q + 1))), (fun (v : Value) (_ : World) => v = .int .i64 ((r : Int) + 1)), (fun (v : Value) (_ : World) => v = .pointer (some ⟨gf, (q + 1) * 3 + (r + 1) * 3, none⟩)), (fun (v : Value) (_ : World) => v = .agg #[.int .i64 w, .int .i64 h, .slice (some ⟨x.b, 0, none⟩) N N]), (fun (v : Value) (_ : World) => v = .slice (some ⟨gf, (q + 1) * 3, none⟩) (n - (q + 1)) (cap - (q + 1))), (fun (v : Value) (_ : World) => v = .int .i64 ((r : Int) + 1)), (fun (v : Value) (_ : World) => v = .int .i64 r), (fun (v : Value) (_ : World) => v = .pointer (some ⟨gf, (q + 1) * 3 + r * 3, none⟩)), (fun (v : Value) (_ : World) => v = .agg #[.int .i64 w, .int .i64 h, .slice (some ⟨y0.b, 0, none⟩) N N]), (fun (v : Value) (_ : World) => v = .bool d), (fun (v : Value) (_ : World) => v = .bool (!d))] [noF, noF, noF, noF, noF, noF, noF, noF, noF, noF, noF, noF] (by kernel_rfl) (by kernel_rfl) (by kernel_rfl) (by kernel_rfl) (by kernel_rfl) (by kernel_rfl) (by kernel_rfl) (by kernel_rfl) (fun _ _ _ _ h => h) ⟨Stays.pure _, Stays.pure _, Stays.pure _, Stays.pure _, Stays.pure _, Stays.pure _, Stays.pure _, Stays.pure _, Stays.pure _, Stays.pure _, Stays.pure _, Stays.pure _, True.intro⟩ ?steps ?done
                case steps =>
                  simp only [List.take_succ_cons, List.take_zero]
                  refine Steps.cons (fun (v : Value) (_ : World) => v = .func (.func 93) #[] #[]) [] rfl (by kernel_rfl) rfl (by kernel_rfl) (fun y X ex0 hf K hK => ?_) ?_
                  · clear hf
                    have ex := (Ext.drw (Ext.refl _)).trans ex0
                    refine Box.mk ?_
                    simp only [fill, Act.put, Nat.reduceAdd, List.setIfInBounds_toArray, List.set_cons_zero, List.set_cons_succ] at hK ⊢
                    go_simp
                    exact hK.out _ _ rfl (Ext.refl _) (fun b hb => by cases hb)
                  refine Steps.cons (fun (v : Value) (_ : World) => v = .slice (some ⟨gf, (q + 1) * 3, none⟩) (n - (q + 1)) (cap - (q + 1))) [] rfl (by kernel_rfl) rfl (by kernel_rfl) (fun y X ex0 hf K hK => ?_) ?_
                  · clear hf
                    have ex := (Ext.drw (Ext.refl _)).trans ex0
                    refine Box.mk ?_
                    simp only [fill, Act.put, Nat.reduceAdd, List.setIfInBounds_toArray, List.set_cons_zero, List.set_cons_succ] at hK ⊢
                    go_simp
                    exact hK.out _ _ rfl (Ext.refl _) (fun b hb => by cases hb)
                  refine Steps.cons (fun (v : Value) (_ : World) => v = .int .i64 ((r : Int) + 1)) [] rfl (by kernel_rfl) rfl (by kernel_rfl) (fun y X ex0 hf K hK => ?_) ?_
                  · clear hf
                    have ex := (Ext.drw (Ext.refl _)).trans ex0
                    refine Box.mk ?_
                    simp only [fill, Act.put, Nat.reduceAdd, List.setIfInBounds_toArray, List.set_cons_zero, List.set_cons_succ] at hK ⊢
                    go_simp
                    exact hK.out _ _ rfl (Ext.refl _) (fun b hb => by cases hb)
                  refine Steps.cons (fun (v : Value) (_ : World) => v = .pointer (some ⟨gf, (q + 1) * 3 + (r + 1) * 3, none⟩)) [1, 2] rfl (by kernel_rfl) rfl (by kernel_rfl) (fun y X ex0 hf K hK => ?_) ?_
                  · have h1 : ((fun (v : Value) (_ : World) => v = .slice (some ⟨gf, (q + 1) * 3, none⟩) (n - (q + 1)) (cap - (q + 1)))) (y 1) X := hf.1
                    have h2 : ((fun (v : Value) (_ : World) => v = .int .i64 ((r : Int) + 1))) (y 2) X := hf.2.1
                    clear hf
                    have ex := (Ext.drw (Ext.refl _)).trans ex0
                    refine Box.mk ?_
                    simp only [fill, Act.put, Nat.reduceAdd, List.setIfInBounds_toArray, List.set_cons_zero, List.set_cons_succ, h1, h2] at hK ⊢
                    obtain ⟨n1, n2, s1⟩ := NN.out
                    have hl := HL.out
                    go_simp
                    exact hK.out _ _ rfl (Ext.refl _) (fun b hb => by cases hb)
                  refine Steps.cons (fun (v : Value) (_ : World) => v = .agg #[.int .i64 w, .int .i64 h, .slice (some ⟨x.b, 0, none⟩) N N]) [3] rfl (by kernel_rfl) rfl (by kernel_rfl) (fun y X ex0 hf K hK => ?_) ?_
                  · have h3 : ((fun (v : Value) (_ : World) => v = .pointer (some ⟨gf, (q + 1) * 3 + (r + 1) * 3, none⟩))) (y 3) X := hf.1
                    clear hf
                    have ex := (Ext.drw (Ext.refl _)).trans ex0
                    refine Box.mk ?_
                    simp only [fill, Act.put, Nat.reduceAdd, List.setIfInBounds_toArray, List.set_cons_zero, List.set_cons_succ, h3] at hK ⊢
                    obtain ⟨l0, l1, l2⟩ := HCX.out
                    have k0 := keepAt ex g0 l0
                    have k1 := keepAt ex g0 l1
                    have k2 := keepAt ex g0 l2
                    clear l0 l1 l2
                    go_simp
                    exact hK.out _ _ rfl (Ext.refl _) (fun b hb => by cases hb)
                  refine Steps.cons (fun (v : Value) (_ : World) => v = .slice (some ⟨gf, (q + 1) * 3, none⟩) (n - (q + 1)) (cap - (q + 1))) [] rfl (by kernel_rfl) rfl (by kernel_rfl) (fun y X ex0 hf K hK => ?_) ?_
                  · clear hf
                    have ex := (Ext.drw (Ext.refl _)).trans ex0
                    refine Box.mk ?_
                    simp only [fill, Act.put, Nat.reduceAdd, List.setIfInBounds_toArray, List.set_cons_zero, List.set_cons_succ] at hK ⊢
                    go_simp
                    exact hK.out _ _ rfl (Ext.refl _) (fun b hb => by cases hb)
                  refine Steps.cons (fun (v : Value) (_ : World) => v = .int .i64 ((r : Int) + 1)) [] rfl (by kernel_rfl) rfl (by kernel_rfl) (fun y X ex0 hf K hK => ?_) ?_
                  · clear hf
                    have ex := (Ext.drw (Ext.refl _)).trans ex0
                    refine Box.mk ?_
                    simp only [fill, Act.put, Nat.reduceAdd, List.setIfInBounds_toArray, List.set_cons_zero, List.set_cons_succ] at hK ⊢
                    go_simp
                    exact hK.out _ _ rfl (Ext.refl _) (fun b hb => by cases hb)
                  refine Steps.cons (fun (v : Value) (_ : World) => v = .int .i64 r) [6] rfl (by kernel_rfl) rfl (by kernel_rfl) (fun y X ex0 hf K hK => ?_) ?_
                  · have h6 : ((fun (v : Value) (_ : World) => v = .int .i64 ((r : Int) + 1))) (y 6) X := hf.1
                    clear hf
                    have ex := (Ext.drw (Ext.refl _)).trans ex0
                    refine Box.mk ?_
                    simp only [fill, Act.put, Nat.reduceAdd, List.setIfInBounds_toArray, List.set_cons_zero, List.set_cons_succ, h6] at hK ⊢
                    obtain ⟨n1, n2, s1⟩ := NN.out
                    go_simp
                    exact hK.out _ _ rfl (Ext.refl _) (fun b hb => by cases hb)
                  refine Steps.cons (fun (v : Value) (_ : World) => v = .pointer (some ⟨gf, (q + 1) * 3 + r * 3, none⟩)) [5, 7] rfl (by kernel_rfl) rfl (by kernel_rfl) (fun y X ex0 hf K hK => ?_) ?_
                  · have h5 : ((fun (v : Value) (_ : World) => v = .slice (some ⟨gf, (q + 1) * 3, none⟩) (n - (q + 1)) (cap - (q + 1)))) (y 5) X := hf.1
                    have h7 : ((fun (v : Value) (_ : World) => v = .int .i64 r)) (y 7) X := hf.2.1
                    clear hf
                    have ex := (Ext.drw (Ext.refl _)).trans ex0
                    refine Box.mk ?_
                    simp only [fill, Act.put, Nat.reduceAdd, List.setIfInBounds_toArray, List.set_cons_zero, List.set_cons_succ, h5, h7] at hK ⊢
                    have hl := HQN.out
                    go_simp
                    exact hK.out _ _ rfl (Ext.refl _) (fun b hb => by cases hb)
                  refine Steps.cons (fun (v : Value) (_ : World) => v = .agg #[.int .i64 w, .int .i64 h, .slice (some ⟨y0.b, 0, none⟩) N N]) [8] rfl (by kernel_rfl) rfl (by kernel_rfl) (fun y X ex0 hf K hK => ?_) ?_
                  · have h8 : ((fun (v : Value) (_ : World) => v = .pointer (some ⟨gf, (q + 1) * 3 + r * 3, none⟩))) (y 8) X := hf.1
                    clear hf
                    have ex := (Ext.drw (Ext.refl _)).trans ex0
                    refine Box.mk ?_
                    simp only [fill, Act.put, Nat.reduceAdd, List.setIfInBounds_toArray, List.set_cons_zero, List.set_cons_succ, h8] at hK ⊢
                    obtain ⟨l0, l1, l2⟩ := HCY.out
                    have k0 := keepAt ex g0 l0
                    have k1 := keepAt ex g0 l1
                    have k2 := keepAt ex g0 l2
                    clear l0 l1 l2
                    go_simp
                    exact hK.out _ _ rfl (Ext.refl _) (fun b hb => by cases hb)
                  refine Steps.cons (fun (v : Value) (_ : World) => v = .bool d) [0, 4, 9] rfl (by kernel_rfl) rfl (by kernel_rfl) (fun y X ex0 hf K hK => ?_) ?_
                  · have h0 : ((fun (v : Value) (_ : World) => v = .func (.func 93) #[] #[])) (y 0) X := hf.1
                    have h4 : ((fun (v : Value) (_ : World) => v = .agg #[.int .i64 w, .int .i64 h, .slice (some ⟨x.b, 0, none⟩) N N])) (y 4) X := hf.2.1
                    have h9 : ((fun (v : Value) (_ : World) => v = .agg #[.int .i64 w, .int .i64 h, .slice (some ⟨y0.b, 0, none⟩) N N])) (y 9) X := hf.2.2.1
                    clear hf
                    have ex := (Ext.drw (Ext.refl _)).trans ex0
                    refine Box.mk ?_
                    simp only [fill, Act.put, Nat.reduceAdd, List.setIfInBounds_toArray, List.set_cons_zero, List.set_cons_succ, h0, h4, h9] at hK ⊢
                    go_simp
                    refine (HSMX.out _ ex).mono ?_
                    rintro e V ⟨rfl, hb⟩
                    try go_wp2_with fail
                    exact hK.out _ _ rfl hb (fun b hb => by cases hb)
                  refine Steps.cons (fun (v : Value) (_ : World) => v = .bool (!d)) [10] rfl (by kernel_rfl) rfl (by kernel_rfl) (fun y X ex0 hf K hK => ?_) ?_
                  · have h10 : ((fun (v : Value) (_ : World) => v = .bool d)) (y 10) X := hf.1
                    clear hf
                    have ex := (Ext.drw (Ext.refl _)).trans ex0
                    refine Box.mk ?_
                    simp only [fill, Act.put, Nat.reduceAdd, List.setIfInBounds_toArray, List.set_cons_zero, List.set_cons_succ, h10] at hK ⊢
                    go_simp
                    exact hK.out _ _ rfl (Ext.refl _) (fun b hb => by cases hb)
                  exact Steps.nil
                case done =>
                  intro y X ex hf hlt hsep
                  have h0 : ((fun (v : Value) (_ : World) => v = .func (.func 93) #[] #[])) (y 0) X := hf.1
                  have h1 : ((fun (v : Value) (_ : World) => v = .slice (some ⟨gf, (q + 1) * 3, none⟩) (n - (q + 1)) (cap - (q + 1)))) (y 1) X := hf.2.1
                  have h2 : ((fun (v : Value) (_ : World) => v = .int .i64 ((r : Int) + 1))) (y 2) X := hf.2.2.1
                  have h3 : ((fun (v : Value) (_ : World) => v = .pointer (some ⟨gf, (q + 1) * 3 + (r + 1) * 3, none⟩))) (y 3) X := hf.2.2.2.1
                  have h4 : ((fun (v : Value) (_ : World) => v = .agg #[.int .i64 w, .int .i64 h, .slice (some ⟨x.b, 0, none⟩) N N])) (y 4) X := hf.2.2.2.2.1
                  have h5 : ((fun (v : Value) (_ : World) => v = .slice (some ⟨gf, (q + 1) * 3, none⟩) (n - (q + 1)) (cap - (q + 1)))) (y 5) X := hf.2.2.2.2.2.1
                  have h6 : ((fun (v : Value) (_ : World) => v = .int .i64 ((r : Int) + 1))) (y 6) X := hf.2.2.2.2.2.2.1
                  have h7 : ((fun (v : Value) (_ : World) => v = .int .i64 r)) (y 7) X := hf.2.2.2.2.2.2.2.1
                  have h8 : ((fun (v : Value) (_ : World) => v = .pointer (some ⟨gf, (q + 1) * 3 + r * 3, none⟩))) (y 8) X := hf.2.2.2.2.2.2.2.2.1
                  have h9 : ((fun (v : Value) (_ : World) => v = .agg #[.int .i64 w, .int .i64 h, .slice (some ⟨y0.b, 0, none⟩) N N])) (y 9) X := hf.2.2.2.2.2.2.2.2.2.1
                  have h10 : ((fun (v : Value) (_ : World) => v = .bool d)) (y 10) X := hf.2.2.2.2.2.2.2.2.2.2.1
                  have h11 : ((fun (v : Value) (_ : World) => v = .bool (!d))) (y 11) X := hf.2.2.2.2.2.2.2.2.2.2.2.1
                  clear hf
                  clear hsep hlt
                  refine Box.mk ?_
                  simp only [List.drop_succ_cons, List.drop_zero, fill, Act.put, Nat.reduceAdd, List.setIfInBounds_toArray, List.set_cons_zero, List.set_cons_succ, h0, h1, h2, h3, h4, h5, h6, h7, h8, h9, h10, h11]
                  clear h0 h1 h2 h3 h4 h5 h6 h7 h8 h9 h10 h11
                  have EX := Lib.hid ex; clear ex
                  have hru := HRU.out.ext EX.out
                  replace HRU := Lib.hid hru; clear hru
                  obtain ⟨nn1, nn2, -⟩ := NN.out
                  have hl := HL.out
                  cases d with
                  | true =>
                    have hb := kpB_f HX.out HY.out (of_decide_eq_true HD.out.symm)
                    have hru := HRU.out.no hb
                    have hk2 : k = (kp ds (q + 1 + r + 1 + 1)).length := by rw [kp_no hb]; exact HK.out
                    have HRU2 := Lib.hid hru; have HK2 := Lib.hid hk2; clear hru hk2 hb HCX HCY HSMX NN nn1 nn2 hl
                    go_wp2_with fail
                    refine NoPanic.normal ?_
                    go_wp2_with fail
                    go_roundw
                    case rel => exact ⟨k, r + 1, rfl, by go_num, by omega, HK2.out, by omega, HRU2.out⟩
                    case measure => simp [intOf]; omega
                  | false =>
                    have hb := kpB_t HX.out HY.out (of_decide_eq_false HD.out.symm)
                    have hru := HRU.out.yes HK.out HX.out hb hkr
                    have hk2 : k + 1 = (kp ds (q + 1 + r + 1 + 1)).length := by rw [kp_yes hb, List.length_append, List.length_singleton]; have := HK.out; omega
                    obtain ⟨rs, hr1, hr2, hr3, hr4, hr5⟩ := id HRU.out
                    have hkn : k < rs.length := by rw [hr1, ← HN.out]; omega
                    obtain ⟨z, hz⟩ : ∃ z, rs[k]? = some z := ⟨_, List.getElem?_eq_getElem hkn⟩
                    obtain ⟨c0, c1, c2⟩ := hr4.2.1 k z hz
                    have f0 := hr4.2.2 (k * 3) (by omega); have f1 := hr4.2.2 (k * 3 + 1) (by omega); have f2 := hr4.2.2 (k * 3 + 2) (by omega)
                    have hcx := hr4.2.1 (q + 1 + r + 1) x (by rw [hr3 _ (by omega)]; exact HX.out)
                    rw [HEA.out] at hcx
                    obtain ⟨l0, l1, l2⟩ := hcx
                    have hkn2 : k < n := by omega
                    have HRU2 := Lib.hid hru; have HK2 := Lib.hid hk2; clear hru hk2 hb HCX HCY HSMX NN hr1 hr2 hr3 hr4 hr5 hz hkn
                    go_wp2_with fail
                    refine NoPanic.normal ?_
                    go_wp2_with fail
                    clear c0 c1 c2 f0 f1 f2 l0 l1 l2
                    go_roundw
                    case rel => exact ⟨k + 1, r + 1, by go_num, by go_num, by omega, HK2.out, by omega, HRU2.out⟩
                    case measure => simp [intOf]; omega
              · have hr2 : q + 1 + r + 1 = n := by omega
                have hlt3 : ¬ (r : Int) + 1 < ((n - (q + 1) : Nat) : Int) := by omega
                obtain ⟨rs, hr1, hr2', hr3, hr4, hr5⟩ := id HRU.out
                have hkn : k < n := by omega
                obtain ⟨vs, hclr⟩ := clear_run (n - k) (cap - k) gf (k * 3) wr (by omega) (fun j hj => by
                  have hi : k + j / 3 < rs.length := by rw [hr1, ← HN.out]; omega
                  obtain ⟨c0, c1, c2⟩ := hr4.2.1 (k + j / 3) _ (List.getElem?_eq_getElem hi)
                  rcases (by omega : j % 3 = 0 ∨ j % 3 = 1 ∨ j % 3 = 2) with e | e | e
                  · rw [show k * 3 + j = (k + j / 3) * 3 by omega, c0]; rfl
                  · rw [show k * 3 + j = (k + j / 3) * 3 + 1 by omega, c1]; rfl
                  · rw [show k * 3 + j = (k + j / 3) * 3 + 2 by omega, c2]; rfl) (fun j hj => hr4.2.2 _ (by rw [hr1, ← HN.out]; omega))
                have hrw := hr4.cut k vs
                have htk : rs.take k = kp ds n := by rw [HK.out, hr2] at *; exact hr2'
                rw [htk] at hrw
                have hkk : (kp ds n).length = k := by rw [HK.out, hr2]
                have hgx : Gx gf W (wr.setCells gf (k * 3) vs) := hr5.trans (Gx.scs _ _ _)
                have HRW2 := Lib.hid hrw; have HKK := Lib.hid hkk; have HGX := Lib.hid hgx
                clear hrw htk hkk hgx hr1 hr2' hr3 hr4 hr5 hr2 HK HRU
                go_wp2
                go_ret
                exact ⟨by rw [HKK.out]; rfl, HRW2.out, HGX.out⟩
      · obtain rfl : q + 1 = n := by omega
        have hlt' : ¬ (q : Int) + 1 < ((q + 1 : Nat) : Int) := by omega
        have hfin := HRW.out.ext HEX.out
        have e1 : ds = kp ds (q + 1) := by rw [HKP.out, List.take_of_length_le (by rw [← HN.out]; exact Nat.le_refl _)]
        have el : (kp ds (q + 1)).length = q + 1 := by rw [← e1]; exact HN.out.symm
        rw [e1] at hfin
        have HF := Lib.hid hfin; have HE := Lib.hid el; clear hfin el e1
        go_wp2
        go_ret
        exact ⟨by rw [HE.out]; rfl, HF.out, Gx.of HEX.out⟩
end Go.Proofs.Ytgjanbgehbpciaa
