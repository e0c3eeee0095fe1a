/- Walks: the reference's Keeps. -/
import Derived.Test.YtgjanbgehbpciaaP1
import Derived.Test.YtgjanbgehbpciaaK3
import Derived.Test.YtgjanbgehbpciaaV17
namespace Go.Proofs.Ytgjanbgehbpciaa
open Go.RowKit

/-- the reference's order of two stamps of one size -/
theorem order_il (w h : Int) (A B : Option Addr) (n c n' c' : Nat) (l k : List Int) (W : World) (hl : Il W (.slice A n c) l) (hk : Il W (.slice B n' c') k) (hnn : n = n') (hn1 : 1 ≤ n) (hn : n ≤ 1000) :
    Calls Try.prog 69 #[.agg #[.int .i64 w, .int .i64 h, .slice A n c], .agg #[.int .i64 w, .int .i64 h, .slice B n' c']] W fun e W' => e = .returned (.int .i64 (cmpL l k)) ∧ Ext W W' := by
  subst hnn
  have e1 := hl.len
  have e2 := hk.len
  obtain ⟨A', c1, h1, -, -, hc1⟩ := hl
  obtain ⟨B', c2, h2, -, -, hc2⟩ := hk
  injection h1 with h1 _ _
  injection h2 with h2 _ _
  subst h1 h2
  obtain ⟨b1, o1, rfl, hb1, hc1⟩ := hc1 (by omega)
  obtain ⟨b2, o2, rfl, hb2, hc2⟩ := hc2 (by omega)
  exact order_c w h b1 o1 c b2 o2 c' n l k W hn e1.symm e2.symm hb1 hb2 (fun j hj => hc1 j (by omega)) (fun j hj => hc2 j (by omega))
/-- the reference's Apply, of a stamp and a move of its size -/
theorem applyR_m (w h : Nat) (m : Mv) (A : Option Addr) (n c : Nat) (l : List Int) (W : World) (hv : vst w h l = true) (hm : has w h m = true) (hl : Il W (.slice A n c) l) (hnN : n = w * h) :
    Calls Try.prog 22 #[.agg #[.int .i64 m.dx, .int .i64 m.dy, .int .i64 m.t, .bool m.f], .agg #[.int .i64 w, .int .i64 h, .slice A n c]] W fun e W' => ∃ A', e = .returned (.agg #[.int .i64 w, .int .i64 h, .slice A' n n]) ∧ Il W' (.slice A' n n) (apl w h m l n) ∧ Ext W W' := by
  have hn := hl.len
  obtain ⟨hs, hlen, -⟩ := vst_len hv
  obtain ⟨A', c', he, h1, h2, h4⟩ := hl
  injection he with e1 e2 e3
  subst e1 e3
  have ha := area_in hs
  rw [okSize_iff] at hs
  rw [has_iff] at hm
  have e : ((w * h : Nat) : Int) = (w : Int) * h := by simp
  obtain ⟨b, off, rfl, hbl, hc⟩ := h4 (by omega)
  obtain ⟨dx, dy, t, f⟩ := m
  simp only at hm ⊢
  obtain ⟨k, rfl⟩ : ∃ k : Nat, t = k := ⟨t.toNat, by omega⟩
  exact applyR_c w h dx dy k f b off c l n W (by omega) (by omega) (by omega) hnN hbl (fun j hj => hc j (by omega))

def KR6 (W6 : World) (w h : Nat) (l : List Int) (g : List Mv) (k : Nat) (v : Value) (wr : World) : Prop := wr.ownsRow W6.heap.size 26 4 v (kf w h l g k).length ((kf w h l g k).flatMap mc) ∧ Ext W6 wr

set_option maxHeartbeats 4000000 in
set_option maxRecDepth 100000 in
theorem keepsR_c (w h : Nat) (G A : Option Addr) (ng cg n c : Nat) (l : List Int) (g : List Mv) (W : World) (hl : Il W (.slice A n c) l) (hv : vst w h l = true) (hN : l.length = w * h) (hs : okSize w h = true) (hg : Ml W (.slice G ng cg) g) (hng : ng ≤ 1000) (hall : ∀ m ∈ g, has w h m = true) :
    Calls Try.prog 41 #[.slice G ng cg, .agg #[.int .i64 w, .int .i64 h, .slice A n c]] W fun e W' => ∃ v, e = .returned v ∧ Ml W' v (g.filter (fun m => kpm w h m l)) ∧ Ext W W' := by
  obtain ⟨i0, hi, hz0, hz1, hz2⟩ := info_parts info26
  have hnl := hl.len
  have hlg := hg.len
  have hn64 : n ≤ 64 := by
    have hs' := okSize_iff.1 hs
    have : w * h ≤ 8 * 8 := Nat.mul_le_mul (by omega) (by omega)
    omega
  have hn1 : 1 ≤ n := by
    have hs' := okSize_iff.1 hs
    have : 1 * 1 ≤ w * h := Nat.mul_le_mul (by omega) (by omega)
    omega
  have hap := fun m X (hX : Ext W X) (hm : m ∈ g) => applyR_m w h m A n c l X hv (hall m hm) (hl.below hX) (by omega)
  have hor := fun X A' c' k (hX : Ext W X) (hk : Il X (.slice A' n c') k) => order_il w h A' A n c' n c k l X hk (hl.below hX) rfl hn1 (by omega)
  have hkp : ∀ m ∈ g, (cmpL (apl w h m l n) l = 0 ↔ kpm w h m l = true) := fun m hm => by
    rw [kpm_iff (N := n) hs (by omega) hnl.symm (hall m hm)]
    exact ⟨cmpL_zero _ _, fun e => by rw [e, cmpL_self]⟩
  have HAP := Lib.hid hap; have HOR := Lib.hid hor; have HKP := Lib.hid hkp; have HLEN := Lib.hid hlg; have HML := Lib.hid hg
  clear hap hor hkp hlg hg hall hs hN hnl hl hv
  go_enter Try.func41, Try.ntmps41
  go_wp2_with fail
  have q1 : Q3 (W.alloc (.cells #[.int .i64 w, .int .i64 h, .slice A n c] 24)) W.heap.size (.int .i64 w) (.int .i64 h) (.slice A n c) := by
    refine ⟨?_, ?_, ?_⟩ <;> (rw [World.cell?_alloc_new]; rfl)
  have bb := al1 W (.cells #[.int .i64 w, .int .i64 h, .slice A n c] 24)
  have zz : (W.alloc (.cells #[.int .i64 w, .int .i64 h, .slice A n c] 24)).heap.size = W.heap.size + 1 := by simp
  generalize (W.alloc (.cells #[.int .i64 w, .int .i64 h, .slice A n c] 24)) = W1 at *
  have zle : W.heap.size < W1.heap.size := by omega
  have BB : Hid (Ext W W1) := Lib.hid bb; have H1 := Lib.hid q1
  clear bb zz q1
  go_loopw [5, 10] (fun v i wr => ∃ k : Nat, i = .int .i64 k ∧ k ≤ ng ∧ KR6 W1 w h l g k v wr) (fun _ i _ => ng - (intOf i).toNat)
  case atStart => exact ⟨0, rfl, by omega, ⟨by simp [kf], .inl ⟨rfl, by simp [kf]⟩⟩, Ext.refl _⟩
  case round =>
    obtain ⟨k, rfl, hk, hkr⟩ := hrel
    have HK := Lib.hid hkr; clear hkr
    by_cases hlt : k < ng
    · obtain ⟨m, hm⟩ : ∃ m, g[k]? = some m := ⟨g[k]'(by rw [← HLEN.out]; exact hlt), List.getElem?_eq_getElem _⟩
      obtain ⟨b1, off1, rfl, hb1, hc1⟩ := HML.out.cm (by omega)
      have hxw := BB.out.trans HK.out.2
      obtain ⟨d0, d1, d2, d3⟩ := (hc1.ext hb1 hxw) k m hm
      clear hc1
      have hmg := List.mem_of_getElem? hm
      have hy := fun hb => kf_yes (w := w) (h := h) (l := l) hm hb
      have hno := fun hb => kf_no (w := w) (h := h) (l := l) hm hb
      have hq7 := q4_new wr (.int .i64 m.dx) (.int .i64 m.dy) (.int .i64 m.t) (.bool m.f) 26
      have hs7 : wr.heap.size < (wr.alloc (.cells #[.int .i64 m.dx, .int .i64 m.dy, .int .i64 m.t, .bool m.f] 26)).heap.size := by simp
      have hx7 : Ext wr (wr.alloc (.cells #[.int .i64 m.dx, .int .i64 m.dy, .int .i64 m.t, .bool m.f] 26)) := (Ext.refl wr).alc _
      have hiff := HKP.out m hmg
      have hapm := fun X hX => HAP.out m X hX hmg
      obtain ⟨d, hd⟩ : ∃ d, d = kpm w h m l := ⟨_, rfl⟩
      rw [← hd] at hy hno hiff
      obtain ⟨ap, hap⟩ : ∃ ap, ap = apl w h m l n := ⟨_, rfl⟩
      simp only [← hap] at hapm hiff
      clear hap hd hmg hm
      go_upto_region 5 with fail
      generalize (wr.alloc (.cells #[.int .i64 m.dx, .int .i64 m.dy, .int .i64 m.t, .bool m.f] 26)) = W7 at *
      have HAPM := Lib.hid hapm; have HY := Lib.hid hy; have HNO := Lib.hid hno; have HQ7 := Lib.hid hq7; have HX7 := Lib.hid hx7; have HXW := Lib.hid (hxw.trans hx7)
      have hzd : (cmpL ap l == 0) = d := by
        rw [Bool.eq_iff_iff, beq_iff_eq, hiff]
      have HZD := Lib.hid hzd
      clear hapm hy hno hq7 hx7 hxw hzd hiff d0 d1 d2 d3
      go_cut [19] (fun s wx => s = .bool d ∧ Ext W7 wx)
      case first =>
        refine wp_region_noPanic ?_
        refine wp_pool 6 [some 14, some 15, some 16, some 17, some 18, some 19] [] [] [(fun (v : Value) (_ : World) => v = .agg #[.int .i64 m.dx, .int .i64 m.dy, .int .i64 m.t, .bool m.f]), (fun (v : Value) (_ : World) => v = .agg #[.int .i64 w, .int .i64 h, .slice A n c]), (fun (v : Value) (X : World) => ∃ A', v = .agg #[.int .i64 w, .int .i64 h, .slice A' n n] ∧ Il X (.slice A' n n) ap), (fun (v : Value) (_ : World) => v = .agg #[.int .i64 w, .int .i64 h, .slice A n c]), (fun (v : Value) (_ : World) => v = .int .i64 (cmpL ap l)), (fun (v : Value) (_ : World) => v = .bool d)] [noF, noF, noF, noF, noF, noF] (by kernel_rfl) (by kernel_rfl) (by kernel_rfl) (by kernel_rfl) (by kernel_rfl) (by kernel_rfl) (by kernel_rfl) (by kernel_rfl) (fun _ _ _ _ h => h) ⟨Stays.pure _, Stays.pure _, (fun _ _ _ e ⟨A', h1, h2⟩ => ⟨A', h1, h2.below e⟩), Stays.pure _, Stays.pure _, Stays.pure _, True.intro⟩ ?steps ?done
        case steps =>
          simp only [List.take_succ_cons, List.take_zero]
          refine Steps.cons (fun (v : Value) (_ : World) => v = .agg #[.int .i64 m.dx, .int .i64 m.dy, .int .i64 m.t, .bool m.f]) [] rfl (by kernel_rfl) rfl (by kernel_rfl) (fun y X ex0 hf K hK => ?_) ?_
          · clear hf
            have ex := (Ext.drw (Ext.refl _)).trans ex0
            refine Box.mk ?_
            simp only [fill, Act.put, Nat.reduceAdd, List.setIfInBounds_toArray, List.set_cons_zero, List.set_cons_succ] at hK ⊢
            obtain ⟨q0, q1, q2, q3⟩ := HQ7.out.ext (by omega) ex
            go_simp
            exact hK.out _ _ rfl (Ext.refl _) (fun b hb => by cases hb)
          refine Steps.cons (fun (v : Value) (_ : World) => v = .agg #[.int .i64 w, .int .i64 h, .slice A n c]) [] rfl (by kernel_rfl) rfl (by kernel_rfl) (fun y X ex0 hf K hK => ?_) ?_
          · clear hf
            have ex := (Ext.drw (Ext.refl _)).trans ex0
            refine Box.mk ?_
            simp only [fill, Act.put, Nat.reduceAdd, List.setIfInBounds_toArray, List.set_cons_zero, List.set_cons_succ] at hK ⊢
            obtain ⟨q0, q1, q2⟩ := H1.out.ext zle (HK.out.2.trans (HX7.out.trans ex))
            go_simp
            exact hK.out _ _ rfl (Ext.refl _) (fun b hb => by cases hb)
          refine Steps.cons (fun (v : Value) (X : World) => ∃ A', v = .agg #[.int .i64 w, .int .i64 h, .slice A' n n] ∧ Il X (.slice A' n n) ap) [0, 1] rfl (by kernel_rfl) rfl (by kernel_rfl) (fun y X ex0 hf K hK => ?_) ?_
          · have h0 : ((fun (v : Value) (_ : World) => v = .agg #[.int .i64 m.dx, .int .i64 m.dy, .int .i64 m.t, .bool m.f])) (y 0) X := hf.1
            have h1 : ((fun (v : Value) (_ : World) => v = .agg #[.int .i64 w, .int .i64 h, .slice A n c])) (y 1) X := hf.2.1
            clear hf
            have ex := (Ext.drw (Ext.refl _)).trans ex0
            refine Box.mk ?_
            simp only [fill, Act.put, Nat.reduceAdd, List.setIfInBounds_toArray, List.set_cons_zero, List.set_cons_succ, h0, h1] at hK ⊢
            go_simp
            refine (HAPM.out _ (HXW.out.trans ex)).mono ?_
            rintro e V ⟨A', rfl, hil, hb⟩
            try go_wp2_with fail
            exact hK.out _ _ ⟨A', rfl, hil⟩ hb (fun b hb => by cases hb)
          refine Steps.cons (fun (v : Value) (_ : World) => v = .agg #[.int .i64 w, .int .i64 h, .slice A n c]) [] rfl (by kernel_rfl) rfl (by kernel_rfl) (fun y X ex0 hf K hK => ?_) ?_
          · clear hf
            have ex := (Ext.drw (Ext.refl _)).trans ex0
            refine Box.mk ?_
            simp only [fill, Act.put, Nat.reduceAdd, List.setIfInBounds_toArray, List.set_cons_zero, List.set_cons_succ] at hK ⊢
            obtain ⟨q0, q1, q2⟩ := H1.out.ext zle (HK.out.2.trans (HX7.out.trans ex))
            go_simp
            exact hK.out _ _ rfl (Ext.refl _) (fun b hb => by cases hb)
          refine Steps.cons (fun (v : Value) (_ : World) => v = .int .i64 (cmpL ap l)) [2, 3] rfl (by kernel_rfl) rfl (by kernel_rfl) (fun y X ex0 hf K hK => ?_) ?_
          · have hh2 : ((fun (v : Value) (X : World) => ∃ A', v = .agg #[.int .i64 w, .int .i64 h, .slice A' n n] ∧ Il X (.slice A' n n) ap)) (y 2) X := hf.1
            refine Exists.elim hh2 (fun A2 hx2_0 => ?_)
            have h2 := hx2_0.1
            have il2 := hx2_0.2
            clear hh2 hx2_0
            have h3 : ((fun (v : Value) (_ : World) => v = .agg #[.int .i64 w, .int .i64 h, .slice A n c])) (y 3) X := hf.2.1
            clear hf
            have ex := (Ext.drw (Ext.refl _)).trans ex0
            refine Box.mk ?_
            simp only [fill, Act.put, Nat.reduceAdd, List.setIfInBounds_toArray, List.set_cons_zero, List.set_cons_succ, h2, h3] at hK ⊢
            go_simp
            refine (HOR.out _ A2 n ap (HXW.out.trans ex) il2).mono ?_
            rintro e V ⟨rfl, hb⟩
            try go_wp2_with fail
            exact hK.out _ _ rfl hb (fun b hb => by cases hb)
          refine Steps.cons (fun (v : Value) (_ : World) => v = .bool d) [4] rfl (by kernel_rfl) rfl (by kernel_rfl) (fun y X ex0 hf K hK => ?_) ?_
          · have h4 : ((fun (v : Value) (_ : World) => v = .int .i64 (cmpL ap l))) (y 4) X := hf.1
            clear hf
            have ex := (Ext.drw (Ext.refl _)).trans ex0
            refine Box.mk ?_
            simp only [fill, Act.put, Nat.reduceAdd, List.setIfInBounds_toArray, List.set_cons_zero, List.set_cons_succ, h4] at hK ⊢
            have hzd := HZD.out
            go_simp
            exact hK.out _ _ rfl (Ext.refl _) (fun b hb => by cases hb)
          exact Steps.nil
        case done =>
          intro y X ex hf hlt hsep
          have h0 : ((fun (v : Value) (_ : World) => v = .agg #[.int .i64 m.dx, .int .i64 m.dy, .int .i64 m.t, .bool m.f])) (y 0) X := hf.1
          have h1 : ((fun (v : Value) (_ : World) => v = .agg #[.int .i64 w, .int .i64 h, .slice A n c])) (y 1) X := hf.2.1
          have hh2 : ((fun (v : Value) (X : World) => ∃ A', v = .agg #[.int .i64 w, .int .i64 h, .slice A' n n] ∧ Il X (.slice A' n n) ap)) (y 2) X := hf.2.2.1
          refine Exists.elim hh2 (fun A2 hx2_0 => ?_)
          have h2 := hx2_0.1
          have il2 := hx2_0.2
          clear hh2 hx2_0
          have h3 : ((fun (v : Value) (_ : World) => v = .agg #[.int .i64 w, .int .i64 h, .slice A n c])) (y 3) X := hf.2.2.2.1
          have h4 : ((fun (v : Value) (_ : World) => v = .int .i64 (cmpL ap l))) (y 4) X := hf.2.2.2.2.1
          have h5 : ((fun (v : Value) (_ : World) => v = .bool d)) (y 5) X := hf.2.2.2.2.2.1
          clear hf
          clear hsep hlt
          refine Box.mk ?_
          simp only [List.drop_succ_cons, List.drop_zero, fill, Act.put, Nat.reduceAdd, List.setIfInBounds_toArray, List.set_cons_zero, List.set_cons_succ, h0, h1, h2, h3, h4, h5]
          clear h0 h1 h2 h3 h4 h5
          have EX := Lib.hid ex; clear ex
          go_wp2_with fail
          refine NoPanic.normal ?_
          go_wp2_with fail
          go_meet
          exact ⟨rfl, EX.out⟩
      case rest =>
        obtain ⟨rfl, ex⟩ := hcut
        have e1 := HX7.out.trans ex
        have hq8 := HQ7.out.ext hs7 ex
        have hs8 : wr.heap.size < wc.heap.size := Nat.lt_of_lt_of_le hs7 ex.size
        have E1 := Lib.hid e1; have HQ8 := Lib.hid hq8
        clear e1 hq8 ex
        cases d with
        | false =>
          have hn := HNO.out rfl
          have HN := Lib.hid hn; clear hn
          go_wp2_with fail
          go_roundw
          case rel => exact ⟨k + 1, by go_num, by omega, by unfold KR6; rw [HN.out]; exact ⟨World.ownsRow.ext HK.out.1 E1.out, HK.out.2.trans E1.out⟩⟩
          case measure => simp [intOf]; omega
        | true =>
          have hn := HY.out rfl
          have HN := Lib.hid hn; clear hn
          obtain ⟨t0, t1, t2, t3⟩ := HQ8.out
          have hown := (World.ownsRow.ext HK.out.1 E1.out).alloc (.cells #[.int .i64 m.dx, .int .i64 m.dy, .int .i64 m.t, .bool m.f] 26)
          have hbase := (HK.out.2.trans E1.out).size
          have hfl := kf_len w h l g k
          go_wp2_with (at_builtin; refine wpList_append_own _ rfl _ _ 50 rfl W1.heap.size 26 i0 (.agg #[.int .i64 0, .int .i64 0, .int .i64 0, .bool false]) 4 32 Try.underlying50 hi hz0 hz1 hz2 rfl (by decide) _ _ _ rfl hown ⟨wc.heap.size, 0, none⟩ 1 1 (mc m) rfl rfl ?c1 ?c2 ?c3 ?c4 ?c5 ?_)
          case c1 =>
            intro j u hj
            match j, hj with
            | 0, hj => simp [mc] at hj; subst hj; simp [Addr.add]
            | 1, hj => simp [mc] at hj; subst hj; simp [Addr.add]
            | 2, hj => simp [mc] at hj; subst hj; simp [Addr.add]
            | 3, hj => simp [mc] at hj; subst hj; simp [Addr.add]
            | j + 4, hj => simp [mc] at hj
          case c2 => intro u hu; simp [mc] at hu; rcases hu with rfl | rfl | rfl | rfl <;> rfl
          case c3 => unfold maxLen; omega
          case c4 => omega
          case c5 => first | omega | (simp; omega) | trace_state
          intro v' w9 hown' hgrow _
          have e9 : Ext W1 w9 := Below.grown ((HK.out.2.trans E1.out).alc (.cells #[.int .i64 m.dx, .int .i64 m.dy, .int .i64 m.t, .bool m.f] 26)) hgrow (by simp; omega) (fun k hk => by have := (hown.lt k hk).1; omega)
          have hfr : Hid (KR6 W1 w h l g (k + 1) v' w9) := Lib.hid (by
            unfold KR6
            rw [HN.out, List.length_append, List.length_singleton, List.flatMap_append]
            exact ⟨by simpa using hown', e9⟩)
          clear e9 hown' hgrow hown t0 t1 t2 t3
          go_wp2_with fail
          go_roundw
          case rel => exact ⟨k + 1, by go_num, by omega, hfr.out⟩
          case measure => simp [intOf]; omega
    · obtain rfl : k = ng := by omega
      have hml := Ml.of_row HK.out.1
      have he : kf w h l g k = g.filter (fun m => kpm w h m l) := by unfold kf; rw [List.take_of_length_le (by rw [← HLEN.out]; exact Nat.le_refl _)]
      have HF := Lib.hid hml; have HE := Lib.hid he; clear hml he
      have EF := Lib.hid (BB.out.trans HK.out.2)
      go_wp2
      go_ret
      exact ⟨_, rfl, by rw [← HE.out]; exact HF.out, EF.out⟩
end Go.Proofs.Ytgjanbgehbpciaa
