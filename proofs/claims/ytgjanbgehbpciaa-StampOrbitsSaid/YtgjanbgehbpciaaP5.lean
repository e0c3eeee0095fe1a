/- Walks: the reference's Orbit. -/
import Derived.Test.YtgjanbgehbpciaaP4
namespace Go.Proofs.Ytgjanbgehbpciaa
open Go.RowKit

theorem rowO_some {w h n base nd : Nat} {ds : List So} {W : World} {A : Option Addr} {cv : Nat} (hr : W.ownsRow base 24 3 (.slice A nd cv) nd (ds.flatMap (encO w h n))) (hnd : nd = ds.length) (hp : 0 < nd) : ∃ gf, A = some ⟨gf, 0, none⟩ := by
  obtain ⟨-, -, h1, h2⟩ := rowO hr hnd
  cases A with
  | none => have := h1 rfl; omega
  | some ad =>
    obtain ⟨b, o, s⟩ := ad
    obtain ⟨rfl, rfl, -⟩ := h2 b o s rfl
    exact ⟨b, rfl⟩
theorem rowO_none {W : World} {B nd cv : Nat} {xs : List Value} (hr : W.ownsRow B 24 3 (.slice none nd cv) nd xs) : nd = 0 ∧ cv = 0 := by
  obtain ⟨-, ⟨e, h0⟩ | ⟨g, cap, cur, e, -⟩⟩ := hr
  · injection e with e1 e2 e3; exact ⟨h0, e3⟩
  · cases e
theorem mk_one {j i : Nat} {mk : List Value} (hi : i < 1 * 3) : i < j * 3 ∨ (i < j * 3 + 3 ∧ mk[i]? = mk[i - j * 3]?) := by
  rcases Nat.eq_zero_or_pos j with h0 | h0
  · subst h0; exact .inr ⟨by omega, by simp⟩
  · exact .inl (by omega)
theorem mk_two {j i : Nat} {xs mk : List Value} (hx : xs.length = j * 3) (hi : i < (j + 1) * 3) : i < j * 3 ∨ (i < j * 3 + 3 ∧ (xs ++ mk)[i]? = mk[i - j * 3]?) := by
  rcases Nat.lt_or_ge i (j * 3) with h0 | h0
  · exact .inl h0
  · exact .inr ⟨by omega, by rw [List.getElem?_append_right (by omega), hx]⟩
theorem addA (b i j : Nat) : (⟨b, i, none⟩ : Addr).add j = ⟨b, i + j, none⟩ := by unfold Addr.add; split <;> simp_all
theorem own_base {W : World} {B B' : Nat} {e : TypeId} {s : Nat} {v : Value} {n : Nat} {xs : List Value} (h : W.ownsRow B e s v n xs) (hb : B' ≤ B) : W.ownsRow B' e s v n xs := by
  obtain ⟨h1, h2 | ⟨g, cap, cur, h3, h4, h5⟩⟩ := h
  · exact ⟨h1, .inl h2⟩
  · exact ⟨h1, .inr ⟨g, cap, cur, h3, Nat.le_trans hb h4, h5⟩⟩
/-- between the moves -/
def OI (W1 : World) (w h n : Nat) (l : List Int) (g : List Mv) (k : Nat) (v : Value) (wr : World) : Prop :=
  ∃ (Av : Option Addr) (nd cv : Nat) (ds : List So), v = .slice Av nd cv ∧ nd = ds.length ∧ nd ≤ k ∧ wr.ownsRow W1.heap.size 24 3 (.slice Av nd cv) nd (ds.flatMap (encO w h n)) ∧ (∀ x ∈ ds, Il wr (.slice x.A n n) x.l) ∧ Orb w h n l (g.take k) (ds.map So.l) ∧ Ext W1 wr

set_option maxHeartbeats 8000000 in
set_option maxRecDepth 100000 in
theorem orbitR_c (w h : Nat) (G A : Option Addr) (ng cg n c : Nat) (l : List Int) (g : List Mv) (W : World) (hl : Il W (.slice A n c) l) (hv : vst w h l = true) (hN : l.length = w * h) (hs : okSize w h = true) (hg : Ml W (.slice G ng cg) g) (hng : ng ≤ 1000) (hall : ∀ m ∈ g, has w h m = true) :
    Calls Try.prog 40 #[.slice G ng cg, .agg #[.int .i64 w, .int .i64 h, .slice A n c]] W fun e W' => ∃ W1 v, e = .returned v ∧ W.heap.size ≤ W1.heap.size ∧ OI W1 w h n l g ng v W' ∧ Ext W W' := by
  obtain ⟨i0, hi, hz0, hz1, hz2⟩ := info_parts infoS24
  have hnl := hl.len
  have hlg := hg.len
  have hn64 : n ≤ 64 := by
    have hs' := okSize_iff.1 hs
    have : w * h ≤ 8 * 8 := Nat.mul_le_mul (by omega) (by omega)
    omega
  have hn1 : 1 ≤ n := by
    have hs' := okSize_iff.1 hs
    have : 1 * 1 ≤ w * h := Nat.mul_le_mul (by omega) (by omega)
    omega
  have hap := fun m X (hX : Ext W X) (hm : m ∈ g) => applyR_m w h m A n c l X hv (hall m hm) (hl.below hX) (by omega)
  have HAP := Lib.hid hap; have HLEN := Lib.hid hlg; have HML := Lib.hid hg
  clear hap hlg hg hall hs hN hnl hl hv
  go_enter Try.func40, Try.ntmps40
  go_wp2_with fail
  have q1 : Q3 (W.alloc (.cells #[.int .i64 w, .int .i64 h, .slice A n c] 24)) W.heap.size (.int .i64 w) (.int .i64 h) (.slice A n c) := by
    refine ⟨?_, ?_, ?_⟩ <;> (rw [World.cell?_alloc_new]; rfl)
  have bb := al1 W (.cells #[.int .i64 w, .int .i64 h, .slice A n c] 24)
  have zz : (W.alloc (.cells #[.int .i64 w, .int .i64 h, .slice A n c] 24)).heap.size = W.heap.size + 1 := by simp
  generalize (W.alloc (.cells #[.int .i64 w, .int .i64 h, .slice A n c] 24)) = W1 at *
  have zle : W.heap.size < W1.heap.size := by omega
  have BB : Hid (Ext W W1) := Lib.hid bb; have H1 := Lib.hid q1
  clear bb zz q1
  go_loopw [5, 12] (fun v i wr => ∃ k : Nat, i = .int .i64 k ∧ k ≤ ng ∧ OI W1 w h n l g k v wr) (fun _ i _ => ng - (intOf i).toNat)
  case atStart => exact ⟨0, rfl, by omega, none, 0, 0, [], rfl, rfl, Nat.le_refl _, ⟨rfl, .inl ⟨rfl, rfl⟩⟩, (fun x hx => by cases hx), ⟨List.Pairwise.nil, fun c => by simp⟩, Ext.refl _⟩
  case round =>
    obtain ⟨k, rfl, hk, hoi⟩ := hrel
    by_cases hlt : k < ng
    · obtain ⟨Av, nd, cv, ds, rfl, hnd, hndk, hown, hil, horb, hx1⟩ := hoi
      obtain ⟨m, hm⟩ : ∃ m, g[k]? = some m := ⟨g[k]'(by rw [← HLEN.out]; exact hlt), List.getElem?_eq_getElem _⟩
      obtain ⟨b1, off1, rfl, hb1, hc1⟩ := HML.out.cm (by omega)
      obtain ⟨d0, d1, d2, d3⟩ := (hc1.ext hb1 (BB.out.trans hx1)) k m hm
      clear hc1
      obtain ⟨z0, z1, z2⟩ := H1.out.ext zle hx1
      obtain ⟨w6, hw6⟩ : ∃ w6 : World, w6 = wr := ⟨_, rfl⟩
      rw [← hw6] at hown hil hx1 d0 d1 d2 d3 z0 z1 z2 ⊢
      clear hw6
      have e7 : Ext w6 (w6.alloc (.cells #[.int .i64 m.dx, .int .i64 m.dy, .int .i64 m.t, .bool m.f] 26)) := (Ext.refl w6).alc _
      have hszz : W.heap.size < w6.heap.size := Nat.lt_of_lt_of_le zle hx1.size
      have hapm := fun X (hX : Ext w6 X) => HAP.out m X (BB.out.trans (hx1.trans hX)) (List.mem_of_getElem? hm)
      obtain ⟨ap, hape⟩ : ∃ ap, ap = apl w h m l n := ⟨_, rfl⟩
      simp only [← hape] at hapm
      have HAPM := Lib.hid hapm; have HM := Lib.hid hm; have HAPE := Lib.hid hape; have HOWN := Lib.hid hown; have HIL := Lib.hid hil; have HORB := Lib.hid horb; have HX1 := Lib.hid hx1; have E7 := Lib.hid e7; have HND := Lib.hid hnd
      clear hapm hm hape hown hil horb hx1 e7 hnd
      go_wp2_with fail
      refine (HAPM.out _ E7.out).mono ?_
      rintro e V ⟨AP, rfl, hilp, hx⟩
      have hxv := E7.out.trans hx
      clear hx d0 d1 d2 d3 z0 z1 z2
      have e8 : Ext V (V.alloc (.cells #[.int .i64 w, .int .i64 h, .slice AP n n] 24)) := (Ext.refl V).alc _
      have q8 : Q3 (V.alloc (.cells #[.int .i64 w, .int .i64 h, .slice AP n n] 24)) V.heap.size (.int .i64 w) (.int .i64 h) (.slice AP n n) := by
        refine ⟨?_, ?_, ?_⟩ <;> (rw [World.cell?_alloc_new]; rfl)
      have s8 : V.heap.size < (V.alloc (.cells #[.int .i64 w, .int .i64 h, .slice AP n n] 24)).heap.size := by simp
      have HILP := Lib.hid (hilp.below e8); have HXV := Lib.hid (hxv.trans e8); have HQ8 := Lib.hid q8; have HE8 := Lib.hid e8
      clear hilp hxv q8 e8
      go_wp2_with fail
      generalize (V.alloc (.cells #[.int .i64 w, .int .i64 h, .slice AP n n] 24)) = W8 at *
      clear HE8 HAPM
      go_loopw [9] (fun i wr => ∃ j : Nat, i = .int .i64 j ∧ j ≤ nd ∧ (∀ x ∈ (ds.map So.l).take j, ltL x ap = true) ∧ Ext W8 wr) (fun i _ => nd - (intOf i).toNat)
      case atStart => exact ⟨0, rfl, by omega, (fun x hx => by cases hx), Ext.refl _⟩
      case round =>
        obtain ⟨j, rfl, hj, hlts, hx8⟩ := hrel
        have HLTS := Lib.hid hlts; clear hlts
        obtain ⟨w9, hw9⟩ : ∃ w9 : World, w9 = wr := ⟨_, rfl⟩
        rw [← hw9] at hx8 ⊢
        clear hw9
        have hown9 := World.ownsRow.ext HOWN.out (HXV.out.trans hx8)
        have hilp9 := HILP.out.below hx8
        have hs9 : V.heap.size < w9.heap.size := Nat.lt_of_lt_of_le s8 hx8.size
        have hq9 := HQ8.out.ext s8 hx8
        have HOWN9 := Lib.hid hown9; have HILP9 := Lib.hid hilp9; have HX9 := Lib.hid hx8; have HQ9 := Lib.hid hq9
        clear hown9 hilp9 hx8 hq9
        by_cases hjn : j < nd
        · obtain ⟨gf, rfl⟩ := rowO_some HOWN9.out HND.out (by omega)
          obtain ⟨x, hxj⟩ : ∃ x, ds[j]? = some x := ⟨ds[j]'(by rw [← HND.out]; exact hjn), List.getElem?_eq_getElem _⟩
          obtain ⟨rc1, rc2, -, rc3⟩ := rowO HOWN9.out HND.out
          obtain ⟨-, -, hgf, hcells, hrd⟩ := rc3 gf 0 none rfl
          have hcx := hrd j x hxj
          have hilx := (HIL.out x (List.mem_of_getElem? hxj)).below (HXV.out.trans HX9.out)
          have HCX := Lib.hid hcx; have HILX := Lib.hid hilx; have HXJ := Lib.hid hxj; have HCELLS := Lib.hid hcells
          clear hcx hilx hxj hcells hrd rc3
          obtain ⟨d, hd⟩ : ∃ d, d = decide (cmpL x.l ap < 0) := ⟨_, rfl⟩
          have HD := Lib.hid hd; clear hd
          go_upto_region 7 with fail
          go_cut [31] (fun s wx => s = .bool d ∧ Ext w9 wx)
          case first =>
            refine wp_region_noPanic ?_
            refine wp_pool 13 [some 19, some 20, some 21, some 22, some 23, some 24, some 25, some 26, some 27, some 28, some 29, some 30, some 31] [] [] [(fun (v : Value) (_ : World) => v = .int .i64 j), (fun (v : Value) (_ : World) => v = .slice (some ⟨gf, 0, none⟩) nd cv), (fun (v : Value) (_ : World) => v = .int .i64 nd), (fun (v : Value) (_ : World) => v = .bool true), (fun (v : Value) (_ : World) => v = .bool true), (fun (v : Value) (_ : World) => v = .slice (some ⟨gf, 0, none⟩) nd cv), (fun (v : Value) (_ : World) => v = .int .i64 j), (fun (v : Value) (_ : World) => v = .pointer (some ⟨gf, j * 3, none⟩)), (fun (v : Value) (_ : World) => v = .agg #[.int .i64 w, .int .i64 h, .slice x.A n n]), (fun (v : Value) (_ : World) => v = .agg #[.int .i64 w, .int .i64 h, .slice AP n n]), (fun (v : Value) (_ : World) => v = .int .i64 (cmpL x.l ap)), (fun (v : Value) (_ : World) => v = .bool d), (fun (v : Value) (_ : World) => v = .bool d)] [noF, noF, noF, noF, noF, noF, noF, noF, noF, noF, noF, noF, noF] (by kernel_rfl) (by kernel_rfl) (by kernel_rfl) (by kernel_rfl) (by kernel_rfl) (by kernel_rfl) (by kernel_rfl) (by kernel_rfl) (fun _ _ _ _ h => h) ⟨Stays.pure _, Stays.pure _, Stays.pure _, Stays.pure _, Stays.pure _, Stays.pure _, Stays.pure _, Stays.pure _, Stays.pure _, Stays.pure _, Stays.pure _, Stays.pure _, Stays.pure _, True.intro⟩ ?steps ?done
            case steps =>
              simp only [List.take_succ_cons, List.take_zero]
              refine Steps.cons (fun (v : Value) (_ : World) => v = .int .i64 j) [] rfl (by kernel_rfl) rfl (by kernel_rfl) (fun y X ex0 hf K hK => ?_) ?_
              · clear hf
                have ex := (Ext.drw (Ext.refl _)).trans ex0
                refine Box.mk ?_
                simp only [fill, Act.put, Nat.reduceAdd, List.setIfInBounds_toArray, List.set_cons_zero, List.set_cons_succ] at hK ⊢
                go_simp
                exact hK.out _ _ rfl (Ext.refl _) (fun b hb => by cases hb)
              refine Steps.cons (fun (v : Value) (_ : World) => v = .slice (some ⟨gf, 0, none⟩) nd cv) [] rfl (by kernel_rfl) rfl (by kernel_rfl) (fun y X ex0 hf K hK => ?_) ?_
              · clear hf
                have ex := (Ext.drw (Ext.refl _)).trans ex0
                refine Box.mk ?_
                simp only [fill, Act.put, Nat.reduceAdd, List.setIfInBounds_toArray, List.set_cons_zero, List.set_cons_succ] at hK ⊢
                go_simp
                exact hK.out _ _ rfl (Ext.refl _) (fun b hb => by cases hb)
              refine Steps.cons (fun (v : Value) (_ : World) => v = .int .i64 nd) [1] rfl (by kernel_rfl) rfl (by kernel_rfl) (fun y X ex0 hf K hK => ?_) ?_
              · have h1 : ((fun (v : Value) (_ : World) => v = .slice (some ⟨gf, 0, none⟩) nd cv)) (y 1) X := hf.1
                clear hf
                have ex := (Ext.drw (Ext.refl _)).trans ex0
                refine Box.mk ?_
                simp only [fill, Act.put, Nat.reduceAdd, List.setIfInBounds_toArray, List.set_cons_zero, List.set_cons_succ, h1] at hK ⊢
                go_simp
                exact hK.out _ _ rfl (Ext.refl _) (fun b hb => by cases hb)
              refine Steps.cons (fun (v : Value) (_ : World) => v = .bool true) [0, 2] rfl (by kernel_rfl) rfl (by kernel_rfl) (fun y X ex0 hf K hK => ?_) ?_
              · have h0 : ((fun (v : Value) (_ : World) => v = .int .i64 j)) (y 0) X := hf.1
                have h2 : ((fun (v : Value) (_ : World) => v = .int .i64 nd)) (y 2) X := hf.2.1
                clear hf
                have ex := (Ext.drw (Ext.refl _)).trans ex0
                refine Box.mk ?_
                simp only [fill, Act.put, Nat.reduceAdd, List.setIfInBounds_toArray, List.set_cons_zero, List.set_cons_succ, h0, h2] at hK ⊢
                go_simp
                exact hK.out _ _ rfl (Ext.refl _) (fun b hb => by cases hb)
              refine Steps.cons (fun (v : Value) (_ : World) => v = .bool true) [3] rfl (by kernel_rfl) rfl (by kernel_rfl) (fun y X ex0 hf K hK => ?_) ?_
              · have h3 : ((fun (v : Value) (_ : World) => v = .bool true)) (y 3) X := hf.1
                clear hf
                have ex := (Ext.drw (Ext.refl _)).trans ex0
                refine Box.mk ?_
                simp only [fill, Act.put, Nat.reduceAdd, List.setIfInBounds_toArray, List.set_cons_zero, List.set_cons_succ, h3] at hK ⊢
                go_simp
                exact hK.out _ _ rfl (Ext.refl _) (fun b hb => by cases hb)
              refine Steps.cons (fun (v : Value) (_ : World) => v = .slice (some ⟨gf, 0, none⟩) nd cv) [4] rfl (by kernel_rfl) rfl (by kernel_rfl) (fun y X ex0 hf K hK => ?_) ?_
              · have h4 : ((fun (v : Value) (_ : World) => v = .bool true)) (y 4) X := hf.1
                clear hf
                have ex := (Ext.drw (Ext.refl _)).trans ex0
                refine Box.mk ?_
                simp only [fill, Act.put, Nat.reduceAdd, List.setIfInBounds_toArray, List.set_cons_zero, List.set_cons_succ, h4] at hK ⊢
                go_simp
                exact hK.out _ _ rfl (Ext.refl _) (fun b hb => by cases hb)
              refine Steps.cons (fun (v : Value) (_ : World) => v = .int .i64 j) [4] rfl (by kernel_rfl) rfl (by kernel_rfl) (fun y X ex0 hf K hK => ?_) ?_
              · have h4 : ((fun (v : Value) (_ : World) => v = .bool true)) (y 4) X := hf.1
                clear hf
                have ex := (Ext.drw (Ext.refl _)).trans ex0
                refine Box.mk ?_
                simp only [fill, Act.put, Nat.reduceAdd, List.setIfInBounds_toArray, List.set_cons_zero, List.set_cons_succ, h4] at hK ⊢
                go_simp
                exact hK.out _ _ rfl (Ext.refl _) (fun b hb => by cases hb)
              refine Steps.cons (fun (v : Value) (_ : World) => v = .pointer (some ⟨gf, j * 3, none⟩)) [5, 6, 4] rfl (by kernel_rfl) rfl (by kernel_rfl) (fun y X ex0 hf K hK => ?_) ?_
              · have h5 : ((fun (v : Value) (_ : World) => v = .slice (some ⟨gf, 0, none⟩) nd cv)) (y 5) X := hf.1
                have h6 : ((fun (v : Value) (_ : World) => v = .int .i64 j)) (y 6) X := hf.2.1
                have h4 : ((fun (v : Value) (_ : World) => v = .bool true)) (y 4) X := hf.2.2.1
                clear hf
                have ex := (Ext.drw (Ext.refl _)).trans ex0
                refine Box.mk ?_
                simp only [fill, Act.put, Nat.reduceAdd, List.setIfInBounds_toArray, List.set_cons_zero, List.set_cons_succ, h5, h6, h4] at hK ⊢
                go_simp
                exact hK.out _ _ rfl (Ext.refl _) (fun b hb => by cases hb)
              refine Steps.cons (fun (v : Value) (_ : World) => v = .agg #[.int .i64 w, .int .i64 h, .slice x.A n n]) [7, 4] rfl (by kernel_rfl) rfl (by kernel_rfl) (fun y X ex0 hf K hK => ?_) ?_
              · have h7 : ((fun (v : Value) (_ : World) => v = .pointer (some ⟨gf, j * 3, none⟩))) (y 7) X := hf.1
                have h4 : ((fun (v : Value) (_ : World) => v = .bool true)) (y 4) X := hf.2.1
                clear hf
                have ex := (Ext.drw (Ext.refl _)).trans ex0
                refine Box.mk ?_
                simp only [fill, Act.put, Nat.reduceAdd, List.setIfInBounds_toArray, List.set_cons_zero, List.set_cons_succ, h7, h4] at hK ⊢
                have p0 := keepAt ex hgf HCX.out.1
                have p1 := keepAt ex hgf HCX.out.2.1
                have p2 := keepAt ex hgf HCX.out.2.2
                go_simp
                exact hK.out _ _ rfl (Ext.refl _) (fun b hb => by cases hb)
              refine Steps.cons (fun (v : Value) (_ : World) => v = .agg #[.int .i64 w, .int .i64 h, .slice AP n n]) [4] rfl (by kernel_rfl) rfl (by kernel_rfl) (fun y X ex0 hf K hK => ?_) ?_
              · have h4 : ((fun (v : Value) (_ : World) => v = .bool true)) (y 4) X := hf.1
                clear hf
                have ex := (Ext.drw (Ext.refl _)).trans ex0
                refine Box.mk ?_
                simp only [fill, Act.put, Nat.reduceAdd, List.setIfInBounds_toArray, List.set_cons_zero, List.set_cons_succ, h4] at hK ⊢
                obtain ⟨p0, p1, p2⟩ := HQ9.out.ext hs9 ex
                go_simp
                exact hK.out _ _ rfl (Ext.refl _) (fun b hb => by cases hb)
              refine Steps.cons (fun (v : Value) (_ : World) => v = .int .i64 (cmpL x.l ap)) [8, 9, 4] rfl (by kernel_rfl) rfl (by kernel_rfl) (fun y X ex0 hf K hK => ?_) ?_
              · have h8 : ((fun (v : Value) (_ : World) => v = .agg #[.int .i64 w, .int .i64 h, .slice x.A n n])) (y 8) X := hf.1
                have h9 : ((fun (v : Value) (_ : World) => v = .agg #[.int .i64 w, .int .i64 h, .slice AP n n])) (y 9) X := hf.2.1
                have h4 : ((fun (v : Value) (_ : World) => v = .bool true)) (y 4) X := hf.2.2.1
                clear hf
                have ex := (Ext.drw (Ext.refl _)).trans ex0
                refine Box.mk ?_
                simp only [fill, Act.put, Nat.reduceAdd, List.setIfInBounds_toArray, List.set_cons_zero, List.set_cons_succ, h8, h9, h4] at hK ⊢
                go_simp
                refine (order_il w h x.A AP n n n n x.l ap _ (HILX.out.below ex) (HILP9.out.below ex) rfl hn1 (by omega)).mono ?_
                rintro e V ⟨rfl, hb⟩
                try go_wp2_with fail
                exact hK.out _ _ rfl hb (fun b hb => by cases hb)
              refine Steps.cons (fun (v : Value) (_ : World) => v = .bool d) [10, 4] rfl (by kernel_rfl) rfl (by kernel_rfl) (fun y X ex0 hf K hK => ?_) ?_
              · have h10 : ((fun (v : Value) (_ : World) => v = .int .i64 (cmpL x.l ap))) (y 10) X := hf.1
                have h4 : ((fun (v : Value) (_ : World) => v = .bool true)) (y 4) X := hf.2.1
                clear hf
                have ex := (Ext.drw (Ext.refl _)).trans ex0
                refine Box.mk ?_
                simp only [fill, Act.put, Nat.reduceAdd, List.setIfInBounds_toArray, List.set_cons_zero, List.set_cons_succ, h10, h4] at hK ⊢
                go_simp
                exact hK.out _ _ (congrArg Value.bool HD.out.symm) (Ext.refl _) (fun b hb => by cases hb)
              refine Steps.cons (fun (v : Value) (_ : World) => v = .bool d) [4, 11] rfl (by kernel_rfl) rfl (by kernel_rfl) (fun y X ex0 hf K hK => ?_) ?_
              · have h4 : ((fun (v : Value) (_ : World) => v = .bool true)) (y 4) X := hf.1
                have h11 : ((fun (v : Value) (_ : World) => v = .bool d)) (y 11) X := hf.2.1
                clear hf
                have ex := (Ext.drw (Ext.refl _)).trans ex0
                refine Box.mk ?_
                simp only [fill, Act.put, Nat.reduceAdd, List.setIfInBounds_toArray, List.set_cons_zero, List.set_cons_succ, h4, h11] at hK ⊢
                go_simp
                exact hK.out _ _ rfl (Ext.refl _) (fun b hb => by cases hb)
              exact Steps.nil
            case done =>
              intro y X ex hf hlt hsep
              have h0 : ((fun (v : Value) (_ : World) => v = .int .i64 j)) (y 0) X := hf.1
              have h1 : ((fun (v : Value) (_ : World) => v = .slice (some ⟨gf, 0, none⟩) nd cv)) (y 1) X := hf.2.1
              have h2 : ((fun (v : Value) (_ : World) => v = .int .i64 nd)) (y 2) X := hf.2.2.1
              have h3 : ((fun (v : Value) (_ : World) => v = .bool true)) (y 3) X := hf.2.2.2.1
              have h4 : ((fun (v : Value) (_ : World) => v = .bool true)) (y 4) X := hf.2.2.2.2.1
              have h5 : ((fun (v : Value) (_ : World) => v = .slice (some ⟨gf, 0, none⟩) nd cv)) (y 5) X := hf.2.2.2.2.2.1
              have h6 : ((fun (v : Value) (_ : World) => v = .int .i64 j)) (y 6) X := hf.2.2.2.2.2.2.1
              have h7 : ((fun (v : Value) (_ : World) => v = .pointer (some ⟨gf, j * 3, none⟩))) (y 7) X := hf.2.2.2.2.2.2.2.1
              have h8 : ((fun (v : Value) (_ : World) => v = .agg #[.int .i64 w, .int .i64 h, .slice x.A n n])) (y 8) X := hf.2.2.2.2.2.2.2.2.1
              have h9 : ((fun (v : Value) (_ : World) => v = .agg #[.int .i64 w, .int .i64 h, .slice AP n n])) (y 9) X := hf.2.2.2.2.2.2.2.2.2.1
              have h10 : ((fun (v : Value) (_ : World) => v = .int .i64 (cmpL x.l ap))) (y 10) X := hf.2.2.2.2.2.2.2.2.2.2.1
              have h11 : ((fun (v : Value) (_ : World) => v = .bool d)) (y 11) X := hf.2.2.2.2.2.2.2.2.2.2.2.1
              have h12 : ((fun (v : Value) (_ : World) => v = .bool d)) (y 12) X := hf.2.2.2.2.2.2.2.2.2.2.2.2.1
              clear hf
              clear hsep hlt
              refine Box.mk ?_
              simp only [List.drop_succ_cons, List.drop_zero, fill, Act.put, Nat.reduceAdd, List.setIfInBounds_toArray, List.set_cons_zero, List.set_cons_succ, h0, h1, h2, h3, h4, h5, h6, h7, h8, h9, h10, h11, h12]
              clear h0 h1 h2 h3 h4 h5 h6 h7 h8 h9 h10 h11 h12
              have EX := Lib.hid ex; clear ex
              go_wp2_with fail
              refine NoPanic.normal ?_
              go_wp2_with fail
              go_meet
              exact ⟨rfl, EX.out⟩
          case rest =>
            obtain ⟨rfl, hx10⟩ := hcut
            have HX10 := Lib.hid hx10; clear hx10
            cases d with
            | true =>
              have hlt1 : ltL x.l ap = true := by unfold ltL; exact HD.out.symm
              have hl1 : ∀ y ∈ (ds.map So.l).take (j + 1), ltL y ap = true := fun y hy => by
                rw [List.take_add_one, List.getElem?_map, HXJ.out] at hy
                rcases List.mem_append.1 hy with hy | hy
                · exact HLTS.out y hy
                · have : y = x.l := by simpa using hy
                  rw [this]; exact hlt1
              have HL1 := Lib.hid hl1; clear hl1 hlt1
              go_wp2_with fail
              go_roundw
              case rel => exact ⟨j + 1, by go_num, by omega, HL1.out, HX9.out.trans HX10.out⟩
              case measure => simp [intOf]; omega
            | false =>
              obtain ⟨d2, hd2⟩ : ∃ d2, d2 = decide (0 < cmpL x.l ap) := ⟨_, rfl⟩
              have HD2 := Lib.hid hd2; clear hd2
              have hne : ((j : Int) == (nd : Int)) = false := by simp; omega
              go_upto_region 9 with fail
              go_cut [46] (fun s wx => s = .bool d2 ∧ Ext wc wx)
              case first =>
                refine wp_region_noPanic ?_
                refine wp_pool 13 [some 34, some 35, some 36, some 37, some 38, some 39, some 40, some 41, some 42, some 43, some 44, some 45, some 46] [] [] [(fun (v : Value) (_ : World) => v = .int .i64 j), (fun (v : Value) (_ : World) => v = .slice (some ⟨gf, 0, none⟩) nd cv), (fun (v : Value) (_ : World) => v = .int .i64 nd), (fun (v : Value) (_ : World) => v = .bool false), (fun (v : Value) (_ : World) => v = .bool false), (fun (v : Value) (_ : World) => v = .slice (some ⟨gf, 0, none⟩) nd cv), (fun (v : Value) (_ : World) => v = .int .i64 j), (fun (v : Value) (_ : World) => v = .pointer (some ⟨gf, j * 3, none⟩)), (fun (v : Value) (_ : World) => v = .agg #[.int .i64 w, .int .i64 h, .slice x.A n n]), (fun (v : Value) (_ : World) => v = .agg #[.int .i64 w, .int .i64 h, .slice AP n n]), (fun (v : Value) (_ : World) => v = .int .i64 (cmpL x.l ap)), (fun (v : Value) (_ : World) => v = .bool d2), (fun (v : Value) (_ : World) => v = .bool d2)] [noF, noF, noF, noF, noF, noF, noF, noF, noF, noF, noF, noF, noF] (by kernel_rfl) (by kernel_rfl) (by kernel_rfl) (by kernel_rfl) (by kernel_rfl) (by kernel_rfl) (by kernel_rfl) (by kernel_rfl) (fun _ _ _ _ h => h) ⟨Stays.pure _, Stays.pure _, Stays.pure _, Stays.pure _, Stays.pure _, Stays.pure _, Stays.pure _, Stays.pure _, Stays.pure _, Stays.pure _, Stays.pure _, Stays.pure _, Stays.pure _, True.intro⟩ ?steps ?done
                case steps =>
                  simp only [List.take_succ_cons, List.take_zero]
                  refine Steps.cons (fun (v : Value) (_ : World) => v = .int .i64 j) [] rfl (by kernel_rfl) rfl (by kernel_rfl) (fun y X ex0 hf K hK => ?_) ?_
                  · clear hf
                    have ex := (Ext.drw (Ext.refl _)).trans ex0
                    refine Box.mk ?_
                    simp only [fill, Act.put, Nat.reduceAdd, List.setIfInBounds_toArray, List.set_cons_zero, List.set_cons_succ] at hK ⊢
                    go_simp
                    exact hK.out _ _ rfl (Ext.refl _) (fun b hb => by cases hb)
                  refine Steps.cons (fun (v : Value) (_ : World) => v = .slice (some ⟨gf, 0, none⟩) nd cv) [] rfl (by kernel_rfl) rfl (by kernel_rfl) (fun y X ex0 hf K hK => ?_) ?_
                  · clear hf
                    have ex := (Ext.drw (Ext.refl _)).trans ex0
                    refine Box.mk ?_
                    simp only [fill, Act.put, Nat.reduceAdd, List.setIfInBounds_toArray, List.set_cons_zero, List.set_cons_succ] at hK ⊢
                    go_simp
                    exact hK.out _ _ rfl (Ext.refl _) (fun b hb => by cases hb)
                  refine Steps.cons (fun (v : Value) (_ : World) => v = .int .i64 nd) [1] rfl (by kernel_rfl) rfl (by kernel_rfl) (fun y X ex0 hf K hK => ?_) ?_
                  · have h1 : ((fun (v : Value) (_ : World) => v = .slice (some ⟨gf, 0, none⟩) nd cv)) (y 1) X := hf.1
                    clear hf
                    have ex := (Ext.drw (Ext.refl _)).trans ex0
                    refine Box.mk ?_
                    simp only [fill, Act.put, Nat.reduceAdd, List.setIfInBounds_toArray, List.set_cons_zero, List.set_cons_succ, h1] at hK ⊢
                    go_simp
                    exact hK.out _ _ rfl (Ext.refl _) (fun b hb => by cases hb)
                  refine Steps.cons (fun (v : Value) (_ : World) => v = .bool false) [0, 2] rfl (by kernel_rfl) rfl (by kernel_rfl) (fun y X ex0 hf K hK => ?_) ?_
                  · have h0 : ((fun (v : Value) (_ : World) => v = .int .i64 j)) (y 0) X := hf.1
                    have h2 : ((fun (v : Value) (_ : World) => v = .int .i64 nd)) (y 2) X := hf.2.1
                    clear hf
                    have ex := (Ext.drw (Ext.refl _)).trans ex0
                    refine Box.mk ?_
                    simp only [fill, Act.put, Nat.reduceAdd, List.setIfInBounds_toArray, List.set_cons_zero, List.set_cons_succ, h0, h2] at hK ⊢
                    have hne2 := hne
                    go_simp
                    exact hK.out _ _ rfl (Ext.refl _) (fun b hb => by cases hb)
                  refine Steps.cons (fun (v : Value) (_ : World) => v = .bool false) [3] rfl (by kernel_rfl) rfl (by kernel_rfl) (fun y X ex0 hf K hK => ?_) ?_
                  · have h3 : ((fun (v : Value) (_ : World) => v = .bool false)) (y 3) X := hf.1
                    clear hf
                    have ex := (Ext.drw (Ext.refl _)).trans ex0
                    refine Box.mk ?_
                    simp only [fill, Act.put, Nat.reduceAdd, List.setIfInBounds_toArray, List.set_cons_zero, List.set_cons_succ, h3] at hK ⊢
                    go_simp
                    exact hK.out _ _ rfl (Ext.refl _) (fun b hb => by cases hb)
                  refine Steps.cons (fun (v : Value) (_ : World) => v = .slice (some ⟨gf, 0, none⟩) nd cv) [4] rfl (by kernel_rfl) rfl (by kernel_rfl) (fun y X ex0 hf K hK => ?_) ?_
                  · have h4 : ((fun (v : Value) (_ : World) => v = .bool false)) (y 4) X := hf.1
                    clear hf
                    have ex := (Ext.drw (Ext.refl _)).trans ex0
                    refine Box.mk ?_
                    simp only [fill, Act.put, Nat.reduceAdd, List.setIfInBounds_toArray, List.set_cons_zero, List.set_cons_succ, h4] at hK ⊢
                    go_simp
                    exact hK.out _ _ rfl (Ext.refl _) (fun b hb => by cases hb)
                  refine Steps.cons (fun (v : Value) (_ : World) => v = .int .i64 j) [4] rfl (by kernel_rfl) rfl (by kernel_rfl) (fun y X ex0 hf K hK => ?_) ?_
                  · have h4 : ((fun (v : Value) (_ : World) => v = .bool false)) (y 4) X := hf.1
                    clear hf
                    have ex := (Ext.drw (Ext.refl _)).trans ex0
                    refine Box.mk ?_
                    simp only [fill, Act.put, Nat.reduceAdd, List.setIfInBounds_toArray, List.set_cons_zero, List.set_cons_succ, h4] at hK ⊢
                    go_simp
                    exact hK.out _ _ rfl (Ext.refl _) (fun b hb => by cases hb)
                  refine Steps.cons (fun (v : Value) (_ : World) => v = .pointer (some ⟨gf, j * 3, none⟩)) [5, 6, 4] rfl (by kernel_rfl) rfl (by kernel_rfl) (fun y X ex0 hf K hK => ?_) ?_
                  · have h5 : ((fun (v : Value) (_ : World) => v = .slice (some ⟨gf, 0, none⟩) nd cv)) (y 5) X := hf.1
                    have h6 : ((fun (v : Value) (_ : World) => v = .int .i64 j)) (y 6) X := hf.2.1
                    have h4 : ((fun (v : Value) (_ : World) => v = .bool false)) (y 4) X := hf.2.2.1
                    clear hf
                    have ex := (Ext.drw (Ext.refl _)).trans ex0
                    refine Box.mk ?_
                    simp only [fill, Act.put, Nat.reduceAdd, List.setIfInBounds_toArray, List.set_cons_zero, List.set_cons_succ, h5, h6, h4] at hK ⊢
                    go_simp
                    exact hK.out _ _ rfl (Ext.refl _) (fun b hb => by cases hb)
                  refine Steps.cons (fun (v : Value) (_ : World) => v = .agg #[.int .i64 w, .int .i64 h, .slice x.A n n]) [7, 4] rfl (by kernel_rfl) rfl (by kernel_rfl) (fun y X ex0 hf K hK => ?_) ?_
                  · have h7 : ((fun (v : Value) (_ : World) => v = .pointer (some ⟨gf, j * 3, none⟩))) (y 7) X := hf.1
                    have h4 : ((fun (v : Value) (_ : World) => v = .bool false)) (y 4) X := hf.2.1
                    clear hf
                    have ex := (Ext.drw (Ext.refl _)).trans ex0
                    refine Box.mk ?_
                    simp only [fill, Act.put, Nat.reduceAdd, List.setIfInBounds_toArray, List.set_cons_zero, List.set_cons_succ, h7, h4] at hK ⊢
                    have p0 := keepAt (HX10.out.trans ex) hgf HCX.out.1
                    have p1 := keepAt (HX10.out.trans ex) hgf HCX.out.2.1
                    have p2 := keepAt (HX10.out.trans ex) hgf HCX.out.2.2
                    go_simp
                    exact hK.out _ _ rfl (Ext.refl _) (fun b hb => by cases hb)
                  refine Steps.cons (fun (v : Value) (_ : World) => v = .agg #[.int .i64 w, .int .i64 h, .slice AP n n]) [4] rfl (by kernel_rfl) rfl (by kernel_rfl) (fun y X ex0 hf K hK => ?_) ?_
                  · have h4 : ((fun (v : Value) (_ : World) => v = .bool false)) (y 4) X := hf.1
                    clear hf
                    have ex := (Ext.drw (Ext.refl _)).trans ex0
                    refine Box.mk ?_
                    simp only [fill, Act.put, Nat.reduceAdd, List.setIfInBounds_toArray, List.set_cons_zero, List.set_cons_succ, h4] at hK ⊢
                    obtain ⟨p0, p1, p2⟩ := HQ9.out.ext hs9 (HX10.out.trans ex)
                    go_simp
                    exact hK.out _ _ rfl (Ext.refl _) (fun b hb => by cases hb)
                  refine Steps.cons (fun (v : Value) (_ : World) => v = .int .i64 (cmpL x.l ap)) [8, 9, 4] rfl (by kernel_rfl) rfl (by kernel_rfl) (fun y X ex0 hf K hK => ?_) ?_
                  · have h8 : ((fun (v : Value) (_ : World) => v = .agg #[.int .i64 w, .int .i64 h, .slice x.A n n])) (y 8) X := hf.1
                    have h9 : ((fun (v : Value) (_ : World) => v = .agg #[.int .i64 w, .int .i64 h, .slice AP n n])) (y 9) X := hf.2.1
                    have h4 : ((fun (v : Value) (_ : World) => v = .bool false)) (y 4) X := hf.2.2.1
                    clear hf
                    have ex := (Ext.drw (Ext.refl _)).trans ex0
                    refine Box.mk ?_
                    simp only [fill, Act.put, Nat.reduceAdd, List.setIfInBounds_toArray, List.set_cons_zero, List.set_cons_succ, h8, h9, h4] at hK ⊢
                    go_simp
                    refine (order_il w h x.A AP n n n n x.l ap _ (HILX.out.below (HX10.out.trans ex)) (HILP9.out.below (HX10.out.trans ex)) rfl hn1 (by omega)).mono ?_
                    rintro e V ⟨rfl, hb⟩
                    try go_wp2_with fail
                    exact hK.out _ _ rfl hb (fun b hb => by cases hb)
                  refine Steps.cons (fun (v : Value) (_ : World) => v = .bool d2) [10, 4] rfl (by kernel_rfl) rfl (by kernel_rfl) (fun y X ex0 hf K hK => ?_) ?_
                  · have h10 : ((fun (v : Value) (_ : World) => v = .int .i64 (cmpL x.l ap))) (y 10) X := hf.1
                    have h4 : ((fun (v : Value) (_ : World) => v = .bool false)) (y 4) X := hf.2.1
                    clear hf
                    have ex := (Ext.drw (Ext.refl _)).trans ex0
                    refine Box.mk ?_
                    simp only [fill, Act.put, Nat.reduceAdd, List.setIfInBounds_toArray, List.set_cons_zero, List.set_cons_succ, h10, h4] at hK ⊢
                    go_simp
                    exact hK.out _ _ (congrArg Value.bool HD2.out.symm) (Ext.refl _) (fun b hb => by cases hb)
                  refine Steps.cons (fun (v : Value) (_ : World) => v = .bool d2) [4, 11] rfl (by kernel_rfl) rfl (by kernel_rfl) (fun y X ex0 hf K hK => ?_) ?_
                  · have h4 : ((fun (v : Value) (_ : World) => v = .bool false)) (y 4) X := hf.1
                    have h11 : ((fun (v : Value) (_ : World) => v = .bool d2)) (y 11) X := hf.2.1
                    clear hf
                    have ex := (Ext.drw (Ext.refl _)).trans ex0
                    refine Box.mk ?_
                    simp only [fill, Act.put, Nat.reduceAdd, List.setIfInBounds_toArray, List.set_cons_zero, List.set_cons_succ, h4, h11] at hK ⊢
                    go_simp
                    exact hK.out _ _ rfl (Ext.refl _) (fun b hb => by cases hb)
                  exact Steps.nil
                case done =>
                  intro y X ex hf hlt hsep
                  have h0 : ((fun (v : Value) (_ : World) => v = .int .i64 j)) (y 0) X := hf.1
                  have h1 : ((fun (v : Value) (_ : World) => v = .slice (some ⟨gf, 0, none⟩) nd cv)) (y 1) X := hf.2.1
                  have h2 : ((fun (v : Value) (_ : World) => v = .int .i64 nd)) (y 2) X := hf.2.2.1
                  have h3 : ((fun (v : Value) (_ : World) => v = .bool false)) (y 3) X := hf.2.2.2.1
                  have h4 : ((fun (v : Value) (_ : World) => v = .bool false)) (y 4) X := hf.2.2.2.2.1
                  have h5 : ((fun (v : Value) (_ : World) => v = .slice (some ⟨gf, 0, none⟩) nd cv)) (y 5) X := hf.2.2.2.2.2.1
                  have h6 : ((fun (v : Value) (_ : World) => v = .int .i64 j)) (y 6) X := hf.2.2.2.2.2.2.1
                  have h7 : ((fun (v : Value) (_ : World) => v = .pointer (some ⟨gf, j * 3, none⟩))) (y 7) X := hf.2.2.2.2.2.2.2.1
                  have h8 : ((fun (v : Value) (_ : World) => v = .agg #[.int .i64 w, .int .i64 h, .slice x.A n n])) (y 8) X := hf.2.2.2.2.2.2.2.2.1
                  have h9 : ((fun (v : Value) (_ : World) => v = .agg #[.int .i64 w, .int .i64 h, .slice AP n n])) (y 9) X := hf.2.2.2.2.2.2.2.2.2.1
                  have h10 : ((fun (v : Value) (_ : World) => v = .int .i64 (cmpL x.l ap))) (y 10) X := hf.2.2.2.2.2.2.2.2.2.2.1
                  have h11 : ((fun (v : Value) (_ : World) => v = .bool d2)) (y 11) X := hf.2.2.2.2.2.2.2.2.2.2.2.1
                  have h12 : ((fun (v : Value) (_ : World) => v = .bool d2)) (y 12) X := hf.2.2.2.2.2.2.2.2.2.2.2.2.1
                  clear hf
                  clear hsep hlt
                  refine Box.mk ?_
                  simp only [List.drop_succ_cons, List.drop_zero, fill, Act.put, Nat.reduceAdd, List.setIfInBounds_toArray, List.set_cons_zero, List.set_cons_succ, h0, h1, h2, h3, h4, h5, h6, h7, h8, h9, h10, h11, h12]
                  clear h0 h1 h2 h3 h4 h5 h6 h7 h8 h9 h10 h11 h12
                  have EX := Lib.hid ex; clear ex
                  go_wp2_with fail
                  refine NoPanic.normal ?_
                  go_wp2_with fail
                  go_meet
                  exact ⟨rfl, EX.out⟩
              case rest =>
                obtain ⟨rfl, hx11⟩ := hcut
                have HX11 := Lib.hid (HX10.out.trans hx11); clear hx11 hne
                have hnl : ¬ cmpL x.l ap < 0 := of_decide_eq_false HD.out.symm
                cases d2 with
                | false =>
                  have hng : ¬ 0 < cmpL x.l ap := of_decide_eq_false HD2.out.symm
                  have hxa : x.l = ap := cmpL_zero _ _ (by omega)
                  have horb2 := Orb.same HORB.out HM.out HAPE.out (by rw [← hxa]; exact List.mem_map_of_mem (List.mem_of_getElem? HXJ.out))
                  have hOI : OI W1 w h n l g (k + 1) (.slice (some ⟨gf, 0, none⟩) nd cv) wc := ⟨_, nd, cv, ds, rfl, HND.out, by omega, World.ownsRow.ext HOWN9.out HX11.out, (fun x2 hx2 => (HIL.out x2 hx2).below (HXV.out.trans (HX9.out.trans HX11.out))), horb2, HX1.out.trans (HXV.out.trans (HX9.out.trans HX11.out))⟩
                  have HOI := Lib.hid hOI; clear hOI horb2 hxa hng hnl
                  go_wp2_with fail
                  go_roundw
                  case rel => exact ⟨k + 1, by go_num, by omega, HOI.out⟩
                  case measure => simp [intOf]; omega
                | true =>
                  have hgt : ∀ y, (ds.map So.l)[j]? = some y → ltL ap y = true := fun y hy => by
                    rw [List.getElem?_map, HXJ.out] at hy
                    have e : x.l = y := by simpa using hy
                    have hp : 0 < cmpL x.l ap := of_decide_eq_true HD2.out.symm
                    unfold ltL; rw [← e, cmpL_neg]; exact decide_eq_true (by omega)
                  have HGT := Lib.hid hgt; clear hgt hnl
                  have hcc := fun i u hu => keepAt HX11.out hgf (HCELLS.out i u hu)
                  have HCELLS2 := Lib.hid hcc; clear hcc
                  have hgf2 : gf < wc.heap.size := Nat.lt_of_lt_of_le hgf HX11.out.size
                  have hb0 : W1.heap.size ≤ wc.heap.size := (HX1.out.trans (HXV.out.trans (HX9.out.trans HX11.out))).size
                  have hjc : j ≤ cv := by omega
                  have hcj : ¬ cv = j := by omega
                  have hxl : ((ds.take j).flatMap (encO w h n)).length = j * 3 := by rw [encO_len, List.length_take, ← HND.out]; omega
                  have hrl : ((ds.drop j).flatMap (encO w h n)).length = (nd - j) * 3 := by rw [encO_len, List.length_drop, ← HND.out] <;> omega
                  have hsp : ((ds.take j).flatMap (encO w h n)) ++ ((ds.drop j).flatMap (encO w h n)) = (ds.flatMap (encO w h n)) := encO_split _
                  have HXL := Lib.hid hxl; have HRL := Lib.hid hrl; have HSP := Lib.hid hsp; clear hxl hrl hsp
                  go_upto_region 10 with fail
                  refine wp_region_noPanic ?_
                  refine PE.wp_pool (E := Ea wc.heap.size j (encO w h n ⟨AP, ap⟩)) Ea.grow 11 [some 47, some 48, some 49, some 50, some 51, some 52, some 53, some 54, some 55, some 56, some 57] [] [] [(fun (v : Value) (X : World) => ∃ g', v = .slice (some ⟨g', 0, none⟩) 0 0 ∧ X.ownsRow wc.heap.size 24 3 (.slice (some ⟨g', 0, none⟩) 0 0) 0 []), (fun (v : Value) (_ : World) => v = .slice (some ⟨gf, 0, none⟩) nd cv), (fun (v : Value) (_ : World) => v = .int .i64 j), (fun (v : Value) (_ : World) => v = .slice (some ⟨gf, 0, none⟩) j cv), (fun (v : Value) (X : World) => ∃ A' c', v = .slice A' j c' ∧ X.ownsRow wc.heap.size 24 3 (.slice A' j c') j ((ds.take j).flatMap (encO w h n))), (fun (v : Value) (_ : World) => v = .agg #[.int .i64 w, .int .i64 h, .slice AP n n]), (fun (v : Value) (X : World) => ∃ g', v = .slice (some ⟨g', 0, none⟩) 1 1 ∧ X.ownsRow wc.heap.size 24 3 (.slice (some ⟨g', 0, none⟩) 1 1) 1 (encO w h n ⟨AP, ap⟩)), (fun (v : Value) (X : World) => ∃ A' c', v = .slice A' (j + 1) c' ∧ X.ownsRow wc.heap.size 24 3 (.slice A' (j + 1) c') (j + 1) (((ds.take j).flatMap (encO w h n)) ++ (encO w h n ⟨AP, ap⟩))), (fun (v : Value) (_ : World) => v = .slice (some ⟨gf, 0, none⟩) nd cv), (fun (v : Value) (_ : World) => v = .int .i64 j), (fun (v : Value) (_ : World) => v = .slice (some ⟨gf, j * 3, none⟩) (nd - j) (cv - j))] [noF, noF, noF, noF, noF, noF, noF, noF, noF, noF, noF] (by kernel_rfl) (by kernel_rfl) (by kernel_rfl) (by kernel_rfl) (by kernel_rfl) (by kernel_rfl) (by kernel_rfl) (by kernel_rfl) (fun _ _ _ _ h => h) ⟨(fun _ _ _ e ⟨g', h1, h2⟩ => ⟨g', h1, e.row h2 (fun i hi => absurd hi (by omega))⟩), PE.Stays.pure _, PE.Stays.pure _, PE.Stays.pure _, (fun _ _ _ e ⟨A', c', h1, h2⟩ => ⟨A', c', h1, e.row h2 (fun i hi => .inl hi)⟩), PE.Stays.pure _, (fun _ _ _ e ⟨g', h1, h2⟩ => ⟨g', h1, e.row h2 (fun i hi => mk_one hi)⟩), (fun _ _ _ e ⟨A', c', h1, h2⟩ => ⟨A', c', h1, e.row h2 (fun i hi => mk_two HXL.out hi)⟩), PE.Stays.pure _, PE.Stays.pure _, PE.Stays.pure _, True.intro⟩ ?steps ?done
                  case steps =>
                    simp only [List.take_succ_cons, List.take_zero]
                    refine PE.Steps.cons (fun (v : Value) (X : World) => ∃ g', v = .slice (some ⟨g', 0, none⟩) 0 0 ∧ X.ownsRow wc.heap.size 24 3 (.slice (some ⟨g', 0, none⟩) 0 0) 0 []) [] rfl (by kernel_rfl) rfl (by kernel_rfl) (fun y X ex0 hf K hK => ?_) ?_
                    · clear hf
                      have ex := Ea.trans (Ea.drw _) ex0
                      refine Box.mk ?_
                      simp only [fill, Act.put, Nat.reduceAdd, List.setIfInBounds_toArray, List.set_cons_zero, List.set_cons_succ] at hK ⊢
                      have hB : wc.heap.size ≤ X.heap.size := ex.size
                      go_simp
                      exact hK.out _ _ ⟨X.heap.size, rfl, ⟨rfl, .inr ⟨X.heap.size, 0, #[], rfl, hB, heap_alloc_new X _, Nat.le_refl _, by decide, rfl, rfl⟩⟩⟩ (Ea.of hB (Ext.alc (Ext.refl X) (.cells #[] 24))) (fun b hb => by cases hb)
                    refine PE.Steps.cons (fun (v : Value) (_ : World) => v = .slice (some ⟨gf, 0, none⟩) nd cv) [] rfl (by kernel_rfl) rfl (by kernel_rfl) (fun y X ex0 hf K hK => ?_) ?_
                    · clear hf
                      have ex := Ea.trans (Ea.drw _) ex0
                      refine Box.mk ?_
                      simp only [fill, Act.put, Nat.reduceAdd, List.setIfInBounds_toArray, List.set_cons_zero, List.set_cons_succ] at hK ⊢
                      go_simp
                      exact hK.out _ _ rfl (Ea.refl _) (fun b hb => by cases hb)
                    refine PE.Steps.cons (fun (v : Value) (_ : World) => v = .int .i64 j) [] rfl (by kernel_rfl) rfl (by kernel_rfl) (fun y X ex0 hf K hK => ?_) ?_
                    · clear hf
                      have ex := Ea.trans (Ea.drw _) ex0
                      refine Box.mk ?_
                      simp only [fill, Act.put, Nat.reduceAdd, List.setIfInBounds_toArray, List.set_cons_zero, List.set_cons_succ] at hK ⊢
                      go_simp
                      exact hK.out _ _ rfl (Ea.refl _) (fun b hb => by cases hb)
                    refine PE.Steps.cons (fun (v : Value) (_ : World) => v = .slice (some ⟨gf, 0, none⟩) j cv) [1, 2] rfl (by kernel_rfl) rfl (by kernel_rfl) (fun y X ex0 hf K hK => ?_) ?_
                    · have h1 : ((fun (v : Value) (_ : World) => v = .slice (some ⟨gf, 0, none⟩) nd cv)) (y 1) X := hf.1
                      have h2 : ((fun (v : Value) (_ : World) => v = .int .i64 j)) (y 2) X := hf.2.1
                      clear hf
                      have ex := Ea.trans (Ea.drw _) ex0
                      refine Box.mk ?_
                      simp only [fill, Act.put, Nat.reduceAdd, List.setIfInBounds_toArray, List.set_cons_zero, List.set_cons_succ, h1, h2] at hK ⊢
                      go_simp
                      exact hK.out _ _ rfl (Ea.refl _) (fun b hb => by cases hb)
                    refine PE.Steps.cons (fun (v : Value) (X : World) => ∃ A' c', v = .slice A' j c' ∧ X.ownsRow wc.heap.size 24 3 (.slice A' j c') j ((ds.take j).flatMap (encO w h n))) [0, 3] rfl (by kernel_rfl) rfl (by kernel_rfl) (fun y X ex0 hf K hK => ?_) ?_
                    · have hh0 : ((fun (v : Value) (X : World) => ∃ g', v = .slice (some ⟨g', 0, none⟩) 0 0 ∧ X.ownsRow wc.heap.size 24 3 (.slice (some ⟨g', 0, none⟩) 0 0) 0 [])) (y 0) X := hf.1
                      refine Exists.elim hh0 (fun g0 hx0_0 => ?_)
                      have h0 := hx0_0.1
                      have o0 := hx0_0.2
                      clear hh0 hx0_0
                      have h3 : ((fun (v : Value) (_ : World) => v = .slice (some ⟨gf, 0, none⟩) j cv)) (y 3) X := hf.2.1
                      clear hf
                      have ex := Ea.trans (Ea.drw _) ex0
                      refine Box.mk ?_
                      simp only [fill, Act.put, Nat.reduceAdd, List.setIfInBounds_toArray, List.set_cons_zero, List.set_cons_succ, h0, h3] at hK ⊢
                      have hB : wc.heap.size ≤ X.heap.size := ex.size
                      rw [if_pos (by rfl)]
                      refine wp_append_st (.tmp 47) (.tmp 50) rfl wc.heap.size (.slice (some ⟨g0, 0, none⟩) 0 0) 0 [] rfl o0 (some ⟨gf, 0, none⟩) j cv ((ds.take j).flatMap (encO w h n)) rfl HXL.out ?_ ?_ (encO_one w h n _) (by omega) hB ?_
                      · exact fun ad had i u hu => by injection had with had; subst had; rw [addA, Nat.zero_add]; exact keepAt ex.1 hgf2 (HCELLS2.out i u (by rw [← HSP.out, List.getElem?_append_left (List.getElem?_eq_some_iff.1 hu).1]; exact hu))
                      · exact fun e => by cases e
                      · intro A' c' w' ho hg hk hz
                        simp only [Nat.zero_add, List.nil_append] at ho ⊢
                        exact hK.out _ _ ⟨A', c', rfl, ho⟩ (Ea.app hB o0 hg hk (.inr fun g cap e => by injection e with _ _ e; exact e.symm)) (fun b hb => by cases hb)
                    refine PE.Steps.cons (fun (v : Value) (_ : World) => v = .agg #[.int .i64 w, .int .i64 h, .slice AP n n]) [] rfl (by kernel_rfl) rfl (by kernel_rfl) (fun y X ex0 hf K hK => ?_) ?_
                    · clear hf
                      have ex := Ea.trans (Ea.drw _) ex0
                      refine Box.mk ?_
                      simp only [fill, Act.put, Nat.reduceAdd, List.setIfInBounds_toArray, List.set_cons_zero, List.set_cons_succ] at hK ⊢
                      obtain ⟨p0, p1, p2⟩ := HQ9.out.ext hs9 (HX11.out.trans ex.1)
                      go_simp
                      exact hK.out _ _ rfl (Ea.refl _) (fun b hb => by cases hb)
                    refine PE.Steps.cons (fun (v : Value) (X : World) => ∃ g', v = .slice (some ⟨g', 0, none⟩) 1 1 ∧ X.ownsRow wc.heap.size 24 3 (.slice (some ⟨g', 0, none⟩) 1 1) 1 (encO w h n ⟨AP, ap⟩)) [5] rfl (by kernel_rfl) rfl (by kernel_rfl) (fun y X ex0 hf K hK => ?_) ?_
                    · have h5 : ((fun (v : Value) (_ : World) => v = .agg #[.int .i64 w, .int .i64 h, .slice AP n n])) (y 5) X := hf.1
                      clear hf
                      have ex := Ea.trans (Ea.drw _) ex0
                      refine Box.mk ?_
                      simp only [fill, Act.put, Nat.reduceAdd, List.setIfInBounds_toArray, List.set_cons_zero, List.set_cons_succ, h5] at hK ⊢
                      have hB : wc.heap.size ≤ X.heap.size := ex.size
                      go_simp
                      exact hK.out _ _ ⟨X.heap.size, rfl, ⟨rfl, .inr ⟨X.heap.size, 1, _, rfl, hB, heap_alloc_new X _, Nat.le_refl _, by decide, rfl, rfl⟩⟩⟩ (Ea.of hB (Ext.alc (Ext.refl X) _)) (fun b hb => by cases hb)
                    refine PE.Steps.cons (fun (v : Value) (X : World) => ∃ A' c', v = .slice A' (j + 1) c' ∧ X.ownsRow wc.heap.size 24 3 (.slice A' (j + 1) c') (j + 1) (((ds.take j).flatMap (encO w h n)) ++ (encO w h n ⟨AP, ap⟩))) [4, 6] rfl (by kernel_rfl) rfl (by kernel_rfl) (fun y X ex0 hf K hK => ?_) ?_
                    · have hh4 : ((fun (v : Value) (X : World) => ∃ A' c', v = .slice A' j c' ∧ X.ownsRow wc.heap.size 24 3 (.slice A' j c') j ((ds.take j).flatMap (encO w h n)))) (y 4) X := hf.1
                      refine Exists.elim hh4 (fun A4 hx4_0 => ?_)
                      refine Exists.elim hx4_0 (fun c4 hx4_1 => ?_)
                      have h4 := hx4_1.1
                      have o4 := hx4_1.2
                      clear hh4 hx4_0 hx4_1
                      have hh6 : ((fun (v : Value) (X : World) => ∃ g', v = .slice (some ⟨g', 0, none⟩) 1 1 ∧ X.ownsRow wc.heap.size 24 3 (.slice (some ⟨g', 0, none⟩) 1 1) 1 (encO w h n ⟨AP, ap⟩))) (y 6) X := hf.2.1
                      refine Exists.elim hh6 (fun g6 hx6_0 => ?_)
                      have h6 := hx6_0.1
                      have o6 := hx6_0.2
                      clear hh6 hx6_0
                      clear hf
                      have ex := Ea.trans (Ea.drw _) ex0
                      refine Box.mk ?_
                      simp only [fill, Act.put, Nat.reduceAdd, List.setIfInBounds_toArray, List.set_cons_zero, List.set_cons_succ, h4, h6] at hK ⊢
                      have hB : wc.heap.size ≤ X.heap.size := ex.size
                      rw [if_pos (by rfl)]
                      refine wp_append_st (.tmp 51) (.tmp 53) rfl wc.heap.size (.slice A4 j c4) j ((ds.take j).flatMap (encO w h n)) rfl o4 (some ⟨g6, 0, none⟩) 1 1 (encO w h n ⟨AP, ap⟩) rfl rfl ?_ (fun e => by cases e) ?_ (by omega) hB ?_
                      · exact fun ad had i u hu => by
                          injection had with had; subst had
                          exact o6.cells (g := g6) rfl i u hu
                      · intro u hu; simp [encO] at hu; rcases hu with rfl | rfl | rfl <;> rfl
                      · intro A' c' w' ho hg hk hz
                        exact hK.out _ _ ⟨A', c', rfl, ho⟩ (Ea.app hB o4 hg hk (.inl ⟨rfl, rfl⟩)) (fun b hb => by cases hb)
                    refine PE.Steps.cons (fun (v : Value) (_ : World) => v = .slice (some ⟨gf, 0, none⟩) nd cv) [] rfl (by kernel_rfl) rfl (by kernel_rfl) (fun y X ex0 hf K hK => ?_) ?_
                    · clear hf
                      have ex := Ea.trans (Ea.drw _) ex0
                      refine Box.mk ?_
                      simp only [fill, Act.put, Nat.reduceAdd, List.setIfInBounds_toArray, List.set_cons_zero, List.set_cons_succ] at hK ⊢
                      go_simp
                      exact hK.out _ _ rfl (Ea.refl _) (fun b hb => by cases hb)
                    refine PE.Steps.cons (fun (v : Value) (_ : World) => v = .int .i64 j) [] rfl (by kernel_rfl) rfl (by kernel_rfl) (fun y X ex0 hf K hK => ?_) ?_
                    · clear hf
                      have ex := Ea.trans (Ea.drw _) ex0
                      refine Box.mk ?_
                      simp only [fill, Act.put, Nat.reduceAdd, List.setIfInBounds_toArray, List.set_cons_zero, List.set_cons_succ] at hK ⊢
                      go_simp
                      exact hK.out _ _ rfl (Ea.refl _) (fun b hb => by cases hb)
                    refine PE.Steps.cons (fun (v : Value) (_ : World) => v = .slice (some ⟨gf, j * 3, none⟩) (nd - j) (cv - j)) [8, 9] rfl (by kernel_rfl) rfl (by kernel_rfl) (fun y X ex0 hf K hK => ?_) ?_
                    · have h8 : ((fun (v : Value) (_ : World) => v = .slice (some ⟨gf, 0, none⟩) nd cv)) (y 8) X := hf.1
                      have h9 : ((fun (v : Value) (_ : World) => v = .int .i64 j)) (y 9) X := hf.2.1
                      clear hf
                      have ex := Ea.trans (Ea.drw _) ex0
                      refine Box.mk ?_
                      simp only [fill, Act.put, Nat.reduceAdd, List.setIfInBounds_toArray, List.set_cons_zero, List.set_cons_succ, h8, h9] at hK ⊢
                      go_simp
                      exact hK.out _ _ rfl (Ea.refl _) (fun b hb => by cases hb)
                    exact PE.Steps.nil
                  case done =>
                    intro y X ex hf hlt hsep
                    have hh0 : ((fun (v : Value) (X : World) => ∃ g', v = .slice (some ⟨g', 0, none⟩) 0 0 ∧ X.ownsRow wc.heap.size 24 3 (.slice (some ⟨g', 0, none⟩) 0 0) 0 [])) (y 0) X := hf.1
                    refine Exists.elim hh0 (fun g0 hx0_0 => ?_)
                    have h0 := hx0_0.1
                    have o0 := hx0_0.2
                    clear hh0 hx0_0
                    have h1 : ((fun (v : Value) (_ : World) => v = .slice (some ⟨gf, 0, none⟩) nd cv)) (y 1) X := hf.2.1
                    have h2 : ((fun (v : Value) (_ : World) => v = .int .i64 j)) (y 2) X := hf.2.2.1
                    have h3 : ((fun (v : Value) (_ : World) => v = .slice (some ⟨gf, 0, none⟩) j cv)) (y 3) X := hf.2.2.2.1
                    have hh4 : ((fun (v : Value) (X : World) => ∃ A' c', v = .slice A' j c' ∧ X.ownsRow wc.heap.size 24 3 (.slice A' j c') j ((ds.take j).flatMap (encO w h n)))) (y 4) X := hf.2.2.2.2.1
                    refine Exists.elim hh4 (fun A4 hx4_0 => ?_)
                    refine Exists.elim hx4_0 (fun c4 hx4_1 => ?_)
                    have h4 := hx4_1.1
                    have o4 := hx4_1.2
                    clear hh4 hx4_0 hx4_1
                    have h5 : ((fun (v : Value) (_ : World) => v = .agg #[.int .i64 w, .int .i64 h, .slice AP n n])) (y 5) X := hf.2.2.2.2.2.1
                    have hh6 : ((fun (v : Value) (X : World) => ∃ g', v = .slice (some ⟨g', 0, none⟩) 1 1 ∧ X.ownsRow wc.heap.size 24 3 (.slice (some ⟨g', 0, none⟩) 1 1) 1 (encO w h n ⟨AP, ap⟩))) (y 6) X := hf.2.2.2.2.2.2.1
                    refine Exists.elim hh6 (fun g6 hx6_0 => ?_)
                    have h6 := hx6_0.1
                    have o6 := hx6_0.2
                    clear hh6 hx6_0
                    have hh7 : ((fun (v : Value) (X : World) => ∃ A' c', v = .slice A' (j + 1) c' ∧ X.ownsRow wc.heap.size 24 3 (.slice A' (j + 1) c') (j + 1) (((ds.take j).flatMap (encO w h n)) ++ (encO w h n ⟨AP, ap⟩)))) (y 7) X := hf.2.2.2.2.2.2.2.1
                    refine Exists.elim hh7 (fun A7 hx7_0 => ?_)
                    refine Exists.elim hx7_0 (fun c7 hx7_1 => ?_)
                    have h7 := hx7_1.1
                    have o7 := hx7_1.2
                    clear hh7 hx7_0 hx7_1
                    have h8 : ((fun (v : Value) (_ : World) => v = .slice (some ⟨gf, 0, none⟩) nd cv)) (y 8) X := hf.2.2.2.2.2.2.2.2.1
                    have h9 : ((fun (v : Value) (_ : World) => v = .int .i64 j)) (y 9) X := hf.2.2.2.2.2.2.2.2.2.1
                    have h10 : ((fun (v : Value) (_ : World) => v = .slice (some ⟨gf, j * 3, none⟩) (nd - j) (cv - j))) (y 10) X := hf.2.2.2.2.2.2.2.2.2.2.1
                    clear hf
                    clear hsep hlt
                    refine Box.mk ?_
                    simp only [List.drop_succ_cons, List.drop_zero, fill, Act.put, Nat.reduceAdd, List.setIfInBounds_toArray, List.set_cons_zero, List.set_cons_succ, h0, h1, h2, h3, h4, h5, h6, h7, h8, h9, h10]
                    clear h0 h1 h2 h3 h4 h5 h6 h7 h8 h9 h10
                    have hB : wc.heap.size ≤ X.heap.size := ex.size
                    have EX := Lib.hid ex
                    refine wpList_plain rfl fun K hK => ?_
                    refine wp_append_st (.tmp 54) (.tmp 57) rfl wc.heap.size (.slice A7 (j + 1) c7) (j + 1) (((ds.take j).flatMap (encO w h n)) ++ (encO w h n ⟨AP, ap⟩)) rfl o7 (some ⟨gf, j * 3, none⟩) (nd - j) (cv - j) ((ds.drop j).flatMap (encO w h n)) rfl HRL.out ?_ ?_ (encO_one w h n _) (by omega) hB ?_
                    · exact fun ad had i u hu => by injection had with had; subst had; rw [addA]; exact keepAt ex.1 hgf2 (HCELLS2.out (j * 3 + i) u (by rw [← HSP.out, List.getElem?_append_right (by rw [HXL.out]; omega), HXL.out, Nat.add_sub_cancel_left]; exact hu))
                    · exact fun e => by cases e
                    intro A' c' w' ho hg hk hz
                    have hxf : Ext wc w' := Below.grown ex.1 hg hB (fun k hk => (o7.lt k hk).1)
                    have hlen : j + 1 + (nd - j) = nd + 1 := by omega
                    rw [hlen] at ho ⊢
                    refine hK _ _ ?_
                    have ho2 := own_base ho (by omega : W1.heap.size ≤ wc.heap.size)
                    have hOI : OI W1 w h n l g (k + 1) (.slice A' (nd + 1) c') w' := by
                      refine ⟨A', nd + 1, c', ds.take j ++ [⟨AP, ap⟩] ++ ds.drop j, rfl, ?_, by omega, ?_, ?_, ?_, ?_⟩
                      · rw [List.length_append, List.length_append, List.length_take, List.length_drop, ← HND.out]; simp <;> omega
                      · rw [List.flatMap_append, List.flatMap_append]; simpa using ho2
                      · intro x2 hx2
                        have hxx : Ext W8 w' := HX9.out.trans (HX11.out.trans hxf)
                        rw [List.append_assoc] at hx2
                        rcases List.mem_append.1 hx2 with hx2 | hx2
                        · exact (HIL.out x2 (List.mem_of_mem_take hx2)).below (HXV.out.trans hxx)
                        · rcases List.mem_append.1 hx2 with hx2 | hx2
                          · rw [List.mem_singleton] at hx2; subst hx2; exact HILP.out.below hxx
                          · exact (HIL.out x2 (List.mem_of_mem_drop hx2)).below (HXV.out.trans hxx)
                      · rw [List.map_append, List.map_append, List.map_take, List.map_drop]
                        exact Orb.ins HORB.out HM.out HAPE.out HLTS.out HGT.out
                      · exact HX1.out.trans (HXV.out.trans (HX9.out.trans (HX11.out.trans hxf)))
                    have HOI := Lib.hid hOI; clear hOI ho ho2 hg hk hz hxf ex EX o0 o4 o6 o7
                    go_wp2_with fail
                    refine NoPanic.normal ?_
                    go_wp2_with fail
                    go_roundw
                    case rel => exact ⟨k + 1, by go_num, by omega, HOI.out⟩
                    case measure => simp [intOf]; omega
        · have hje : nd = j := by omega
          subst hje
          have hgt : ∀ y, (ds.map So.l)[nd]? = some y → ltL ap y = true := fun y hy => by
            have h9 := (List.getElem?_eq_some_iff.1 hy).1
            rw [List.length_map, ← HND.out] at h9
            omega
          have HGT := Lib.hid hgt; clear hgt
          have heq9 : ((nd : Int) == (nd : Int)) = true := by simp
          have hlt9 : decide ((nd : Int) < (nd : Int)) = false := decide_eq_false (by omega)
          go_upto_region 7 with fail
          go_cut [31] (fun s wx => s = .bool false ∧ Ext w9 wx)
          case first =>
            refine wp_region_noPanic ?_
            refine wp_pool 13 [some 19, some 20, some 21, some 22, some 23, some 24, some 25, some 26, some 27, some 28, some 29, some 30, some 31] [] [] [(fun (v : Value) (_ : World) => v = .int .i64 nd), (fun (v : Value) (_ : World) => v = .slice Av nd cv), (fun (v : Value) (_ : World) => v = .int .i64 nd), (fun (v : Value) (_ : World) => v = .bool false), (fun (v : Value) (_ : World) => v = .bool false), (fun (v : Value) (_ : World) => v = undef), (fun (v : Value) (_ : World) => v = undef), (fun (v : Value) (_ : World) => v = undef), (fun (v : Value) (_ : World) => v = undef), (fun (v : Value) (_ : World) => v = undef), (fun (v : Value) (_ : World) => v = undef), (fun (v : Value) (_ : World) => v = undef), (fun (v : Value) (_ : World) => v = .bool false)] [noF, noF, noF, noF, noF, noF, noF, noF, noF, noF, noF, noF, noF] (by kernel_rfl) (by kernel_rfl) (by kernel_rfl) (by kernel_rfl) (by kernel_rfl) (by kernel_rfl) (by kernel_rfl) (by kernel_rfl) (fun _ _ _ _ h => h) ⟨Stays.pure _, Stays.pure _, Stays.pure _, Stays.pure _, Stays.pure _, Stays.pure _, Stays.pure _, Stays.pure _, Stays.pure _, Stays.pure _, Stays.pure _, Stays.pure _, Stays.pure _, True.intro⟩ ?steps ?done
            case steps =>
              simp only [List.take_succ_cons, List.take_zero]
              refine Steps.cons (fun (v : Value) (_ : World) => v = .int .i64 nd) [] rfl (by kernel_rfl) rfl (by kernel_rfl) (fun y X ex0 hf K hK => ?_) ?_
              · clear hf
                have ex := (Ext.drw (Ext.refl _)).trans ex0
                refine Box.mk ?_
                simp only [fill, Act.put, Nat.reduceAdd, List.setIfInBounds_toArray, List.set_cons_zero, List.set_cons_succ] at hK ⊢
                go_simp
                exact hK.out _ _ rfl (Ext.refl _) (fun b hb => by cases hb)
              refine Steps.cons (fun (v : Value) (_ : World) => v = .slice Av nd cv) [] rfl (by kernel_rfl) rfl (by kernel_rfl) (fun y X ex0 hf K hK => ?_) ?_
              · clear hf
                have ex := (Ext.drw (Ext.refl _)).trans ex0
                refine Box.mk ?_
                simp only [fill, Act.put, Nat.reduceAdd, List.setIfInBounds_toArray, List.set_cons_zero, List.set_cons_succ] at hK ⊢
                go_simp
                exact hK.out _ _ rfl (Ext.refl _) (fun b hb => by cases hb)
              refine Steps.cons (fun (v : Value) (_ : World) => v = .int .i64 nd) [1] rfl (by kernel_rfl) rfl (by kernel_rfl) (fun y X ex0 hf K hK => ?_) ?_
              · have h1 : ((fun (v : Value) (_ : World) => v = .slice Av nd cv)) (y 1) X := hf.1
                clear hf
                have ex := (Ext.drw (Ext.refl _)).trans ex0
                refine Box.mk ?_
                simp only [fill, Act.put, Nat.reduceAdd, List.setIfInBounds_toArray, List.set_cons_zero, List.set_cons_succ, h1] at hK ⊢
                go_simp
                exact hK.out _ _ rfl (Ext.refl _) (fun b hb => by cases hb)
              refine Steps.cons (fun (v : Value) (_ : World) => v = .bool false) [0, 2] rfl (by kernel_rfl) rfl (by kernel_rfl) (fun y X ex0 hf K hK => ?_) ?_
              · have h0 : ((fun (v : Value) (_ : World) => v = .int .i64 nd)) (y 0) X := hf.1
                have h2 : ((fun (v : Value) (_ : World) => v = .int .i64 nd)) (y 2) X := hf.2.1
                clear hf
                have ex := (Ext.drw (Ext.refl _)).trans ex0
                refine Box.mk ?_
                simp only [fill, Act.put, Nat.reduceAdd, List.setIfInBounds_toArray, List.set_cons_zero, List.set_cons_succ, h0, h2] at hK ⊢
                go_simp
                exact hK.out _ _ rfl (Ext.refl _) (fun b hb => by cases hb)
              refine Steps.cons (fun (v : Value) (_ : World) => v = .bool false) [3] rfl (by kernel_rfl) rfl (by kernel_rfl) (fun y X ex0 hf K hK => ?_) ?_
              · have h3 : ((fun (v : Value) (_ : World) => v = .bool false)) (y 3) X := hf.1
                clear hf
                have ex := (Ext.drw (Ext.refl _)).trans ex0
                refine Box.mk ?_
                simp only [fill, Act.put, Nat.reduceAdd, List.setIfInBounds_toArray, List.set_cons_zero, List.set_cons_succ, h3] at hK ⊢
                go_simp
                exact hK.out _ _ rfl (Ext.refl _) (fun b hb => by cases hb)
              refine Steps.cons (fun (v : Value) (_ : World) => v = undef) [4] rfl (by kernel_rfl) rfl (by kernel_rfl) (fun y X ex0 hf K hK => ?_) ?_
              · have h4 : ((fun (v : Value) (_ : World) => v = .bool false)) (y 4) X := hf.1
                clear hf
                have ex := (Ext.drw (Ext.refl _)).trans ex0
                refine Box.mk ?_
                simp only [fill, Act.put, Nat.reduceAdd, List.setIfInBounds_toArray, List.set_cons_zero, List.set_cons_succ, h4] at hK ⊢
                go_simp
                exact hK.out _ _ rfl (Ext.refl _) (fun b hb => by cases hb)
              refine Steps.cons (fun (v : Value) (_ : World) => v = undef) [4] rfl (by kernel_rfl) rfl (by kernel_rfl) (fun y X ex0 hf K hK => ?_) ?_
              · have h4 : ((fun (v : Value) (_ : World) => v = .bool false)) (y 4) X := hf.1
                clear hf
                have ex := (Ext.drw (Ext.refl _)).trans ex0
                refine Box.mk ?_
                simp only [fill, Act.put, Nat.reduceAdd, List.setIfInBounds_toArray, List.set_cons_zero, List.set_cons_succ, h4] at hK ⊢
                go_simp
                exact hK.out _ _ rfl (Ext.refl _) (fun b hb => by cases hb)
              refine Steps.cons (fun (v : Value) (_ : World) => v = undef) [5, 6, 4] rfl (by kernel_rfl) rfl (by kernel_rfl) (fun y X ex0 hf K hK => ?_) ?_
              · have h5 : ((fun (v : Value) (_ : World) => v = undef)) (y 5) X := hf.1
                have h6 : ((fun (v : Value) (_ : World) => v = undef)) (y 6) X := hf.2.1
                have h4 : ((fun (v : Value) (_ : World) => v = .bool false)) (y 4) X := hf.2.2.1
                clear hf
                have ex := (Ext.drw (Ext.refl _)).trans ex0
                refine Box.mk ?_
                simp only [fill, Act.put, Nat.reduceAdd, List.setIfInBounds_toArray, List.set_cons_zero, List.set_cons_succ, h5, h6, h4] at hK ⊢
                go_simp
                exact hK.out _ _ rfl (Ext.refl _) (fun b hb => by cases hb)
              refine Steps.cons (fun (v : Value) (_ : World) => v = undef) [7, 4] rfl (by kernel_rfl) rfl (by kernel_rfl) (fun y X ex0 hf K hK => ?_) ?_
              · have h7 : ((fun (v : Value) (_ : World) => v = undef)) (y 7) X := hf.1
                have h4 : ((fun (v : Value) (_ : World) => v = .bool false)) (y 4) X := hf.2.1
                clear hf
                have ex := (Ext.drw (Ext.refl _)).trans ex0
                refine Box.mk ?_
                simp only [fill, Act.put, Nat.reduceAdd, List.setIfInBounds_toArray, List.set_cons_zero, List.set_cons_succ, h7, h4] at hK ⊢
                go_simp
                exact hK.out _ _ rfl (Ext.refl _) (fun b hb => by cases hb)
              refine Steps.cons (fun (v : Value) (_ : World) => v = undef) [4] rfl (by kernel_rfl) rfl (by kernel_rfl) (fun y X ex0 hf K hK => ?_) ?_
              · have h4 : ((fun (v : Value) (_ : World) => v = .bool false)) (y 4) X := hf.1
                clear hf
                have ex := (Ext.drw (Ext.refl _)).trans ex0
                refine Box.mk ?_
                simp only [fill, Act.put, Nat.reduceAdd, List.setIfInBounds_toArray, List.set_cons_zero, List.set_cons_succ, h4] at hK ⊢
                go_simp
                exact hK.out _ _ rfl (Ext.refl _) (fun b hb => by cases hb)
              refine Steps.cons (fun (v : Value) (_ : World) => v = undef) [8, 9, 4] rfl (by kernel_rfl) rfl (by kernel_rfl) (fun y X ex0 hf K hK => ?_) ?_
              · have h8 : ((fun (v : Value) (_ : World) => v = undef)) (y 8) X := hf.1
                have h9 : ((fun (v : Value) (_ : World) => v = undef)) (y 9) X := hf.2.1
                have h4 : ((fun (v : Value) (_ : World) => v = .bool false)) (y 4) X := hf.2.2.1
                clear hf
                have ex := (Ext.drw (Ext.refl _)).trans ex0
                refine Box.mk ?_
                simp only [fill, Act.put, Nat.reduceAdd, List.setIfInBounds_toArray, List.set_cons_zero, List.set_cons_succ, h8, h9, h4] at hK ⊢
                go_simp
                exact hK.out _ _ rfl (Ext.refl _) (fun b hb => by cases hb)
              refine Steps.cons (fun (v : Value) (_ : World) => v = undef) [10, 4] rfl (by kernel_rfl) rfl (by kernel_rfl) (fun y X ex0 hf K hK => ?_) ?_
              · have h10 : ((fun (v : Value) (_ : World) => v = undef)) (y 10) X := hf.1
                have h4 : ((fun (v : Value) (_ : World) => v = .bool false)) (y 4) X := hf.2.1
                clear hf
                have ex := (Ext.drw (Ext.refl _)).trans ex0
                refine Box.mk ?_
                simp only [fill, Act.put, Nat.reduceAdd, List.setIfInBounds_toArray, List.set_cons_zero, List.set_cons_succ, h10, h4] at hK ⊢
                go_simp
                exact hK.out _ _ rfl (Ext.refl _) (fun b hb => by cases hb)
              refine Steps.cons (fun (v : Value) (_ : World) => v = .bool false) [4, 11] rfl (by kernel_rfl) rfl (by kernel_rfl) (fun y X ex0 hf K hK => ?_) ?_
              · have h4 : ((fun (v : Value) (_ : World) => v = .bool false)) (y 4) X := hf.1
                have h11 : ((fun (v : Value) (_ : World) => v = undef)) (y 11) X := hf.2.1
                clear hf
                have ex := (Ext.drw (Ext.refl _)).trans ex0
                refine Box.mk ?_
                simp only [fill, Act.put, Nat.reduceAdd, List.setIfInBounds_toArray, List.set_cons_zero, List.set_cons_succ, h4, h11] at hK ⊢
                go_simp
                exact hK.out _ _ rfl (Ext.refl _) (fun b hb => by cases hb)
              exact Steps.nil
            case done =>
              intro y X ex hf hlt hsep
              have h0 : ((fun (v : Value) (_ : World) => v = .int .i64 nd)) (y 0) X := hf.1
              have h1 : ((fun (v : Value) (_ : World) => v = .slice Av nd cv)) (y 1) X := hf.2.1
              have h2 : ((fun (v : Value) (_ : World) => v = .int .i64 nd)) (y 2) X := hf.2.2.1
              have h3 : ((fun (v : Value) (_ : World) => v = .bool false)) (y 3) X := hf.2.2.2.1
              have h4 : ((fun (v : Value) (_ : World) => v = .bool false)) (y 4) X := hf.2.2.2.2.1
              have h5 : ((fun (v : Value) (_ : World) => v = undef)) (y 5) X := hf.2.2.2.2.2.1
              have h6 : ((fun (v : Value) (_ : World) => v = undef)) (y 6) X := hf.2.2.2.2.2.2.1
              have h7 : ((fun (v : Value) (_ : World) => v = undef)) (y 7) X := hf.2.2.2.2.2.2.2.1
              have h8 : ((fun (v : Value) (_ : World) => v = undef)) (y 8) X := hf.2.2.2.2.2.2.2.2.1
              have h9 : ((fun (v : Value) (_ : World) => v = undef)) (y 9) X := hf.2.2.2.2.2.2.2.2.2.1
              have h10 : ((fun (v : Value) (_ : World) => v = undef)) (y 10) X := hf.2.2.2.2.2.2.2.2.2.2.1
              have h11 : ((fun (v : Value) (_ : World) => v = undef)) (y 11) X := hf.2.2.2.2.2.2.2.2.2.2.2.1
              have h12 : ((fun (v : Value) (_ : World) => v = .bool false)) (y 12) X := hf.2.2.2.2.2.2.2.2.2.2.2.2.1
              clear hf
              clear hsep hlt
              refine Box.mk ?_
              simp only [List.drop_succ_cons, List.drop_zero, fill, Act.put, Nat.reduceAdd, List.setIfInBounds_toArray, List.set_cons_zero, List.set_cons_succ, h0, h1, h2, h3, h4, h5, h6, h7, h8, h9, h10, h11, h12]
              clear h0 h1 h2 h3 h4 h5 h6 h7 h8 h9 h10 h11 h12
              have EX := Lib.hid ex; clear ex
              go_wp2_with fail
              refine NoPanic.normal ?_
              go_wp2_with fail
              go_meet
              exact ⟨rfl, EX.out⟩
          case rest =>
            obtain ⟨rfl, hx10⟩ := hcut
            have HX10 := Lib.hid hx10; clear hx10
            go_upto_region 9 with fail
            go_cut [46] (fun s wx => s = .bool true ∧ Ext wc wx)
            case first =>
              refine wp_region_noPanic ?_
              refine wp_pool 13 [some 34, some 35, some 36, some 37, some 38, some 39, some 40, some 41, some 42, some 43, some 44, some 45, some 46] [] [] [(fun (v : Value) (_ : World) => v = .int .i64 nd), (fun (v : Value) (_ : World) => v = .slice Av nd cv), (fun (v : Value) (_ : World) => v = .int .i64 nd), (fun (v : Value) (_ : World) => v = .bool true), (fun (v : Value) (_ : World) => v = .bool true), (fun (v : Value) (_ : World) => v = undef), (fun (v : Value) (_ : World) => v = undef), (fun (v : Value) (_ : World) => v = undef), (fun (v : Value) (_ : World) => v = undef), (fun (v : Value) (_ : World) => v = undef), (fun (v : Value) (_ : World) => v = undef), (fun (v : Value) (_ : World) => v = undef), (fun (v : Value) (_ : World) => v = .bool true)] [noF, noF, noF, noF, noF, noF, noF, noF, noF, noF, noF, noF, noF] (by kernel_rfl) (by kernel_rfl) (by kernel_rfl) (by kernel_rfl) (by kernel_rfl) (by kernel_rfl) (by kernel_rfl) (by kernel_rfl) (fun _ _ _ _ h => h) ⟨Stays.pure _, Stays.pure _, Stays.pure _, Stays.pure _, Stays.pure _, Stays.pure _, Stays.pure _, Stays.pure _, Stays.pure _, Stays.pure _, Stays.pure _, Stays.pure _, Stays.pure _, True.intro⟩ ?steps ?done
              case steps =>
                simp only [List.take_succ_cons, List.take_zero]
                refine Steps.cons (fun (v : Value) (_ : World) => v = .int .i64 nd) [] rfl (by kernel_rfl) rfl (by kernel_rfl) (fun y X ex0 hf K hK => ?_) ?_
                · clear hf
                  have ex := (Ext.drw (Ext.refl _)).trans ex0
                  refine Box.mk ?_
                  simp only [fill, Act.put, Nat.reduceAdd, List.setIfInBounds_toArray, List.set_cons_zero, List.set_cons_succ] at hK ⊢
                  go_simp
                  exact hK.out _ _ rfl (Ext.refl _) (fun b hb => by cases hb)
                refine Steps.cons (fun (v : Value) (_ : World) => v = .slice Av nd cv) [] rfl (by kernel_rfl) rfl (by kernel_rfl) (fun y X ex0 hf K hK => ?_) ?_
                · clear hf
                  have ex := (Ext.drw (Ext.refl _)).trans ex0
                  refine Box.mk ?_
                  simp only [fill, Act.put, Nat.reduceAdd, List.setIfInBounds_toArray, List.set_cons_zero, List.set_cons_succ] at hK ⊢
                  go_simp
                  exact hK.out _ _ rfl (Ext.refl _) (fun b hb => by cases hb)
                refine Steps.cons (fun (v : Value) (_ : World) => v = .int .i64 nd) [1] rfl (by kernel_rfl) rfl (by kernel_rfl) (fun y X ex0 hf K hK => ?_) ?_
                · have h1 : ((fun (v : Value) (_ : World) => v = .slice Av nd cv)) (y 1) X := hf.1
                  clear hf
                  have ex := (Ext.drw (Ext.refl _)).trans ex0
                  refine Box.mk ?_
                  simp only [fill, Act.put, Nat.reduceAdd, List.setIfInBounds_toArray, List.set_cons_zero, List.set_cons_succ, h1] at hK ⊢
                  go_simp
                  exact hK.out _ _ rfl (Ext.refl _) (fun b hb => by cases hb)
                refine Steps.cons (fun (v : Value) (_ : World) => v = .bool true) [0, 2] rfl (by kernel_rfl) rfl (by kernel_rfl) (fun y X ex0 hf K hK => ?_) ?_
                · have h0 : ((fun (v : Value) (_ : World) => v = .int .i64 nd)) (y 0) X := hf.1
                  have h2 : ((fun (v : Value) (_ : World) => v = .int .i64 nd)) (y 2) X := hf.2.1
                  clear hf
                  have ex := (Ext.drw (Ext.refl _)).trans ex0
                  refine Box.mk ?_
                  simp only [fill, Act.put, Nat.reduceAdd, List.setIfInBounds_toArray, List.set_cons_zero, List.set_cons_succ, h0, h2] at hK ⊢
                  go_simp
                  exact hK.out _ _ rfl (Ext.refl _) (fun b hb => by cases hb)
                refine Steps.cons (fun (v : Value) (_ : World) => v = .bool true) [3] rfl (by kernel_rfl) rfl (by kernel_rfl) (fun y X ex0 hf K hK => ?_) ?_
                · have h3 : ((fun (v : Value) (_ : World) => v = .bool true)) (y 3) X := hf.1
                  clear hf
                  have ex := (Ext.drw (Ext.refl _)).trans ex0
                  refine Box.mk ?_
                  simp only [fill, Act.put, Nat.reduceAdd, List.setIfInBounds_toArray, List.set_cons_zero, List.set_cons_succ, h3] at hK ⊢
                  go_simp
                  exact hK.out _ _ rfl (Ext.refl _) (fun b hb => by cases hb)
                refine Steps.cons (fun (v : Value) (_ : World) => v = undef) [4] rfl (by kernel_rfl) rfl (by kernel_rfl) (fun y X ex0 hf K hK => ?_) ?_
                · have h4 : ((fun (v : Value) (_ : World) => v = .bool true)) (y 4) X := hf.1
                  clear hf
                  have ex := (Ext.drw (Ext.refl _)).trans ex0
                  refine Box.mk ?_
                  simp only [fill, Act.put, Nat.reduceAdd, List.setIfInBounds_toArray, List.set_cons_zero, List.set_cons_succ, h4] at hK ⊢
                  go_simp
                  exact hK.out _ _ rfl (Ext.refl _) (fun b hb => by cases hb)
                refine Steps.cons (fun (v : Value) (_ : World) => v = undef) [4] rfl (by kernel_rfl) rfl (by kernel_rfl) (fun y X ex0 hf K hK => ?_) ?_
                · have h4 : ((fun (v : Value) (_ : World) => v = .bool true)) (y 4) X := hf.1
                  clear hf
                  have ex := (Ext.drw (Ext.refl _)).trans ex0
                  refine Box.mk ?_
                  simp only [fill, Act.put, Nat.reduceAdd, List.setIfInBounds_toArray, List.set_cons_zero, List.set_cons_succ, h4] at hK ⊢
                  go_simp
                  exact hK.out _ _ rfl (Ext.refl _) (fun b hb => by cases hb)
                refine Steps.cons (fun (v : Value) (_ : World) => v = undef) [5, 6, 4] rfl (by kernel_rfl) rfl (by kernel_rfl) (fun y X ex0 hf K hK => ?_) ?_
                · have h5 : ((fun (v : Value) (_ : World) => v = undef)) (y 5) X := hf.1
                  have h6 : ((fun (v : Value) (_ : World) => v = undef)) (y 6) X := hf.2.1
                  have h4 : ((fun (v : Value) (_ : World) => v = .bool true)) (y 4) X := hf.2.2.1
                  clear hf
                  have ex := (Ext.drw (Ext.refl _)).trans ex0
                  refine Box.mk ?_
                  simp only [fill, Act.put, Nat.reduceAdd, List.setIfInBounds_toArray, List.set_cons_zero, List.set_cons_succ, h5, h6, h4] at hK ⊢
                  go_simp
                  exact hK.out _ _ rfl (Ext.refl _) (fun b hb => by cases hb)
                refine Steps.cons (fun (v : Value) (_ : World) => v = undef) [7, 4] rfl (by kernel_rfl) rfl (by kernel_rfl) (fun y X ex0 hf K hK => ?_) ?_
                · have h7 : ((fun (v : Value) (_ : World) => v = undef)) (y 7) X := hf.1
                  have h4 : ((fun (v : Value) (_ : World) => v = .bool true)) (y 4) X := hf.2.1
                  clear hf
                  have ex := (Ext.drw (Ext.refl _)).trans ex0
                  refine Box.mk ?_
                  simp only [fill, Act.put, Nat.reduceAdd, List.setIfInBounds_toArray, List.set_cons_zero, List.set_cons_succ, h7, h4] at hK ⊢
                  go_simp
                  exact hK.out _ _ rfl (Ext.refl _) (fun b hb => by cases hb)
                refine Steps.cons (fun (v : Value) (_ : World) => v = undef) [4] rfl (by kernel_rfl) rfl (by kernel_rfl) (fun y X ex0 hf K hK => ?_) ?_
                · have h4 : ((fun (v : Value) (_ : World) => v = .bool true)) (y 4) X := hf.1
                  clear hf
                  have ex := (Ext.drw (Ext.refl _)).trans ex0
                  refine Box.mk ?_
                  simp only [fill, Act.put, Nat.reduceAdd, List.setIfInBounds_toArray, List.set_cons_zero, List.set_cons_succ, h4] at hK ⊢
                  go_simp
                  exact hK.out _ _ rfl (Ext.refl _) (fun b hb => by cases hb)
                refine Steps.cons (fun (v : Value) (_ : World) => v = undef) [8, 9, 4] rfl (by kernel_rfl) rfl (by kernel_rfl) (fun y X ex0 hf K hK => ?_) ?_
                · have h8 : ((fun (v : Value) (_ : World) => v = undef)) (y 8) X := hf.1
                  have h9 : ((fun (v : Value) (_ : World) => v = undef)) (y 9) X := hf.2.1
                  have h4 : ((fun (v : Value) (_ : World) => v = .bool true)) (y 4) X := hf.2.2.1
                  clear hf
                  have ex := (Ext.drw (Ext.refl _)).trans ex0
                  refine Box.mk ?_
                  simp only [fill, Act.put, Nat.reduceAdd, List.setIfInBounds_toArray, List.set_cons_zero, List.set_cons_succ, h8, h9, h4] at hK ⊢
                  go_simp
                  exact hK.out _ _ rfl (Ext.refl _) (fun b hb => by cases hb)
                refine Steps.cons (fun (v : Value) (_ : World) => v = undef) [10, 4] rfl (by kernel_rfl) rfl (by kernel_rfl) (fun y X ex0 hf K hK => ?_) ?_
                · have h10 : ((fun (v : Value) (_ : World) => v = undef)) (y 10) X := hf.1
                  have h4 : ((fun (v : Value) (_ : World) => v = .bool true)) (y 4) X := hf.2.1
                  clear hf
                  have ex := (Ext.drw (Ext.refl _)).trans ex0
                  refine Box.mk ?_
                  simp only [fill, Act.put, Nat.reduceAdd, List.setIfInBounds_toArray, List.set_cons_zero, List.set_cons_succ, h10, h4] at hK ⊢
                  go_simp
                  exact hK.out _ _ rfl (Ext.refl _) (fun b hb => by cases hb)
                refine Steps.cons (fun (v : Value) (_ : World) => v = .bool true) [4, 11] rfl (by kernel_rfl) rfl (by kernel_rfl) (fun y X ex0 hf K hK => ?_) ?_
                · have h4 : ((fun (v : Value) (_ : World) => v = .bool true)) (y 4) X := hf.1
                  have h11 : ((fun (v : Value) (_ : World) => v = undef)) (y 11) X := hf.2.1
                  clear hf
                  have ex := (Ext.drw (Ext.refl _)).trans ex0
                  refine Box.mk ?_
                  simp only [fill, Act.put, Nat.reduceAdd, List.setIfInBounds_toArray, List.set_cons_zero, List.set_cons_succ, h4, h11] at hK ⊢
                  go_simp
                  exact hK.out _ _ rfl (Ext.refl _) (fun b hb => by cases hb)
                exact Steps.nil
              case done =>
                intro y X ex hf hlt hsep
                have h0 : ((fun (v : Value) (_ : World) => v = .int .i64 nd)) (y 0) X := hf.1
                have h1 : ((fun (v : Value) (_ : World) => v = .slice Av nd cv)) (y 1) X := hf.2.1
                have h2 : ((fun (v : Value) (_ : World) => v = .int .i64 nd)) (y 2) X := hf.2.2.1
                have h3 : ((fun (v : Value) (_ : World) => v = .bool true)) (y 3) X := hf.2.2.2.1
                have h4 : ((fun (v : Value) (_ : World) => v = .bool true)) (y 4) X := hf.2.2.2.2.1
                have h5 : ((fun (v : Value) (_ : World) => v = undef)) (y 5) X := hf.2.2.2.2.2.1
                have h6 : ((fun (v : Value) (_ : World) => v = undef)) (y 6) X := hf.2.2.2.2.2.2.1
                have h7 : ((fun (v : Value) (_ : World) => v = undef)) (y 7) X := hf.2.2.2.2.2.2.2.1
                have h8 : ((fun (v : Value) (_ : World) => v = undef)) (y 8) X := hf.2.2.2.2.2.2.2.2.1
                have h9 : ((fun (v : Value) (_ : World) => v = undef)) (y 9) X := hf.2.2.2.2.2.2.2.2.2.1
                have h10 : ((fun (v : Value) (_ : World) => v = undef)) (y 10) X := hf.2.2.2.2.2.2.2.2.2.2.1
                have h11 : ((fun (v : Value) (_ : World) => v = undef)) (y 11) X := hf.2.2.2.2.2.2.2.2.2.2.2.1
                have h12 : ((fun (v : Value) (_ : World) => v = .bool true)) (y 12) X := hf.2.2.2.2.2.2.2.2.2.2.2.2.1
                clear hf
                clear hsep hlt
                refine Box.mk ?_
                simp only [List.drop_succ_cons, List.drop_zero, fill, Act.put, Nat.reduceAdd, List.setIfInBounds_toArray, List.set_cons_zero, List.set_cons_succ, h0, h1, h2, h3, h4, h5, h6, h7, h8, h9, h10, h11, h12]
                clear h0 h1 h2 h3 h4 h5 h6 h7 h8 h9 h10 h11 h12
                have EX := Lib.hid ex; clear ex
                go_wp2_with fail
                refine NoPanic.normal ?_
                go_wp2_with fail
                go_meet
                exact ⟨rfl, EX.out⟩
            case rest =>
              obtain ⟨rfl, hx11⟩ := hcut
              have HX11 := Lib.hid (HX10.out.trans hx11); clear hx11
              have hb0 : W1.heap.size ≤ wc.heap.size := (HX1.out.trans (HXV.out.trans (HX9.out.trans HX11.out))).size
              obtain ⟨rc1, rc2, -, rc3⟩ := rowO HOWN9.out HND.out
              cases Av with
              | none =>
                obtain ⟨h8, h9⟩ := rowO_none HOWN9.out
                subst h8 h9
                clear heq9 hlt9 rc3
                have hxl : ((ds.take 0).flatMap (encO w h n)).length = 0 * 3 := by rw [encO_len, List.length_take, ← HND.out]; omega
                have hrl : ((ds.drop 0).flatMap (encO w h n)).length = (0) * 3 := by rw [encO_len, List.length_drop, ← HND.out] <;> omega
                have hsp : ((ds.take 0).flatMap (encO w h n)) ++ ((ds.drop 0).flatMap (encO w h n)) = (ds.flatMap (encO w h n)) := encO_split _
                have HXL := Lib.hid hxl; have HRL := Lib.hid hrl; have HSP := Lib.hid hsp; clear hxl hrl hsp
                go_upto_region 10 with fail
                refine wp_region_noPanic ?_
                refine PE.wp_pool (E := Ea wc.heap.size 0 (encO w h n ⟨AP, ap⟩)) Ea.grow 11 [some 47, some 48, some 49, some 50, some 51, some 52, some 53, some 54, some 55, some 56, some 57] [] [] [(fun (v : Value) (X : World) => ∃ g', v = .slice (some ⟨g', 0, none⟩) 0 0 ∧ X.ownsRow wc.heap.size 24 3 (.slice (some ⟨g', 0, none⟩) 0 0) 0 []), (fun (v : Value) (_ : World) => v = .slice none 0 0), (fun (v : Value) (_ : World) => v = .int .i64 0), (fun (v : Value) (_ : World) => v = .slice none 0 0), (fun (v : Value) (X : World) => ∃ A' c', v = .slice A' 0 c' ∧ X.ownsRow wc.heap.size 24 3 (.slice A' 0 c') 0 ((ds.take 0).flatMap (encO w h n))), (fun (v : Value) (_ : World) => v = .agg #[.int .i64 w, .int .i64 h, .slice AP n n]), (fun (v : Value) (X : World) => ∃ g', v = .slice (some ⟨g', 0, none⟩) 1 1 ∧ X.ownsRow wc.heap.size 24 3 (.slice (some ⟨g', 0, none⟩) 1 1) 1 (encO w h n ⟨AP, ap⟩)), (fun (v : Value) (X : World) => ∃ A' c', v = .slice A' (0 + 1) c' ∧ X.ownsRow wc.heap.size 24 3 (.slice A' (0 + 1) c') (0 + 1) (((ds.take 0).flatMap (encO w h n)) ++ (encO w h n ⟨AP, ap⟩))), (fun (v : Value) (_ : World) => v = .slice none 0 0), (fun (v : Value) (_ : World) => v = .int .i64 0), (fun (v : Value) (_ : World) => v = .slice none 0 0)] [noF, noF, noF, noF, noF, noF, noF, noF, noF, noF, noF] (by kernel_rfl) (by kernel_rfl) (by kernel_rfl) (by kernel_rfl) (by kernel_rfl) (by kernel_rfl) (by kernel_rfl) (by kernel_rfl) (fun _ _ _ _ h => h) ⟨(fun _ _ _ e ⟨g', h1, h2⟩ => ⟨g', h1, e.row h2 (fun i hi => absurd hi (by omega))⟩), PE.Stays.pure _, PE.Stays.pure _, PE.Stays.pure _, (fun _ _ _ e ⟨A', c', h1, h2⟩ => ⟨A', c', h1, e.row h2 (fun i hi => .inl hi)⟩), PE.Stays.pure _, (fun _ _ _ e ⟨g', h1, h2⟩ => ⟨g', h1, e.row h2 (fun i hi => mk_one hi)⟩), (fun _ _ _ e ⟨A', c', h1, h2⟩ => ⟨A', c', h1, e.row h2 (fun i hi => mk_two HXL.out hi)⟩), PE.Stays.pure _, PE.Stays.pure _, PE.Stays.pure _, True.intro⟩ ?steps ?done
                case steps =>
                  simp only [List.take_succ_cons, List.take_zero]
                  refine PE.Steps.cons (fun (v : Value) (X : World) => ∃ g', v = .slice (some ⟨g', 0, none⟩) 0 0 ∧ X.ownsRow wc.heap.size 24 3 (.slice (some ⟨g', 0, none⟩) 0 0) 0 []) [] rfl (by kernel_rfl) rfl (by kernel_rfl) (fun y X ex0 hf K hK => ?_) ?_
                  · clear hf
                    have ex := Ea.trans (Ea.drw _) ex0
                    refine Box.mk ?_
                    simp only [fill, Act.put, Nat.reduceAdd, List.setIfInBounds_toArray, List.set_cons_zero, List.set_cons_succ] at hK ⊢
                    have hB : wc.heap.size ≤ X.heap.size := ex.size
                    go_simp
                    exact hK.out _ _ ⟨X.heap.size, rfl, ⟨rfl, .inr ⟨X.heap.size, 0, #[], rfl, hB, heap_alloc_new X _, Nat.le_refl _, by decide, rfl, rfl⟩⟩⟩ (Ea.of hB (Ext.alc (Ext.refl X) (.cells #[] 24))) (fun b hb => by cases hb)
                  refine PE.Steps.cons (fun (v : Value) (_ : World) => v = .slice none 0 0) [] rfl (by kernel_rfl) rfl (by kernel_rfl) (fun y X ex0 hf K hK => ?_) ?_
                  · clear hf
                    have ex := Ea.trans (Ea.drw _) ex0
                    refine Box.mk ?_
                    simp only [fill, Act.put, Nat.reduceAdd, List.setIfInBounds_toArray, List.set_cons_zero, List.set_cons_succ] at hK ⊢
                    go_simp
                    exact hK.out _ _ rfl (Ea.refl _) (fun b hb => by cases hb)
                  refine PE.Steps.cons (fun (v : Value) (_ : World) => v = .int .i64 0) [] rfl (by kernel_rfl) rfl (by kernel_rfl) (fun y X ex0 hf K hK => ?_) ?_
                  · clear hf
                    have ex := Ea.trans (Ea.drw _) ex0
                    refine Box.mk ?_
                    simp only [fill, Act.put, Nat.reduceAdd, List.setIfInBounds_toArray, List.set_cons_zero, List.set_cons_succ] at hK ⊢
                    go_simp
                    exact hK.out _ _ rfl (Ea.refl _) (fun b hb => by cases hb)
                  refine PE.Steps.cons (fun (v : Value) (_ : World) => v = .slice none 0 0) [1, 2] rfl (by kernel_rfl) rfl (by kernel_rfl) (fun y X ex0 hf K hK => ?_) ?_
                  · have h1 : ((fun (v : Value) (_ : World) => v = .slice none 0 0)) (y 1) X := hf.1
                    have h2 : ((fun (v : Value) (_ : World) => v = .int .i64 0)) (y 2) X := hf.2.1
                    clear hf
                    have ex := Ea.trans (Ea.drw _) ex0
                    refine Box.mk ?_
                    simp only [fill, Act.put, Nat.reduceAdd, List.setIfInBounds_toArray, List.set_cons_zero, List.set_cons_succ, h1, h2] at hK ⊢
                    go_simp
                    exact hK.out _ _ rfl (Ea.refl _) (fun b hb => by cases hb)
                  refine PE.Steps.cons (fun (v : Value) (X : World) => ∃ A' c', v = .slice A' 0 c' ∧ X.ownsRow wc.heap.size 24 3 (.slice A' 0 c') 0 ((ds.take 0).flatMap (encO w h n))) [0, 3] rfl (by kernel_rfl) rfl (by kernel_rfl) (fun y X ex0 hf K hK => ?_) ?_
                  · have hh0 : ((fun (v : Value) (X : World) => ∃ g', v = .slice (some ⟨g', 0, none⟩) 0 0 ∧ X.ownsRow wc.heap.size 24 3 (.slice (some ⟨g', 0, none⟩) 0 0) 0 [])) (y 0) X := hf.1
                    refine Exists.elim hh0 (fun g0 hx0_0 => ?_)
                    have h0 := hx0_0.1
                    have o0 := hx0_0.2
                    clear hh0 hx0_0
                    have h3 : ((fun (v : Value) (_ : World) => v = .slice none 0 0)) (y 3) X := hf.2.1
                    clear hf
                    have ex := Ea.trans (Ea.drw _) ex0
                    refine Box.mk ?_
                    simp only [fill, Act.put, Nat.reduceAdd, List.setIfInBounds_toArray, List.set_cons_zero, List.set_cons_succ, h0, h3] at hK ⊢
                    have hB : wc.heap.size ≤ X.heap.size := ex.size
                    rw [if_pos (by rfl)]
                    refine wp_append_st (.tmp 47) (.tmp 50) rfl wc.heap.size (.slice (some ⟨g0, 0, none⟩) 0 0) 0 [] rfl o0 none 0 0 ((ds.take 0).flatMap (encO w h n)) rfl HXL.out ?_ ?_ (encO_one w h n _) (by omega) hB ?_
                    · exact fun ad had i u hu => by cases had
                    · exact fun _ => rfl
                    · intro A' c' w' ho hg hk hz
                      simp only [Nat.zero_add, List.nil_append] at ho ⊢
                      exact hK.out _ _ ⟨A', c', rfl, ho⟩ (Ea.app hB o0 hg hk (.inr fun g cap e => by injection e with _ _ e; exact e.symm)) (fun b hb => by cases hb)
                  refine PE.Steps.cons (fun (v : Value) (_ : World) => v = .agg #[.int .i64 w, .int .i64 h, .slice AP n n]) [] rfl (by kernel_rfl) rfl (by kernel_rfl) (fun y X ex0 hf K hK => ?_) ?_
                  · clear hf
                    have ex := Ea.trans (Ea.drw _) ex0
                    refine Box.mk ?_
                    simp only [fill, Act.put, Nat.reduceAdd, List.setIfInBounds_toArray, List.set_cons_zero, List.set_cons_succ] at hK ⊢
                    obtain ⟨p0, p1, p2⟩ := HQ9.out.ext hs9 (HX11.out.trans ex.1)
                    go_simp
                    exact hK.out _ _ rfl (Ea.refl _) (fun b hb => by cases hb)
                  refine PE.Steps.cons (fun (v : Value) (X : World) => ∃ g', v = .slice (some ⟨g', 0, none⟩) 1 1 ∧ X.ownsRow wc.heap.size 24 3 (.slice (some ⟨g', 0, none⟩) 1 1) 1 (encO w h n ⟨AP, ap⟩)) [5] rfl (by kernel_rfl) rfl (by kernel_rfl) (fun y X ex0 hf K hK => ?_) ?_
                  · have h5 : ((fun (v : Value) (_ : World) => v = .agg #[.int .i64 w, .int .i64 h, .slice AP n n])) (y 5) X := hf.1
                    clear hf
                    have ex := Ea.trans (Ea.drw _) ex0
                    refine Box.mk ?_
                    simp only [fill, Act.put, Nat.reduceAdd, List.setIfInBounds_toArray, List.set_cons_zero, List.set_cons_succ, h5] at hK ⊢
                    have hB : wc.heap.size ≤ X.heap.size := ex.size
                    go_simp
                    exact hK.out _ _ ⟨X.heap.size, rfl, ⟨rfl, .inr ⟨X.heap.size, 1, _, rfl, hB, heap_alloc_new X _, Nat.le_refl _, by decide, rfl, rfl⟩⟩⟩ (Ea.of hB (Ext.alc (Ext.refl X) _)) (fun b hb => by cases hb)
                  refine PE.Steps.cons (fun (v : Value) (X : World) => ∃ A' c', v = .slice A' (0 + 1) c' ∧ X.ownsRow wc.heap.size 24 3 (.slice A' (0 + 1) c') (0 + 1) (((ds.take 0).flatMap (encO w h n)) ++ (encO w h n ⟨AP, ap⟩))) [4, 6] rfl (by kernel_rfl) rfl (by kernel_rfl) (fun y X ex0 hf K hK => ?_) ?_
                  · have hh4 : ((fun (v : Value) (X : World) => ∃ A' c', v = .slice A' 0 c' ∧ X.ownsRow wc.heap.size 24 3 (.slice A' 0 c') 0 ((ds.take 0).flatMap (encO w h n)))) (y 4) X := hf.1
                    refine Exists.elim hh4 (fun A4 hx4_0 => ?_)
                    refine Exists.elim hx4_0 (fun c4 hx4_1 => ?_)
                    have h4 := hx4_1.1
                    have o4 := hx4_1.2
                    clear hh4 hx4_0 hx4_1
                    have hh6 : ((fun (v : Value) (X : World) => ∃ g', v = .slice (some ⟨g', 0, none⟩) 1 1 ∧ X.ownsRow wc.heap.size 24 3 (.slice (some ⟨g', 0, none⟩) 1 1) 1 (encO w h n ⟨AP, ap⟩))) (y 6) X := hf.2.1
                    refine Exists.elim hh6 (fun g6 hx6_0 => ?_)
                    have h6 := hx6_0.1
                    have o6 := hx6_0.2
                    clear hh6 hx6_0
                    clear hf
                    have ex := Ea.trans (Ea.drw _) ex0
                    refine Box.mk ?_
                    simp only [fill, Act.put, Nat.reduceAdd, List.setIfInBounds_toArray, List.set_cons_zero, List.set_cons_succ, h4, h6] at hK ⊢
                    have hB : wc.heap.size ≤ X.heap.size := ex.size
                    rw [if_pos (by rfl)]
                    refine wp_append_st (.tmp 51) (.tmp 53) rfl wc.heap.size (.slice A4 0 c4) 0 ((ds.take 0).flatMap (encO w h n)) rfl o4 (some ⟨g6, 0, none⟩) 1 1 (encO w h n ⟨AP, ap⟩) rfl rfl ?_ (fun e => by cases e) ?_ (by omega) hB ?_
                    · exact fun ad had i u hu => by
                        injection had with had; subst had
                        exact o6.cells (g := g6) rfl i u hu
                    · intro u hu; simp [encO] at hu; rcases hu with rfl | rfl | rfl <;> rfl
                    · intro A' c' w' ho hg hk hz
                      exact hK.out _ _ ⟨A', c', rfl, ho⟩ (Ea.app hB o4 hg hk (.inl ⟨rfl, rfl⟩)) (fun b hb => by cases hb)
                  refine PE.Steps.cons (fun (v : Value) (_ : World) => v = .slice none 0 0) [] rfl (by kernel_rfl) rfl (by kernel_rfl) (fun y X ex0 hf K hK => ?_) ?_
                  · clear hf
                    have ex := Ea.trans (Ea.drw _) ex0
                    refine Box.mk ?_
                    simp only [fill, Act.put, Nat.reduceAdd, List.setIfInBounds_toArray, List.set_cons_zero, List.set_cons_succ] at hK ⊢
                    go_simp
                    exact hK.out _ _ rfl (Ea.refl _) (fun b hb => by cases hb)
                  refine PE.Steps.cons (fun (v : Value) (_ : World) => v = .int .i64 0) [] rfl (by kernel_rfl) rfl (by kernel_rfl) (fun y X ex0 hf K hK => ?_) ?_
                  · clear hf
                    have ex := Ea.trans (Ea.drw _) ex0
                    refine Box.mk ?_
                    simp only [fill, Act.put, Nat.reduceAdd, List.setIfInBounds_toArray, List.set_cons_zero, List.set_cons_succ] at hK ⊢
                    go_simp
                    exact hK.out _ _ rfl (Ea.refl _) (fun b hb => by cases hb)
                  refine PE.Steps.cons (fun (v : Value) (_ : World) => v = .slice none 0 0) [8, 9] rfl (by kernel_rfl) rfl (by kernel_rfl) (fun y X ex0 hf K hK => ?_) ?_
                  · have h8 : ((fun (v : Value) (_ : World) => v = .slice none 0 0)) (y 8) X := hf.1
                    have h9 : ((fun (v : Value) (_ : World) => v = .int .i64 0)) (y 9) X := hf.2.1
                    clear hf
                    have ex := Ea.trans (Ea.drw _) ex0
                    refine Box.mk ?_
                    simp only [fill, Act.put, Nat.reduceAdd, List.setIfInBounds_toArray, List.set_cons_zero, List.set_cons_succ, h8, h9] at hK ⊢
                    go_simp
                    exact hK.out _ _ rfl (Ea.refl _) (fun b hb => by cases hb)
                  exact PE.Steps.nil
                case done =>
                  intro y X ex hf hlt hsep
                  have hh0 : ((fun (v : Value) (X : World) => ∃ g', v = .slice (some ⟨g', 0, none⟩) 0 0 ∧ X.ownsRow wc.heap.size 24 3 (.slice (some ⟨g', 0, none⟩) 0 0) 0 [])) (y 0) X := hf.1
                  refine Exists.elim hh0 (fun g0 hx0_0 => ?_)
                  have h0 := hx0_0.1
                  have o0 := hx0_0.2
                  clear hh0 hx0_0
                  have h1 : ((fun (v : Value) (_ : World) => v = .slice none 0 0)) (y 1) X := hf.2.1
                  have h2 : ((fun (v : Value) (_ : World) => v = .int .i64 0)) (y 2) X := hf.2.2.1
                  have h3 : ((fun (v : Value) (_ : World) => v = .slice none 0 0)) (y 3) X := hf.2.2.2.1
                  have hh4 : ((fun (v : Value) (X : World) => ∃ A' c', v = .slice A' 0 c' ∧ X.ownsRow wc.heap.size 24 3 (.slice A' 0 c') 0 ((ds.take 0).flatMap (encO w h n)))) (y 4) X := hf.2.2.2.2.1
                  refine Exists.elim hh4 (fun A4 hx4_0 => ?_)
                  refine Exists.elim hx4_0 (fun c4 hx4_1 => ?_)
                  have h4 := hx4_1.1
                  have o4 := hx4_1.2
                  clear hh4 hx4_0 hx4_1
                  have h5 : ((fun (v : Value) (_ : World) => v = .agg #[.int .i64 w, .int .i64 h, .slice AP n n])) (y 5) X := hf.2.2.2.2.2.1
                  have hh6 : ((fun (v : Value) (X : World) => ∃ g', v = .slice (some ⟨g', 0, none⟩) 1 1 ∧ X.ownsRow wc.heap.size 24 3 (.slice (some ⟨g', 0, none⟩) 1 1) 1 (encO w h n ⟨AP, ap⟩))) (y 6) X := hf.2.2.2.2.2.2.1
                  refine Exists.elim hh6 (fun g6 hx6_0 => ?_)
                  have h6 := hx6_0.1
                  have o6 := hx6_0.2
                  clear hh6 hx6_0
                  have hh7 : ((fun (v : Value) (X : World) => ∃ A' c', v = .slice A' (0 + 1) c' ∧ X.ownsRow wc.heap.size 24 3 (.slice A' (0 + 1) c') (0 + 1) (((ds.take 0).flatMap (encO w h n)) ++ (encO w h n ⟨AP, ap⟩)))) (y 7) X := hf.2.2.2.2.2.2.2.1
                  refine Exists.elim hh7 (fun A7 hx7_0 => ?_)
                  refine Exists.elim hx7_0 (fun c7 hx7_1 => ?_)
                  have h7 := hx7_1.1
                  have o7 := hx7_1.2
                  clear hh7 hx7_0 hx7_1
                  have h8 : ((fun (v : Value) (_ : World) => v = .slice none 0 0)) (y 8) X := hf.2.2.2.2.2.2.2.2.1
                  have h9 : ((fun (v : Value) (_ : World) => v = .int .i64 0)) (y 9) X := hf.2.2.2.2.2.2.2.2.2.1
                  have h10 : ((fun (v : Value) (_ : World) => v = .slice none 0 0)) (y 10) X := hf.2.2.2.2.2.2.2.2.2.2.1
                  clear hf
                  clear hsep hlt
                  refine Box.mk ?_
                  simp only [List.drop_succ_cons, List.drop_zero, fill, Act.put, Nat.reduceAdd, List.setIfInBounds_toArray, List.set_cons_zero, List.set_cons_succ, h0, h1, h2, h3, h4, h5, h6, h7, h8, h9, h10]
                  clear h0 h1 h2 h3 h4 h5 h6 h7 h8 h9 h10
                  have hB : wc.heap.size ≤ X.heap.size := ex.size
                  have EX := Lib.hid ex
                  refine wpList_plain rfl fun K hK => ?_
                  refine wp_append_st (.tmp 54) (.tmp 57) rfl wc.heap.size (.slice A7 (0 + 1) c7) (0 + 1) (((ds.take 0).flatMap (encO w h n)) ++ (encO w h n ⟨AP, ap⟩)) rfl o7 none (0) 0 ((ds.drop 0).flatMap (encO w h n)) rfl HRL.out ?_ ?_ (encO_one w h n _) (by omega) hB ?_
                  · exact fun ad had i u hu => by have h9 := (List.getElem?_eq_some_iff.1 hu).1; rw [HRL.out] at h9; omega
                  · exact fun _ => rfl
                  intro A' c' w' ho hg hk hz
                  have hxf : Ext wc w' := Below.grown ex.1 hg hB (fun k hk => (o7.lt k hk).1)
                  have hlen : 0 + 1 + (0) = 0 + 1 := by omega
                  rw [hlen] at ho ⊢
                  refine hK _ _ ?_
                  have ho2 := own_base ho (by omega : W1.heap.size ≤ wc.heap.size)
                  have hOI : OI W1 w h n l g (k + 1) (.slice A' (0 + 1) c') w' := by
                    refine ⟨A', 0 + 1, c', ds.take 0 ++ [⟨AP, ap⟩] ++ ds.drop 0, rfl, ?_, by omega, ?_, ?_, ?_, ?_⟩
                    · rw [List.length_append, List.length_append, List.length_take, List.length_drop, ← HND.out]; simp <;> omega
                    · rw [List.flatMap_append, List.flatMap_append]; simpa using ho2
                    · intro x2 hx2
                      have hxx : Ext W8 w' := HX9.out.trans (HX11.out.trans hxf)
                      rw [List.append_assoc] at hx2
                      rcases List.mem_append.1 hx2 with hx2 | hx2
                      · exact (HIL.out x2 (List.mem_of_mem_take hx2)).below (HXV.out.trans hxx)
                      · rcases List.mem_append.1 hx2 with hx2 | hx2
                        · rw [List.mem_singleton] at hx2; subst hx2; exact HILP.out.below hxx
                        · exact (HIL.out x2 (List.mem_of_mem_drop hx2)).below (HXV.out.trans hxx)
                    · rw [List.map_append, List.map_append, List.map_take, List.map_drop]
                      exact Orb.ins HORB.out HM.out HAPE.out HLTS.out HGT.out
                    · exact HX1.out.trans (HXV.out.trans (HX9.out.trans (HX11.out.trans hxf)))
                  have HOI := Lib.hid hOI; clear hOI ho ho2 hg hk hz hxf ex EX o0 o4 o6 o7
                  go_wp2_with fail
                  refine NoPanic.normal ?_
                  go_wp2_with fail
                  go_roundw
                  case rel => exact ⟨k + 1, by go_num, by omega, HOI.out⟩
                  case measure => simp [intOf]; omega
              | some ad =>
                obtain ⟨gf, o9, s9⟩ := ad
                obtain ⟨rfl, rfl, hgf, hcells, -⟩ := rc3 gf _ _ rfl
                clear rc3
                have hcc := fun i u hu => keepAt HX11.out hgf (hcells i u hu)
                have HCELLS2 := Lib.hid hcc; clear hcc hcells
                have hgf2 : gf < wc.heap.size := Nat.lt_of_lt_of_le hgf HX11.out.size
                by_cases hcv : nd = cv
                · subst hcv
                  have hxl : ((ds.take nd).flatMap (encO w h n)).length = nd * 3 := by rw [encO_len, List.length_take, ← HND.out]; omega
                  have hrl : ((ds.drop nd).flatMap (encO w h n)).length = (0) * 3 := by rw [encO_len, List.length_drop, ← HND.out] <;> omega
                  have hsp : ((ds.take nd).flatMap (encO w h n)) ++ ((ds.drop nd).flatMap (encO w h n)) = (ds.flatMap (encO w h n)) := encO_split _
                  have HXL := Lib.hid hxl; have HRL := Lib.hid hrl; have HSP := Lib.hid hsp; clear hxl hrl hsp
                  go_upto_region 10 with fail
                  refine wp_region_noPanic ?_
                  refine PE.wp_pool (E := Ea wc.heap.size nd (encO w h n ⟨AP, ap⟩)) Ea.grow 11 [some 47, some 48, some 49, some 50, some 51, some 52, some 53, some 54, some 55, some 56, some 57] [] [] [(fun (v : Value) (X : World) => ∃ g', v = .slice (some ⟨g', 0, none⟩) 0 0 ∧ X.ownsRow wc.heap.size 24 3 (.slice (some ⟨g', 0, none⟩) 0 0) 0 []), (fun (v : Value) (_ : World) => v = .slice (some ⟨gf, 0, none⟩) nd nd), (fun (v : Value) (_ : World) => v = .int .i64 nd), (fun (v : Value) (_ : World) => v = .slice (some ⟨gf, 0, none⟩) nd nd), (fun (v : Value) (X : World) => ∃ A' c', v = .slice A' nd c' ∧ X.ownsRow wc.heap.size 24 3 (.slice A' nd c') nd ((ds.take nd).flatMap (encO w h n))), (fun (v : Value) (_ : World) => v = .agg #[.int .i64 w, .int .i64 h, .slice AP n n]), (fun (v : Value) (X : World) => ∃ g', v = .slice (some ⟨g', 0, none⟩) 1 1 ∧ X.ownsRow wc.heap.size 24 3 (.slice (some ⟨g', 0, none⟩) 1 1) 1 (encO w h n ⟨AP, ap⟩)), (fun (v : Value) (X : World) => ∃ A' c', v = .slice A' (nd + 1) c' ∧ X.ownsRow wc.heap.size 24 3 (.slice A' (nd + 1) c') (nd + 1) (((ds.take nd).flatMap (encO w h n)) ++ (encO w h n ⟨AP, ap⟩))), (fun (v : Value) (_ : World) => v = .slice (some ⟨gf, 0, none⟩) nd nd), (fun (v : Value) (_ : World) => v = .int .i64 nd), (fun (v : Value) (_ : World) => v = .slice (some ⟨gf, 0, none⟩) 0 0)] [noF, noF, noF, noF, noF, noF, noF, noF, noF, noF, noF] (by kernel_rfl) (by kernel_rfl) (by kernel_rfl) (by kernel_rfl) (by kernel_rfl) (by kernel_rfl) (by kernel_rfl) (by kernel_rfl) (fun _ _ _ _ h => h) ⟨(fun _ _ _ e ⟨g', h1, h2⟩ => ⟨g', h1, e.row h2 (fun i hi => absurd hi (by omega))⟩), PE.Stays.pure _, PE.Stays.pure _, PE.Stays.pure _, (fun _ _ _ e ⟨A', c', h1, h2⟩ => ⟨A', c', h1, e.row h2 (fun i hi => .inl hi)⟩), PE.Stays.pure _, (fun _ _ _ e ⟨g', h1, h2⟩ => ⟨g', h1, e.row h2 (fun i hi => mk_one hi)⟩), (fun _ _ _ e ⟨A', c', h1, h2⟩ => ⟨A', c', h1, e.row h2 (fun i hi => mk_two HXL.out hi)⟩), PE.Stays.pure _, PE.Stays.pure _, PE.Stays.pure _, True.intro⟩ ?steps ?done
                  case steps =>
                    simp only [List.take_succ_cons, List.take_zero]
                    refine PE.Steps.cons (fun (v : Value) (X : World) => ∃ g', v = .slice (some ⟨g', 0, none⟩) 0 0 ∧ X.ownsRow wc.heap.size 24 3 (.slice (some ⟨g', 0, none⟩) 0 0) 0 []) [] rfl (by kernel_rfl) rfl (by kernel_rfl) (fun y X ex0 hf K hK => ?_) ?_
                    · clear hf
                      have ex := Ea.trans (Ea.drw _) ex0
                      refine Box.mk ?_
                      simp only [fill, Act.put, Nat.reduceAdd, List.setIfInBounds_toArray, List.set_cons_zero, List.set_cons_succ] at hK ⊢
                      have hB : wc.heap.size ≤ X.heap.size := ex.size
                      go_simp
                      exact hK.out _ _ ⟨X.heap.size, rfl, ⟨rfl, .inr ⟨X.heap.size, 0, #[], rfl, hB, heap_alloc_new X _, Nat.le_refl _, by decide, rfl, rfl⟩⟩⟩ (Ea.of hB (Ext.alc (Ext.refl X) (.cells #[] 24))) (fun b hb => by cases hb)
                    refine PE.Steps.cons (fun (v : Value) (_ : World) => v = .slice (some ⟨gf, 0, none⟩) nd nd) [] rfl (by kernel_rfl) rfl (by kernel_rfl) (fun y X ex0 hf K hK => ?_) ?_
                    · clear hf
                      have ex := Ea.trans (Ea.drw _) ex0
                      refine Box.mk ?_
                      simp only [fill, Act.put, Nat.reduceAdd, List.setIfInBounds_toArray, List.set_cons_zero, List.set_cons_succ] at hK ⊢
                      go_simp
                      exact hK.out _ _ rfl (Ea.refl _) (fun b hb => by cases hb)
                    refine PE.Steps.cons (fun (v : Value) (_ : World) => v = .int .i64 nd) [] rfl (by kernel_rfl) rfl (by kernel_rfl) (fun y X ex0 hf K hK => ?_) ?_
                    · clear hf
                      have ex := Ea.trans (Ea.drw _) ex0
                      refine Box.mk ?_
                      simp only [fill, Act.put, Nat.reduceAdd, List.setIfInBounds_toArray, List.set_cons_zero, List.set_cons_succ] at hK ⊢
                      go_simp
                      exact hK.out _ _ rfl (Ea.refl _) (fun b hb => by cases hb)
                    refine PE.Steps.cons (fun (v : Value) (_ : World) => v = .slice (some ⟨gf, 0, none⟩) nd nd) [1, 2] rfl (by kernel_rfl) rfl (by kernel_rfl) (fun y X ex0 hf K hK => ?_) ?_
                    · have h1 : ((fun (v : Value) (_ : World) => v = .slice (some ⟨gf, 0, none⟩) nd nd)) (y 1) X := hf.1
                      have h2 : ((fun (v : Value) (_ : World) => v = .int .i64 nd)) (y 2) X := hf.2.1
                      clear hf
                      have ex := Ea.trans (Ea.drw _) ex0
                      refine Box.mk ?_
                      simp only [fill, Act.put, Nat.reduceAdd, List.setIfInBounds_toArray, List.set_cons_zero, List.set_cons_succ, h1, h2] at hK ⊢
                      go_simp
                      exact hK.out _ _ rfl (Ea.refl _) (fun b hb => by cases hb)
                    refine PE.Steps.cons (fun (v : Value) (X : World) => ∃ A' c', v = .slice A' nd c' ∧ X.ownsRow wc.heap.size 24 3 (.slice A' nd c') nd ((ds.take nd).flatMap (encO w h n))) [0, 3] rfl (by kernel_rfl) rfl (by kernel_rfl) (fun y X ex0 hf K hK => ?_) ?_
                    · have hh0 : ((fun (v : Value) (X : World) => ∃ g', v = .slice (some ⟨g', 0, none⟩) 0 0 ∧ X.ownsRow wc.heap.size 24 3 (.slice (some ⟨g', 0, none⟩) 0 0) 0 [])) (y 0) X := hf.1
                      refine Exists.elim hh0 (fun g0 hx0_0 => ?_)
                      have h0 := hx0_0.1
                      have o0 := hx0_0.2
                      clear hh0 hx0_0
                      have h3 : ((fun (v : Value) (_ : World) => v = .slice (some ⟨gf, 0, none⟩) nd nd)) (y 3) X := hf.2.1
                      clear hf
                      have ex := Ea.trans (Ea.drw _) ex0
                      refine Box.mk ?_
                      simp only [fill, Act.put, Nat.reduceAdd, List.setIfInBounds_toArray, List.set_cons_zero, List.set_cons_succ, h0, h3] at hK ⊢
                      have hB : wc.heap.size ≤ X.heap.size := ex.size
                      rw [if_pos (by rfl)]
                      refine wp_append_st (.tmp 47) (.tmp 50) rfl wc.heap.size (.slice (some ⟨g0, 0, none⟩) 0 0) 0 [] rfl o0 (some ⟨gf, 0, none⟩) nd nd ((ds.take nd).flatMap (encO w h n)) rfl HXL.out ?_ ?_ (encO_one w h n _) (by omega) hB ?_
                      · exact fun ad had i u hu => by injection had with had; subst had; rw [addA, Nat.zero_add]; exact keepAt ex.1 hgf2 (HCELLS2.out i u (by rw [← HSP.out, List.getElem?_append_left (List.getElem?_eq_some_iff.1 hu).1]; exact hu))
                      · exact fun e => by cases e
                      · intro A' c' w' ho hg hk hz
                        simp only [Nat.zero_add, List.nil_append] at ho ⊢
                        exact hK.out _ _ ⟨A', c', rfl, ho⟩ (Ea.app hB o0 hg hk (.inr fun g cap e => by injection e with _ _ e; exact e.symm)) (fun b hb => by cases hb)
                    refine PE.Steps.cons (fun (v : Value) (_ : World) => v = .agg #[.int .i64 w, .int .i64 h, .slice AP n n]) [] rfl (by kernel_rfl) rfl (by kernel_rfl) (fun y X ex0 hf K hK => ?_) ?_
                    · clear hf
                      have ex := Ea.trans (Ea.drw _) ex0
                      refine Box.mk ?_
                      simp only [fill, Act.put, Nat.reduceAdd, List.setIfInBounds_toArray, List.set_cons_zero, List.set_cons_succ] at hK ⊢
                      obtain ⟨p0, p1, p2⟩ := HQ9.out.ext hs9 (HX11.out.trans ex.1)
                      go_simp
                      exact hK.out _ _ rfl (Ea.refl _) (fun b hb => by cases hb)
                    refine PE.Steps.cons (fun (v : Value) (X : World) => ∃ g', v = .slice (some ⟨g', 0, none⟩) 1 1 ∧ X.ownsRow wc.heap.size 24 3 (.slice (some ⟨g', 0, none⟩) 1 1) 1 (encO w h n ⟨AP, ap⟩)) [5] rfl (by kernel_rfl) rfl (by kernel_rfl) (fun y X ex0 hf K hK => ?_) ?_
                    · have h5 : ((fun (v : Value) (_ : World) => v = .agg #[.int .i64 w, .int .i64 h, .slice AP n n])) (y 5) X := hf.1
                      clear hf
                      have ex := Ea.trans (Ea.drw _) ex0
                      refine Box.mk ?_
                      simp only [fill, Act.put, Nat.reduceAdd, List.setIfInBounds_toArray, List.set_cons_zero, List.set_cons_succ, h5] at hK ⊢
                      have hB : wc.heap.size ≤ X.heap.size := ex.size
                      go_simp
                      exact hK.out _ _ ⟨X.heap.size, rfl, ⟨rfl, .inr ⟨X.heap.size, 1, _, rfl, hB, heap_alloc_new X _, Nat.le_refl _, by decide, rfl, rfl⟩⟩⟩ (Ea.of hB (Ext.alc (Ext.refl X) _)) (fun b hb => by cases hb)
                    refine PE.Steps.cons (fun (v : Value) (X : World) => ∃ A' c', v = .slice A' (nd + 1) c' ∧ X.ownsRow wc.heap.size 24 3 (.slice A' (nd + 1) c') (nd + 1) (((ds.take nd).flatMap (encO w h n)) ++ (encO w h n ⟨AP, ap⟩))) [4, 6] rfl (by kernel_rfl) rfl (by kernel_rfl) (fun y X ex0 hf K hK => ?_) ?_
                    · have hh4 : ((fun (v : Value) (X : World) => ∃ A' c', v = .slice A' nd c' ∧ X.ownsRow wc.heap.size 24 3 (.slice A' nd c') nd ((ds.take nd).flatMap (encO w h n)))) (y 4) X := hf.1
                      refine Exists.elim hh4 (fun A4 hx4_0 => ?_)
                      refine Exists.elim hx4_0 (fun c4 hx4_1 => ?_)
                      have h4 := hx4_1.1
                      have o4 := hx4_1.2
                      clear hh4 hx4_0 hx4_1
                      have hh6 : ((fun (v : Value) (X : World) => ∃ g', v = .slice (some ⟨g', 0, none⟩) 1 1 ∧ X.ownsRow wc.heap.size 24 3 (.slice (some ⟨g', 0, none⟩) 1 1) 1 (encO w h n ⟨AP, ap⟩))) (y 6) X := hf.2.1
                      refine Exists.elim hh6 (fun g6 hx6_0 => ?_)
                      have h6 := hx6_0.1
                      have o6 := hx6_0.2
                      clear hh6 hx6_0
                      clear hf
                      have ex := Ea.trans (Ea.drw _) ex0
                      refine Box.mk ?_
                      simp only [fill, Act.put, Nat.reduceAdd, List.setIfInBounds_toArray, List.set_cons_zero, List.set_cons_succ, h4, h6] at hK ⊢
                      have hB : wc.heap.size ≤ X.heap.size := ex.size
                      rw [if_pos (by rfl)]
                      refine wp_append_st (.tmp 51) (.tmp 53) rfl wc.heap.size (.slice A4 nd c4) nd ((ds.take nd).flatMap (encO w h n)) rfl o4 (some ⟨g6, 0, none⟩) 1 1 (encO w h n ⟨AP, ap⟩) rfl rfl ?_ (fun e => by cases e) ?_ (by omega) hB ?_
                      · exact fun ad had i u hu => by
                          injection had with had; subst had
                          exact o6.cells (g := g6) rfl i u hu
                      · intro u hu; simp [encO] at hu; rcases hu with rfl | rfl | rfl <;> rfl
                      · intro A' c' w' ho hg hk hz
                        exact hK.out _ _ ⟨A', c', rfl, ho⟩ (Ea.app hB o4 hg hk (.inl ⟨rfl, rfl⟩)) (fun b hb => by cases hb)
                    refine PE.Steps.cons (fun (v : Value) (_ : World) => v = .slice (some ⟨gf, 0, none⟩) nd nd) [] rfl (by kernel_rfl) rfl (by kernel_rfl) (fun y X ex0 hf K hK => ?_) ?_
                    · clear hf
                      have ex := Ea.trans (Ea.drw _) ex0
                      refine Box.mk ?_
                      simp only [fill, Act.put, Nat.reduceAdd, List.setIfInBounds_toArray, List.set_cons_zero, List.set_cons_succ] at hK ⊢
                      go_simp
                      exact hK.out _ _ rfl (Ea.refl _) (fun b hb => by cases hb)
                    refine PE.Steps.cons (fun (v : Value) (_ : World) => v = .int .i64 nd) [] rfl (by kernel_rfl) rfl (by kernel_rfl) (fun y X ex0 hf K hK => ?_) ?_
                    · clear hf
                      have ex := Ea.trans (Ea.drw _) ex0
                      refine Box.mk ?_
                      simp only [fill, Act.put, Nat.reduceAdd, List.setIfInBounds_toArray, List.set_cons_zero, List.set_cons_succ] at hK ⊢
                      go_simp
                      exact hK.out _ _ rfl (Ea.refl _) (fun b hb => by cases hb)
                    refine PE.Steps.cons (fun (v : Value) (_ : World) => v = .slice (some ⟨gf, 0, none⟩) 0 0) [8, 9] rfl (by kernel_rfl) rfl (by kernel_rfl) (fun y X ex0 hf K hK => ?_) ?_
                    · have h8 : ((fun (v : Value) (_ : World) => v = .slice (some ⟨gf, 0, none⟩) nd nd)) (y 8) X := hf.1
                      have h9 : ((fun (v : Value) (_ : World) => v = .int .i64 nd)) (y 9) X := hf.2.1
                      clear hf
                      have ex := Ea.trans (Ea.drw _) ex0
                      refine Box.mk ?_
                      simp only [fill, Act.put, Nat.reduceAdd, List.setIfInBounds_toArray, List.set_cons_zero, List.set_cons_succ, h8, h9] at hK ⊢
                      go_simp
                      exact hK.out _ _ rfl (Ea.refl _) (fun b hb => by cases hb)
                    exact PE.Steps.nil
                  case done =>
                    intro y X ex hf hlt hsep
                    have hh0 : ((fun (v : Value) (X : World) => ∃ g', v = .slice (some ⟨g', 0, none⟩) 0 0 ∧ X.ownsRow wc.heap.size 24 3 (.slice (some ⟨g', 0, none⟩) 0 0) 0 [])) (y 0) X := hf.1
                    refine Exists.elim hh0 (fun g0 hx0_0 => ?_)
                    have h0 := hx0_0.1
                    have o0 := hx0_0.2
                    clear hh0 hx0_0
                    have h1 : ((fun (v : Value) (_ : World) => v = .slice (some ⟨gf, 0, none⟩) nd nd)) (y 1) X := hf.2.1
                    have h2 : ((fun (v : Value) (_ : World) => v = .int .i64 nd)) (y 2) X := hf.2.2.1
                    have h3 : ((fun (v : Value) (_ : World) => v = .slice (some ⟨gf, 0, none⟩) nd nd)) (y 3) X := hf.2.2.2.1
                    have hh4 : ((fun (v : Value) (X : World) => ∃ A' c', v = .slice A' nd c' ∧ X.ownsRow wc.heap.size 24 3 (.slice A' nd c') nd ((ds.take nd).flatMap (encO w h n)))) (y 4) X := hf.2.2.2.2.1
                    refine Exists.elim hh4 (fun A4 hx4_0 => ?_)
                    refine Exists.elim hx4_0 (fun c4 hx4_1 => ?_)
                    have h4 := hx4_1.1
                    have o4 := hx4_1.2
                    clear hh4 hx4_0 hx4_1
                    have h5 : ((fun (v : Value) (_ : World) => v = .agg #[.int .i64 w, .int .i64 h, .slice AP n n])) (y 5) X := hf.2.2.2.2.2.1
                    have hh6 : ((fun (v : Value) (X : World) => ∃ g', v = .slice (some ⟨g', 0, none⟩) 1 1 ∧ X.ownsRow wc.heap.size 24 3 (.slice (some ⟨g', 0, none⟩) 1 1) 1 (encO w h n ⟨AP, ap⟩))) (y 6) X := hf.2.2.2.2.2.2.1
                    refine Exists.elim hh6 (fun g6 hx6_0 => ?_)
                    have h6 := hx6_0.1
                    have o6 := hx6_0.2
                    clear hh6 hx6_0
                    have hh7 : ((fun (v : Value) (X : World) => ∃ A' c', v = .slice A' (nd + 1) c' ∧ X.ownsRow wc.heap.size 24 3 (.slice A' (nd + 1) c') (nd + 1) (((ds.take nd).flatMap (encO w h n)) ++ (encO w h n ⟨AP, ap⟩)))) (y 7) X := hf.2.2.2.2.2.2.2.1
                    refine Exists.elim hh7 (fun A7 hx7_0 => ?_)
                    refine Exists.elim hx7_0 (fun c7 hx7_1 => ?_)
                    have h7 := hx7_1.1
                    have o7 := hx7_1.2
                    clear hh7 hx7_0 hx7_1
                    have h8 : ((fun (v : Value) (_ : World) => v = .slice (some ⟨gf, 0, none⟩) nd nd)) (y 8) X := hf.2.2.2.2.2.2.2.2.1
                    have h9 : ((fun (v : Value) (_ : World) => v = .int .i64 nd)) (y 9) X := hf.2.2.2.2.2.2.2.2.2.1
                    have h10 : ((fun (v : Value) (_ : World) => v = .slice (some ⟨gf, 0, none⟩) 0 0)) (y 10) X := hf.2.2.2.2.2.2.2.2.2.2.1
                    clear hf
                    clear hsep hlt
                    refine Box.mk ?_
                    simp only [List.drop_succ_cons, List.drop_zero, fill, Act.put, Nat.reduceAdd, List.setIfInBounds_toArray, List.set_cons_zero, List.set_cons_succ, h0, h1, h2, h3, h4, h5, h6, h7, h8, h9, h10]
                    clear h0 h1 h2 h3 h4 h5 h6 h7 h8 h9 h10
                    have hB : wc.heap.size ≤ X.heap.size := ex.size
                    have EX := Lib.hid ex
                    refine wpList_plain rfl fun K hK => ?_
                    refine wp_append_st (.tmp 54) (.tmp 57) rfl wc.heap.size (.slice A7 (nd + 1) c7) (nd + 1) (((ds.take nd).flatMap (encO w h n)) ++ (encO w h n ⟨AP, ap⟩)) rfl o7 (some ⟨gf, 0, none⟩) (0) 0 ((ds.drop nd).flatMap (encO w h n)) rfl HRL.out ?_ ?_ (encO_one w h n _) (by omega) hB ?_
                    · exact fun ad had i u hu => by have h9 := (List.getElem?_eq_some_iff.1 hu).1; rw [HRL.out] at h9; omega
                    · exact fun _ => rfl
                    intro A' c' w' ho hg hk hz
                    have hxf : Ext wc w' := Below.grown ex.1 hg hB (fun k hk => (o7.lt k hk).1)
                    have hlen : nd + 1 + (0) = nd + 1 := by omega
                    rw [hlen] at ho ⊢
                    refine hK _ _ ?_
                    have ho2 := own_base ho (by omega : W1.heap.size ≤ wc.heap.size)
                    have hOI : OI W1 w h n l g (k + 1) (.slice A' (nd + 1) c') w' := by
                      refine ⟨A', nd + 1, c', ds.take nd ++ [⟨AP, ap⟩] ++ ds.drop nd, rfl, ?_, by omega, ?_, ?_, ?_, ?_⟩
                      · rw [List.length_append, List.length_append, List.length_take, List.length_drop, ← HND.out]; simp <;> omega
                      · rw [List.flatMap_append, List.flatMap_append]; simpa using ho2
                      · intro x2 hx2
                        have hxx : Ext W8 w' := HX9.out.trans (HX11.out.trans hxf)
                        rw [List.append_assoc] at hx2
                        rcases List.mem_append.1 hx2 with hx2 | hx2
                        · exact (HIL.out x2 (List.mem_of_mem_take hx2)).below (HXV.out.trans hxx)
                        · rcases List.mem_append.1 hx2 with hx2 | hx2
                          · rw [List.mem_singleton] at hx2; subst hx2; exact HILP.out.below hxx
                          · exact (HIL.out x2 (List.mem_of_mem_drop hx2)).below (HXV.out.trans hxx)
                      · rw [List.map_append, List.map_append, List.map_take, List.map_drop]
                        exact Orb.ins HORB.out HM.out HAPE.out HLTS.out HGT.out
                      · exact HX1.out.trans (HXV.out.trans (HX9.out.trans (HX11.out.trans hxf)))
                    have HOI := Lib.hid hOI; clear hOI ho ho2 hg hk hz hxf ex EX o0 o4 o6 o7
                    go_wp2_with fail
                    refine NoPanic.normal ?_
                    go_wp2_with fail
                    go_roundw
                    case rel => exact ⟨k + 1, by go_num, by omega, HOI.out⟩
                    case measure => simp [intOf]; omega
                · have hcj : ¬ cv = nd := fun e => hcv e.symm
                  have hxl : ((ds.take nd).flatMap (encO w h n)).length = nd * 3 := by rw [encO_len, List.length_take, ← HND.out]; omega
                  have hrl : ((ds.drop nd).flatMap (encO w h n)).length = (0) * 3 := by rw [encO_len, List.length_drop, ← HND.out] <;> omega
                  have hsp : ((ds.take nd).flatMap (encO w h n)) ++ ((ds.drop nd).flatMap (encO w h n)) = (ds.flatMap (encO w h n)) := encO_split _
                  have HXL := Lib.hid hxl; have HRL := Lib.hid hrl; have HSP := Lib.hid hsp; clear hxl hrl hsp
                  go_upto_region 10 with fail
                  refine wp_region_noPanic ?_
                  refine PE.wp_pool (E := Ea wc.heap.size nd (encO w h n ⟨AP, ap⟩)) Ea.grow 11 [some 47, some 48, some 49, some 50, some 51, some 52, some 53, some 54, some 55, some 56, some 57] [] [] [(fun (v : Value) (X : World) => ∃ g', v = .slice (some ⟨g', 0, none⟩) 0 0 ∧ X.ownsRow wc.heap.size 24 3 (.slice (some ⟨g', 0, none⟩) 0 0) 0 []), (fun (v : Value) (_ : World) => v = .slice (some ⟨gf, 0, none⟩) nd cv), (fun (v : Value) (_ : World) => v = .int .i64 nd), (fun (v : Value) (_ : World) => v = .slice (some ⟨gf, 0, none⟩) nd cv), (fun (v : Value) (X : World) => ∃ A' c', v = .slice A' nd c' ∧ X.ownsRow wc.heap.size 24 3 (.slice A' nd c') nd ((ds.take nd).flatMap (encO w h n))), (fun (v : Value) (_ : World) => v = .agg #[.int .i64 w, .int .i64 h, .slice AP n n]), (fun (v : Value) (X : World) => ∃ g', v = .slice (some ⟨g', 0, none⟩) 1 1 ∧ X.ownsRow wc.heap.size 24 3 (.slice (some ⟨g', 0, none⟩) 1 1) 1 (encO w h n ⟨AP, ap⟩)), (fun (v : Value) (X : World) => ∃ A' c', v = .slice A' (nd + 1) c' ∧ X.ownsRow wc.heap.size 24 3 (.slice A' (nd + 1) c') (nd + 1) (((ds.take nd).flatMap (encO w h n)) ++ (encO w h n ⟨AP, ap⟩))), (fun (v : Value) (_ : World) => v = .slice (some ⟨gf, 0, none⟩) nd cv), (fun (v : Value) (_ : World) => v = .int .i64 nd), (fun (v : Value) (_ : World) => v = .slice (some ⟨gf, nd * 3, none⟩) 0 (cv - nd))] [noF, noF, noF, noF, noF, noF, noF, noF, noF, noF, noF] (by kernel_rfl) (by kernel_rfl) (by kernel_rfl) (by kernel_rfl) (by kernel_rfl) (by kernel_rfl) (by kernel_rfl) (by kernel_rfl) (fun _ _ _ _ h => h) ⟨(fun _ _ _ e ⟨g', h1, h2⟩ => ⟨g', h1, e.row h2 (fun i hi => absurd hi (by omega))⟩), PE.Stays.pure _, PE.Stays.pure _, PE.Stays.pure _, (fun _ _ _ e ⟨A', c', h1, h2⟩ => ⟨A', c', h1, e.row h2 (fun i hi => .inl hi)⟩), PE.Stays.pure _, (fun _ _ _ e ⟨g', h1, h2⟩ => ⟨g', h1, e.row h2 (fun i hi => mk_one hi)⟩), (fun _ _ _ e ⟨A', c', h1, h2⟩ => ⟨A', c', h1, e.row h2 (fun i hi => mk_two HXL.out hi)⟩), PE.Stays.pure _, PE.Stays.pure _, PE.Stays.pure _, True.intro⟩ ?steps ?done
                  case steps =>
                    simp only [List.take_succ_cons, List.take_zero]
                    refine PE.Steps.cons (fun (v : Value) (X : World) => ∃ g', v = .slice (some ⟨g', 0, none⟩) 0 0 ∧ X.ownsRow wc.heap.size 24 3 (.slice (some ⟨g', 0, none⟩) 0 0) 0 []) [] rfl (by kernel_rfl) rfl (by kernel_rfl) (fun y X ex0 hf K hK => ?_) ?_
                    · clear hf
                      have ex := Ea.trans (Ea.drw _) ex0
                      refine Box.mk ?_
                      simp only [fill, Act.put, Nat.reduceAdd, List.setIfInBounds_toArray, List.set_cons_zero, List.set_cons_succ] at hK ⊢
                      have hB : wc.heap.size ≤ X.heap.size := ex.size
                      go_simp
                      exact hK.out _ _ ⟨X.heap.size, rfl, ⟨rfl, .inr ⟨X.heap.size, 0, #[], rfl, hB, heap_alloc_new X _, Nat.le_refl _, by decide, rfl, rfl⟩⟩⟩ (Ea.of hB (Ext.alc (Ext.refl X) (.cells #[] 24))) (fun b hb => by cases hb)
                    refine PE.Steps.cons (fun (v : Value) (_ : World) => v = .slice (some ⟨gf, 0, none⟩) nd cv) [] rfl (by kernel_rfl) rfl (by kernel_rfl) (fun y X ex0 hf K hK => ?_) ?_
                    · clear hf
                      have ex := Ea.trans (Ea.drw _) ex0
                      refine Box.mk ?_
                      simp only [fill, Act.put, Nat.reduceAdd, List.setIfInBounds_toArray, List.set_cons_zero, List.set_cons_succ] at hK ⊢
                      go_simp
                      exact hK.out _ _ rfl (Ea.refl _) (fun b hb => by cases hb)
                    refine PE.Steps.cons (fun (v : Value) (_ : World) => v = .int .i64 nd) [] rfl (by kernel_rfl) rfl (by kernel_rfl) (fun y X ex0 hf K hK => ?_) ?_
                    · clear hf
                      have ex := Ea.trans (Ea.drw _) ex0
                      refine Box.mk ?_
                      simp only [fill, Act.put, Nat.reduceAdd, List.setIfInBounds_toArray, List.set_cons_zero, List.set_cons_succ] at hK ⊢
                      go_simp
                      exact hK.out _ _ rfl (Ea.refl _) (fun b hb => by cases hb)
                    refine PE.Steps.cons (fun (v : Value) (_ : World) => v = .slice (some ⟨gf, 0, none⟩) nd cv) [1, 2] rfl (by kernel_rfl) rfl (by kernel_rfl) (fun y X ex0 hf K hK => ?_) ?_
                    · have h1 : ((fun (v : Value) (_ : World) => v = .slice (some ⟨gf, 0, none⟩) nd cv)) (y 1) X := hf.1
                      have h2 : ((fun (v : Value) (_ : World) => v = .int .i64 nd)) (y 2) X := hf.2.1
                      clear hf
                      have ex := Ea.trans (Ea.drw _) ex0
                      refine Box.mk ?_
                      simp only [fill, Act.put, Nat.reduceAdd, List.setIfInBounds_toArray, List.set_cons_zero, List.set_cons_succ, h1, h2] at hK ⊢
                      go_simp
                      exact hK.out _ _ rfl (Ea.refl _) (fun b hb => by cases hb)
                    refine PE.Steps.cons (fun (v : Value) (X : World) => ∃ A' c', v = .slice A' nd c' ∧ X.ownsRow wc.heap.size 24 3 (.slice A' nd c') nd ((ds.take nd).flatMap (encO w h n))) [0, 3] rfl (by kernel_rfl) rfl (by kernel_rfl) (fun y X ex0 hf K hK => ?_) ?_
                    · have hh0 : ((fun (v : Value) (X : World) => ∃ g', v = .slice (some ⟨g', 0, none⟩) 0 0 ∧ X.ownsRow wc.heap.size 24 3 (.slice (some ⟨g', 0, none⟩) 0 0) 0 [])) (y 0) X := hf.1
                      refine Exists.elim hh0 (fun g0 hx0_0 => ?_)
                      have h0 := hx0_0.1
                      have o0 := hx0_0.2
                      clear hh0 hx0_0
                      have h3 : ((fun (v : Value) (_ : World) => v = .slice (some ⟨gf, 0, none⟩) nd cv)) (y 3) X := hf.2.1
                      clear hf
                      have ex := Ea.trans (Ea.drw _) ex0
                      refine Box.mk ?_
                      simp only [fill, Act.put, Nat.reduceAdd, List.setIfInBounds_toArray, List.set_cons_zero, List.set_cons_succ, h0, h3] at hK ⊢
                      have hB : wc.heap.size ≤ X.heap.size := ex.size
                      rw [if_pos (by rfl)]
                      refine wp_append_st (.tmp 47) (.tmp 50) rfl wc.heap.size (.slice (some ⟨g0, 0, none⟩) 0 0) 0 [] rfl o0 (some ⟨gf, 0, none⟩) nd cv ((ds.take nd).flatMap (encO w h n)) rfl HXL.out ?_ ?_ (encO_one w h n _) (by omega) hB ?_
                      · exact fun ad had i u hu => by injection had with had; subst had; rw [addA, Nat.zero_add]; exact keepAt ex.1 hgf2 (HCELLS2.out i u (by rw [← HSP.out, List.getElem?_append_left (List.getElem?_eq_some_iff.1 hu).1]; exact hu))
                      · exact fun e => by cases e
                      · intro A' c' w' ho hg hk hz
                        simp only [Nat.zero_add, List.nil_append] at ho ⊢
                        exact hK.out _ _ ⟨A', c', rfl, ho⟩ (Ea.app hB o0 hg hk (.inr fun g cap e => by injection e with _ _ e; exact e.symm)) (fun b hb => by cases hb)
                    refine PE.Steps.cons (fun (v : Value) (_ : World) => v = .agg #[.int .i64 w, .int .i64 h, .slice AP n n]) [] rfl (by kernel_rfl) rfl (by kernel_rfl) (fun y X ex0 hf K hK => ?_) ?_
                    · clear hf
                      have ex := Ea.trans (Ea.drw _) ex0
                      refine Box.mk ?_
                      simp only [fill, Act.put, Nat.reduceAdd, List.setIfInBounds_toArray, List.set_cons_zero, List.set_cons_succ] at hK ⊢
                      obtain ⟨p0, p1, p2⟩ := HQ9.out.ext hs9 (HX11.out.trans ex.1)
                      go_simp
                      exact hK.out _ _ rfl (Ea.refl _) (fun b hb => by cases hb)
                    refine PE.Steps.cons (fun (v : Value) (X : World) => ∃ g', v = .slice (some ⟨g', 0, none⟩) 1 1 ∧ X.ownsRow wc.heap.size 24 3 (.slice (some ⟨g', 0, none⟩) 1 1) 1 (encO w h n ⟨AP, ap⟩)) [5] rfl (by kernel_rfl) rfl (by kernel_rfl) (fun y X ex0 hf K hK => ?_) ?_
                    · have h5 : ((fun (v : Value) (_ : World) => v = .agg #[.int .i64 w, .int .i64 h, .slice AP n n])) (y 5) X := hf.1
                      clear hf
                      have ex := Ea.trans (Ea.drw _) ex0
                      refine Box.mk ?_
                      simp only [fill, Act.put, Nat.reduceAdd, List.setIfInBounds_toArray, List.set_cons_zero, List.set_cons_succ, h5] at hK ⊢
                      have hB : wc.heap.size ≤ X.heap.size := ex.size
                      go_simp
                      exact hK.out _ _ ⟨X.heap.size, rfl, ⟨rfl, .inr ⟨X.heap.size, 1, _, rfl, hB, heap_alloc_new X _, Nat.le_refl _, by decide, rfl, rfl⟩⟩⟩ (Ea.of hB (Ext.alc (Ext.refl X) _)) (fun b hb => by cases hb)
                    refine PE.Steps.cons (fun (v : Value) (X : World) => ∃ A' c', v = .slice A' (nd + 1) c' ∧ X.ownsRow wc.heap.size 24 3 (.slice A' (nd + 1) c') (nd + 1) (((ds.take nd).flatMap (encO w h n)) ++ (encO w h n ⟨AP, ap⟩))) [4, 6] rfl (by kernel_rfl) rfl (by kernel_rfl) (fun y X ex0 hf K hK => ?_) ?_
                    · have hh4 : ((fun (v : Value) (X : World) => ∃ A' c', v = .slice A' nd c' ∧ X.ownsRow wc.heap.size 24 3 (.slice A' nd c') nd ((ds.take nd).flatMap (encO w h n)))) (y 4) X := hf.1
                      refine Exists.elim hh4 (fun A4 hx4_0 => ?_)
                      refine Exists.elim hx4_0 (fun c4 hx4_1 => ?_)
                      have h4 := hx4_1.1
                      have o4 := hx4_1.2
                      clear hh4 hx4_0 hx4_1
                      have hh6 : ((fun (v : Value) (X : World) => ∃ g', v = .slice (some ⟨g', 0, none⟩) 1 1 ∧ X.ownsRow wc.heap.size 24 3 (.slice (some ⟨g', 0, none⟩) 1 1) 1 (encO w h n ⟨AP, ap⟩))) (y 6) X := hf.2.1
                      refine Exists.elim hh6 (fun g6 hx6_0 => ?_)
                      have h6 := hx6_0.1
                      have o6 := hx6_0.2
                      clear hh6 hx6_0
                      clear hf
                      have ex := Ea.trans (Ea.drw _) ex0
                      refine Box.mk ?_
                      simp only [fill, Act.put, Nat.reduceAdd, List.setIfInBounds_toArray, List.set_cons_zero, List.set_cons_succ, h4, h6] at hK ⊢
                      have hB : wc.heap.size ≤ X.heap.size := ex.size
                      rw [if_pos (by rfl)]
                      refine wp_append_st (.tmp 51) (.tmp 53) rfl wc.heap.size (.slice A4 nd c4) nd ((ds.take nd).flatMap (encO w h n)) rfl o4 (some ⟨g6, 0, none⟩) 1 1 (encO w h n ⟨AP, ap⟩) rfl rfl ?_ (fun e => by cases e) ?_ (by omega) hB ?_
                      · exact fun ad had i u hu => by
                          injection had with had; subst had
                          exact o6.cells (g := g6) rfl i u hu
                      · intro u hu; simp [encO] at hu; rcases hu with rfl | rfl | rfl <;> rfl
                      · intro A' c' w' ho hg hk hz
                        exact hK.out _ _ ⟨A', c', rfl, ho⟩ (Ea.app hB o4 hg hk (.inl ⟨rfl, rfl⟩)) (fun b hb => by cases hb)
                    refine PE.Steps.cons (fun (v : Value) (_ : World) => v = .slice (some ⟨gf, 0, none⟩) nd cv) [] rfl (by kernel_rfl) rfl (by kernel_rfl) (fun y X ex0 hf K hK => ?_) ?_
                    · clear hf
                      have ex := Ea.trans (Ea.drw _) ex0
                      refine Box.mk ?_
                      simp only [fill, Act.put, Nat.reduceAdd, List.setIfInBounds_toArray, List.set_cons_zero, List.set_cons_succ] at hK ⊢
                      go_simp
                      exact hK.out _ _ rfl (Ea.refl _) (fun b hb => by cases hb)
                    refine PE.Steps.cons (fun (v : Value) (_ : World) => v = .int .i64 nd) [] rfl (by kernel_rfl) rfl (by kernel_rfl) (fun y X ex0 hf K hK => ?_) ?_
                    · clear hf
                      have ex := Ea.trans (Ea.drw _) ex0
                      refine Box.mk ?_
                      simp only [fill, Act.put, Nat.reduceAdd, List.setIfInBounds_toArray, List.set_cons_zero, List.set_cons_succ] at hK ⊢
                      go_simp
                      exact hK.out _ _ rfl (Ea.refl _) (fun b hb => by cases hb)
                    refine PE.Steps.cons (fun (v : Value) (_ : World) => v = .slice (some ⟨gf, nd * 3, none⟩) 0 (cv - nd)) [8, 9] rfl (by kernel_rfl) rfl (by kernel_rfl) (fun y X ex0 hf K hK => ?_) ?_
                    · have h8 : ((fun (v : Value) (_ : World) => v = .slice (some ⟨gf, 0, none⟩) nd cv)) (y 8) X := hf.1
                      have h9 : ((fun (v : Value) (_ : World) => v = .int .i64 nd)) (y 9) X := hf.2.1
                      clear hf
                      have ex := Ea.trans (Ea.drw _) ex0
                      refine Box.mk ?_
                      simp only [fill, Act.put, Nat.reduceAdd, List.setIfInBounds_toArray, List.set_cons_zero, List.set_cons_succ, h8, h9] at hK ⊢
                      go_simp
                      exact hK.out _ _ rfl (Ea.refl _) (fun b hb => by cases hb)
                    exact PE.Steps.nil
                  case done =>
                    intro y X ex hf hlt hsep
                    have hh0 : ((fun (v : Value) (X : World) => ∃ g', v = .slice (some ⟨g', 0, none⟩) 0 0 ∧ X.ownsRow wc.heap.size 24 3 (.slice (some ⟨g', 0, none⟩) 0 0) 0 [])) (y 0) X := hf.1
                    refine Exists.elim hh0 (fun g0 hx0_0 => ?_)
                    have h0 := hx0_0.1
                    have o0 := hx0_0.2
                    clear hh0 hx0_0
                    have h1 : ((fun (v : Value) (_ : World) => v = .slice (some ⟨gf, 0, none⟩) nd cv)) (y 1) X := hf.2.1
                    have h2 : ((fun (v : Value) (_ : World) => v = .int .i64 nd)) (y 2) X := hf.2.2.1
                    have h3 : ((fun (v : Value) (_ : World) => v = .slice (some ⟨gf, 0, none⟩) nd cv)) (y 3) X := hf.2.2.2.1
                    have hh4 : ((fun (v : Value) (X : World) => ∃ A' c', v = .slice A' nd c' ∧ X.ownsRow wc.heap.size 24 3 (.slice A' nd c') nd ((ds.take nd).flatMap (encO w h n)))) (y 4) X := hf.2.2.2.2.1
                    refine Exists.elim hh4 (fun A4 hx4_0 => ?_)
                    refine Exists.elim hx4_0 (fun c4 hx4_1 => ?_)
                    have h4 := hx4_1.1
                    have o4 := hx4_1.2
                    clear hh4 hx4_0 hx4_1
                    have h5 : ((fun (v : Value) (_ : World) => v = .agg #[.int .i64 w, .int .i64 h, .slice AP n n])) (y 5) X := hf.2.2.2.2.2.1
                    have hh6 : ((fun (v : Value) (X : World) => ∃ g', v = .slice (some ⟨g', 0, none⟩) 1 1 ∧ X.ownsRow wc.heap.size 24 3 (.slice (some ⟨g', 0, none⟩) 1 1) 1 (encO w h n ⟨AP, ap⟩))) (y 6) X := hf.2.2.2.2.2.2.1
                    refine Exists.elim hh6 (fun g6 hx6_0 => ?_)
                    have h6 := hx6_0.1
                    have o6 := hx6_0.2
                    clear hh6 hx6_0
                    have hh7 : ((fun (v : Value) (X : World) => ∃ A' c', v = .slice A' (nd + 1) c' ∧ X.ownsRow wc.heap.size 24 3 (.slice A' (nd + 1) c') (nd + 1) (((ds.take nd).flatMap (encO w h n)) ++ (encO w h n ⟨AP, ap⟩)))) (y 7) X := hf.2.2.2.2.2.2.2.1
                    refine Exists.elim hh7 (fun A7 hx7_0 => ?_)
                    refine Exists.elim hx7_0 (fun c7 hx7_1 => ?_)
                    have h7 := hx7_1.1
                    have o7 := hx7_1.2
                    clear hh7 hx7_0 hx7_1
                    have h8 : ((fun (v : Value) (_ : World) => v = .slice (some ⟨gf, 0, none⟩) nd cv)) (y 8) X := hf.2.2.2.2.2.2.2.2.1
                    have h9 : ((fun (v : Value) (_ : World) => v = .int .i64 nd)) (y 9) X := hf.2.2.2.2.2.2.2.2.2.1
                    have h10 : ((fun (v : Value) (_ : World) => v = .slice (some ⟨gf, nd * 3, none⟩) 0 (cv - nd))) (y 10) X := hf.2.2.2.2.2.2.2.2.2.2.1
                    clear hf
                    clear hsep hlt
                    refine Box.mk ?_
                    simp only [List.drop_succ_cons, List.drop_zero, fill, Act.put, Nat.reduceAdd, List.setIfInBounds_toArray, List.set_cons_zero, List.set_cons_succ, h0, h1, h2, h3, h4, h5, h6, h7, h8, h9, h10]
                    clear h0 h1 h2 h3 h4 h5 h6 h7 h8 h9 h10
                    have hB : wc.heap.size ≤ X.heap.size := ex.size
                    have EX := Lib.hid ex
                    refine wpList_plain rfl fun K hK => ?_
                    refine wp_append_st (.tmp 54) (.tmp 57) rfl wc.heap.size (.slice A7 (nd + 1) c7) (nd + 1) (((ds.take nd).flatMap (encO w h n)) ++ (encO w h n ⟨AP, ap⟩)) rfl o7 (some ⟨gf, nd * 3, none⟩) (0) (cv - nd) ((ds.drop nd).flatMap (encO w h n)) rfl HRL.out ?_ ?_ (encO_one w h n _) (by omega) hB ?_
                    · exact fun ad had i u hu => by have h9 := (List.getElem?_eq_some_iff.1 hu).1; rw [HRL.out] at h9; omega
                    · exact fun _ => rfl
                    intro A' c' w' ho hg hk hz
                    have hxf : Ext wc w' := Below.grown ex.1 hg hB (fun k hk => (o7.lt k hk).1)
                    have hlen : nd + 1 + (0) = nd + 1 := by omega
                    rw [hlen] at ho ⊢
                    refine hK _ _ ?_
                    have ho2 := own_base ho (by omega : W1.heap.size ≤ wc.heap.size)
                    have hOI : OI W1 w h n l g (k + 1) (.slice A' (nd + 1) c') w' := by
                      refine ⟨A', nd + 1, c', ds.take nd ++ [⟨AP, ap⟩] ++ ds.drop nd, rfl, ?_, by omega, ?_, ?_, ?_, ?_⟩
                      · rw [List.length_append, List.length_append, List.length_take, List.length_drop, ← HND.out]; simp <;> omega
                      · rw [List.flatMap_append, List.flatMap_append]; simpa using ho2
                      · intro x2 hx2
                        have hxx : Ext W8 w' := HX9.out.trans (HX11.out.trans hxf)
                        rw [List.append_assoc] at hx2
                        rcases List.mem_append.1 hx2 with hx2 | hx2
                        · exact (HIL.out x2 (List.mem_of_mem_take hx2)).below (HXV.out.trans hxx)
                        · rcases List.mem_append.1 hx2 with hx2 | hx2
                          · rw [List.mem_singleton] at hx2; subst hx2; exact HILP.out.below hxx
                          · exact (HIL.out x2 (List.mem_of_mem_drop hx2)).below (HXV.out.trans hxx)
                      · rw [List.map_append, List.map_append, List.map_take, List.map_drop]
                        exact Orb.ins HORB.out HM.out HAPE.out HLTS.out HGT.out
                      · exact HX1.out.trans (HXV.out.trans (HX9.out.trans (HX11.out.trans hxf)))
                    have HOI := Lib.hid hOI; clear hOI ho ho2 hg hk hz hxf ex EX o0 o4 o6 o7
                    go_wp2_with fail
                    refine NoPanic.normal ?_
                    go_wp2_with fail
                    go_roundw
                    case rel => exact ⟨k + 1, by go_num, by omega, HOI.out⟩
                    case measure => simp [intOf]; omega
    · obtain rfl : k = ng := by omega
      have hoi2 := hoi
      obtain ⟨Av, nd, cv, ds, rfl, hnd, hndk, hown, hil, horb, hx1⟩ := hoi2
      have HOI := Lib.hid hoi; have HF := Lib.hid (BB.out.trans hx1)
      clear hoi hnd hndk hown hil horb hx1
      go_wp2
      go_ret
      exact ⟨W1, _, rfl, by omega, HOI.out, HF.out⟩
end Go.Proofs.Ytgjanbgehbpciaa
