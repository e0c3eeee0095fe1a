/- The law WaxWeb. -/
import Derived.Test.YtilcbbdmenknfaaDc
namespace Go.Proofs.Ytilcbbdmenknfaa
open Go.RowKit

set_option maxHeartbeats 4000000 in
set_option maxRecDepth 100000 in
theorem waxWeb_walk (N : Int) (a : Ar) (AV : Value) (W : World) (hA : Al W AV a) :
    Calls Try.prog 9 #[.agg #[.int .i64 N, AV]] W fun e W' => e = .returned (.bool true) ∧ Ext W W' := by
  have HA := Lib.hid hA
  obtain ⟨z, er, hcase, hcut⟩ := cut_fix N 0 (IntKind.i64.wrap (N - 1)) (a.cut 162)
  have HCUT := Lib.hid hcut; have HC := Lib.hid hcase; clear hcut hcase
  obtain ⟨A, c, rfl, hac, hcm, -⟩ := hA
  obtain ⟨i0, hi, hz0, hz1, hz2⟩ := info_parts info65
  go_enter Try.func9, Try.ntmps9
  go_upto_region 1 with fail
  have bb := al1 W (.cells #[.int .i64 N, .slice A a.n c] 24)
  have m0 : (W.alloc (.cells #[.int .i64 N, .slice A a.n c] 24)).cell? ⟨W.heap.size, 0, none⟩ = some (.int .i64 N) := by rw [World.cell?_alloc_new]; rfl
  have m1 : (W.alloc (.cells #[.int .i64 N, .slice A a.n c] 24)).cell? ⟨W.heap.size, 1, none⟩ = some (.slice A a.n c) := by rw [World.cell?_alloc_new]; rfl
  have zz : W.heap.size < (W.alloc (.cells #[.int .i64 N, .slice A a.n c] 24)).heap.size := by simp
  generalize W.alloc (.cells #[.int .i64 N, .slice A a.n c] 24) = W1 at *
  have HB : Hid (Ext W W1) := Lib.hid bb
  have HM := Lib.hid (And.intro m0 m1)
  clear bb
  refine wp_region_noPanic ?_
  refine wp_pool 9 [some 10, some 11, some 12, some 13, some 14, some 15, some 9, some 16, some 17] [(8, 6)] [] [(fun (v : Value) (_ : World) => v = .agg #[.int .i64 N, .slice A a.n c]), (fun (v : Value) (X : World) => ∃ o, v = .agg #[.int .i64 N, o] ∧ Al X o (a.cut 162)), (fun (v : Value) (_ : World) => v = .pointer (some ⟨W.heap.size, 0, none⟩)), (fun (v : Value) (_ : World) => v = .int .i64 N), (fun (v : Value) (_ : World) => v = .int .i64 (IntKind.i64.wrap (N - 1))), (fun (v : Value) (_ : World) => v = .tuple #[.int .i64 z, .int .i64 er]), (fun (v : Value) (_ : World) => v = .tuple #[.int .i64 z, .int .i64 er]), (fun (v : Value) (_ : World) => v = .int .i64 z), (fun (v : Value) (_ : World) => v = .int .i64 er)] [noF, noF, noF, noF, noF, noF, noF, noF, noF] (by kernel_rfl) (by kernel_rfl) (by kernel_rfl) (by kernel_rfl) (by kernel_rfl) (by kernel_rfl) (by kernel_rfl) (by kernel_rfl) (fun _ _ _ _ h => h) ⟨Stays.pure _, (fun _ _ _ e ⟨o, r1, r2⟩ => ⟨o, r1, r2.ext e⟩), Stays.pure _, Stays.pure _, Stays.pure _, Stays.pure _, Stays.pure _, Stays.pure _, Stays.pure _, True.intro⟩ ?steps ?done
  case steps =>
    simp only [List.take_succ_cons, List.take_zero]
    refine Steps.cons (fun (v : Value) (_ : World) => v = .agg #[.int .i64 N, .slice A a.n c]) [] rfl (by kernel_rfl) rfl (by kernel_rfl) (fun y X ex0 hf K hK => ?_) ?_
    · clear hf
      have ex := (Ext.drw (Ext.refl _)).trans ex0
      refine Box.mk ?_
      simp only [fill, Act.put, Nat.reduceAdd, List.setIfInBounds_toArray, List.set_cons_zero, List.set_cons_succ] at hK ⊢
      have k0 := keepAt ex zz m0
      have k1 := keepAt ex zz m1
      go_simp
      exact hK.out _ _ rfl (Ext.refl _) (fun b hb => by cases hb)
    refine Steps.cons (fun (v : Value) (X : World) => ∃ o, v = .agg #[.int .i64 N, o] ∧ Al X o (a.cut 162)) [0] rfl (by kernel_rfl) rfl (by kernel_rfl) (fun y X ex0 hf K hK => ?_) ?_
    · have h0 : ((fun (v : Value) (_ : World) => v = .agg #[.int .i64 N, .slice A a.n c])) (y 0) X := hf.1
      clear hf
      have ex := (Ext.drw (Ext.refl _)).trans ex0
      refine Box.mk ?_
      simp only [fill, Act.put, Nat.reduceAdd, List.setIfInBounds_toArray, List.set_cons_zero, List.set_cons_succ, h0] at hK ⊢
      go_simp
      refine (net_any N a _ _ (HA.out.ext (HB.out.trans ex))).mono ?_
      rintro e V ⟨o, rfl, hal, -, hb⟩
      try go_wp2_with fail
      exact hK.out _ _ ⟨_, rfl, hal⟩ hb (fun b hb => by cases hb)
    refine Steps.cons (fun (v : Value) (_ : World) => v = .pointer (some ⟨W.heap.size, 0, none⟩)) [] rfl (by kernel_rfl) rfl (by kernel_rfl) (fun y X ex0 hf K hK => ?_) ?_
    · clear hf
      have ex := (Ext.drw (Ext.refl _)).trans ex0
      refine Box.mk ?_
      simp only [fill, Act.put, Nat.reduceAdd, List.setIfInBounds_toArray, List.set_cons_zero, List.set_cons_succ] at hK ⊢
      go_simp
      exact hK.out _ _ rfl (Ext.refl _) (fun b hb => by cases hb)
    refine Steps.cons (fun (v : Value) (_ : World) => v = .int .i64 N) [2] rfl (by kernel_rfl) rfl (by kernel_rfl) (fun y X ex0 hf K hK => ?_) ?_
    · have h2 : ((fun (v : Value) (_ : World) => v = .pointer (some ⟨W.heap.size, 0, none⟩))) (y 2) X := hf.1
      clear hf
      have ex := (Ext.drw (Ext.refl _)).trans ex0
      refine Box.mk ?_
      simp only [fill, Act.put, Nat.reduceAdd, List.setIfInBounds_toArray, List.set_cons_zero, List.set_cons_succ, h2] at hK ⊢
      have k0 := keepAt ex zz m0
      go_simp
      exact hK.out _ _ rfl (Ext.refl _) (fun b hb => by cases hb)
    refine Steps.cons (fun (v : Value) (_ : World) => v = .int .i64 (IntKind.i64.wrap (N - 1))) [3] rfl (by kernel_rfl) rfl (by kernel_rfl) (fun y X ex0 hf K hK => ?_) ?_
    · have h3 : ((fun (v : Value) (_ : World) => v = .int .i64 N)) (y 3) X := hf.1
      clear hf
      have ex := (Ext.drw (Ext.refl _)).trans ex0
      refine Box.mk ?_
      simp only [fill, Act.put, Nat.reduceAdd, List.setIfInBounds_toArray, List.set_cons_zero, List.set_cons_succ, h3] at hK ⊢
      go_simp
      exact hK.out _ _ rfl (Ext.refl _) (fun b hb => by cases hb)
    refine Steps.cons (fun (v : Value) (_ : World) => v = .tuple #[.int .i64 z, .int .i64 er]) [1, 4] rfl (by kernel_rfl) rfl (by kernel_rfl) (fun y X ex0 hf K hK => ?_) ?_
    · obtain ⟨o1, h1, q1⟩ : ((fun (v : Value) (X : World) => ∃ o, v = .agg #[.int .i64 N, o] ∧ Al X o (a.cut 162))) (y 1) X := hf.1
      have h4 : ((fun (v : Value) (_ : World) => v = .int .i64 (IntKind.i64.wrap (N - 1)))) (y 4) X := hf.2.1
      clear hf
      have ex := (Ext.drw (Ext.refl _)).trans ex0
      refine Box.mk ?_
      simp only [fill, Act.put, Nat.reduceAdd, List.setIfInBounds_toArray, List.set_cons_zero, List.set_cons_succ, h1, h4] at hK ⊢
      go_simp
      refine (HCUT.out _ _ q1).mono ?_
      rintro e V ⟨rfl, hb⟩
      try go_wp2_with fail
      exact hK.out _ _ rfl hb (fun b hb => by cases hb)
    refine Steps.cons (fun (v : Value) (_ : World) => v = .tuple #[.int .i64 z, .int .i64 er]) [5] rfl (by kernel_rfl) rfl (by kernel_rfl) (fun y X ex0 hf K hK => ?_) ?_
    · have h5 : ((fun (v : Value) (_ : World) => v = .tuple #[.int .i64 z, .int .i64 er])) (y 5) X := hf.1
      clear hf
      have ex := (Ext.drw (Ext.refl _)).trans ex0
      refine Box.mk ?_
      simp only [fill, Act.put, Nat.reduceAdd, List.setIfInBounds_toArray, List.set_cons_zero, List.set_cons_succ, h5] at hK ⊢
      go_simp
      exact hK.out _ _ rfl (Ext.refl _) (fun b hb => by cases hb)
    refine Steps.cons (fun (v : Value) (_ : World) => v = .int .i64 z) [6] rfl (by kernel_rfl) rfl (by kernel_rfl) (fun y X ex0 hf K hK => ?_) ?_
    · have h6 : ((fun (v : Value) (_ : World) => v = .tuple #[.int .i64 z, .int .i64 er])) (y 6) X := hf.1
      clear hf
      have ex := (Ext.drw (Ext.refl _)).trans ex0
      refine Box.mk ?_
      simp only [fill, Act.put, Nat.reduceAdd, List.setIfInBounds_toArray, List.set_cons_zero, List.set_cons_succ, h6] at hK ⊢
      go_simp
      exact hK.out _ _ rfl (Ext.refl _) (fun b hb => by cases hb)
    refine Steps.flw (fun (v : Value) (_ : World) => v = .int .i64 er) [6] rfl (by kernel_rfl) (by kernel_rfl) (fun _ => rfl) (fun y X ex0 hf => ?_) ?_
    · have h6 : ((fun (v : Value) (_ : World) => v = .tuple #[.int .i64 z, .int .i64 er])) (y 6) X := hf.1
      clear hf
      simp only [fill, Act.put, Nat.reduceAdd, List.setIfInBounds_toArray, List.set_cons_zero, List.set_cons_succ, h6]
      exact ⟨_, ⟨by rfl, fun w => by go_simp⟩, rfl⟩
    exact Steps.nil
  case done =>
    intro y X ex hf hlt hsep
    have h0 : ((fun (v : Value) (_ : World) => v = .agg #[.int .i64 N, .slice A a.n c])) (y 0) X := hf.1
    obtain ⟨o1, h1, q1⟩ : ((fun (v : Value) (X : World) => ∃ o, v = .agg #[.int .i64 N, o] ∧ Al X o (a.cut 162))) (y 1) X := hf.2.1
    have h2 : ((fun (v : Value) (_ : World) => v = .pointer (some ⟨W.heap.size, 0, none⟩))) (y 2) X := hf.2.2.1
    have h3 : ((fun (v : Value) (_ : World) => v = .int .i64 N)) (y 3) X := hf.2.2.2.1
    have h4 : ((fun (v : Value) (_ : World) => v = .int .i64 (IntKind.i64.wrap (N - 1)))) (y 4) X := hf.2.2.2.2.1
    have h5 : ((fun (v : Value) (_ : World) => v = .tuple #[.int .i64 z, .int .i64 er])) (y 5) X := hf.2.2.2.2.2.1
    have h6 : ((fun (v : Value) (_ : World) => v = .tuple #[.int .i64 z, .int .i64 er])) (y 6) X := hf.2.2.2.2.2.2.1
    have h7 : ((fun (v : Value) (_ : World) => v = .int .i64 z)) (y 7) X := hf.2.2.2.2.2.2.2.1
    have h8 : ((fun (v : Value) (_ : World) => v = .int .i64 er)) (y 8) X := hf.2.2.2.2.2.2.2.2.1
    clear hf
    clear hsep hlt
    refine Box.mk ?_
    simp only [List.drop_succ_cons, List.drop_zero, fill, Act.put, Nat.reduceAdd, List.setIfInBounds_toArray, List.set_cons_zero, List.set_cons_succ, h0, h1, h2, h3, h4, h5, h6, h7, h8]
    clear h0 h1 h2 h3 h4 h5 h6 h7 h8
    have EX := Lib.hid ex; clear ex m0 m1
    go_wp2_with fail
    refine NoPanic.normal ?_
    have m1 := keepAt EX.out zz HM.out.2
    have m0 := keepAt EX.out zz HM.out.1
    rcases HC.out with ⟨hk, rfl, rfl⟩ | ⟨hk, rfl, hmc⟩
    · have _h := hk
      clear hk _h HCUT
      go_wp2_with fail
      refine (awake_any _).mono ?_
      rintro e w9 ⟨rfl, hx⟩
      have EF : Hid (Ext W w9) := Lib.hid (HB.out.trans (EX.out.trans hx)); clear hx
      go_wp2
      go_ret
      exact ⟨rfl, EF.out⟩
    · obtain ⟨h1, h2, h3, h4, h5⟩ := cutOk_iff.1 hk
      rw [vNet_cut] at h1
      have hcu := vNet_same h1
      obtain ⟨m, rfl, hm2, hm40, hn, hO⟩ := vNet_ok h1
      have hwr : IntKind.i64.wrap ((m : Int) - 1) = (m : Int) - 1 := IntWalk.i64_in _ (by omega)
      rw [hcu, hwr] at hmc
      have HMC := Lib.hid hmc; have H1 := Lib.hid h1; have HCU := Lib.hid hcu
      clear hk h1 h3 h4 h5 hcu hwr hmc hO HCUT HC
      by_cases hn80 : a.n ≤ 80
      · go_wp2_with fail
        refine (net_any m a _ _ (HA.out.ext (HB.out.trans EX.out))).mono ?_
        rintro e w2 ⟨v, rfl, -, hown, hx⟩
        have hmin : min a.n 162 = a.n := by omega
        rw [hmin] at hown
        have hown2 : w2.ownsRow X.heap.size 65 3 v (a.n + 0) (acl (app a) (a.n + 0)) := by rw [acl_app0]; exact hown
        have hvs : ∃ A n c, v = .slice A n c := by
          obtain ⟨-, ⟨rfl, -⟩ | ⟨g, cap, cur, rfl, -⟩⟩ := hown
          · exact ⟨_, _, _, rfl⟩
          · exact ⟨_, _, _, rfl⟩
        obtain ⟨Av, nv, cv, rfl⟩ := hvs
        have HX : Hid (Ext W1 w2) := Lib.hid (EX.out.trans hx)
        have HOW := Lib.hid hown2
        have lX := hx.size
        have lX1 : W.heap.size < X.heap.size := Nat.lt_of_lt_of_le zz EX.out.size
        replace m1 := keepAt hx lX1 m1
        have lX2 : W.heap.size < w2.heap.size := by omega
        clear hown hown2 hx m0 hmin
        go_wp2_with fail
        clear m1
        go_loopw [40] (fun i wr => ∃ (k : Nat) (v : Value), i = .int .i64 k ∧ k ≤ a.n ∧ Hid (wr.heap[w2.heap.size]? = some (.cells #[.int .i64 m, v] 30 (0, 0)) ∧ wr.ownsRow X.heap.size 65 3 v (a.n + k) (acl (app a) (a.n + k)) ∧ (∀ g, v.ownBlock = some g → g ≠ w2.heap.size) ∧ Ext W1 wr)) (fun i _ => a.n - (intOf i).toNat)
        case atStart =>
          refine ⟨0, .slice Av nv cv, rfl, Nat.zero_le _, Lib.hid ⟨heap_alloc_new w2 _, World.ownsRow.ext HOW.out (Ext.alc (Ext.refl w2) _), fun g hg => ?_, HX.out.alc _⟩⟩
          have := (World.ownsRow.lt HOW.out g hg).2
          omega
        case round =>
          obtain ⟨k, v, rfl, hk, hin⟩ := hrel
          obtain ⟨n0, n1, n2, n3⟩ := two hin.out.1
          have hvs : ∃ A n c, v = .slice A n c := by
            obtain ⟨-, ⟨rfl, -⟩ | ⟨g, cap, cur, rfl, -⟩⟩ := hin.out.2.1
            · exact ⟨_, _, _, rfl⟩
            · exact ⟨_, _, _, rfl⟩
          obtain ⟨Aw, nw, cw, rfl⟩ := hvs
          by_cases hlt : k < a.n
          · obtain ⟨b, off, rfl, d1, d2, d3⟩ := HA.out.arc (HB.out.trans hin.out.2.2.2) hlt
            obtain ⟨fk, hfk⟩ : ∃ x, x = a.f k := ⟨_, rfl⟩
            obtain ⟨tk, htk⟩ : ∃ x, x = a.t k := ⟨_, rfl⟩
            obtain ⟨ck, hck⟩ : ∃ x, x = a.c k := ⟨_, rfl⟩
            rw [← hfk] at d1; rw [← htk] at d2; rw [← hck] at d3
            have HFT := Lib.hid (And.intro hfk (And.intro htk hck))
            clear hfk htk hck
            have hown := World.ownsRow.ext hin.out.2.1 (Ext.alc (Ext.alc (Ext.refl wr) (.cells #[.int .i64 fk, .int .i64 tk, .int .i64 ck] 64)) (.cells #[.int .i64 tk, .int .i64 fk, .int .i64 ck] 65))
            have hfar := hin.out.2.2.1
            have hbse : ∀ g, (Value.slice Aw nw cw).ownBlock = some g → X.heap.size ≤ g ∧ g < wr.heap.size := fun g hg => World.ownsRow.lt hin.out.2.1 g hg
            have lw := hin.out.2.2.2.size
            have lXX := EX.out.size
            have HFAR := Lib.hid (And.intro hfar hbse)
            clear hfar hbse
            go_wp2_with (at_builtin; refine wpList_append_own _ rfl _ _ 28 rfl X.heap.size 65 i0 (.agg #[.int .i64 0, .int .i64 0, .int .i64 0]) 3 24 Try.underlying28 hi hz0 hz1 hz2 rfl (by decide) _ (a.n + k) _ rfl hown ⟨wr.heap.size + 1, 0, none⟩ 1 1 [.int .i64 tk, .int .i64 fk, .int .i64 ck] rfl rfl ?c1 ?c2 ?c3 ?c4 ?c5 ?_)
            case c1 =>
              intro j u hj
              match j, hj with
              | 0, hj => simp at hj; subst hj; simp [Addr.add]
              | 1, hj => simp at hj; subst hj; simp [Addr.add]
              | 2, hj => simp at hj; subst hj; simp [Addr.add]
              | j + 3, hj => simp at hj
            case c2 => intro u hu; simp at hu; rcases hu with rfl | rfl | rfl <;> rfl
            case c3 => unfold maxLen; omega
            case c4 => omega
            case c5 => simp; omega
            intro v' w4 hown' hgrow hnil
            clear hnil
            have hvs : ∃ A n c, v' = .slice A n c := by
              obtain ⟨-, ⟨rfl, -⟩ | ⟨g, cap, cur, rfl, -⟩⟩ := hown'
              · exact ⟨_, _, _, rfl⟩
              · exact ⟨_, _, _, rfl⟩
            obtain ⟨Ax, nx, cx, rfl⟩ := hvs
            have e1 := (hgrow.block w2.heap.size (by simp; omega) (fun e => HFAR.out.1 _ e.symm rfl)).trans ((Below.heap_alloc _ _ _ (by simp; omega)).trans ((Below.heap_alloc _ _ _ n3).trans hin.out.1))
            have hex : Ext W1 w4 := ⟨hgrow.os.trans hin.out.2.2.2.os, hgrow.tape.trans hin.out.2.2.2.tape, hgrow.output.trans hin.out.2.2.2.output, by have h1 := hgrow.size; simp at h1; omega, fun g hg => (hgrow.block g (by simp; omega) (fun e => by have := (HFAR.out.2 g e.symm).1; omega)).trans ((Below.heap_alloc _ _ g (by simp; omega)).trans ((Below.heap_alloc _ _ g (by omega)).trans (hin.out.2.2.2.block g hg)))⟩
            have hfar2 : ∀ g, (Value.slice Ax nx cx).ownBlock = some g → g ≠ w2.heap.size := by
              rintro g hg rfl
              obtain ⟨-, ⟨h, -⟩ | ⟨g', cap, cur, h, -, hh, -⟩⟩ := hown'
              · injection h with h1; rw [h1] at hg; simp [Value.ownBlock] at hg
              · injection h with h1; rw [h1] at hg; simp [Value.ownBlock] at hg
                subst hg
                rw [e1] at hh
                simp at hh
            obtain ⟨r0, r1, r2, r3⟩ := two e1
            have HN := Lib.hid (And.intro e1 (And.intro hown' (And.intro hfar2 hex)))
            clear e1 hown' hfar2 hex hgrow hown n0 n1 n2 d1 d2 d3
            go_wp2
            go_roundw
            case rel =>
              obtain ⟨e1, ho, hf, hex⟩ := HN.out
              refine ⟨k + 1, .slice Ax nx cx, by go_num, by omega, Lib.hid ⟨?_, ?_, hf, hex.sc (by omega)⟩⟩
              · simp [World.setCell, Array.getElem?_modify, e1]
              · rw [show a.n + (k + 1) = a.n + k + 1 by omega, acl_app, ← HFT.out.1, ← HFT.out.2.1, ← HFT.out.2.2]
                obtain ⟨h1, h2 | ⟨g, cap, cur, e, hg, hh, rest⟩⟩ := ho
                · exact ⟨h1, .inl h2⟩
                · refine ⟨h1, .inr ⟨g, cap, cur, e, hg, (Below.heap_setCell _ ⟨w2.heap.size, 1, none⟩ _ g ?_).trans hh, rest⟩⟩
                  exact hf g (by rw [e]; rfl)
            case measure => simp [intOf]; omega
          · obtain rfl : k = a.n := by omega
            have happ : Al wr (.slice Aw nw cw) (app a) := by
              have h := hin.out.2.1
              rw [show a.n + a.n = (app a).n by show a.n + a.n = 2 * a.n; omega] at h
              exact Al.own (a := app a) h
            have HAP := Lib.hid happ
            have EXF : Hid (Ext W wr) := Lib.hid (HB.out.trans hin.out.2.2.2)
            clear happ hin n2
            go_wp2_with fail
            refine (valueS_any m (app a) _ _ HAP.out).mono ?_
            rintro e w5 ⟨v, er, rfl, hx, ⟨hv, -⟩ | ⟨-, rfl, hm⟩⟩
            · rw [app_net H1.out hn80] at hv; cases hv
            · have hvz : v = z := by
                have h9 : ((m : Int) - 1).toNat = (m : Int).toNat - 1 := by omega
                have := HMC.out
                rw [h9] at this
                exact mc_app hm this
              subst hvz
              have EXG := Lib.hid (EXF.out.trans hx)
              clear hx hm n0 n1
              go_wp2_with fail
              refine (awake_any _).mono ?_
              rintro e w9 ⟨rfl, hx⟩
              have EF : Hid (Ext W w9) := Lib.hid (EXG.out.trans hx); clear hx
              go_wp2
              go_ret
              exact ⟨rfl, EF.out⟩
      · have hn81 : (80 : Int) < a.n := by omega
        clear hn80
        go_wp2_with fail
        refine (awake_any _).mono ?_
        rintro e w9 ⟨rfl, hx⟩
        have EF : Hid (Ext W w9) := Lib.hid (HB.out.trans (EX.out.trans hx)); clear hx
        go_wp2
        go_ret
        exact ⟨rfl, EF.out⟩
end Go.Proofs.Ytilcbbdmenknfaa
