/- Walks: cost, isSide, isFlow. -/
import Derived.Test.YtilcbbdmenknfaaFb
namespace Go.Proofs.Ytilcbbdmenknfaa
open Go.RowKit

theorem Vl.at {W X : World} {A : Option Addr} {n m c : Nat} {f : Nat → Value} (h : Vl W (.slice A n c) m f) (e : Ext W X) {k : Nat} (hk : k < m) : ∃ b off, A = some ⟨b, off, none⟩ ∧ b < X.heap.size ∧ X.cell? ⟨b, off + k, none⟩ = some (f k) := by
  obtain ⟨A', c', e', _, _, h3⟩ := h
  injection e' with e1 e2 e3
  subst e1
  obtain ⟨b, off, rfl, hb, hc⟩ := h3 (by omega)
  exact ⟨b, off, rfl, Nat.lt_of_lt_of_le hb e.size, keepAt e hb (hc k hk)⟩

set_option maxHeartbeats 4000000 in
set_option maxRecDepth 100000 in
theorem cost_any (a : Ar) (N : Nat) (s : Nat → Bool) (AV SV : Value) (W : World) (hA : Al W AV a) (hS : Bl W SV N s) (hO : a.Ok N 1000000) (hn : a.n ≤ 1000) :
    Calls Try.prog 57 #[AV, SV] W fun e W' => e = .returned (.int .i64 (a.nw.ct s)) ∧ Ext W W' := by
  rw [ct_tc]
  have hb := fun k (hk : k ≤ a.n) => sm_bd (n := k) (f := tc a s) (B := 1000000) (fun i hi => by
    have h1 := hO.c0 i (by omega); have h2 := hO.cM i (by omega)
    unfold tc; split <;> omega)
  have HA := Lib.hid hA; have HO := Lib.hid hO; have HS := Lib.hid hS; have HB := Lib.hid hb
  clear hO hb
  obtain ⟨A, c, rfl, hac, hcm, -⟩ := hA
  obtain ⟨A2, c2, rfl, hac2, hcm2, -⟩ := hS
  go_enter Try.func57, Try.ntmps57
  go_wp2_with fail
  go_loopw [5, 10] (fun z i wr => ∃ k : Nat, i = .int .i64 k ∧ k ≤ a.n ∧ z = .int .i64 (sm k (tc a s)) ∧ Hid (Ext W wr)) (fun _ i _ => a.n - (intOf i).toNat)
  case atStart => exact ⟨0, rfl, Nat.zero_le _, rfl, Lib.hid (Ext.refl _)⟩
  case round =>
    obtain ⟨k, rfl, hk, rfl, hin⟩ := hrel
    by_cases hlt : k < a.n
    · obtain ⟨b, off, rfl, d1, d2, d3⟩ := HA.out.arc hin.out hlt
      obtain ⟨fk, hfk, hfN⟩ : ∃ x : Nat, a.f k = (x : Int) ∧ x < N := ⟨(a.f k).toNat, by have := HO.out.f0 k hlt; omega, by have := HO.out.f0 k hlt; have := HO.out.fN k hlt; omega⟩
      obtain ⟨tk, htk, htN⟩ : ∃ x : Nat, a.t k = (x : Int) ∧ x < N := ⟨(a.t k).toNat, by have := HO.out.t0 k hlt; omega, by have := HO.out.t0 k hlt; have := HO.out.tN k hlt; omega⟩
      obtain ⟨b2, off2, rfl, hb2, e1⟩ := Vl.at HS.out hin.out hfN
      obtain ⟨b3, off3, e3, -, e2⟩ := Vl.at HS.out hin.out htN
      injection e3 with e3; injection e3 with e3 e4
      subst e3 e4
      have c0 := HO.out.c0 k hlt
      have cM := HO.out.cM k hlt
      have hs := HB.out k hk
      have hs1 := HB.out (k + 1) (by omega)
      have hsm : sm (k + 1) (tc a s) = sm k (tc a s) + tc a s k := rfl
      have htc : tc a s k = if s fk = true ∧ s tk = false then a.c k else 0 := by unfold tc; rw [hfk, htk]; rfl
      rw [hfk] at d1; rw [htk] at d2
      obtain ⟨ck, hck⟩ : ∃ x, x = a.c k := ⟨_, rfl⟩
      rw [← hck] at d3 c0 cM htc
      obtain ⟨S, hS⟩ : ∃ S, S = sm k (tc a s) := ⟨_, rfl⟩
      rw [← hS] at hs ⊢
      have hkk : k * 1000000 ≤ 1000000000 := by have : k * 1000000 ≤ 1000 * 1000000 := Nat.mul_le_mul_right _ (by omega); omega
      have hS1 : -1000000000 ≤ S ∧ S ≤ 1000000000 := by omega
      have HSM := Lib.hid hsm; have HS2 := Lib.hid hS; have HTC := Lib.hid htc
      clear hs hs1 hsm hkk hS hck hfk htk htc
      cases p : s fk
      · rw [p] at e1 HTC
        clear e2 p
        go_wp2
        go_roundw
        case rel => exact ⟨k + 1, by go_num, by omega, by rw [HSM.out, HTC.out, ← HS2.out]; simp, Lib.hid (hin.out.alc _)⟩
        case measure => simp [intOf]; omega
      · rw [p] at e1 HTC
        cases q : s tk
        · rw [q] at e2 HTC
          clear p q
          go_wp2
          go_roundw
          case rel => exact ⟨k + 1, by go_num, by omega, by rw [HSM.out, HTC.out, ← HS2.out]; simp, Lib.hid (hin.out.alc _)⟩
          case measure => simp [intOf]; omega
        · rw [q] at e2 HTC
          clear p q
          go_wp2
          go_roundw
          case rel => exact ⟨k + 1, by go_num, by omega, by rw [HSM.out, HTC.out, ← HS2.out]; simp, Lib.hid (hin.out.alc _)⟩
          case measure => simp [intOf]; omega
    · obtain rfl : k = a.n := by omega
      go_wp2
      go_ret
      exact ⟨rfl, hin.out⟩

set_option maxHeartbeats 4000000 in
set_option maxRecDepth 100000 in
theorem isSide_any (N : Nat) (s : Nat → Bool) (SV : Value) (W : World) (hS : Bl W SV N s) (hN : 2 ≤ N) (hN2 : N ≤ 1000) :
    Calls Try.prog 55 #[SV] W fun e W' => e = .returned (.bool (isSdB N s)) ∧ Ext W W' := by
  have HS := Lib.hid hS
  obtain ⟨A2, c2, rfl, hac2, hcm2, -⟩ := hS
  obtain ⟨t, ht⟩ : ∃ t, t = N - 1 := ⟨_, rfl⟩
  have ht2 : (N : Int) - 1 = t := by omega
  have htN : t < N := by omega
  obtain ⟨b2, off2, rfl, hb2, e1⟩ := Vl.at HS.out (Ext.refl W) (show 0 < N by omega)
  obtain ⟨b3, off3, e3, -, e2⟩ := Vl.at HS.out (Ext.refl W) htN
  injection e3 with e3; injection e3 with e3 e4
  subst e3 e4
  rw [Nat.add_zero] at e1
  have HT := Lib.hid ht
  clear ht
  cases p : s 0
  · rw [p] at e1
    have HP := Lib.hid p; clear p e2
    go_enter Try.func55, Try.ntmps55
    go_wp2
    go_ret
    exact ⟨by unfold isSdB; rw [HP.out]; rfl, Ext.refl _⟩
  · rw [p] at e1
    have HP := Lib.hid p; clear p
    go_enter Try.func55, Try.ntmps55
    go_wp2
    go_ret
    exact ⟨by unfold isSdB; rw [HP.out, ← HT.out]; rfl, Ext.refl _⟩

set_option maxHeartbeats 4000000 in
set_option maxRecDepth 100000 in
theorem isFlow_any (N : Nat) (a : Ar) (f : Nat → Int) (AV FV : Value) (W : World) (hA : Al W AV a) (hF : Il W FV a.n f) (hO : a.Ok N 1000000) (hn : a.n ≤ 1000) (hN : 2 ≤ N) (hN2 : N ≤ 1000) :
    Calls Try.prog 54 #[.agg #[.int .i64 N, AV], FV] W fun e W' => e = .returned (.bool (isFlB N a f)) ∧ Ext W W' := by
  obtain ⟨r, hr⟩ : ∃ r, r = isFlB N a f := ⟨_, rfl⟩
  rw [← hr]
  have HR := Lib.hid hr; clear hr
  have HA := Lib.hid hA; have HO := Lib.hid hO; have HF := Lib.hid hF
  clear hO
  obtain ⟨A, c, rfl, hac, hcm, -⟩ := hA
  obtain ⟨A2, c2, rfl, hac2, hcm2, -⟩ := hF
  go_enter Try.func54, Try.ntmps54
  go_upto_region 1 with fail
  have bb := al1 W (.cells #[.int .i64 N, .slice A a.n c] 30)
  have hh := heap_alloc_new W (.cells #[.int .i64 N, .slice A a.n c] 30)
  have zz : W.heap.size < (W.alloc (.cells #[.int .i64 N, .slice A a.n c] 30)).heap.size := by simp
  generalize W.alloc (.cells #[.int .i64 N, .slice A a.n c] 30) = W1 at *
  have HB : Hid (Ext W W1) := Lib.hid bb
  obtain ⟨m0, m1, m2, m3⟩ := two hh
  have HM := Lib.hid (And.intro m0 m1)
  clear bb hh m2 m3 m0
  go_wp2_with fail
  clear m1
  go_loopw [11] (fun i wr => ∃ k : Nat, i = .int .i64 k ∧ k ≤ a.n ∧ Hid ((∀ j, j < k → inR a f j = true) ∧ Ext W1 wr)) (fun i _ => a.n - (intOf i).toNat)
  case atStart => exact ⟨0, rfl, Nat.zero_le _, Lib.hid ⟨fun j hj => by omega, Ext.refl _⟩⟩
  case round =>
    obtain ⟨k, rfl, hk, hin⟩ := hrel
    by_cases hlt : k < a.n
    · obtain ⟨b, off, rfl, d1, d2, d3⟩ := HA.out.arc (HB.out.trans hin.out.2) hlt
      obtain ⟨b2, off2, rfl, hb2, e1⟩ := Vl.at HF.out (HB.out.trans hin.out.2) hlt
      obtain ⟨fk, hfk⟩ : ∃ x, x = a.f k := ⟨_, rfl⟩
      obtain ⟨tk, htk⟩ : ∃ x, x = a.t k := ⟨_, rfl⟩
      obtain ⟨ck, hck⟩ : ∃ x, x = a.c k := ⟨_, rfl⟩
      obtain ⟨xk, hxk⟩ : ∃ x, x = f k := ⟨_, rfl⟩
      rw [← hfk] at d1; rw [← htk] at d2; rw [← hck] at d3; simp only [← hxk] at e1
      have hin2 : inR a f k = bw xk 0 ck := by unfold inR; rw [← hxk, ← hck]
      have HI := Lib.hid hin2
      clear hfk htk hck hxk hin2
      go_upto_region 4 with fail
      have g2 : (wr.alloc (.cells #[.int .i64 fk, .int .i64 tk, .int .i64 ck] 65)).cell? ⟨wr.heap.size, 2, none⟩ = some (.int .i64 ck) := by rw [World.cell?_alloc_new]; rfl
      have gz : wr.heap.size < (wr.alloc (.cells #[.int .i64 fk, .int .i64 tk, .int .i64 ck] 65)).heap.size := by simp
      have gx : Ext W1 (wr.alloc (.cells #[.int .i64 fk, .int .i64 tk, .int .i64 ck] 65)) := hin.out.2.alc _
      have g1 := keepAt (Ext.alc (Ext.refl wr) (.cells #[.int .i64 fk, .int .i64 tk, .int .i64 ck] 65)) hb2 e1
      have hb3 : b2 < (wr.alloc (.cells #[.int .i64 fk, .int .i64 tk, .int .i64 ck] 65)).heap.size := by simp; omega
      generalize wr.alloc (.cells #[.int .i64 fk, .int .i64 tk, .int .i64 ck] 65) = w2 at *
      have GX := Lib.hid gx
      clear gx d1 d2 d3 e1
      refine wp_region_noPanic ?_
      refine wp_pool 8 [some 16, some 17, some 18, some 19, some 20, some 21, some 22, some 23] [] [] [(fun (v : Value) (_ : World) => v = .slice (some ⟨b2, off2, none⟩) a.n c2), (fun (v : Value) (_ : World) => v = .int .i64 k), (fun (v : Value) (_ : World) => v = .pointer (some ⟨b2, off2 + k, none⟩)), (fun (v : Value) (_ : World) => v = .int .i64 xk), (fun (v : Value) (_ : World) => v = .pointer (some ⟨wr.heap.size, 2, none⟩)), (fun (v : Value) (_ : World) => v = .int .i64 ck), (fun (v : Value) (_ : World) => v = .bool (bw xk 0 ck)), (fun (v : Value) (_ : World) => v = .bool (!(bw xk 0 ck)))] [noF, noF, noF, noF, noF, noF, noF, noF] (by kernel_rfl) (by kernel_rfl) (by kernel_rfl) (by kernel_rfl) (by kernel_rfl) (by kernel_rfl) (by kernel_rfl) (by kernel_rfl) (fun _ _ _ _ h => h) ⟨Stays.pure _, Stays.pure _, Stays.pure _, Stays.pure _, Stays.pure _, Stays.pure _, Stays.pure _, Stays.pure _, True.intro⟩ ?steps ?done
      case steps =>
        simp only [List.take_succ_cons, List.take_zero]
        refine Steps.cons (fun (v : Value) (_ : World) => v = .slice (some ⟨b2, off2, none⟩) a.n c2) [] rfl (by kernel_rfl) rfl (by kernel_rfl) (fun y X ex0 hf K hK => ?_) ?_
        · clear hf
          have ex := (Ext.drw (Ext.refl _)).trans ex0
          refine Box.mk ?_
          simp only [fill, Act.put, Nat.reduceAdd, List.setIfInBounds_toArray, List.set_cons_zero, List.set_cons_succ] at hK ⊢
          go_simp
          exact hK.out _ _ rfl (Ext.refl _) (fun b hb => by cases hb)
        refine Steps.cons (fun (v : Value) (_ : World) => v = .int .i64 k) [] rfl (by kernel_rfl) rfl (by kernel_rfl) (fun y X ex0 hf K hK => ?_) ?_
        · clear hf
          have ex := (Ext.drw (Ext.refl _)).trans ex0
          refine Box.mk ?_
          simp only [fill, Act.put, Nat.reduceAdd, List.setIfInBounds_toArray, List.set_cons_zero, List.set_cons_succ] at hK ⊢
          go_simp
          exact hK.out _ _ rfl (Ext.refl _) (fun b hb => by cases hb)
        refine Steps.cons (fun (v : Value) (_ : World) => v = .pointer (some ⟨b2, off2 + k, none⟩)) [0, 1] rfl (by kernel_rfl) rfl (by kernel_rfl) (fun y X ex0 hf K hK => ?_) ?_
        · have h0 : ((fun (v : Value) (_ : World) => v = .slice (some ⟨b2, off2, none⟩) a.n c2)) (y 0) X := hf.1
          have h1 : ((fun (v : Value) (_ : World) => v = .int .i64 k)) (y 1) X := hf.2.1
          clear hf
          have ex := (Ext.drw (Ext.refl _)).trans ex0
          refine Box.mk ?_
          simp only [fill, Act.put, Nat.reduceAdd, List.setIfInBounds_toArray, List.set_cons_zero, List.set_cons_succ, h0, h1] at hK ⊢
          go_simp
          exact hK.out _ _ rfl (Ext.refl _) (fun b hb => by cases hb)
        refine Steps.cons (fun (v : Value) (_ : World) => v = .int .i64 xk) [2] rfl (by kernel_rfl) rfl (by kernel_rfl) (fun y X ex0 hf K hK => ?_) ?_
        · have h2 : ((fun (v : Value) (_ : World) => v = .pointer (some ⟨b2, off2 + k, none⟩))) (y 2) X := hf.1
          clear hf
          have ex := (Ext.drw (Ext.refl _)).trans ex0
          refine Box.mk ?_
          simp only [fill, Act.put, Nat.reduceAdd, List.setIfInBounds_toArray, List.set_cons_zero, List.set_cons_succ, h2] at hK ⊢
          have z1 := keepAt ex hb3 g1
          go_simp
          exact hK.out _ _ rfl (Ext.refl _) (fun b hb => by cases hb)
        refine Steps.cons (fun (v : Value) (_ : World) => v = .pointer (some ⟨wr.heap.size, 2, none⟩)) [] rfl (by kernel_rfl) rfl (by kernel_rfl) (fun y X ex0 hf K hK => ?_) ?_
        · clear hf
          have ex := (Ext.drw (Ext.refl _)).trans ex0
          refine Box.mk ?_
          simp only [fill, Act.put, Nat.reduceAdd, List.setIfInBounds_toArray, List.set_cons_zero, List.set_cons_succ] at hK ⊢
          go_simp
          exact hK.out _ _ rfl (Ext.refl _) (fun b hb => by cases hb)
        refine Steps.cons (fun (v : Value) (_ : World) => v = .int .i64 ck) [4] rfl (by kernel_rfl) rfl (by kernel_rfl) (fun y X ex0 hf K hK => ?_) ?_
        · have h4 : ((fun (v : Value) (_ : World) => v = .pointer (some ⟨wr.heap.size, 2, none⟩))) (y 4) X := hf.1
          clear hf
          have ex := (Ext.drw (Ext.refl _)).trans ex0
          refine Box.mk ?_
          simp only [fill, Act.put, Nat.reduceAdd, List.setIfInBounds_toArray, List.set_cons_zero, List.set_cons_succ, h4] at hK ⊢
          have z1 := keepAt ex gz g2
          go_simp
          exact hK.out _ _ rfl (Ext.refl _) (fun b hb => by cases hb)
        refine Steps.cons (fun (v : Value) (_ : World) => v = .bool (bw xk 0 ck)) [3, 5] rfl (by kernel_rfl) rfl (by kernel_rfl) (fun y X ex0 hf K hK => ?_) ?_
        · have h3 : ((fun (v : Value) (_ : World) => v = .int .i64 xk)) (y 3) X := hf.1
          have h5 : ((fun (v : Value) (_ : World) => v = .int .i64 ck)) (y 5) X := hf.2.1
          clear hf
          have ex := (Ext.drw (Ext.refl _)).trans ex0
          refine Box.mk ?_
          simp only [fill, Act.put, Nat.reduceAdd, List.setIfInBounds_toArray, List.set_cons_zero, List.set_cons_succ, h3, h5] at hK ⊢
          go_simp
          refine (isBetween_bw _ _ _ _).mono ?_
          rintro e V ⟨rfl, rfl⟩
          try go_wp2_with fail
          exact hK.out _ _ rfl (Ext.refl _) (fun b hb => by cases hb)
        refine Steps.cons (fun (v : Value) (_ : World) => v = .bool (!(bw xk 0 ck))) [6] rfl (by kernel_rfl) rfl (by kernel_rfl) (fun y X ex0 hf K hK => ?_) ?_
        · have h6 : ((fun (v : Value) (_ : World) => v = .bool (bw xk 0 ck))) (y 6) X := hf.1
          clear hf
          have ex := (Ext.drw (Ext.refl _)).trans ex0
          refine Box.mk ?_
          simp only [fill, Act.put, Nat.reduceAdd, List.setIfInBounds_toArray, List.set_cons_zero, List.set_cons_succ, h6] at hK ⊢
          go_simp
          exact hK.out _ _ rfl (Ext.refl _) (fun b hb => by cases hb)
        exact Steps.nil
      case done =>
        intro y X ex hf hlt hsep
        have h0 : ((fun (v : Value) (_ : World) => v = .slice (some ⟨b2, off2, none⟩) a.n c2)) (y 0) X := hf.1
        have h1 : ((fun (v : Value) (_ : World) => v = .int .i64 k)) (y 1) X := hf.2.1
        have h2 : ((fun (v : Value) (_ : World) => v = .pointer (some ⟨b2, off2 + k, none⟩))) (y 2) X := hf.2.2.1
        have h3 : ((fun (v : Value) (_ : World) => v = .int .i64 xk)) (y 3) X := hf.2.2.2.1
        have h4 : ((fun (v : Value) (_ : World) => v = .pointer (some ⟨wr.heap.size, 2, none⟩))) (y 4) X := hf.2.2.2.2.1
        have h5 : ((fun (v : Value) (_ : World) => v = .int .i64 ck)) (y 5) X := hf.2.2.2.2.2.1
        have h6 : ((fun (v : Value) (_ : World) => v = .bool (bw xk 0 ck))) (y 6) X := hf.2.2.2.2.2.2.1
        have h7 : ((fun (v : Value) (_ : World) => v = .bool (!(bw xk 0 ck)))) (y 7) X := hf.2.2.2.2.2.2.2.1
        clear hf
        clear hsep hlt
        refine Box.mk ?_
        simp only [List.drop_succ_cons, List.drop_zero, fill, Act.put, Nat.reduceAdd, List.setIfInBounds_toArray, List.set_cons_zero, List.set_cons_succ, h0, h1, h2, h3, h4, h5, h6, h7]
        clear h0 h1 h2 h3 h4 h5 h6 h7
        have EX := Lib.hid (GX.out.trans ex); clear ex g1 g2
        refine NoPanic.normal ?_
        cases p : bw xk 0 ck
        · have hr : r = false := by rw [HR.out]; exact isFlB_no1 hlt (by rw [HI.out]; exact p)
          have HR2 := Lib.hid hr; clear hr p
          go_wp2
          go_ret
          exact ⟨by rw [HR2.out]; rfl, HB.out.trans EX.out⟩
        · have hp := HI.out.trans p
          have HP := Lib.hid hp; clear hp p
          go_wp2
          go_roundw
          case rel =>
            refine ⟨k + 1, by go_num, by omega, Lib.hid ⟨fun j hj => ?_, EX.out⟩⟩
            by_cases e : j = k
            · subst e; exact HP.out
            · exact hin.out.1 j (by omega)
          case measure => simp [intOf]; omega
    · obtain rfl : k = a.n := by omega
      have hall : ∀ j, j < a.n → 0 ≤ f j ∧ f j ≤ a.c j := fun j hj => bw_iff.1 (hin.out.1 j hj)
      have HALL := Lib.hid hall
      have HX := Lib.hid hin.out.2
      clear hall hin
      go_wp2_with fail
      go_loopw [7] (fun i wr => ∃ v : Nat, i = .int .i64 v ∧ 1 ≤ v ∧ v ≤ N - 1 ∧ Hid ((∀ j, j + 1 < v → a.nw.sp f (j + 1) = 0) ∧ Ext W1 wr)) (fun i _ => N - (intOf i).toNat)
      case atStart => exact ⟨1, rfl, Nat.le_refl _, by omega, Lib.hid ⟨fun j hj => by omega, HX.out⟩⟩
      case round =>
        clear HX
        obtain ⟨v, rfl, hv1, hv2, hin⟩ := hrel
        have m0 := keepAt hin.out.2 zz HM.out.1
        have m1 := keepAt hin.out.2 zz HM.out.2
        by_cases hlt : v < N - 1
        · have hlt2 : (v : Int) < (N : Int) - 1 := by omega
          go_wp2_with fail
          refine (surplus_any a N v 1000000 f _ _ _ (HA.out.ext (HB.out.trans hin.out.2)) (Il.ext HF.out (HB.out.trans hin.out.2)) HO.out hn (fun k hk => by have h1 := HALL.out k hk; have h2 := HO.out.cM k hk; omega)).mono ?_
          rintro e w3 ⟨rfl, hx⟩
          have HX := Lib.hid (hin.out.2.trans hx)
          obtain ⟨z, hz⟩ : ∃ z, z = a.nw.sp f v := ⟨_, rfl⟩
          rw [← hz]
          have HZ := Lib.hid hz
          clear hx m0 m1 hz
          by_cases h0 : z = 0
          · subst h0
            go_wp2
            go_roundw
            case rel =>
              refine ⟨v + 1, by go_num, by omega, by omega, Lib.hid ⟨fun j hj => ?_, HX.out⟩⟩
              by_cases e : j + 1 = v
              · rw [e]; exact HZ.out.symm
              · exact hin.out.1 j (by omega)
            case measure => simp [intOf]; omega
          · have hr : r = false := by
              rw [HR.out]
              exact isFlB_no2 (i := v - 1) (by omega) (by rw [show v - 1 + 1 = v by omega, ← HZ.out]; exact h0)
            have HR2 := Lib.hid hr; clear hr
            go_wp2
            go_ret
            exact ⟨by rw [HR2.out]; rfl, HB.out.trans HX.out⟩
        · obtain rfl : v = N - 1 := by omega
          have hlt2 : ¬ ((N - 1 : Nat) : Int) < (N : Int) - 1 := by omega
          have hr : r = true := by rw [HR.out]; exact isFlB_iff.2 ⟨HALL.out, fun i hi => hin.out.1 i (by omega)⟩
          have HR2 := Lib.hid hr; clear hr
          go_wp2
          go_ret
          exact ⟨by rw [HR2.out]; rfl, HB.out.trans hin.out.2⟩
end Go.Proofs.Ytilcbbdmenknfaa
