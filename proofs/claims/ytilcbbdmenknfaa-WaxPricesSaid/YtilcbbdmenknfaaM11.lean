/- Walks: cost, isSide, isFlow. · Walks: Clone and few of a slice of numbers, areCosts. · Walks: isCloth. · What comes in: a cloth. -/
import Derived.Test.YtilcbbdmenknfaaM10
import Derived.Test.YtilcbbdmenknfaaM9
import Derived.Lib.MinMax
import Derived.Lib.SliceRun
namespace Go.Proofs.Ytilcbbdmenknfaa
open Go.RowKit

theorem Vl.at {W X : World} {A : Option Addr} {n m c : Nat} {f : Nat → Value} (h : Vl W (.slice A n c) m f) (e : Ext W X) {k : Nat} (hk : k < m) : ∃ b off, A = some ⟨b, off, none⟩ ∧ b < X.heap.size ∧ X.cell? ⟨b, off + k, none⟩ = some (f k) := by
  obtain ⟨A', c', e', _, _, h3⟩ := h
  injection e' with e1 e2 e3
  subst e1
  obtain ⟨b, off, rfl, hb, hc⟩ := h3 (by omega)
  exact ⟨b, off, rfl, Nat.lt_of_lt_of_le hb e.size, keepAt e hb (hc k hk)⟩

set_option maxHeartbeats 4000000 in
set_option maxRecDepth 100000 in
theorem cost_any (a : Ar) (N : Nat) (s : Nat → Bool) (AV SV : Value) (W : World) (hA : Al W AV a) (hS : Bl W SV N s) (hO : a.Ok N 1000000) (hn : a.n ≤ 1000) :
    Calls Try.prog 57 #[AV, SV] W fun e W' => e = .returned (.int .i64 (a.nw.ct s)) ∧ Ext W W' := by
  rw [ct_tc]
  have hb := fun k (hk : k ≤ a.n) => sm_bd (n := k) (f := tc a s) (B := 1000000) (fun i hi => by
    have h1 := hO.c0 i (by omega); have h2 := hO.cM i (by omega)
    unfold tc; split <;> omega)
  have HA := Lib.hid hA; have HO := Lib.hid hO; have HS := Lib.hid hS; have HB := Lib.hid hb
  clear hO hb
  obtain ⟨A, c, rfl, hac, hcm, -⟩ := hA
  obtain ⟨A2, c2, rfl, hac2, hcm2, -⟩ := hS
  go_enter Try.func57, Try.ntmps57
  go_wp2_with fail
  go_loopw [5, 10] (fun z i wr => ∃ k : Nat, i = .int .i64 k ∧ k ≤ a.n ∧ z = .int .i64 (sm k (tc a s)) ∧ Hid (Ext W wr)) (fun _ i _ => a.n - (intOf i).toNat)
  case atStart => exact ⟨0, rfl, Nat.zero_le _, rfl, Lib.hid (Ext.refl _)⟩
  case round =>
    obtain ⟨k, rfl, hk, rfl, hin⟩ := hrel
    by_cases hlt : k < a.n
    · obtain ⟨b, off, rfl, d1, d2, d3⟩ := HA.out.arc hin.out hlt
      obtain ⟨fk, hfk, hfN⟩ : ∃ x : Nat, a.f k = (x : Int) ∧ x < N := ⟨(a.f k).toNat, by have := HO.out.f0 k hlt; omega, by have := HO.out.f0 k hlt; have := HO.out.fN k hlt; omega⟩
      obtain ⟨tk, htk, htN⟩ : ∃ x : Nat, a.t k = (x : Int) ∧ x < N := ⟨(a.t k).toNat, by have := HO.out.t0 k hlt; omega, by have := HO.out.t0 k hlt; have := HO.out.tN k hlt; omega⟩
      obtain ⟨b2, off2, rfl, hb2, e1⟩ := Vl.at HS.out hin.out hfN
      obtain ⟨b3, off3, e3, -, e2⟩ := Vl.at HS.out hin.out htN
      injection e3 with e3; injection e3 with e3 e4
      subst e3 e4
      have c0 := HO.out.c0 k hlt
      have cM := HO.out.cM k hlt
      have hs := HB.out k hk
      have hs1 := HB.out (k + 1) (by omega)
      have hsm : sm (k + 1) (tc a s) = sm k (tc a s) + tc a s k := rfl
      have htc : tc a s k = if s fk = true ∧ s tk = false then a.c k else 0 := by unfold tc; rw [hfk, htk]; rfl
      rw [hfk] at d1; rw [htk] at d2
      obtain ⟨ck, hck⟩ : ∃ x, x = a.c k := ⟨_, rfl⟩
      rw [← hck] at d3 c0 cM htc
      obtain ⟨S, hS⟩ : ∃ S, S = sm k (tc a s) := ⟨_, rfl⟩
      rw [← hS] at hs ⊢
      have hkk : k * 1000000 ≤ 1000000000 := by have : k * 1000000 ≤ 1000 * 1000000 := Nat.mul_le_mul_right _ (by omega); omega
      have hS1 : -1000000000 ≤ S ∧ S ≤ 1000000000 := by omega
      have HSM := Lib.hid hsm; have HS2 := Lib.hid hS; have HTC := Lib.hid htc
      clear hs hs1 hsm hkk hS hck hfk htk htc
      cases p : s fk
      · rw [p] at e1 HTC
        clear e2 p
        go_wp2
        go_roundw
        case rel => exact ⟨k + 1, by go_num, by omega, by rw [HSM.out, HTC.out, ← HS2.out]; simp, Lib.hid (hin.out.alc _)⟩
        case measure => simp [intOf]; omega
      · rw [p] at e1 HTC
        cases q : s tk
        · rw [q] at e2 HTC
          clear p q
          go_wp2
          go_roundw
          case rel => exact ⟨k + 1, by go_num, by omega, by rw [HSM.out, HTC.out, ← HS2.out]; simp, Lib.hid (hin.out.alc _)⟩
          case measure => simp [intOf]; omega
        · rw [q] at e2 HTC
          clear p q
          go_wp2
          go_roundw
          case rel => exact ⟨k + 1, by go_num, by omega, by rw [HSM.out, HTC.out, ← HS2.out]; simp, Lib.hid (hin.out.alc _)⟩
          case measure => simp [intOf]; omega
    · obtain rfl : k = a.n := by omega
      go_wp2
      go_ret
      exact ⟨rfl, hin.out⟩

set_option maxHeartbeats 4000000 in
set_option maxRecDepth 100000 in
theorem isSide_any (N : Nat) (s : Nat → Bool) (SV : Value) (W : World) (hS : Bl W SV N s) (hN : 2 ≤ N) (hN2 : N ≤ 1000) :
    Calls Try.prog 55 #[SV] W fun e W' => e = .returned (.bool (isSdB N s)) ∧ Ext W W' := by
  have HS := Lib.hid hS
  obtain ⟨A2, c2, rfl, hac2, hcm2, -⟩ := hS
  obtain ⟨t, ht⟩ : ∃ t, t = N - 1 := ⟨_, rfl⟩
  have ht2 : (N : Int) - 1 = t := by omega
  have htN : t < N := by omega
  obtain ⟨b2, off2, rfl, hb2, e1⟩ := Vl.at HS.out (Ext.refl W) (show 0 < N by omega)
  obtain ⟨b3, off3, e3, -, e2⟩ := Vl.at HS.out (Ext.refl W) htN
  injection e3 with e3; injection e3 with e3 e4
  subst e3 e4
  rw [Nat.add_zero] at e1
  have HT := Lib.hid ht
  clear ht
  cases p : s 0
  · rw [p] at e1
    have HP := Lib.hid p; clear p e2
    go_enter Try.func55, Try.ntmps55
    go_wp2
    go_ret
    exact ⟨by unfold isSdB; rw [HP.out]; rfl, Ext.refl _⟩
  · rw [p] at e1
    have HP := Lib.hid p; clear p
    go_enter Try.func55, Try.ntmps55
    go_wp2
    go_ret
    exact ⟨by unfold isSdB; rw [HP.out, ← HT.out]; rfl, Ext.refl _⟩

set_option maxHeartbeats 4000000 in
set_option maxRecDepth 100000 in
theorem isFlow_any (N : Nat) (a : Ar) (f : Nat → Int) (AV FV : Value) (W : World) (hA : Al W AV a) (hF : Il W FV a.n f) (hO : a.Ok N 1000000) (hn : a.n ≤ 1000) (hN : 2 ≤ N) (hN2 : N ≤ 1000) :
    Calls Try.prog 54 #[.agg #[.int .i64 N, AV], FV] W fun e W' => e = .returned (.bool (isFlB N a f)) ∧ Ext W W' := by
  obtain ⟨r, hr⟩ : ∃ r, r = isFlB N a f := ⟨_, rfl⟩
  rw [← hr]
  have HR := Lib.hid hr; clear hr
  have HA := Lib.hid hA; have HO := Lib.hid hO; have HF := Lib.hid hF
  clear hO
  obtain ⟨A, c, rfl, hac, hcm, -⟩ := hA
  obtain ⟨A2, c2, rfl, hac2, hcm2, -⟩ := hF
  go_enter Try.func54, Try.ntmps54
  go_upto_region 1 with fail
  have bb := al1 W (.cells #[.int .i64 N, .slice A a.n c] 30)
  have hh := heap_alloc_new W (.cells #[.int .i64 N, .slice A a.n c] 30)
  have zz : W.heap.size < (W.alloc (.cells #[.int .i64 N, .slice A a.n c] 30)).heap.size := by simp
  generalize W.alloc (.cells #[.int .i64 N, .slice A a.n c] 30) = W1 at *
  have HB : Hid (Ext W W1) := Lib.hid bb
  obtain ⟨m0, m1, m2, m3⟩ := two hh
  have HM := Lib.hid (And.intro m0 m1)
  clear bb hh m2 m3 m0
  go_wp2_with fail
  clear m1
  go_loopw [11] (fun i wr => ∃ k : Nat, i = .int .i64 k ∧ k ≤ a.n ∧ Hid ((∀ j, j < k → inR a f j = true) ∧ Ext W1 wr)) (fun i _ => a.n - (intOf i).toNat)
  case atStart => exact ⟨0, rfl, Nat.zero_le _, Lib.hid ⟨fun j hj => by omega, Ext.refl _⟩⟩
  case round =>
    obtain ⟨k, rfl, hk, hin⟩ := hrel
    by_cases hlt : k < a.n
    · obtain ⟨b, off, rfl, d1, d2, d3⟩ := HA.out.arc (HB.out.trans hin.out.2) hlt
      obtain ⟨b2, off2, rfl, hb2, e1⟩ := Vl.at HF.out (HB.out.trans hin.out.2) hlt
      obtain ⟨fk, hfk⟩ : ∃ x, x = a.f k := ⟨_, rfl⟩
      obtain ⟨tk, htk⟩ : ∃ x, x = a.t k := ⟨_, rfl⟩
      obtain ⟨ck, hck⟩ : ∃ x, x = a.c k := ⟨_, rfl⟩
      obtain ⟨xk, hxk⟩ : ∃ x, x = f k := ⟨_, rfl⟩
      rw [← hfk] at d1; rw [← htk] at d2; rw [← hck] at d3; simp only [← hxk] at e1
      have hin2 : inR a f k = bw xk 0 ck := by unfold inR; rw [← hxk, ← hck]
      have HI := Lib.hid hin2
      clear hfk htk hck hxk hin2
      go_upto_region 4 with fail
      have g2 : (wr.alloc (.cells #[.int .i64 fk, .int .i64 tk, .int .i64 ck] 65)).cell? ⟨wr.heap.size, 2, none⟩ = some (.int .i64 ck) := by rw [World.cell?_alloc_new]; rfl
      have gz : wr.heap.size < (wr.alloc (.cells #[.int .i64 fk, .int .i64 tk, .int .i64 ck] 65)).heap.size := by simp
      have gx : Ext W1 (wr.alloc (.cells #[.int .i64 fk, .int .i64 tk, .int .i64 ck] 65)) := hin.out.2.alc _
      have g1 := keepAt (Ext.alc (Ext.refl wr) (.cells #[.int .i64 fk, .int .i64 tk, .int .i64 ck] 65)) hb2 e1
      have hb3 : b2 < (wr.alloc (.cells #[.int .i64 fk, .int .i64 tk, .int .i64 ck] 65)).heap.size := by simp; omega
      generalize wr.alloc (.cells #[.int .i64 fk, .int .i64 tk, .int .i64 ck] 65) = w2 at *
      have GX := Lib.hid gx
      clear gx d1 d2 d3 e1
      refine wp_region_noPanic ?_
      refine wp_pool 8 [some 16, some 17, some 18, some 19, some 20, some 21, some 22, some 23] [] [] [(fun (v : Value) (_ : World) => v = .slice (some ⟨b2, off2, none⟩) a.n c2), (fun (v : Value) (_ : World) => v = .int .i64 k), (fun (v : Value) (_ : World) => v = .pointer (some ⟨b2, off2 + k, none⟩)), (fun (v : Value) (_ : World) => v = .int .i64 xk), (fun (v : Value) (_ : World) => v = .pointer (some ⟨wr.heap.size, 2, none⟩)), (fun (v : Value) (_ : World) => v = .int .i64 ck), (fun (v : Value) (_ : World) => v = .bool (bw xk 0 ck)), (fun (v : Value) (_ : World) => v = .bool (!(bw xk 0 ck)))] [noF, noF, noF, noF, noF, noF, noF, noF] (by kernel_rfl) (by kernel_rfl) (by kernel_rfl) (by kernel_rfl) (by kernel_rfl) (by kernel_rfl) (by kernel_rfl) (by kernel_rfl) (fun _ _ _ _ h => h) ⟨Stays.pure _, Stays.pure _, Stays.pure _, Stays.pure _, Stays.pure _, Stays.pure _, Stays.pure _, Stays.pure _, True.intro⟩ ?steps ?done
      case steps =>
        simp only [List.take_succ_cons, List.take_zero]
        refine Steps.cons (fun (v : Value) (_ : World) => v = .slice (some ⟨b2, off2, none⟩) a.n c2) [] rfl (by kernel_rfl) rfl (by kernel_rfl) (fun y X ex0 hf K hK => ?_) ?_
        · clear hf
          have ex := (Ext.drw (Ext.refl _)).trans ex0
          refine Box.mk ?_
          simp only [fill, Act.put, Nat.reduceAdd, List.setIfInBounds_toArray, List.set_cons_zero, List.set_cons_succ] at hK ⊢
          go_simp
          exact hK.out _ _ rfl (Ext.refl _) (fun b hb => by cases hb)
        refine Steps.cons (fun (v : Value) (_ : World) => v = .int .i64 k) [] rfl (by kernel_rfl) rfl (by kernel_rfl) (fun y X ex0 hf K hK => ?_) ?_
        · clear hf
          have ex := (Ext.drw (Ext.refl _)).trans ex0
          refine Box.mk ?_
          simp only [fill, Act.put, Nat.reduceAdd, List.setIfInBounds_toArray, List.set_cons_zero, List.set_cons_succ] at hK ⊢
          go_simp
          exact hK.out _ _ rfl (Ext.refl _) (fun b hb => by cases hb)
        refine Steps.cons (fun (v : Value) (_ : World) => v = .pointer (some ⟨b2, off2 + k, none⟩)) [0, 1] rfl (by kernel_rfl) rfl (by kernel_rfl) (fun y X ex0 hf K hK => ?_) ?_
        · have h0 : ((fun (v : Value) (_ : World) => v = .slice (some ⟨b2, off2, none⟩) a.n c2)) (y 0) X := hf.1
          have h1 : ((fun (v : Value) (_ : World) => v = .int .i64 k)) (y 1) X := hf.2.1
          clear hf
          have ex := (Ext.drw (Ext.refl _)).trans ex0
          refine Box.mk ?_
          simp only [fill, Act.put, Nat.reduceAdd, List.setIfInBounds_toArray, List.set_cons_zero, List.set_cons_succ, h0, h1] at hK ⊢
          go_simp
          exact hK.out _ _ rfl (Ext.refl _) (fun b hb => by cases hb)
        refine Steps.cons (fun (v : Value) (_ : World) => v = .int .i64 xk) [2] rfl (by kernel_rfl) rfl (by kernel_rfl) (fun y X ex0 hf K hK => ?_) ?_
        · have h2 : ((fun (v : Value) (_ : World) => v = .pointer (some ⟨b2, off2 + k, none⟩))) (y 2) X := hf.1
          clear hf
          have ex := (Ext.drw (Ext.refl _)).trans ex0
          refine Box.mk ?_
          simp only [fill, Act.put, Nat.reduceAdd, List.setIfInBounds_toArray, List.set_cons_zero, List.set_cons_succ, h2] at hK ⊢
          have z1 := keepAt ex hb3 g1
          go_simp
          exact hK.out _ _ rfl (Ext.refl _) (fun b hb => by cases hb)
        refine Steps.cons (fun (v : Value) (_ : World) => v = .pointer (some ⟨wr.heap.size, 2, none⟩)) [] rfl (by kernel_rfl) rfl (by kernel_rfl) (fun y X ex0 hf K hK => ?_) ?_
        · clear hf
          have ex := (Ext.drw (Ext.refl _)).trans ex0
          refine Box.mk ?_
          simp only [fill, Act.put, Nat.reduceAdd, List.setIfInBounds_toArray, List.set_cons_zero, List.set_cons_succ] at hK ⊢
          go_simp
          exact hK.out _ _ rfl (Ext.refl _) (fun b hb => by cases hb)
        refine Steps.cons (fun (v : Value) (_ : World) => v = .int .i64 ck) [4] rfl (by kernel_rfl) rfl (by kernel_rfl) (fun y X ex0 hf K hK => ?_) ?_
        · have h4 : ((fun (v : Value) (_ : World) => v = .pointer (some ⟨wr.heap.size, 2, none⟩))) (y 4) X := hf.1
          clear hf
          have ex := (Ext.drw (Ext.refl _)).trans ex0
          refine Box.mk ?_
          simp only [fill, Act.put, Nat.reduceAdd, List.setIfInBounds_toArray, List.set_cons_zero, List.set_cons_succ, h4] at hK ⊢
          have z1 := keepAt ex gz g2
          go_simp
          exact hK.out _ _ rfl (Ext.refl _) (fun b hb => by cases hb)
        refine Steps.cons (fun (v : Value) (_ : World) => v = .bool (bw xk 0 ck)) [3, 5] rfl (by kernel_rfl) rfl (by kernel_rfl) (fun y X ex0 hf K hK => ?_) ?_
        · have h3 : ((fun (v : Value) (_ : World) => v = .int .i64 xk)) (y 3) X := hf.1
          have h5 : ((fun (v : Value) (_ : World) => v = .int .i64 ck)) (y 5) X := hf.2.1
          clear hf
          have ex := (Ext.drw (Ext.refl _)).trans ex0
          refine Box.mk ?_
          simp only [fill, Act.put, Nat.reduceAdd, List.setIfInBounds_toArray, List.set_cons_zero, List.set_cons_succ, h3, h5] at hK ⊢
          go_simp
          refine (isBetween_bw _ _ _ _).mono ?_
          rintro e V ⟨rfl, rfl⟩
          try go_wp2_with fail
          exact hK.out _ _ rfl (Ext.refl _) (fun b hb => by cases hb)
        refine Steps.cons (fun (v : Value) (_ : World) => v = .bool (!(bw xk 0 ck))) [6] rfl (by kernel_rfl) rfl (by kernel_rfl) (fun y X ex0 hf K hK => ?_) ?_
        · have h6 : ((fun (v : Value) (_ : World) => v = .bool (bw xk 0 ck))) (y 6) X := hf.1
          clear hf
          have ex := (Ext.drw (Ext.refl _)).trans ex0
          refine Box.mk ?_
          simp only [fill, Act.put, Nat.reduceAdd, List.setIfInBounds_toArray, List.set_cons_zero, List.set_cons_succ, h6] at hK ⊢
          go_simp
          exact hK.out _ _ rfl (Ext.refl _) (fun b hb => by cases hb)
        exact Steps.nil
      case done =>
        intro y X ex hf hlt hsep
        have h0 : ((fun (v : Value) (_ : World) => v = .slice (some ⟨b2, off2, none⟩) a.n c2)) (y 0) X := hf.1
        have h1 : ((fun (v : Value) (_ : World) => v = .int .i64 k)) (y 1) X := hf.2.1
        have h2 : ((fun (v : Value) (_ : World) => v = .pointer (some ⟨b2, off2 + k, none⟩))) (y 2) X := hf.2.2.1
        have h3 : ((fun (v : Value) (_ : World) => v = .int .i64 xk)) (y 3) X := hf.2.2.2.1
        have h4 : ((fun (v : Value) (_ : World) => v = .pointer (some ⟨wr.heap.size, 2, none⟩))) (y 4) X := hf.2.2.2.2.1
        have h5 : ((fun (v : Value) (_ : World) => v = .int .i64 ck)) (y 5) X := hf.2.2.2.2.2.1
        have h6 : ((fun (v : Value) (_ : World) => v = .bool (bw xk 0 ck))) (y 6) X := hf.2.2.2.2.2.2.1
        have h7 : ((fun (v : Value) (_ : World) => v = .bool (!(bw xk 0 ck)))) (y 7) X := hf.2.2.2.2.2.2.2.1
        clear hf
        clear hsep hlt
        refine Box.mk ?_
        simp only [List.drop_succ_cons, List.drop_zero, fill, Act.put, Nat.reduceAdd, List.setIfInBounds_toArray, List.set_cons_zero, List.set_cons_succ, h0, h1, h2, h3, h4, h5, h6, h7]
        clear h0 h1 h2 h3 h4 h5 h6 h7
        have EX := Lib.hid (GX.out.trans ex); clear ex g1 g2
        refine NoPanic.normal ?_
        cases p : bw xk 0 ck
        · have hr : r = false := by rw [HR.out]; exact isFlB_no1 hlt (by rw [HI.out]; exact p)
          have HR2 := Lib.hid hr; clear hr p
          go_wp2
          go_ret
          exact ⟨by rw [HR2.out]; rfl, HB.out.trans EX.out⟩
        · have hp := HI.out.trans p
          have HP := Lib.hid hp; clear hp p
          go_wp2
          go_roundw
          case rel =>
            refine ⟨k + 1, by go_num, by omega, Lib.hid ⟨fun j hj => ?_, EX.out⟩⟩
            by_cases e : j = k
            · subst e; exact HP.out
            · exact hin.out.1 j (by omega)
          case measure => simp [intOf]; omega
    · obtain rfl : k = a.n := by omega
      have hall : ∀ j, j < a.n → 0 ≤ f j ∧ f j ≤ a.c j := fun j hj => bw_iff.1 (hin.out.1 j hj)
      have HALL := Lib.hid hall
      have HX := Lib.hid hin.out.2
      clear hall hin
      go_wp2_with fail
      go_loopw [7] (fun i wr => ∃ v : Nat, i = .int .i64 v ∧ 1 ≤ v ∧ v ≤ N - 1 ∧ Hid ((∀ j, j + 1 < v → a.nw.sp f (j + 1) = 0) ∧ Ext W1 wr)) (fun i _ => N - (intOf i).toNat)
      case atStart => exact ⟨1, rfl, Nat.le_refl _, by omega, Lib.hid ⟨fun j hj => by omega, HX.out⟩⟩
      case round =>
        clear HX
        obtain ⟨v, rfl, hv1, hv2, hin⟩ := hrel
        have m0 := keepAt hin.out.2 zz HM.out.1
        have m1 := keepAt hin.out.2 zz HM.out.2
        by_cases hlt : v < N - 1
        · have hlt2 : (v : Int) < (N : Int) - 1 := by omega
          go_wp2_with fail
          refine (surplus_any a N v 1000000 f _ _ _ (HA.out.ext (HB.out.trans hin.out.2)) (Il.ext HF.out (HB.out.trans hin.out.2)) HO.out hn (fun k hk => by have h1 := HALL.out k hk; have h2 := HO.out.cM k hk; omega)).mono ?_
          rintro e w3 ⟨rfl, hx⟩
          have HX := Lib.hid (hin.out.2.trans hx)
          obtain ⟨z, hz⟩ : ∃ z, z = a.nw.sp f v := ⟨_, rfl⟩
          rw [← hz]
          have HZ := Lib.hid hz
          clear hx m0 m1 hz
          by_cases h0 : z = 0
          · subst h0
            go_wp2
            go_roundw
            case rel =>
              refine ⟨v + 1, by go_num, by omega, by omega, Lib.hid ⟨fun j hj => ?_, HX.out⟩⟩
              by_cases e : j + 1 = v
              · rw [e]; exact HZ.out.symm
              · exact hin.out.1 j (by omega)
            case measure => simp [intOf]; omega
          · have hr : r = false := by
              rw [HR.out]
              exact isFlB_no2 (i := v - 1) (by omega) (by rw [show v - 1 + 1 = v by omega, ← HZ.out]; exact h0)
            have HR2 := Lib.hid hr; clear hr
            go_wp2
            go_ret
            exact ⟨by rw [HR2.out]; rfl, HB.out.trans HX.out⟩
        · obtain rfl : v = N - 1 := by omega
          have hlt2 : ¬ ((N - 1 : Nat) : Int) < (N : Int) - 1 := by omega
          have hr : r = true := by rw [HR.out]; exact isFlB_iff.2 ⟨HALL.out, fun i hi => hin.out.1 i (by omega)⟩
          have HR2 := Lib.hid hr; clear hr
          go_wp2
          go_ret
          exact ⟨by rw [HR2.out]; rfl, HB.out.trans hin.out.2⟩
end Go.Proofs.Ytilcbbdmenknfaa
namespace Go.Proofs.Ytilcbbdmenknfaa
open Go.RowKit

/-- the list of the first k numbers -/
def nl (k : Nat) (x : Nat → Int) : List Value := (List.range k).map fun j => Value.int .i64 (x j)
theorem nl_get {k j : Nat} (x : Nat → Int) (h : j < k) : (nl k x)[j]? = some (.int .i64 (x j)) := by unfold nl; rw [List.getElem?_map, List.getElem?_range h]; rfl
theorem nl_len (k : Nat) (x : Nat → Int) : (nl k x).length = k := by simp [nl]
theorem shape_own {w : World} {base : Nat} {e : TypeId} {size n : Nat} {v : Value} {xs : List Value} (h : w.ownsRow base e size v n xs) : ∃ A c, v = .slice A n c := by
  obtain ⟨-, ⟨rfl, rfl⟩ | ⟨g, cap, cur, rfl, -⟩⟩ := h
  · exact ⟨_, _, rfl⟩
  · exact ⟨_, _, rfl⟩
theorem own_mono {w : World} {base b' : Nat} {e : TypeId} {size n : Nat} {v : Value} {xs : List Value} (h : w.ownsRow base e size v n xs) (hb : b' ≤ base) : w.ownsRow b' e size v n xs :=
  ⟨h.1, h.2.imp id fun ⟨g, cap, cur, e, hg, rest⟩ => ⟨g, cap, cur, e, Nat.le_trans hb hg, rest⟩⟩
theorem ownsRow_il {w : World} {base n : Nat} {v : Value} {x : Nat → Int} (h : w.ownsRow base 3 1 v n (nl n x)) : Il w v n x := by
  obtain ⟨h1, ⟨rfl, h2⟩ | ⟨g, cap, cur, rfl, hb, hh, h5, h6, h7, h8⟩⟩ := h
  · subst h2
    exact ⟨none, 0, rfl, Nat.le_refl _, by omega, fun h => by omega⟩
  · refine ⟨_, cap, rfl, by omega, by simp only [maxLen] at *; omega, fun hp => ⟨g, 0, rfl, (Array.getElem?_eq_some_iff.1 hh).1, fun j hj => ?_⟩⟩
    rw [Nat.zero_add, cell_of_row w g j cur 3 (0, 0) hh]
    have h11 := nl_get x hj
    rw [← h8, List.getElem?_take, if_pos (by omega)] at h11
    simpa using h11

set_option maxHeartbeats 2000000 in
set_option maxRecDepth 100000 in
theorem clone_any (n : Nat) (x : Nat → Int) (V : Value) (W : World) (hV : Il W V n x) (hn : n ≤ 1000000) :
    Calls Try.prog 85 #[V] W fun e W' => ∃ U, e = .returned U ∧ W'.ownsRow W.heap.size 3 1 U n (nl n x) ∧ Ext W W' := by
  have HV := Lib.hid hV
  obtain ⟨A, c, rfl, hc, hd, hex⟩ := hV
  obtain ⟨i0, hi, hz0, hz1, hz2⟩ := info_parts info3
  have q33 : ∀ (w : World) (a : Option Addr) (n c n' c' : Nat), (binOp .eql 33 (.slice a n c) (.slice none n' c')).run Try.prog w = .ok (.bool a.isNone) w := fun w a n c n' c' => Lib.run_eql_slice_nil w _ _ a n c n' c' Try.underlying33
  cases A with
  | none =>
    obtain rfl : n = 0 := by
      rcases Nat.eq_zero_or_pos n with h | h
      · exact h
      · obtain ⟨b, o, e, -⟩ := hex h; cases e
    clear hex
    go_enter Try.func85, Try.ntmps85
    go_wp2
    go_ret
    exact ⟨_, rfl, World.ownsRow_nil _ _ _ _, Ext.refl _⟩
  | some ad =>
    have hcell : ∀ j u, (nl n x)[j]? = some u → W.cell? (ad.add j) = some u := by
      intro j u hu
      have hj : j < n := by have := (List.getElem?_eq_some_iff.1 hu).1; rw [nl_len] at this; exact this
      obtain ⟨b, o, e, -, hcs⟩ := hex (by omega)
      cases e
      rw [nl_get x hj] at hu
      cases hu
      rw [Addr.add_lit]
      exact hcs j hj
    have HC := Lib.hid hcell
    clear hex hcell
    go_enter Try.func85, Try.ntmps85
    go_wp2_with (at_builtin; refine wpList_append_own _ rfl _ _ 33 rfl W.heap.size 3 i0 (.int .i64 0) 1 8 Try.underlying33 hi hz0 hz1 hz2 rfl (by decide) _ 0 [] rfl (World.ownsRow_lit W #[] 0 (Nat.le_refl _) (Nat.zero_le _) rfl) ad n c (nl n x) rfl ?qc1 ?qc2 ?qc3 ?qc4 ?qc5 ?qc6 ?_)
    case qc1 => rw [nl_len]; omega
    case qc2 =>
      intro j u hj
      exact Lib.cell?_alloc_some _ (HC.out j u hj)
    case qc3 => intro u hu; unfold nl at hu; obtain ⟨y, _, rfl⟩ := List.mem_map.1 hu; rfl
    case qc4 => unfold maxLen; omega
    case qc5 => omega
    case qc6 => simp
    intro v' w1 hown hgrow hnil
    clear hnil
    have hI : w1.ownsRow W.heap.size 3 1 v' n (nl n x) := by simpa using hown
    have hE : Ext W w1 := ⟨hgrow.os, hgrow.tape, hgrow.output, by have h1 := hgrow.size; simp at h1; omega, fun k hk => (hgrow.block k (by simp; omega) (fun e => by simp [Value.ownBlock] at e; omega)).trans (Below.heap_alloc _ _ k hk)⟩
    have HR := Lib.hid (And.intro hI hE)
    clear hI hE hown hgrow
    go_wp2
    go_ret
    exact ⟨v', rfl, HR.out.1, HR.out.2⟩

set_option maxHeartbeats 2000000 in
set_option maxRecDepth 100000 in
theorem few_any (n : Nat) (x : Nat → Int) (V : Value) (W : World) (hV : Il W V n x) :
    Calls Try.prog 68 #[V] W fun e W' => ∃ U, e = .returned U ∧ W'.ownsRow W.heap.size 3 1 U (min n 50) (nl (min n 50) x) ∧ Ext W W' := by
  obtain ⟨A, c, rfl, hc, hd, hex⟩ := hV
  obtain ⟨m, hm⟩ : ∃ m, m = min n 50 := ⟨_, rfl⟩
  have hmi : min (n : Int) 50 = (m : Int) := by omega
  have hml : m ≤ n := by omega
  have hmc : m ≤ c := by omega
  have hm5 : m ≤ 50 := by omega
  have hcut : Il W (.slice A m c) m x := ⟨A, c, rfl, hmc, hd, fun hp => by
    obtain ⟨b, o, e, hb, hcs⟩ := hex (by omega)
    exact ⟨b, o, e, hb, fun j hj => hcs j (by omega)⟩⟩
  have HC := Lib.hid hcut; have HM := Lib.hid hm
  clear hex hcut hm
  go_enter Try.func68, Try.ntmps68
  go_wp2_with fail
  refine (clone_any m x _ _ HC.out (by omega)).mono ?_
  rintro e w1 ⟨U, rfl, hI, hx⟩
  have HR := Lib.hid (And.intro hI hx)
  clear hI hx
  go_wp2
  go_ret
  exact ⟨U, rfl, by rw [← HM.out]; exact HR.out.1, HR.out.2⟩

/-- n costs -/
def okL (n : Nat) (x : Nat → Int) (l : Int) : Bool := decide ((n : Int) = l) && (List.range n).all fun k => bw (x k) 0 1000
theorem okL_iff {n : Nat} {x : Nat → Int} {l : Int} : okL n x l = true ↔ (n : Int) = l ∧ ∀ k, k < n → 0 ≤ x k ∧ x k ≤ 1000 := by
  unfold okL
  rw [Bool.and_eq_true, decide_eq_true_iff, List.all_eq_true]
  exact and_congr_right fun _ => ⟨fun h k hk => bw_iff.1 (h k (List.mem_range.2 hk)), fun h k hk => bw_iff.2 (h k (List.mem_range.1 hk))⟩
theorem okL_no {n : Nat} {x : Nat → Int} {l : Int} (h : ¬ ((n : Int) = l ∧ ∀ k, k < n → 0 ≤ x k ∧ x k ≤ 1000)) : okL n x l = false := by
  cases hv : okL n x l
  · rfl
  · exact absurd (okL_iff.1 hv) h

set_option maxHeartbeats 4000000 in
set_option maxRecDepth 100000 in
theorem areCosts_any (n : Nat) (x : Nat → Int) (l : Int) (V : Value) (W : World) (hV : Il W V n x) :
    Calls Try.prog 84 #[V, .int .i64 l] W fun e W' => e = .returned (.bool (okL n x l)) ∧ Ext W W' := by
  obtain ⟨r, hr⟩ : ∃ r, r = okL n x l := ⟨_, rfl⟩
  rw [← hr]
  have HR := Lib.hid hr; clear hr
  have HV := Lib.hid hV
  obtain ⟨A, c, rfl, hc, hd, -⟩ := hV
  go_enter Try.func84, Try.ntmps84
  by_cases hnl : (n : Int) = l
  · subst hnl
    go_wp2_with fail
    go_loopw [13] (fun i wr => ∃ k : Nat, i = .int .i64 k ∧ k ≤ n ∧ Hid ((∀ j, j < k → 0 ≤ x j ∧ x j ≤ 1000) ∧ Ext W wr)) (fun i _ => n - (intOf i).toNat)
    case atStart => exact ⟨0, rfl, Nat.zero_le _, Lib.hid ⟨fun j hj => by omega, Ext.refl _⟩⟩
    case round =>
      obtain ⟨k, rfl, hk, hin⟩ := hrel
      by_cases hlt : k < n
      · obtain ⟨b1, o1, rfl, -, e1⟩ := Vl.at HV.out hin.out.2 hlt
        obtain ⟨p, hp⟩ : ∃ p, p = x k := ⟨_, rfl⟩
        rw [← hp] at e1
        have HP := Lib.hid hp
        clear hp
        go_wp2_with fail
        refine (isBetween_bw _ _ _ _).mono ?_
        rintro e w1 ⟨rfl, rfl⟩
        cases h1 : bw p 0 1000
        · have hr : r = false := by
            rw [HR.out]
            refine okL_no fun h => ?_
            have h2 := h.2 k hlt
            rw [← HP.out] at h2
            rw [bw_iff.2 h2] at h1
            cases h1
          have HR2 := Lib.hid hr; clear hr h1
          go_wp2
          go_ret
          exact ⟨by rw [HR2.out]; rfl, hin.out.2⟩
        · have h2 := bw_iff.1 h1
          rw [HP.out] at h2
          have H2 := Lib.hid h2
          clear h1 h2
          go_wp2
          go_roundw
          case rel =>
            refine ⟨k + 1, by go_num, by omega, Lib.hid ⟨fun j hj => ?_, hin.out.2⟩⟩
            by_cases e : j = k
            · subst e; exact H2.out
            · exact hin.out.1 j (by omega)
          case measure => simp [intOf]; omega
      · obtain rfl : k = n := by omega
        have hr : r = true := by rw [HR.out]; exact okL_iff.2 ⟨rfl, hin.out.1⟩
        have HR2 := Lib.hid hr; clear hr
        go_wp2
        go_ret
        exact ⟨by rw [HR2.out]; rfl, hin.out.2⟩
  · have hne : ((n : Int) != l) = true := by simp; omega
    have hr : r = false := by rw [HR.out]; exact okL_no fun h => hnl h.1
    have HR2 := Lib.hid hr; clear hr
    go_wp2
    go_ret
    exact ⟨by rw [HR2.out]; rfl, Ext.refl _⟩
end Go.Proofs.Ytilcbbdmenknfaa
namespace Go.Proofs.Ytilcbbdmenknfaa
open Go.RowKit

/-- a cloth: its measures, its costs of no wax, of wax, of what lies to the right and below -/
structure Cl where
  w : Int
  h : Int
  nb : Nat
  b : Nat → Int
  nx : Nat
  x : Nat → Int
  nr : Nat
  r : Nat → Int
  nd : Nat
  d : Nat → Int
/-- a cloth's value -/
def Kl (W : World) (v : Value) (c : Cl) : Prop := ∃ B X R D, v = .agg #[.int .i64 c.w, .int .i64 c.h, B, X, R, D] ∧ Il W B c.nb c.b ∧ Il W X c.nx c.x ∧ Il W R c.nr c.r ∧ Il W D c.nd c.d
theorem Kl.ext {W X : World} {v : Value} {c : Cl} (h : Kl W v c) (e : Ext W X) : Kl X v c := by
  obtain ⟨B, Y, R, D, rfl, h1, h2, h3, h4⟩ := h
  exact ⟨B, Y, R, D, rfl, h1.ext e, h2.ext e, h3.ext e, h4.ext e⟩
/-- is it a cloth? -/
def vCl (c : Cl) : Bool := bw c.w 1 6 && (bw c.h 1 6 && (okL c.nb c.b (c.w * c.h) && (okL c.nx c.x (c.w * c.h) && (okL c.nr c.r ((c.w - 1) * c.h) && okL c.nd c.d (c.w * (c.h - 1))))))
theorem side_prod {a b m n : Int} (h1 : 0 ≤ a) (h2 : a ≤ m) (h3 : 0 ≤ b) (h4 : b ≤ n) : 0 ≤ a * b ∧ a * b ≤ m * n := ⟨Int.mul_nonneg h1 h3, Int.mul_le_mul h2 h4 h3 (Int.le_trans h1 h2)⟩
theorem six {w : World} {b : Nat} {t : TypeId} {x0 x1 x2 x3 x4 x5 : Value} (h : w.heap[b]? = some (.cells #[x0, x1, x2, x3, x4, x5] t (0, 0))) : w.cell? ⟨b, 0, none⟩ = some x0 ∧ w.cell? ⟨b, 1, none⟩ = some x1 ∧ w.cell? ⟨b, 2, none⟩ = some x2 ∧ w.cell? ⟨b, 3, none⟩ = some x3 ∧ w.cell? ⟨b, 4, none⟩ = some x4 ∧ w.cell? ⟨b, 5, none⟩ = some x5 ∧ b < w.heap.size ∧ ∀ o, w.frozen? ⟨b, o, none⟩ = false :=
  ⟨cell_of_row w b 0 _ _ (0, 0) h, cell_of_row w b 1 _ _ (0, 0) h, cell_of_row w b 2 _ _ (0, 0) h, cell_of_row w b 3 _ _ (0, 0) h, cell_of_row w b 4 _ _ (0, 0) h, cell_of_row w b 5 _ _ (0, 0) h, (Array.getElem?_eq_some_iff.1 h).1, fun o => by simp [World.frozen?, h]⟩

set_option maxHeartbeats 4000000 in
set_option maxRecDepth 100000 in
theorem isCloth_any (c : Cl) (V : Value) (W : World) (hV : Kl W V c) :
    Calls Try.prog 66 #[V] W fun e W' => e = .returned (.bool (vCl c)) ∧ Ext W W' := by
  obtain ⟨y, hy⟩ : ∃ y, y = vCl c := ⟨_, rfl⟩
  rw [← hy]
  have HY := Lib.hid hy; clear hy
  obtain ⟨B, X, R, D, rfl, hB, hX, hR, hD⟩ := hV
  obtain ⟨w, h, nb, b, nx, x, nr, r, nd, d⟩ := c
  dsimp only at hB hX hR hD ⊢
  have HL := Lib.hid (And.intro hB (And.intro hX (And.intro hR hD)))
  go_enter Try.func66, Try.ntmps66
  go_upto_region 1 with fail
  have bb := al1 W (.cells #[.int .i64 w, .int .i64 h, B, X, R, D] 70)
  obtain ⟨m0, m1, m2, m3, m4, m5, mz, -⟩ := six (heap_alloc_new W (.cells #[.int .i64 w, .int .i64 h, B, X, R, D] 70))
  generalize W.alloc (.cells #[.int .i64 w, .int .i64 h, B, X, R, D] 70) = W1 at *
  have HB : Hid (Ext W W1) := Lib.hid bb
  clear bb hB hX hR hD
  go_wp2_with fail
  refine (isBetween_bw _ _ _ _).mono ?_
  rintro e w0 ⟨rfl, rfl⟩
  cases q1 : bw w 1 6
  · have hy : y = false := by rw [HY.out]; simp only [vCl, q1, Bool.false_and, Bool.true_and]
    have HY2 := Lib.hid hy; clear hy HY
    try clear m0
    try clear m1
    go_wp2
    go_ret
    exact ⟨by rw [HY2.out]; rfl, HB.out⟩
  · obtain ⟨hw1, hw2⟩ := bw_iff.1 q1
    go_wp2_with fail
    refine (isBetween_bw _ _ _ _).mono ?_
    rintro e w0 ⟨rfl, rfl⟩
    cases q2 : bw h 1 6
    · have hy : y = false := by rw [HY.out]; simp only [vCl, q1, q2, Bool.false_and, Bool.true_and]
      have HY2 := Lib.hid hy; clear hy HY
      try clear m0
      try clear m1
      go_wp2
      go_ret
      exact ⟨by rw [HY2.out]; rfl, HB.out⟩
    · obtain ⟨hh1, hh2⟩ := bw_iff.1 q2
      obtain ⟨pa1, pa2⟩ := side_prod (show 0 ≤ w by omega) hw2 (show 0 ≤ h by omega) hh2
      obtain ⟨pb1, pb2⟩ := side_prod (show 0 ≤ w - 1 by omega) (show w - 1 ≤ 5 by omega) (show 0 ≤ h by omega) hh2
      obtain ⟨pc1, pc2⟩ := side_prod (show 0 ≤ w by omega) hw2 (show 0 ≤ h - 1 by omega) (show h - 1 ≤ 5 by omega)
      go_wp2_with fail
      refine (areCosts_any nb b (w * h) B _ (HL.out.1.ext HB.out)).mono ?_
      rintro e w1 ⟨rfl, hx⟩
      replace m0 := keepAt hx mz m0
      replace m1 := keepAt hx mz m1
      replace m2 := keepAt hx mz m2
      replace m3 := keepAt hx mz m3
      replace m4 := keepAt hx mz m4
      replace m5 := keepAt hx mz m5
      replace mz := Nat.lt_of_lt_of_le mz hx.size
      have HX1 : Hid (Ext W w1) := Lib.hid (HB.out.trans hx)
      clear hx
      cases q3 : okL nb b (w * h)
      · have hy : y = false := by rw [HY.out]; simp only [vCl, q1, q2, q3, Bool.false_and, Bool.true_and]
        have HY2 := Lib.hid hy; clear hy HY
        try clear m0
        try clear m1
        go_wp2
        go_ret
        exact ⟨by rw [HY2.out]; rfl, HX1.out⟩
      · have _u := 0
        go_wp2_with fail
        refine (areCosts_any nx x (w * h) X _ (HL.out.2.1.ext HX1.out)).mono ?_
        rintro e w2 ⟨rfl, hx⟩
        replace m0 := keepAt hx mz m0
        replace m1 := keepAt hx mz m1
        replace m2 := keepAt hx mz m2
        replace m3 := keepAt hx mz m3
        replace m4 := keepAt hx mz m4
        replace m5 := keepAt hx mz m5
        replace mz := Nat.lt_of_lt_of_le mz hx.size
        have HX2 : Hid (Ext W w2) := Lib.hid (HX1.out.trans hx)
        clear hx
        cases q4 : okL nx x (w * h)
        · have hy : y = false := by rw [HY.out]; simp only [vCl, q1, q2, q3, q4, Bool.false_and, Bool.true_and]
          have HY2 := Lib.hid hy; clear hy HY
          try clear m0
          try clear m1
          go_wp2
          go_ret
          exact ⟨by rw [HY2.out]; rfl, HX2.out⟩
        · have _u := 0
          go_wp2_with fail
          refine (areCosts_any nr r ((w - 1) * h) R _ (HL.out.2.2.1.ext HX2.out)).mono ?_
          rintro e w3 ⟨rfl, hx⟩
          replace m0 := keepAt hx mz m0
          replace m1 := keepAt hx mz m1
          replace m2 := keepAt hx mz m2
          replace m3 := keepAt hx mz m3
          replace m4 := keepAt hx mz m4
          replace m5 := keepAt hx mz m5
          replace mz := Nat.lt_of_lt_of_le mz hx.size
          have HX3 : Hid (Ext W w3) := Lib.hid (HX2.out.trans hx)
          clear hx
          cases q5 : okL nr r ((w - 1) * h)
          · have hy : y = false := by rw [HY.out]; simp only [vCl, q1, q2, q3, q4, q5, Bool.false_and, Bool.true_and]
            have HY2 := Lib.hid hy; clear hy HY
            try clear m0
            try clear m1
            go_wp2
            go_ret
            exact ⟨by rw [HY2.out]; rfl, HX3.out⟩
          · have _u := 0
            go_wp2_with fail
            refine (areCosts_any nd d (w * (h - 1)) D _ (HL.out.2.2.2.ext HX3.out)).mono ?_
            rintro e w4 ⟨rfl, hx⟩
            replace m0 := keepAt hx mz m0
            replace m1 := keepAt hx mz m1
            replace m2 := keepAt hx mz m2
            replace m3 := keepAt hx mz m3
            replace m4 := keepAt hx mz m4
            replace m5 := keepAt hx mz m5
            replace mz := Nat.lt_of_lt_of_le mz hx.size
            have HX4 : Hid (Ext W w4) := Lib.hid (HX3.out.trans hx)
            clear hx
            cases q6 : okL nd d (w * (h - 1))
            · have hy : y = false := by rw [HY.out]; simp only [vCl, q1, q2, q3, q4, q5, q6, Bool.false_and, Bool.true_and]
              have HY2 := Lib.hid hy; clear hy HY
              try clear m0
              try clear m1
              go_wp2
              go_ret
              exact ⟨by rw [HY2.out]; rfl, HX4.out⟩
            · have hy : y = true := by rw [HY.out]; simp only [vCl, q1, q2, q3, q4, q5, q6, Bool.true_and]
              have HY2 := Lib.hid hy; clear hy HY
              go_wp2
              go_ret
              exact ⟨by rw [HY2.out]; rfl, HX4.out⟩
end Go.Proofs.Ytilcbbdmenknfaa
namespace Go.Proofs.Ytilcbbdmenknfaa
open Go.ChangeShapes Go.WideShapes Go.ChangeAt Go.RowKit Go.Joins Go.Deep

theorem cells33 : Try.prog.cellsOf 33 = 1 := by kernel_rfl
theorem cells68 : Try.prog.cellsOf 68 = 6 := by kernel_rfl
theorem array6 {α : Type} {cs : Array α} (h : cs.size = 6) : ∃ c0 c1 c2 c3 c4 c5, cs = #[c0, c1, c2, c3, c4, c5] := by
  obtain ⟨l⟩ := cs
  match l, h with
  | [c0, c1, c2, c3, c4, c5], _ => exact ⟨c0, c1, c2, c3, c4, c5, rfl⟩

set_option maxRecDepth 1000000 in
theorem open_cloth_in {H : Type} {enc : TypeId × Value → H} {W : World} {r : Reach} {b0 base : Nat} {spare : Nat → Bool} {held : Bool} {v : Value} {d : DataW H} {p : List MemPlace} (hv : Value.okWide Try.prog W r b0 68 v)
    (h : DataW.Trod enc Try.prog W base spare held 68 v d p) : ∃ c : Cl, Kl W v c := by
  obtain ⟨cs, rfl, hsz⟩ := okWide_struct Try.underlying68 hv
  obtain ⟨c0, c1, c2, c3, c4, c5, rfl⟩ := array6 (hsz.trans cells68)
  obtain ⟨fuel, hf⟩ := h
  obtain ⟨xs, k', -, -, -, hxl, hg⟩ := DataW.trod_struct Try.underlying68 hf
  match xs, hxl with
  | [y0, y1, y2, y3, y4, y5], _ =>
    have g0 := hg 0 _ rfl
    have g1 := hg 1 _ rfl
    have g2 := hg 2 _ rfl
    have g3 := hg 3 _ rfl
    have g4 := hg 4 _ rfl
    have g5 := hg 5 _ rfl
    simp [cells3, cells33, Value.cells] at g0 g1 g2 g3 g4 g5
    obtain ⟨z0, e0, -⟩ := DataW.trod_int Try.underlying3 (show _ = some y0 from g0)
    obtain ⟨z1, e1, -⟩ := DataW.trod_int Try.underlying3 (show _ = some y1 from g1)
    simp at e0 e1
    subst e0 e1
    have key : ∀ (u : Value) (y : DataW H × List MemPlace), DataW.trod enc Try.prog W base spare held k' 33 [u] = some y → ∃ (n : Nat) (x : Nat → Int), Il W u n x := fun u y hu =>
      open_list_in (fun z => .int .i64 z) Try.underlying33 cells3 (fun n u y hy => by obtain ⟨z, e, -⟩ := DataW.trod_int Try.underlying3 hy; simp at e; exact ⟨z, e⟩) hu
    obtain ⟨n2, x2, h2⟩ := key _ _ g2
    obtain ⟨n3, x3, h3⟩ := key _ _ g3
    obtain ⟨n4, x4, h4⟩ := key _ _ g4
    obtain ⟨n5, x5, h5⟩ := key _ _ g5
    exact ⟨⟨z0, z1, n2, x2, n3, x3, n4, x4, n5, x5⟩, c2, c3, c4, c5, rfl, h2, h3, h4, h5⟩
end Go.Proofs.Ytilcbbdmenknfaa
