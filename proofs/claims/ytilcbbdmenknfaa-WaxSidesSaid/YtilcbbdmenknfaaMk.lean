/- Walks: the reference's capacities. -/
import Derived.Test.YtilcbbdmenknfaaMp
import Derived.Test.YtilcbbdmenknfaaD2
namespace Go.Proofs.Ytilcbbdmenknfaa
open Go.RowKit

/-- the matrix of the first k arcs -/
def Ar.mxk (a : Ar) (k i j : Nat) : Int := sm k fun q => if a.nw.fr q = i ∧ a.nw.to q = j then a.nw.cp q else 0
theorem Ar.mxk_end (a : Ar) : a.mxk a.n = a.nw.mx := rfl
theorem Ar.mxk_succ (a : Ar) (k i j : Nat) : a.mxk (k + 1) i j = a.mxk k i j + if (a.f k).toNat = i ∧ (a.t k).toNat = j then a.c k else 0 := rfl
theorem Ar.mxk_bd {a : Ar} {N : Nat} {M : Int} (h : a.Ok N M) (hM : 0 ≤ M) {k : Nat} (hk : k ≤ a.n) (i j : Nat) : 0 ≤ a.mxk k i j ∧ a.mxk k i j ≤ k * M := by
  refine ⟨sm_nonneg fun q hq => ?_, sm_const_le fun q hq => ?_⟩
  · split
    · exact h.c0 q (by omega)
    · omega
  · split
    · exact h.cM q (by omega)
    · exact hM

set_option maxHeartbeats 4000000 in
set_option maxRecDepth 100000 in
theorem capacities_any (a : Ar) (N : Nat) (AV : Value) (W : World) (hA : Al W AV a) (hO : a.Ok N 1000000) (hn : a.n ≤ 1000) (hN : N ≤ 100) :
    Calls Try.prog 52 #[.agg #[.int .i64 N, AV]] W fun e W' => ∃ b, e = .returned (.slice (some ⟨b, 0, none⟩) N N) ∧ W.heap.size ≤ b ∧ Gd W' b N a.nw.mx ∧ Ext W W' := by
  have hm1 : ∀ w, (Instr.makeSlice 91 (.int .i64 (N : Int)) (.int .i64 (N : Int))).run Try.prog w = .ok (.slice (some ⟨w.heap.size, 0, none⟩) N N) (w.alloc (.cells (Array.ofFn fun _ : Fin N => .slice none 0 0) 33)) := fun w => make_one 91 33 _ 24 Try.underlying91 info33 rfl (by omega) N (by omega) w
  have hm2 : ∀ w, (Instr.makeSlice 33 (.int .i64 (N : Int)) (.int .i64 (N : Int))).run Try.prog w = .ok (.slice (some ⟨w.heap.size, 0, none⟩) N N) (w.alloc (.cells (Array.ofFn fun _ : Fin N => .int .i64 0) 3)) := fun w => make_one 33 3 _ 8 Try.underlying33 info3 rfl (by omega) N (by omega) w
  have HA := Lib.hid hA; have HO := Lib.hid hO
  clear hO
  obtain ⟨A, c, rfl, hac, hcm, -⟩ := hA
  go_enter Try.func52, Try.ntmps52
  go_upto_region 1 with fail
  have bb := al1 W (.cells #[.int .i64 N, .slice A a.n c] 24)
  have hh := heap_alloc_new W (.cells #[.int .i64 N, .slice A a.n c] 24)
  have zz : W.heap.size < (W.alloc (.cells #[.int .i64 N, .slice A a.n c] 24)).heap.size := by simp
  generalize W.alloc (.cells #[.int .i64 N, .slice A a.n c] 24) = W1 at *
  have HX : Hid (Ext W W1) := Lib.hid bb
  obtain ⟨m0, m1, m2, m3⟩ := two hh
  have HM := Lib.hid (And.intro m0 m1)
  clear bb hh m2 m3
  go_wp2_with fail
  obtain ⟨b, hb⟩ : ∃ b, b = W1.heap.size := ⟨_, rfl⟩
  have y1 : Bk (W1.alloc (.cells (Array.ofFn fun _ : Fin N => Value.slice none 0 0) 33)) b 33 N (fun _ => .slice none 0 0) := by rw [hb]; exact heap_alloc_new W1 _
  have e1 : Ext W1 (W1.alloc (.cells (Array.ofFn fun _ : Fin N => Value.slice none 0 0) 33)) := Ext.alc (Ext.refl _) _
  have z1 : (W1.alloc (.cells (Array.ofFn fun _ : Fin N => Value.slice none 0 0) 33)).heap.size = b + 1 := by rw [hb]; simp
  generalize W1.alloc (.cells (Array.ofFn fun _ : Fin N => Value.slice none 0 0) 33) = W2 at *
  rw [← hb]
  have HY := Lib.hid (And.intro y1 (And.intro z1 e1))
  have HBB := Lib.hid hb
  have hbW : W.heap.size < b := by omega
  clear y1 e1 z1 m0 m1 hb
  go_loopw [12] (fun i wr => ∃ k : Nat, i = .int .i64 k ∧ k ≤ N ∧ Hid (Bk wr b 33 N (fun v => if v < k then .slice (some ⟨b + 1 + v, 0, none⟩) N N else .slice none 0 0) ∧ wr.heap.size = b + 1 + k ∧ (∀ v, v < k → BI wr (b + 1 + v) N (fun _ => 0)) ∧ Ext W1 wr)) (fun i _ => N - (intOf i).toNat)
  case atStart => exact ⟨0, rfl, Nat.zero_le _, Lib.hid ⟨Bk.congr HY.out.1 (fun j _ => by simp), HY.out.2.1, fun v hv => by omega, HY.out.2.2⟩⟩
  case round =>
    obtain ⟨k, rfl, hk, hin⟩ := hrel
    have m0 := keepAt hin.out.2.2.2 zz HM.out.1
    have m1 := keepAt hin.out.2.2.2 zz HM.out.2
    by_cases hlt : k < N
    · have zs := hin.out.2.1
      have c6 := Bk.cell (Bk.alloc hin.out.1 (.cells (Array.ofFn fun _ : Fin N => Value.int .i64 0) 3)) hlt
      have f6 := Bk.free (Bk.alloc hin.out.1 (.cells (Array.ofFn fun _ : Fin N => Value.int .i64 0) 3)) k
      have y2 := Bk.set_ (Bk.alloc hin.out.1 (.cells (Array.ofFn fun _ : Fin N => Value.int .i64 0) 3)) k (.slice (some ⟨b + 1 + k, 0, none⟩) N N)
      have y3 : BI (wr.alloc (.cells (Array.ofFn fun _ : Fin N => Value.int .i64 0) 3)) (b + 1 + k) N (fun _ => 0) := by rw [← zs]; exact heap_alloc_new wr _
      have Y2 := Lib.hid y2; have Y3 := Lib.hid y3; have ZS := Lib.hid zs
      clear y2 y3
      go_wp2_with fail
      go_roundw
      case rel =>
        have zs := ZS.out
        refine ⟨k + 1, by go_num, by omega, Lib.hid ⟨?_, by simp [World.setCell]; omega, fun v hv => ?_, (hin.out.2.2.2.alc _).sc (by have := HBB.out; omega)⟩⟩
        · refine Bk.congr Y2.out fun j hj => ?_
          by_cases e : j = k
          · subst e; rw [up_self, if_pos (by omega)]
          · rw [up_ne _ _ e]
            by_cases e2 : j < k
            · rw [if_pos e2, if_pos (by omega)]
            · rw [if_neg e2, if_neg (by omega)]
        · by_cases e : v = k
          · subst e; exact Bk.far Y3.out (by show b + 1 + v ≠ b; omega) _
          · exact Bk.far (Bk.alloc (hin.out.2.2.1 v (by omega)) _) (by show b + 1 + v ≠ b; omega) _
      case measure => simp [intOf]; omega
    · obtain rfl : k = N := by omega
      have hgd : Gd wr b k (a.mxk 0) := ⟨Bk.congr hin.out.1 (fun j hj => by rw [if_pos hj]), fun i hi => hin.out.2.2.1 i hi⟩
      have HG0 := Lib.hid (And.intro hgd hin.out.2.2.2)
      clear hgd hin HY
      go_wp2_with fail
      clear m0 m1
      go_loopw [25] (fun i wr => ∃ q : Nat, i = .int .i64 q ∧ q ≤ a.n ∧ Hid (Gd wr b k (a.mxk q) ∧ Ext W1 wr)) (fun i _ => a.n - (intOf i).toNat)
      case atStart => exact ⟨0, rfl, Nat.zero_le _, HG0⟩
      case round =>
        clear HG0
        obtain ⟨q, rfl, hq, hin⟩ := hrel
        by_cases hlt2 : q < a.n
        · obtain ⟨b2, off, rfl, d1, d2, d3⟩ := HA.out.arc (HX.out.trans hin.out.2) hlt2
          obtain ⟨fk, hfk, hfN⟩ : ∃ x : Nat, a.f q = (x : Int) ∧ x < k := ⟨(a.f q).toNat, by have := HO.out.f0 q hlt2; omega, by have := HO.out.f0 q hlt2; have := HO.out.fN q hlt2; omega⟩
          obtain ⟨tk, htk, htN⟩ : ∃ x : Nat, a.t q = (x : Int) ∧ x < k := ⟨(a.t q).toNat, by have := HO.out.t0 q hlt2; omega, by have := HO.out.t0 q hlt2; have := HO.out.tN q hlt2; omega⟩
          obtain ⟨ck, hck⟩ : ∃ x, x = a.c q := ⟨_, rfl⟩
          have hc0 := HO.out.c0 q hlt2
          have hcM := HO.out.cM q hlt2
          rw [hfk] at d1; rw [htk] at d2; rw [← hck] at d3 hc0 hcM
          have c3 := Gd.cellT hin.out.1 hfN
          have c4 := Gd.cell hin.out.1 hfN htN
          obtain ⟨z, hz⟩ : ∃ z, z = a.mxk q fk tk := ⟨_, rfl⟩
          have hzb := Ar.mxk_bd HO.out (by omega) hq fk tk
          rw [← hz] at c4 hzb
          have hz2 : 0 ≤ z ∧ z ≤ 2000000000 := by omega
          have HF := Lib.hid (And.intro hfk (And.intro htk (And.intro hck hz)))
          clear hfk htk hck hz hzb
          go_upto_region 10 with fail
          have gl := hin.out.1.lt hfN
          have e4 : Ext wr (wr.alloc (.cells #[.int .i64 fk, .int .i64 tk, .int .i64 ck] 64)) := Ext.alc (Ext.refl _) _
          have G4 := Lib.hid (hin.out.1.ext e4)
          have X4 := Lib.hid (hin.out.2.trans e4)
          have hh := heap_alloc_new wr (.cells #[.int .i64 fk, .int .i64 tk, .int .i64 ck] 64)
          clear c3 c4 d1 d2 d3
          have k0 : (wr.alloc (.cells #[.int .i64 fk, .int .i64 tk, .int .i64 ck] 64)).drew.cell? ⟨wr.heap.size, 0, none⟩ = some (.int .i64 fk) := cell_of_row _ _ 0 _ 64 (0, 0) hh
          have k1 : (wr.alloc (.cells #[.int .i64 fk, .int .i64 tk, .int .i64 ck] 64)).drew.cell? ⟨wr.heap.size, 1, none⟩ = some (.int .i64 tk) := cell_of_row _ _ 1 _ 64 (0, 0) hh
          have k2 : (wr.alloc (.cells #[.int .i64 fk, .int .i64 tk, .int .i64 ck] 64)).drew.cell? ⟨wr.heap.size, 2, none⟩ = some (.int .i64 ck) := cell_of_row _ _ 2 _ 64 (0, 0) hh
          have k3 : (wr.alloc (.cells #[.int .i64 fk, .int .i64 tk, .int .i64 ck] 64)).drew.cell? ⟨b, fk, none⟩ = some (.slice (some ⟨b + 1 + fk, 0, none⟩) k k) := Gd.cellT G4.out hfN
          have k4 : (wr.alloc (.cells #[.int .i64 fk, .int .i64 tk, .int .i64 ck] 64)).drew.cell? ⟨b + 1 + fk, tk, none⟩ = some (.int .i64 z) := by rw [HF.out.2.2.2]; exact Gd.cell G4.out hfN htN
          have g4 : (wr.alloc (.cells #[.int .i64 fk, .int .i64 tk, .int .i64 ck] 64)).drew.frozen? ⟨b + 1 + fk, tk, none⟩ = false := Bk.free (G4.out.row fk hfN) tk
          clear hh
          generalize wr.alloc (.cells #[.int .i64 fk, .int .i64 tk, .int .i64 ck] 64) = w3 at *
          have hwr : IntKind.i64.wrap (z + ck) = z + ck := IntWalk.i64_in _ (by omega)
          go_region
          clear k0 k1 k2 k3 k4 g4
          go_wp2
          go_roundw
          case rel =>
            refine ⟨q + 1, by go_num, by omega, Lib.hid ⟨?_, Ext.drw (X4.out.sc (by have := HBB.out; omega))⟩⟩
            refine Gd.congr ((Gd.set_ G4.out fk tk (z + ck)).ext (Ext.drw (Ext.refl _))) fun i j hi hj => ?_
            obtain ⟨h1, h2, h3, h4⟩ := HF.out
            rw [Ar.mxk_succ, h1, h2, Int.toNat_natCast, Int.toNat_natCast]
            by_cases e : i = fk ∧ j = tk
            · obtain ⟨rfl, rfl⟩ := e
              simp only [and_self, if_true, h3, h4]
            · rw [if_neg e, if_neg (fun h => e ⟨h.1.symm, h.2.symm⟩), Int.add_zero]
          case measure => simp [intOf]; omega
        · obtain rfl : q = a.n := by omega
          go_wp2
          go_ret
          exact ⟨b, rfl, by omega, hin.out.1, HX.out.trans hin.out.2⟩
end Go.Proofs.Ytilcbbdmenknfaa
